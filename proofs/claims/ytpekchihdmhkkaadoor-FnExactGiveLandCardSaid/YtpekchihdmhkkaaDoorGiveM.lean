/- Lands that are given away: mathematics. -/
import Derived.Test.YtpekchihdmhkkaaDoorGridI5
import Derived.Test.YtpekchihdmhkkaaDoorGridS2
import Derived.Lib.SplitLaws
import Derived.Lib.Replace
namespace Go.Proofs.YtpekchihdmhkkaaDoor.stab
open Go Go.Proofs.YtpekchihdmhkkaaDoor.split
set_option linter.unusedSimpArgs false
set_option linter.unusedVariables false

def giveB (f t b : UInt8) : UInt8 := if b = f then t else b
def giveL (f t : UInt8) (l : List UInt8) : List UInt8 := l.map (giveB f t)
theorem giveL_len (f t : UInt8) (l : List UInt8) : (giveL f t l).length = l.length := by simp [giveL]
theorem replaceK_give (f t : UInt8) : ∀ s : List UInt8, Lib.replaceK [f] [t] (Lib.count s [f]) s = giveL f t s
  | [] => by simp [Lib.count_one, Lib.replaceK, giveL]
  | b :: l => by
    have ih := replaceK_give f t l
    by_cases h : b = f
    · subst h
      rw [Lib.count_cons_eq, Nat.add_comm, Lib.replaceK_hit [b] [t] _ (b :: l) 0 (by rw [Lib.index_one]; simp [Lib.indexByte])]
      simp only [List.take_zero, List.nil_append, List.length_singleton, Nat.zero_add, List.drop_succ_cons, List.drop_zero, ih]
      simp [giveL, giveB]
    · rw [Lib.count_cons_ne b f l h]
      have e : giveL f t (b :: l) = b :: giveL f t l := by simp [giveL, giveB, h]
      rw [e, ← ih]
      cases hk : Lib.count l [f] with
      | zero => rfl
      | succ k =>
        obtain ⟨i, hi⟩ := Lib.index_of_count (s := l) (old := [f]) (by omega)
        have hi2 : Lib.index (b :: l) [f] = ((i + 1 : Nat) : Int) := by
          rw [Lib.index_one] at hi ⊢
          have hne : (b == f) = false := by simpa using h
          simp only [Lib.indexByte, hne, Bool.false_eq_true, if_false, hi]
          rw [if_neg (by simp <;> omega)]
          push_cast
          rfl
        rw [Lib.replaceK_hit [f] [t] k (b :: l) (i + 1) hi2, Lib.replaceK_hit [f] [t] k l i hi]
        simp only [List.take_succ_cons, List.length_singleton, List.cons_append, List.drop_succ_cons]
theorem giveL_self (f : UInt8) (l : List UInt8) : giveL f f l = l := by
  unfold giveL
  conv => rhs; rw [← List.map_id l]
  apply List.map_congr_left
  intro b _
  unfold giveB
  split
  · rename_i h; rw [h]; rfl
  · rfl
theorem replaceAll_give (f t : UInt8) (s : List UInt8) : Lib.replaceAll s [f] [t] = giveL f t s := by
  unfold Lib.replaceAll Lib.replace
  by_cases h : f = t
  · subst h
    rw [if_pos (by simp), giveL_self]
  · rw [if_neg (by simpa using h)]
    have e : Lib.replaceNum s [f] (-1) = Lib.count s [f] := by unfold Lib.replaceNum; rw [if_pos (by left; decide)]
    rw [e, replaceK_give]
theorem one_text {s : ByteArray} (h : s.size = 1) : s.data.toList = [bAt s 0] := by
  have hl : s.data.toList.length = 1 := by rw [size_list]; exact h
  match hs : s.data.toList, hl with
  | [x], _ => unfold bAt; rw [hs]; rfl
/-- A land or the sea. -/
def isTo (s : ByteArray) : Bool := isL s || decide (s = ⟨#[46]⟩)
theorem sea_text {s : ByteArray} : s = ⟨#[46]⟩ ↔ s.size = 1 ∧ bAt s 0 = 46 := by
  constructor
  · rintro rfl; exact ⟨rfl, rfl⟩
  · rintro ⟨h1, h2⟩
    apply ByteArray.ext
    apply Array.toList_inj.1
    rw [one_text h1, h2]
theorem isTo_size {s : ByteArray} (h : s.size ≠ 1) : isTo s = false := by
  unfold isTo
  rw [isL_size h, Bool.false_or, decide_eq_false_iff_not]
  exact fun e => h (sea_text.1 e).1
theorem isTo_cell {s : ByteArray} (h : s.size = 1) : isTo s = cellB (bAt s 0) := by
  unfold isTo cellB isL
  have e : decide (s = ⟨#[46]⟩) = (bAt s 0 == 46) := by
    rw [Bool.eq_iff_iff]
    simp only [decide_eq_true_eq, beq_iff_eq]
    exact ⟨fun g => (sea_text.1 g).2, fun g => sea_text.2 ⟨h, g⟩⟩
  rw [e, show decide (s.size = 1) = true by simp [h], Bool.true_and, Bool.or_comm]
def codeGL (ps : List ByteArray) (f t : ByteArray) : Int := if okG ps = false then 1 else if isTo t = false then 2 else codeG ps f
theorem codeGL_landK (ps : List ByteArray) (f t : ByteArray) : landK ps f (isTo t) = codeGL ps f t := by
  unfold landK codeGL codeG
  cases okG ps
  · rfl
  · cases isTo t
    · rw [Bool.and_false]; rfl
    · rw [Bool.and_true]; rfl
def giveT (f t : ByteArray) (s : ByteArray) : ByteArray := ⟨(giveL (bAt f 0) (bAt t 0) s.data.toList).toArray⟩
theorem giveT_size (f t s : ByteArray) : (giveT f t s).size = s.size := by
  show (giveL (bAt f 0) (bAt t 0) s.data.toList).toArray.size = s.size
  rw [List.size_toArray, giveL_len, size_list]
def valGL (ps : List ByteArray) (f t : ByteArray) : List ByteArray := if codeGL ps f t = 0 then ps.map (giveT f t) else []
theorem valGL_len {ps : List ByteArray} {f t : ByteArray} (h : ps.length ≤ 1048576) : (valGL ps f t).length ≤ 1048576 := by
  unfold valGL
  split
  · simpa using h
  · simp
theorem valGL_row (ps : List ByteArray) (f t : ByteArray) : ps.map (giveT f t) = rowS ps.length fun i => giveT f t (sAt ps i) := by
  have e := rowS_sAt ps
  unfold rowS at e ⊢
  have e2 : ps.map (giveT f t) = ((List.range ps.length).map (sAt ps)).map (giveT f t) := by rw [e]
  rw [e2, List.map_map]
  rfl
theorem codeGL_zero {ps : List ByteArray} {f t : ByteArray} (h : codeGL ps f t = 0) : okG ps = true ∧ isTo t = true ∧ codeG ps f = 0 := by
  unfold codeGL at h
  split at h
  · simp at h
  · split at h
    · simp at h
    · rename_i h1 h2; exact ⟨by simpa using h1, by simpa using h2, h⟩
theorem isTo_one {s : ByteArray} (h : isTo s = true) : s.size = 1 := by
  by_cases h1 : s.size = 1
  · exact h1
  · rw [isTo_size h1] at h; cases h
end Go.Proofs.YtpekchihdmhkkaaDoor.stab
