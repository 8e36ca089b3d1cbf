/- A text is split at a byte: the model's function. -/
import Derived.Test.YtbnihalbepffoaaDoorLift
import Derived.Deep.QuietTactic
import Derived.BigQuiet
import Derived.Lib.Hide
import Derived.LoopTactic
import Derived.OwnWalk
import Derived.Laws.AppendOwn
import Derived.Laws.OwnMore
import Derived.IntWalk
namespace Go.Proofs.YtbnihalbepffoaaDoor.split
open Go.ChangeShapes Go.WideShapes Go.ChangeAt Go.RowKit

/-- The parts of a text between bytes c. -/
def splitL (c : UInt8) : List UInt8 → List (List UInt8)
  | [] => [[]]
  | x :: r => if x = c then [] :: splitL c r else match splitL c r with
    | [] => [[x]]
    | h :: t => (x :: h) :: t
theorem splitL_ne (c : UInt8) (l : List UInt8) : splitL c l ≠ [] := by
  cases l with
  | nil => simp [splitL]
  | cons x r =>
    simp only [splitL]
    split
    · simp
    · split <;> simp
theorem splitL_no (c : UInt8) : ∀ p : List UInt8, c ∉ p → splitL c p = [p]
  | [], _ => rfl
  | x :: p, h => by
    have hx : ¬ x = c := fun e => h (by simp [e])
    have hp : c ∉ p := fun e => h (by simp [e])
    simp [splitL, hx, splitL_no c p hp]
theorem splitL_at (c : UInt8) : ∀ (p r : List UInt8), c ∉ p → splitL c (p ++ c :: r) = p :: splitL c r
  | [], r, _ => by simp [splitL]
  | x :: p, r, h => by
    have hx : ¬ x = c := fun e => h (by simp [e])
    have hp : c ∉ p := fun e => h (by simp [e])
    simp [splitL, hx, splitL_at c p r hp]
def lists (ps : List ByteArray) : List (List UInt8) := ps.map fun p => p.data.toList
def strs (ps : List ByteArray) : List Value := ps.map fun p => Value.string p
theorem drop_cons (s : ByteArray) (i : Nat) (h : i < s.size) : s.data.toList.drop i = s[i] :: s.data.toList.drop (i + 1) := by
  rw [List.drop_eq_getElem_cons (by simpa using h)]; rfl
theorem ext_list (s : ByteArray) (a b : Nat) : (s.extract a b).data.toList = (s.data.toList.drop a).take (b - a) := by
  simp [ByteArray.data_extract]
/-- What holds at place i: the parts that are done, where the next one begins. -/
def Inv (s : ByteArray) (c : UInt8) (i : Nat) (ps : List ByteArray) (fr : Nat) : Prop :=
  fr ≤ i ∧ ps.length ≤ i ∧ splitL c s.data.toList = lists ps ++ splitL c (s.data.toList.drop fr) ∧ c ∉ (s.data.toList.drop fr).take (i - fr)
theorem inv_start (s : ByteArray) (c : UInt8) : Inv s c 0 [] 0 := ⟨Nat.le_refl _, Nat.le_refl _, by simp [lists], by simp⟩
theorem take_step (s : ByteArray) (fr i : Nat) (hf : fr ≤ i) (h : i < s.size) : (s.data.toList.drop fr).take (i + 1 - fr) = (s.data.toList.drop fr).take (i - fr) ++ [s[i]] := by
  have e : i + 1 - fr = (i - fr) + 1 := by omega
  have hl : i - fr < (s.data.toList.drop fr).length := by simp; omega
  rw [e, List.take_succ_eq_append_getElem hl]
  congr 2
  rw [List.getElem_drop]
  have : fr + (i - fr) = i := by omega
  simp only [this]
  rfl
theorem inv_no {s : ByteArray} {c : UInt8} {i : Nat} {ps : List ByteArray} {fr : Nat} (h : Inv s c i ps fr) (hi : i < s.size) (hc : s[i] ≠ c) : Inv s c (i + 1) ps fr := by
  obtain ⟨h1, h2, h3, h4⟩ := h
  refine ⟨by omega, by omega, h3, ?_⟩
  rw [take_step s fr i h1 hi]
  intro hm
  rcases List.mem_append.1 hm with hm | hm
  · exact h4 hm
  · exact hc (List.mem_singleton.1 hm).symm
theorem inv_cut {s : ByteArray} {c : UInt8} {i : Nat} {ps : List ByteArray} {fr : Nat} (h : Inv s c i ps fr) (hi : i < s.size) (hc : s[i] = c) : Inv s c (i + 1) (ps ++ [s.extract fr i]) (i + 1) := by
  obtain ⟨h1, h2, h3, h4⟩ := h
  refine ⟨Nat.le_refl _, by simp; omega, ?_, by simp⟩
  have e : s.data.toList.drop fr = (s.data.toList.drop fr).take (i - fr) ++ c :: s.data.toList.drop (i + 1) := by
    rw [← hc, ← drop_cons s i hi]
    have : s.data.toList.drop i = (s.data.toList.drop fr).drop (i - fr) := by rw [List.drop_drop]; congr 1; omega
    rw [this, List.take_append_drop]
  rw [h3, e, splitL_at c _ _ h4]
  simp [lists]
theorem inv_end {s : ByteArray} {c : UInt8} {ps : List ByteArray} {fr : Nat} (h : Inv s c s.size ps fr) : splitL c s.data.toList = lists (ps ++ [s.extract fr s.size]) := by
  obtain ⟨h1, h2, h3, h4⟩ := h
  have e : (s.data.toList.drop fr).take (s.size - fr) = s.data.toList.drop fr := List.take_of_length_le (by simp)
  rw [e] at h4
  rw [h3, splitL_no c _ h4]
  simp [lists, e]
theorem strs_one (ps : List ByteArray) : ∀ u ∈ strs ps, u.oneCell' = true := by
  intro u hu
  simp only [strs, List.mem_map] at hu
  obtain ⟨b, _, rfl⟩ := hu
  rfl
theorem info_str : (Tryd.prog.info? 9).map (fun i => (i.zero, i.size, i.bytes)) = some (some (.string ByteArray.empty), 1, 16) := by kernel_rfl

set_option maxRecDepth 100000 in
set_option maxHeartbeats 1000000 in
theorem l01Split_any (s : ByteArray) (c : UInt8) (n : Int) (hn : n = (c.toNat : Int)) (w : World) (hs : s.size ≤ 1073741824) :
    Calls Tryd.prog 86 #[.string s, .int .u8 n] w fun e w' => ∃ (v : Value) (ps : List ByteArray), e = .returned v ∧ lists ps = splitL c s.data.toList ∧ ps.length ≤ s.size + 1 ∧ w'.ownsRow w.heap.size 9 1 v ps.length (strs ps) ∧ Below w.heap.size w w' := by
  obtain ⟨i0, hi, hz0, hz1, hz2⟩ := info_parts info_str
  have HN := Lib.hid hn
  clear hn
  go_enter Tryd.func86, Tryd.ntmps86
  go_wp2
  go_loopw [5, 6, 7] (fun v f i wr => ∃ (k fr : Nat) (ps : List ByteArray), k ≤ s.size ∧ i = .int .i64 (k : Int) ∧ f = .int .i64 (fr : Int) ∧ Inv s c k ps fr ∧ wr.ownsRow w.heap.size 9 1 v ps.length (strs ps) ∧ Below w.heap.size w wr) (fun _ _ i _ => s.size - (intOf i).toNat)
  case atStart => exact ⟨0, 0, [], Nat.zero_le _, rfl, rfl, inv_start s c, World.ownsRow_made w #[] 0 (Nat.le_refl _) (by decide) rfl, (Below.refl _ _).alloc (Nat.le_refl _) _⟩
  case round =>
    obtain ⟨k, fr, ps, hk, rfl, rfl, hinv, hown, hbel⟩ := hrel
    have hfr := hinv.1
    have hps := hinv.2.1
    have hsz := hbel.size
    have HI := Lib.hid hinv
    have HO := Lib.hid hown
    have HB := Lib.hid hbel
    clear hinv hown hbel
    by_cases hlt : k < s.size
    · by_cases hc : s[k] = c
      · have hca : ((s[k].toNat : Int) == n) = true := by rw [HN.out, hc]; simp
        have HC := Lib.hid hc
        clear hc
        have K2 := Lib.hid (show ∀ j u, ([.string (s.extract fr k)] : List Value)[j]? = some u → (wr.alloc (.cells #[.string (s.extract fr k)] 9)).cell? ((⟨wr.heap.size, 0, none⟩ : Addr).add j) = some u from fun j u hj => by
          match j, hj with
          | 0, hj => simp at hj; subst hj; simp [Addr.add])
        have K22 := Lib.hid (show ∀ u ∈ ([.string (s.extract fr k)] : List Value), u.oneCell' = true from fun u hu => by simp at hu; subst hu; rfl)
        have K3 := Lib.hid (show ps.length + 1 ≤ maxLen by unfold maxLen; omega)
        have K4 := Lib.hid (show (ps.length + 1) * 16 ≤ 140737488355328 by omega)
        have K5 := Lib.hid (show w.heap.size ≤ (wr.alloc (.cells #[.string (s.extract fr k)] 9)).heap.size from by simp; omega)
        go_wp2_with (at_builtin; refine wpList_append_own _ rfl _ _ 93 rfl w.heap.size 9 i0 (.string ByteArray.empty) 1 16 Tryd.underlying93 hi hz0 hz1 hz2 rfl (by decide) _ ps.length _ rfl (HO.out.alloc _) ⟨wr.heap.size, 0, none⟩ 1 1 [.string (s.extract fr k)] rfl rfl K2.out K22.out K3.out K4.out K5.out ?_; intro v1 w1 hown1 hg1 _)
        go_roundw
        case rel => exact ⟨k + 1, k + 1, ps ++ [s.extract fr k], by omega, by go_num, by go_num, inv_cut HI.out hlt HC.out, by simpa [strs] using hown1, (HB.out.alloc hsz _).grown hg1 K5.out (fun j hj => (HO.out.lt j hj).1)⟩
        case measure => simp [intOf]; omega
      · have hca : ((s[k].toNat : Int) == n) = false := by rw [HN.out]; simp; exact fun e => hc (UInt8.toNat_inj.1 (by omega))
        have HC := Lib.hid hc
        clear hc
        go_wp2
        go_roundw
        case rel => exact ⟨k + 1, fr, ps, by omega, by go_num, rfl, inv_no HI.out hlt HC.out, HO.out, HB.out⟩
        case measure => simp [intOf]; omega
    · obtain rfl : k = s.size := by omega
      have K2 := Lib.hid (show ∀ j u, ([.string (s.extract fr s.size)] : List Value)[j]? = some u → (wr.alloc (.cells #[.string (s.extract fr s.size)] 9)).cell? ((⟨wr.heap.size, 0, none⟩ : Addr).add j) = some u from fun j u hj => by
        match j, hj with
        | 0, hj => simp at hj; subst hj; simp [Addr.add])
      have K22 := Lib.hid (show ∀ u ∈ ([.string (s.extract fr s.size)] : List Value), u.oneCell' = true from fun u hu => by simp at hu; subst hu; rfl)
      have K3 := Lib.hid (show ps.length + 1 ≤ maxLen by unfold maxLen; omega)
      have K4 := Lib.hid (show (ps.length + 1) * 16 ≤ 140737488355328 by omega)
      have K5 := Lib.hid (show w.heap.size ≤ (wr.alloc (.cells #[.string (s.extract fr s.size)] 9)).heap.size from by simp; omega)
      go_wp2_with (at_builtin; refine wpList_append_own _ rfl _ _ 93 rfl w.heap.size 9 i0 (.string ByteArray.empty) 1 16 Tryd.underlying93 hi hz0 hz1 hz2 rfl (by decide) _ ps.length _ rfl (HO.out.alloc _) ⟨wr.heap.size, 0, none⟩ 1 1 [.string (s.extract fr s.size)] rfl rfl K2.out K22.out K3.out K4.out K5.out ?_; intro v1 w1 hown1 hg1 _)
      go_ret
      exact ⟨v1, ps ++ [s.extract fr s.size], rfl, (inv_end HI.out).symm, by simp; omega, by simpa [strs] using hown1, (HB.out.alloc hsz _).grown hg1 K5.out (fun j hj => (HO.out.lt j hj).1)⟩

end Go.Proofs.YtbnihalbepffoaaDoor.split
