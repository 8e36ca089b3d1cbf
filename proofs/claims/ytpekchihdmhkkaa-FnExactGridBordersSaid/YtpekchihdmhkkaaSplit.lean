/- A text is split at a byte: the model's function. -/
import Derived.Test.YtpekchihdmhkkaaLift
import Derived.Deep.QuietTactic
import Derived.BigQuiet
import Derived.Lib.Hide
import Derived.LoopTactic
import Derived.OwnWalk
import Derived.Laws.AppendOwn
import Derived.Laws.OwnMore
import Derived.IntWalk
namespace Go.Proofs.Ytpekchihdmhkkaa.split
open Go.ChangeShapes Go.WideShapes Go.ChangeAt Go.RowKit

/-- The parts of a text between bytes c. -/
def splitL (c : UInt8) : List UInt8 → List (List UInt8)
  | [] => [[]]
  | x :: r => if x = c then [] :: splitL c r else match splitL c r with
    | [] => [[x]]
    | h :: t => (x :: h) :: t
theorem splitL_ne (c : UInt8) (l : List UInt8) : splitL c l ≠ [] := by
  cases l with
  | nil => simp [splitL]
  | cons x r =>
    simp only [splitL]
    split
    · simp
    · split <;> simp
theorem splitL_no (c : UInt8) : ∀ p : List UInt8, c ∉ p → splitL c p = [p]
  | [], _ => rfl
  | x :: p, h => by
    have hx : ¬ x = c := fun e => h (by simp [e])
    have hp : c ∉ p := fun e => h (by simp [e])
    simp [splitL, hx, splitL_no c p hp]
theorem splitL_at (c : UInt8) : ∀ (p r : List UInt8), c ∉ p → splitL c (p ++ c :: r) = p :: splitL c r
  | [], r, _ => by simp [splitL]
  | x :: p, r, h => by
    have hx : ¬ x = c := fun e => h (by simp [e])
    have hp : c ∉ p := fun e => h (by simp [e])
    simp [splitL, hx, splitL_at c p r hp]
def lists (ps : List ByteArray) : List (List UInt8) := ps.map fun p => p.data.toList
def strs (ps : List ByteArray) : List Value := ps.map fun p => Value.string p
theorem drop_cons (s : ByteArray) (i : Nat) (h : i < s.size) : s.data.toList.drop i = s[i] :: s.data.toList.drop (i + 1) := by
  rw [List.drop_eq_getElem_cons (by simpa using h)]; rfl
theorem ext_list (s : ByteArray) (a b : Nat) : (s.extract a b).data.toList = (s.data.toList.drop a).take (b - a) := by
  simp [ByteArray.data_extract]
/-- What holds at place i: the parts that are done, where the next one begins. -/
def Inv (s : ByteArray) (c : UInt8) (i : Nat) (ps : List ByteArray) (fr : Nat) : Prop :=
  fr ≤ i ∧ ps.length ≤ i ∧ splitL c s.data.toList = lists ps ++ splitL c (s.data.toList.drop fr) ∧ c ∉ (s.data.toList.drop fr).take (i - fr)
theorem inv_start (s : ByteArray) (c : UInt8) : Inv s c 0 [] 0 := ⟨Nat.le_refl _, Nat.le_refl _, by simp [lists], by simp⟩
theorem take_step (s : ByteArray) (fr i : Nat) (hf : fr ≤ i) (h : i < s.size) : (s.data.toList.drop fr).take (i + 1 - fr) = (s.data.toList.drop fr).take (i - fr) ++ [s[i]] := by
  have e : i + 1 - fr = (i - fr) + 1 := by omega
  have hl : i - fr < (s.data.toList.drop fr).length := by simp; omega
  rw [e, List.take_succ_eq_append_getElem hl]
  congr 2
  rw [List.getElem_drop]
  have : fr + (i - fr) = i := by omega
  simp only [this]
  rfl
theorem inv_no {s : ByteArray} {c : UInt8} {i : Nat} {ps : List ByteArray} {fr : Nat} (h : Inv s c i ps fr) (hi : i < s.size) (hc : s[i] ≠ c) : Inv s c (i + 1) ps fr := by
  obtain ⟨h1, h2, h3, h4⟩ := h
  refine ⟨by omega, by omega, h3, ?_⟩
  rw [take_step s fr i h1 hi]
  intro hm
  rcases List.mem_append.1 hm with hm | hm
  · exact h4 hm
  · exact hc (List.mem_singleton.1 hm).symm
theorem inv_cut {s : ByteArray} {c : UInt8} {i : Nat} {ps : List ByteArray} {fr : Nat} (h : Inv s c i ps fr) (hi : i < s.size) (hc : s[i] = c) : Inv s c (i + 1) (ps ++ [s.extract fr i]) (i + 1) := by
  obtain ⟨h1, h2, h3, h4⟩ := h
  refine ⟨Nat.le_refl _, by simp; omega, ?_, by simp⟩
  have e : s.data.toList.drop fr = (s.data.toList.drop fr).take (i - fr) ++ c :: s.data.toList.drop (i + 1) := by
    rw [← hc, ← drop_cons s i hi]
    have : s.data.toList.drop i = (s.data.toList.drop fr).drop (i - fr) := by rw [List.drop_drop]; congr 1; omega
    rw [this, List.take_append_drop]
  rw [h3, e, splitL_at c _ _ h4]
  simp [lists]
theorem inv_end {s : ByteArray} {c : UInt8} {ps : List ByteArray} {fr : Nat} (h : Inv s c s.size ps fr) : splitL c s.data.toList = lists (ps ++ [s.extract fr s.size]) := by
  obtain ⟨h1, h2, h3, h4⟩ := h
  have e : (s.data.toList.drop fr).take (s.size - fr) = s.data.toList.drop fr := List.take_of_length_le (by simp)
  rw [e] at h4
  rw [h3, splitL_no c _ h4]
  simp [lists, e]
theorem strs_one (ps : List ByteArray) : ∀ u ∈ strs ps, u.oneCell' = true := by
  intro u hu
  simp only [strs, List.mem_map] at hu
  obtain ⟨b, _, rfl⟩ := hu
  rfl
theorem info_str : (Try.prog.info? 9).map (fun i => (i.zero, i.size, i.bytes)) = some (some (.string ByteArray.empty), 1, 16) := by kernel_rfl

end Go.Proofs.Ytpekchihdmhkkaa.split
