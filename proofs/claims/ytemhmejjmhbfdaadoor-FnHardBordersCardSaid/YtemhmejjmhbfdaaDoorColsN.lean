/- The model's neighbours: contracts. -/
import Derived.Test.YtemhmejjmhbfdaaDoorColsV
import Derived.Maps.AppendAt
namespace Go.Proofs.YtemhmejjmhbfdaaDoor.sines
open Go.ChangeShapes Go.WideShapes Go.ChangeAt Go.RowKit Go.Proofs.YtemhmejjmhbfdaaDoor.spots Go.Proofs.YtemhmejjmhbfdaaDoor.irows Go.Proofs.YtemhmejjmhbfdaaDoor.pairsBorder
set_option linter.unusedSimpArgs false
set_option linter.unusedVariables false

theorem newI (w : World) (s : Int) (n : Nat) (h : w.heap.size = n) : ∀ j u, ([.int .i64 s] : List Value)[j]? = some u → (w.alloc (.cells #[.int .i64 s] 2)).cell? ((⟨n, 0, none⟩ : Addr).add j) = some u := by
  subst h
  intro j u hj
  match j, hj with
  | 0, hj => simp at hj; subst hj; simp [Addr.add]
theorem cellI (s : Int) : ∀ u ∈ ([.int .i64 s] : List Value), u.oneCell' = true := fun u hu => by simp at hu; subst hu; rfl
theorem snocI {w : World} {B : Nat} {v : Value} {o : List Int} {x : Int} (h : w.ownsRow B 2 1 v (o.length + 1) (ints o ++ [.int .i64 x])) : IRow w B v (o ++ [x]) := by
  unfold IRow
  rw [List.length_append, show [x].length = 1 from rfl, show ints (o ++ [x]) = ints o ++ [.int .i64 x] by simp [ints]]
  exact h
theorem irow_made (w : World) (B : Nat) (h : B ≤ w.heap.size) : IRow (w.alloc (.cells #[] 2)) B (.slice (some ⟨w.heap.size, 0, none⟩) 0 0) [] := World.ownsRow_made w #[] 0 h (by decide) rfl


/-- What is held of the neighbours when the first m borders are seen for the land k. -/
def midR (ps : List (Int × Int)) (a : Int) (k m : Nat) : List Int := nextN ps a k ++ (if (ps.take m).any (fun p => joins p a (k : Int)) = true then [(k : Int)] else [])
theorem midR_zero (ps : List (Int × Int)) (a : Int) (k : Nat) : midR ps a k 0 = nextN ps a k := by simp [midR]
theorem midR_end (ps : List (Int × Int)) (a : Int) (k : Nat) : midR ps a k ps.length = nextN ps a (k + 1) := by rw [midR, nextN_succ, List.take_length, nbr]
theorem midR_len (ps : List (Int × Int)) (a : Int) (k m : Nat) : (midR ps a k m).length ≤ k + 1 := by
  have := nextN_len ps a k
  rw [midR, List.length_append]
  split <;> simp <;> omega
theorem take_any {ps : List (Int × Int)} {a x : Int} {m : Nat} (h : m < ps.length) : (ps.take (m + 1)).any (fun p => joins p a x) = ((ps.take m).any (fun p => joins p a x) || joins (bAt ps m) a x) := by
  rw [List.take_succ_eq_append_getElem h, List.any_append, bAt_of h]
  simp
theorem midR_no {ps : List (Int × Int)} {a : Int} {k m : Nat} (h : m < ps.length) (hj : joins (bAt ps m) a (k : Int) = false) : midR ps a k (m + 1) = midR ps a k m := by
  rw [midR, midR, take_any h, hj, Bool.or_false]
theorem midR_yes {n : Int} {ps : List (Int × Int)} {a : Int} {k m : Nat} (hv : validC n ps = true) (h : m < ps.length) (hj : joins (bAt ps m) a (k : Int) = true) : midR ps a k (m + 1) = midR ps a k m ++ [(k : Int)] ∧ (midR ps a k m).length ≤ k := by
  have h0 : (ps.take m).any (fun p => joins p a (k : Int)) = false := by
    cases e : (ps.take m).any (fun p => joins p a (k : Int)) with
    | false => rfl
    | true =>
      simp only [List.any_eq_true] at e
      obtain ⟨p, hp, h1⟩ := e
      obtain ⟨i, hi, rfl⟩ := List.mem_iff_getElem.1 hp
      simp only [List.length_take] at hi
      rw [List.getElem_take, bAt_of (by omega)] at h1
      rw [joins_once hv h (show i < m by omega) h1] at hj; cases hj
  have h1 : midR ps a k m = nextN ps a k := by rw [midR, h0]; simp
  refine ⟨by rw [h1, midR, take_any h, hj, Bool.or_true, if_pos rfl], by rw [h1]; exact nextN_len _ _ _⟩


def valNb (n : Int) (ps : List (Int × Int)) (a : Int) : List Int := if codeNb n ps a = 0 then nextOf n ps a else []
theorem valNb_len (n : Int) (ps : List (Int × Int)) (a : Int) : (valNb n ps a).length ≤ n.toNat := by
  unfold valNb
  split
  · exact nextN_len _ _ _
  · simp
theorem valNb_ten (n : Int) (ps : List (Int × Int)) (a : Int) : (valNb n ps a).length ≤ 10 := by
  have := valNb_len n ps a
  by_cases h : validC n ps = true
  · obtain ⟨n0, n1, _⟩ := validC_facts h; omega
  · simp [valNb, codeNb, h]
end Go.Proofs.YtemhmejjmhbfdaaDoor.sines
