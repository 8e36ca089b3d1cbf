/- The model's colours by an order: contract. -/
import Derived.Test.YtemhmejjmhbfdaaDoorColsG1
namespace Go.Proofs.YtemhmejjmhbfdaaDoor.sines
open Go.ChangeShapes Go.WideShapes Go.ChangeAt Go.RowKit Go.Proofs.YtemhmejjmhbfdaaDoor.spots Go.Proofs.YtemhmejjmhbfdaaDoor.irows Go.Proofs.YtemhmejjmhbfdaaDoor.pairsBorder
set_option linter.unusedSimpArgs false
set_option linter.unusedVariables false

/-- The colours that the neighbours of a land have; one land more is coloured. -/
def usedG (n : Int) (ps : List (Int × Int)) (F : Nat → Int) (x : Int) : List Int := (nextOf n ps x).map fun y => F y.toNat
def stepG (n : Int) (ps : List (Int × Int)) (F : Nat → Int) (x : Int) : Nat → Int := fun j => if j = x.toNat then ((mexC (usedG n ps F x) : Nat) : Int) else F j
def greedyF (n : Int) (ps : List (Int × Int)) (os : List Int) : Nat → Int := os.foldl (stepG n ps) fun _ => -1
def greedyC (n : Int) (ps : List (Int × Int)) (os : List Int) : List Int := rowF n.toNat (greedyF n ps os)
theorem greedyF_snoc (n : Int) (ps : List (Int × Int)) (os : List Int) (k : Nat) (h : k < os.length) : greedyF n ps (os.take (k + 1)) = stepG n ps (greedyF n ps (os.take k)) (zAt os k) := by
  rw [← List.take_append_getElem h, greedyF, List.foldl_append, zAt_eq h]; rfl
def codeGr (n : Int) (ps : List (Int × Int)) (os : List Int) : Int := if validC n ps = true then (if orderOk n os = true then 0 else 2) else 1
def valGr (n : Int) (ps : List (Int × Int)) (os : List Int) : List Int := if codeGr n ps os = 0 then greedyC n ps os else []
theorem valGr_len (n : Int) (ps : List (Int × Int)) (os : List Int) : (valGr n ps os).length ≤ 10 := by
  unfold valGr
  split
  · rename_i h
    unfold codeGr at h
    split at h
    · rename_i g
      have := (validC_facts g).2.1
      rw [greedyC, rowF_len]; omega
    · omega
  · simp
theorem nextOf_len (n : Int) (ps : List (Int × Int)) (x : Int) (hn : n ≤ 10) : (nextOf n ps x).length ≤ 10 := by
  have := nextN_len ps x n.toNat
  unfold nextOf; omega
theorem nextOf_mem {n : Int} {ps : List (Int × Int)} {x y : Int} (h : y ∈ nextOf n ps x) : 0 ≤ y ∧ y < n := by
  unfold nextOf at h
  obtain ⟨a, b, _⟩ := nextN_mem.1 h
  omega
theorem take_map {α β : Type} (F : α → β) (l : List α) (k : Nat) (h : k < l.length) : (l.take (k + 1)).map F = (l.take k).map F ++ [F l[k]] := by
  rw [← List.take_append_getElem h, List.map_append]; rfl


end Go.Proofs.YtemhmejjmhbfdaaDoor.sines
