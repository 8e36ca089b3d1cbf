/- Two rows of the call's own lie in different blocks; what is written into one leaves the other. -/
import Derived.Test.YtemhmejjmhbfdaaPairs
namespace Go.Proofs.Ytemhmejjmhbfdaa.own2
open Go.ChangeShapes Go.WideShapes Go.ChangeAt Go.RowKit Go.Proofs.Ytemhmejjmhbfdaa.irows Go.Proofs.Ytemhmejjmhbfdaa.pairs
theorem ne_of {w w1 : World} {B : Nat} {e e2 : TypeId} {s s2 n m : Nat} {v u : Value} {xs ys : List Value} (h : w.ownsRow B e s v n xs) (k : w1.ownsRow w.heap.size e2 s2 u m ys) : v.ownBlock = none ∨ v.ownBlock ≠ u.ownBlock := by
  cases hv : v.ownBlock with
  | none => exact .inl rfl
  | some b =>
    refine .inr fun eq => ?_
    have h1 := (World.ownsRow.lt h b hv).2
    have h2 := (World.ownsRow.lt k b eq.symm).1
    omega
theorem ne_of' {w w1 : World} {B : Nat} {e e2 : TypeId} {s s2 n m : Nat} {v u : Value} {xs ys : List Value} (h : w.ownsRow B e s v n xs) (k : w1.ownsRow w.heap.size e2 s2 u m ys) : u.ownBlock = none ∨ u.ownBlock ≠ v.ownBlock := by
  rcases ne_of h k with h1 | h1
  · cases hu : u.ownBlock with
    | none => exact .inl rfl
    | some b => exact .inr (by rw [h1]; simp)
  · exact .inr fun e => h1 e.symm
theorem kept_i {w w' : World} {B : Nat} {v u : Value} {zs : List Int} (h : IRow w B v zs) (hg : w.grownBy w' u.ownBlock) (hne : v.ownBlock = none ∨ v.ownBlock ≠ u.ownBlock) : IRow w' B v zs := World.ownsRow.kept h hg hne
theorem kept_p {w w' : World} {B : Nat} {v u : Value} {ps : List (Int × Int)} (h : PRow w B v ps) (hg : w.grownBy w' u.ownBlock) (hne : v.ownBlock = none ∨ v.ownBlock ≠ u.ownBlock) : PRow w' B v ps := World.ownsRow.kept h hg hne
end Go.Proofs.Ytemhmejjmhbfdaa.own2
