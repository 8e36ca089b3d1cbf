/- The model chains joined: contracts. -/
import Derived.Test.YtemhmejjmhbfdabJoinS2
import Derived.Deep.AppendLies
import Derived.Deep.RegionLawGrows
namespace Go.Proofs.Ytemhmejjmhbfdab.sines
open Go.ChangeShapes Go.WideShapes Go.ChangeAt Go.RowKit Go.Proofs.Ytemhmejjmhbfdab.spots Go.Proofs.Ytemhmejjmhbfdab.irows Go.Proofs.Ytemhmejjmhbfdab.pairsPlace
set_option linter.unusedSimpArgs false
set_option linter.unusedVariables false

/-- A slice whose length is within its capacity. -/
def CapOk (v : Value) : Prop := ∀ a n c, v = .slice a n c → n ≤ c
theorem prow_capOk {w : World} {B : Nat} {v : Value} {ps : List (Int × Int)} (h : PRow w B v ps) : CapOk v := by
  intro a n c e
  rcases h.2 with ⟨hn, h0⟩ | ⟨g, cap, cur, hv, _, hc, h1, _⟩
  · rw [hn] at e; cases e; omega
  · rw [hv] at e; cases e; exact h1
theorem prow_two {w : World} {B n m g c : Nat} {ps qs : List Pl} (hn : n = ps.length) (hm : m = qs.length) (h : w.ownsRow B 120 2 (.slice (some ⟨g, 0, none⟩) (n + m) c) (n + m) (ints (flat ps) ++ ints (flat qs))) : PRow w B (.slice (some ⟨g, 0, none⟩) (n + m) c) (ps ++ qs) := by
  subst hn hm
  unfold PRow
  rw [List.length_append, flat_append]
  simpa [ints] using h
theorem prow_two' {w : World} {B n m g c : Nat} {ps qs : List Pl} (hn : n = ps.length) (hm : m = qs.length) (h : w.ownsRow B 120 2 (.slice (some ⟨g, 0, none⟩) (0 + n + m) c) (0 + n + m) ([] ++ ints (flat ps) ++ ints (flat qs))) : PRow w B (.slice (some ⟨g, 0, none⟩) (0 + n + m) c) (ps ++ qs) := by
  rw [Nat.zero_add, List.nil_append] at h
  rw [Nat.zero_add]
  exact prow_two hn hm h
theorem prow_made' (w : World) (B n : Nat) (hn : n = w.heap.size) (h : B ≤ n) : PRow (w.alloc (.cells #[] 120)) B (.slice (some ⟨n, 0, none⟩) 0 0) [] := by
  subst hn; exact prow_made w B h
theorem own_keep {w w' : World} {B : Nat} {e : TypeId} {s n : Nat} {v : Value} {xs : List Value} (h : w.ownsRow B e s v n xs) (hb : Below w.heap.size w w') : w'.ownsRow B e s v n xs := by
  refine ⟨h.1, ?_⟩
  rcases h.2 with hn | ⟨g, cap, cur, hv, hg1, hg2, hg3⟩
  · exact .inl hn
  · exact .inr ⟨g, cap, cur, hv, hg1, by rw [hb.block g (Array.getElem?_eq_some_iff.1 hg2).1]; exact hg2, hg3⟩
theorem prow_form {w : World} {B : Nat} {v : Value} {ps : List (Int × Int)} (h : PRow w B v ps) (h0 : 0 < ps.length) : ∃ g c, v = .slice (some ⟨g, 0, none⟩) ps.length c := by
  rcases h.2 with ⟨_, h1⟩ | ⟨g, cap, cur, hv, _⟩
  · omega
  · exact ⟨g, cap, hv⟩
end Go.Proofs.Ytemhmejjmhbfdab.sines
