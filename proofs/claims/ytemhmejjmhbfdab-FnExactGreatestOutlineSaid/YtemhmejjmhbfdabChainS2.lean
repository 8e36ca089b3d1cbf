/- The model's functions of chains that answer numbers, and chains from their end: contracts. -/
import Derived.Test.YtemhmejjmhbfdabChainS1
import Derived.Maps.AppendAt
import Derived.BigQuiet
namespace Go.Proofs.Ytemhmejjmhbfdab.sines
open Go.ChangeShapes Go.WideShapes Go.ChangeAt Go.RowKit Go.Proofs.Ytemhmejjmhbfdab.spots Go.Proofs.Ytemhmejjmhbfdab.irows Go.Proofs.Ytemhmejjmhbfdab.pairsPlace
set_option linter.unusedSimpArgs false
set_option linter.unusedVariables false

theorem okC_no {ps : List Pl} {k : Nat} (h : k < ps.length) (hp : okP (pAt ps k) = false) : okC ps = false := by
  cases e : okC ps with
  | false => rfl
  | true => rw [(okC_of e).2.2 k h] at hp; cases hp
theorem okC_all {ps : List Pl} (h : ∀ j, j < ps.length → okP (pAt ps j) = true) : okC ps = inB (ps.length : Int) 2 24 := by
  have : ps.all okP = true := by
    rw [List.all_eq_true]
    intro p hp
    obtain ⟨j, hj, rfl⟩ := List.mem_iff_getElem.1 hp
    rw [pat_of hj]; exact h j hj
  simp [okC, this]
set_option maxRecDepth 100000 in
set_option maxHeartbeats 1000000 in
theorem l07Ok_any (v : Value) (ps : List (Int × Int)) (w : World) (hv : PAt w w.heap.size v ps) (hl : ps.length ≤ 1048576) :
    Calls Try.prog 77 #[v] w fun e w' => e = .returned (.bool (okC ps)) ∧ Below w.heap.size w w' := by
  obtain ⟨ar, c, rfl, hcl⟩ := hv
  have HCL := Lib.hid hcl
  clear hcl
  obtain ⟨R, hR⟩ : ∃ R, Hid (okC ps = R) := ⟨_, Lib.hid rfl⟩
  have hl2 : (ps.length : Int) ≤ 1048576 := by omega
  rw [hR.out]
  go_enter Try.func77, Try.ntmps77
  go_wp2
  go_loopw [3] (fun i wr => ∃ k : Nat, k ≤ ps.length ∧ i = .int .i64 (k : Int) ∧ (∀ j, j < k → okP (pAt ps j) = true) ∧ w = wr) (fun i _ => ps.length - (intOf i).toNat)
  case atStart => exact ⟨0, Nat.zero_le _, rfl, fun j h => by omega, rfl⟩
  case round =>
    obtain ⟨k, hk, rfl, ha, rfl⟩ := hrel
    have HA := Lib.hid ha
    clear ha
    by_cases hlt : k < ps.length
    · obtain ⟨b, off, rfl, hbs, c1, c2⟩ := HCL.out k hlt
      rw [pat_of hlt] at c1 c2
      have hk0 : 0 ≤ (k : Int) := by omega
      have hk1 : (k : Int) < (ps.length : Int) := by omega
      have NO := Lib.hid (show okP (pAt ps k) = false → R = false from fun h => by rw [← hR.out]; exact okC_no hlt h)
      have YES := Lib.hid (show okP (pAt ps k) = true → ∀ j, j < k + 1 → okP (pAt ps j) = true from fun h j hj => by
        by_cases e : j = k
        · subst e; exact h
        · exact HA.out j (by omega))
      have eo : okP (pAt ps k) = (inB (pAt ps k).1 0 2000 && inB (pAt ps k).2 0 2000) := rfl
      rw [eo] at NO YES
      clear eo
      generalize (pAt ps k).1 = x1 at c1 NO YES
      generalize (pAt ps k).2 = x2 at c2 NO YES
      cases h1 : inB x1 0 2000 with
      | false =>
        obtain rfl := NO.out (by simp [h1])
        go_wp2_with (first | (go_at_call 78; refine (l00In_any _ _ _ _).mono ?_; rw [h1]; rintro e w' ⟨rfl, rfl⟩))
        go_ret
        exact ⟨rfl, Below.refl _ _⟩
      | true =>
        cases h2 : inB x2 0 2000 with
        | false =>
          obtain rfl := NO.out (by simp [h2])
          go_wp2_with (first | (go_at_call 78; refine (l00In_any _ _ _ _).mono ?_; (first | rw [h1] | rw [h2]); rintro e w' ⟨rfl, rfl⟩))
          go_ret
          exact ⟨rfl, Below.refl _ _⟩
        | true =>
          have Y := Lib.hid (YES.out (by simp [h1, h2]))
          go_wp2_with (first | (go_at_call 78; refine (l00In_any _ _ _ _).mono ?_; (first | rw [h1] | rw [h2]); rintro e w' ⟨rfl, rfl⟩))
          go_roundw
          case rel => exact ⟨k + 1, by omega, by go_num, Y.out, by trivial⟩
          case measure => simp [intOf]; omega
    · obtain rfl : k = ps.length := by omega
      have RT := Lib.hid (show inB (ps.length : Int) 2 24 = R by rw [← hR.out]; exact (okC_all HA.out).symm)
      go_wp2_with (first | (go_at_call 78; refine (l00In_any _ _ _ _).mono ?_; rw [RT.out]; rintro e w' ⟨rfl, rfl⟩))
      go_ret
      exact ⟨rfl, Below.refl _ _⟩
/-- The code of a chain and a bound. -/
def codeC (ps : List Pl) (d : Int) : Int := if okC ps = true then (if inB d 0 3000 = true then 0 else 2) else 1
theorem codeC_of {ps : List Pl} {d : Int} (h : codeC ps d = 0) : okC ps = true ∧ 0 ≤ d ∧ d ≤ 3000 := by
  unfold codeC at h
  split at h
  · split at h
    · rename_i h1 h2
      obtain ⟨h3, h4⟩ := inB_of h2
      exact ⟨h1, h3, h4⟩
    · omega
  · omega
def codeW (ps : List Pl) (i k d : Int) : Int := if codeC ps d = 0 then (if (inB k 0 ((ps.length : Int) - 1) && inB i 0 (k - 1)) = true then 0 else 2) else codeC ps d
def valW (ps : List Pl) (i k d : Int) : Bool := decide (codeW ps i k d = 0) && withinB ps d i.toNat k.toNat
theorem retW {a b : Bool} {c d : Int} (h : a = b) (g : c = d) : Ending.returned (.tuple #[.bool a, .int .i64 c]) = .returned (.tuple #[.bool b, .int .i64 d]) := by rw [h, g]
theorem newPl (w : World) (s t : Int) (n : Nat) (h : w.heap.size = n) : ∀ j u, ([.int .i64 s, .int .i64 t] : List Value)[j]? = some u → (w.alloc (.cells #[.int .i64 s, .int .i64 t] 120)).cell? ((⟨n, 0, none⟩ : Addr).add j) = some u := by
  subst h
  intro j u hj
  match j, hj with
  | 0, hj => simp at hj; subst hj; simp [Addr.add]
  | 1, hj => simp at hj; subst hj; simp [Addr.add]
theorem cellPl (s t : Int) : ∀ u ∈ ([.int .i64 s, .int .i64 t] : List Value), u.oneCell' = true := fun u hu => by simp at hu; rcases hu with rfl | rfl <;> rfl
theorem snocPl {w : World} {B : Nat} {v : Value} {ps : List (Int × Int)} {x y : Int} (h : w.ownsRow B 120 2 v (ps.length + 1) (ints (flat ps) ++ [.int .i64 x, .int .i64 y])) : PRow w B v (ps ++ [(x, y)]) := by
  unfold PRow
  rw [List.length_append, flat_append]
  simpa [ints, flat] using h
theorem prow_nil (w : World) (B : Nat) : PRow w B (.slice none 0 0) [] := ⟨rfl, .inl ⟨rfl, rfl⟩⟩
theorem prow_made (w : World) (B : Nat) (h : B ≤ w.heap.size) : PRow (w.alloc (.cells #[] 120)) B (.slice (some ⟨w.heap.size, 0, none⟩) 0 0) [] := World.ownsRow_made w #[] 0 h (by decide) rfl
def revV (ps : List Pl) : List Pl := if okC ps = true then ps.reverse else []
def code1 (ps : List Pl) : Int := if okC ps = true then 0 else 1
theorem drop_rev {ps : List Pl} {k : Nat} (h : k < ps.length) : (ps.drop k).reverse = (ps.drop (k + 1)).reverse ++ [((pAt ps k).1, (pAt ps k).2)] := by
  rw [List.drop_eq_getElem_cons h, List.reverse_cons, pat_of h]
end Go.Proofs.Ytemhmejjmhbfdab.sines
