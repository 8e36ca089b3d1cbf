/- The model's functions of chains that answer numbers, and chains from their end: contracts. -/
import Derived.Test.YtjailkgogmanfaaChainS1
import Derived.Maps.AppendAt
import Derived.BigQuiet
namespace Go.Proofs.Ytjailkgogmanfaa.sines
open Go.ChangeShapes Go.WideShapes Go.ChangeAt Go.RowKit Go.Proofs.Ytjailkgogmanfaa.spots Go.Proofs.Ytjailkgogmanfaa.irows Go.Proofs.Ytjailkgogmanfaa.pairsPlace
set_option linter.unusedSimpArgs false
set_option linter.unusedVariables false

theorem okC_no {ps : List Pl} {k : Nat} (h : k < ps.length) (hp : okP (pAt ps k) = false) : okC ps = false := by
  cases e : okC ps with
  | false => rfl
  | true => rw [(okC_of e).2.2 k h] at hp; cases hp
theorem okC_all {ps : List Pl} (h : ∀ j, j < ps.length → okP (pAt ps j) = true) : okC ps = inB (ps.length : Int) 2 24 := by
  have : ps.all okP = true := by
    rw [List.all_eq_true]
    intro p hp
    obtain ⟨j, hj, rfl⟩ := List.mem_iff_getElem.1 hp
    rw [pat_of hj]; exact h j hj
  simp [okC, this]
set_option maxRecDepth 100000 in
set_option maxHeartbeats 1000000 in
theorem l07Ok_any (v : Value) (ps : List (Int × Int)) (w : World) (hv : PAt w w.heap.size v ps) (hl : ps.length ≤ 1048576) :
    Calls Try.prog 72 #[v] w fun e w' => e = .returned (.bool (okC ps)) ∧ Below w.heap.size w w' := by
  obtain ⟨ar, c, rfl, hcl⟩ := hv
  have HCL := Lib.hid hcl
  clear hcl
  obtain ⟨R, hR⟩ : ∃ R, Hid (okC ps = R) := ⟨_, Lib.hid rfl⟩
  have hl2 : (ps.length : Int) ≤ 1048576 := by omega
  rw [hR.out]
  go_enter Try.func72, Try.ntmps72
  go_wp2
  go_loopw [3] (fun i wr => ∃ k : Nat, k ≤ ps.length ∧ i = .int .i64 (k : Int) ∧ (∀ j, j < k → okP (pAt ps j) = true) ∧ w = wr) (fun i _ => ps.length - (intOf i).toNat)
  case atStart => exact ⟨0, Nat.zero_le _, rfl, fun j h => by omega, rfl⟩
  case round =>
    obtain ⟨k, hk, rfl, ha, rfl⟩ := hrel
    have HA := Lib.hid ha
    clear ha
    by_cases hlt : k < ps.length
    · obtain ⟨b, off, rfl, hbs, c1, c2⟩ := HCL.out k hlt
      rw [pat_of hlt] at c1 c2
      have hk0 : 0 ≤ (k : Int) := by omega
      have hk1 : (k : Int) < (ps.length : Int) := by omega
      have NO := Lib.hid (show okP (pAt ps k) = false → R = false from fun h => by rw [← hR.out]; exact okC_no hlt h)
      have YES := Lib.hid (show okP (pAt ps k) = true → ∀ j, j < k + 1 → okP (pAt ps j) = true from fun h j hj => by
        by_cases e : j = k
        · subst e; exact h
        · exact HA.out j (by omega))
      have eo : okP (pAt ps k) = (inB (pAt ps k).1 0 2000 && inB (pAt ps k).2 0 2000) := rfl
      rw [eo] at NO YES
      clear eo
      generalize (pAt ps k).1 = x1 at c1 NO YES
      generalize (pAt ps k).2 = x2 at c2 NO YES
      cases h1 : inB x1 0 2000 with
      | false =>
        obtain rfl := NO.out (by simp [h1])
        go_wp2_with (first | (go_at_call 93; refine (l00In_any _ _ _ _).mono ?_; rw [h1]; rintro e w' ⟨rfl, rfl⟩))
        go_ret
        exact ⟨rfl, Below.refl _ _⟩
      | true =>
        cases h2 : inB x2 0 2000 with
        | false =>
          obtain rfl := NO.out (by simp [h2])
          go_wp2_with (first | (go_at_call 93; refine (l00In_any _ _ _ _).mono ?_; (first | rw [h1] | rw [h2]); rintro e w' ⟨rfl, rfl⟩))
          go_ret
          exact ⟨rfl, Below.refl _ _⟩
        | true =>
          have Y := Lib.hid (YES.out (by simp [h1, h2]))
          go_wp2_with (first | (go_at_call 93; refine (l00In_any _ _ _ _).mono ?_; (first | rw [h1] | rw [h2]); rintro e w' ⟨rfl, rfl⟩))
          go_roundw
          case rel => exact ⟨k + 1, by omega, by go_num, Y.out, by trivial⟩
          case measure => simp [intOf]; omega
    · obtain rfl : k = ps.length := by omega
      have RT := Lib.hid (show inB (ps.length : Int) 2 24 = R by rw [← hR.out]; exact (okC_all HA.out).symm)
      go_wp2_with (first | (go_at_call 93; refine (l00In_any _ _ _ _).mono ?_; rw [RT.out]; rintro e w' ⟨rfl, rfl⟩))
      go_ret
      exact ⟨rfl, Below.refl _ _⟩
/-- The code of a chain and a bound. -/
def codeC (ps : List Pl) (d : Int) : Int := if okC ps = true then (if inB d 0 3000 = true then 0 else 2) else 1
theorem codeC_of {ps : List Pl} {d : Int} (h : codeC ps d = 0) : okC ps = true ∧ 0 ≤ d ∧ d ≤ 3000 := by
  unfold codeC at h
  split at h
  · split at h
    · rename_i h1 h2
      obtain ⟨h3, h4⟩ := inB_of h2
      exact ⟨h1, h3, h4⟩
    · omega
  · omega
def codeW (ps : List Pl) (i k d : Int) : Int := if codeC ps d = 0 then (if (inB k 0 ((ps.length : Int) - 1) && inB i 0 (k - 1)) = true then 0 else 2) else codeC ps d
def valW (ps : List Pl) (i k d : Int) : Bool := decide (codeW ps i k d = 0) && withinB ps d i.toNat k.toNat
theorem retW {a b : Bool} {c d : Int} (h : a = b) (g : c = d) : Ending.returned (.tuple #[.bool a, .int .i64 c]) = .returned (.tuple #[.bool b, .int .i64 d]) := by rw [h, g]
theorem newPl (w : World) (s t : Int) (n : Nat) (h : w.heap.size = n) : ∀ j u, ([.int .i64 s, .int .i64 t] : List Value)[j]? = some u → (w.alloc (.cells #[.int .i64 s, .int .i64 t] 43)).cell? ((⟨n, 0, none⟩ : Addr).add j) = some u := by
  subst h
  intro j u hj
  match j, hj with
  | 0, hj => simp at hj; subst hj; simp [Addr.add]
  | 1, hj => simp at hj; subst hj; simp [Addr.add]
theorem cellPl (s t : Int) : ∀ u ∈ ([.int .i64 s, .int .i64 t] : List Value), u.oneCell' = true := fun u hu => by simp at hu; rcases hu with rfl | rfl <;> rfl
theorem snocPl {w : World} {B : Nat} {v : Value} {ps : List (Int × Int)} {x y : Int} (h : w.ownsRow B 43 2 v (ps.length + 1) (ints (flat ps) ++ [.int .i64 x, .int .i64 y])) : PRow w B v (ps ++ [(x, y)]) := by
  unfold PRow
  rw [List.length_append, flat_append]
  simpa [ints, flat] using h
theorem prow_nil (w : World) (B : Nat) : PRow w B (.slice none 0 0) [] := ⟨rfl, .inl ⟨rfl, rfl⟩⟩
theorem prow_made (w : World) (B : Nat) (h : B ≤ w.heap.size) : PRow (w.alloc (.cells #[] 43)) B (.slice (some ⟨w.heap.size, 0, none⟩) 0 0) [] := World.ownsRow_made w #[] 0 h (by decide) rfl
def revV (ps : List Pl) : List Pl := if okC ps = true then ps.reverse else []
def code1 (ps : List Pl) : Int := if okC ps = true then 0 else 1
theorem drop_rev {ps : List Pl} {k : Nat} (h : k < ps.length) : (ps.drop k).reverse = (ps.drop (k + 1)).reverse ++ [((pAt ps k).1, (pAt ps k).2)] := by
  rw [List.drop_eq_getElem_cons h, List.reverse_cons, pat_of h]
set_option maxRecDepth 100000 in
set_option maxHeartbeats 2000000 in
theorem specReverseChain_any (v : Value) (ps : List (Int × Int)) (w : World) (hv : PAt w w.heap.size v ps) (hl : ps.length ≤ 1048576) :
    Calls Try.prog 56 #[v] w fun e w' => ∃ u, e = .returned (.tuple #[u, .int .i64 (code1 ps)]) ∧ PRow w' w.heap.size u (revV ps) ∧ Below w.heap.size w w' := by
  obtain ⟨i0, hi, hz0, hz1, hz2⟩ := info_parts info_pair
  have HV := Lib.hid hv
  obtain ⟨ar, c, rfl, hcl⟩ := hv
  have HCL := Lib.hid hcl
  clear hcl
  cases hok : okC ps with
  | false =>
    rw [show code1 ps = 1 by simp [code1, hok], show revV ps = [] by simp [revV, hok]]
    go_enter Try.func56, Try.ntmps56
    go_wp2_with (first | (go_at_call 72; refine (l07Ok_any _ ps _ HV.out hl).mono ?_; rw [hok]; rintro e w1 ⟨rfl, hb⟩))
    exact bodyPost_ret (v := .tuple #[.slice none 0 0, .int .i64 1]) (by simp [results, Try.results56, go_sem]) rfl ⟨_, rfl, prow_nil _ _, hb⟩
  | true =>
    rw [show code1 ps = 0 by simp [code1, hok], show revV ps = ps.reverse by simp [revV, hok]]
    obtain ⟨q1, q2, _⟩ := okC_of hok
    have kl : IntKind.i64.wrap ((ps.length : Int) - 1) = (ps.length : Int) - 1 := IntWalk.i64_in _ (by omega)
    go_enter Try.func56, Try.ntmps56
    go_wp2_with (first | (go_at_call 72; refine (l07Ok_any _ ps _ HV.out hl).mono ?_; rw [hok]; rintro e w1 ⟨rfl, hb⟩; have HB1 := Lib.hid hb; have hsz1 := hb.size; clear hb))
    go_loopw [4, 5] (fun u i wr => ∃ k : Nat, k ≤ ps.length ∧ i = .int .i64 ((k : Int) - 1) ∧ PRow wr w.heap.size u (ps.drop k).reverse ∧ Below w.heap.size w wr) (fun _ i _ => (intOf i + 1).toNat)
    case atStart => exact ⟨ps.length, Nat.le_refl _, rfl, by simp; exact prow_made w1 _ hsz1, HB1.out.alloc hsz1 _⟩
    case round =>
      obtain ⟨k, hk, rfl, hr, hb⟩ := hrel
      have HR := Lib.hid hr
      have HB := Lib.hid hb
      have hsz := hb.size
      by_cases hlt : 0 < k
      · obtain ⟨j, rfl⟩ : ∃ j, k = j + 1 := ⟨k - 1, by omega⟩
        have ej : ((j + 1 : Nat) : Int) - 1 = (j : Int) := by omega
        rw [ej]
        obtain ⟨b, off, rfl, hbs, c1, c2⟩ := HCL.out j (by omega)
        rw [pat_of (by omega)] at c1 c2
        have u1 := (hb.cell (p := ⟨b, off + j * 2, none⟩) hbs).trans c1
        have u2 := (hb.cell (p := ⟨b, off + j * 2 + 1, none⟩) hbs).trans c2
        have hj0 : 0 ≤ (j : Int) := by omega
        have hj1 : (j : Int) < (ps.length : Int) := by omega
        have kj : IntKind.i64.wrap ((j : Int) - 1) = (j : Int) - 1 := IntWalk.i64_in _ (by omega)
        have DR := Lib.hid (drop_rev (ps := ps) (k := j) (by omega))
        obtain ⟨qs, hqs⟩ : ∃ qs, Hid ((ps.drop (j + 1)).reverse = qs) := ⟨_, Lib.hid rfl⟩
        have hql : qs.length ≤ 24 := by rw [← hqs.out]; simp; omega
        rw [hqs.out] at HR DR
        clear c1 c2 hr hb
        generalize (pAt ps j).1 = x1 at u1 DR
        generalize (pAt ps j).2 = x2 at u2 DR
        go_wp2_with (at_builtin; refine wpList_append_own _ rfl _ _ 28 rfl w.heap.size 43 i0 (.agg #[.int .i64 0, .int .i64 0]) 2 16 Try.underlying28 hi hz0 hz1 hz2 rfl (by decide) _ qs.length _ rfl (HR.out.alloc _) ⟨wr.heap.size, 0, none⟩ 1 1 [.int .i64 x1, .int .i64 x2] rfl rfl (newPl _ _ _ _ (by first | rfl | simp)) (cellPl _ _) (by unfold maxLen; omega) (by omega) (by simp; omega) ?_; intro v4 w4 hown4 hg4 _)
        go_roundw
        case rel => exact ⟨j, by omega, by go_num, by rw [DR.out]; exact snocPl hown4, (HB.out.alloc hsz _).grown hg4 (by simp; omega) (fun j hj => (HR.out.lt j hj).1)⟩
        case measure => first | (simp [intOf]; done) | (simp [intOf]; omega)
      · obtain rfl : k = 0 := by omega
        have HE := Lib.hid (show PRow wr w.heap.size u4 ps.reverse by simpa using hr)
        have e0 : ((0 : Nat) : Int) - 1 = -1 := by omega
        rw [e0]
        clear hr hb
        go_wp2
        exact bodyPost_ret (v := .tuple #[u4, .int .i64 0]) (by simp [results, Try.results56, go_sem]) rfl ⟨_, rfl, HE.out, HB.out⟩
end Go.Proofs.Ytjailkgogmanfaa.sines
