/- The model's chains joined: contracts. -/
import Derived.Test.YtemhmejjmhbfdaaJoinS1
import Derived.Test.YtemhmejjmhbfdaaChainS2
namespace Go.Proofs.Ytemhmejjmhbfdaa.sines
open Go.ChangeShapes Go.WideShapes Go.ChangeAt Go.RowKit Go.Proofs.Ytemhmejjmhbfdaa.spots Go.Proofs.Ytemhmejjmhbfdaa.irows Go.Proofs.Ytemhmejjmhbfdaa.pairsPlace
set_option linter.unusedSimpArgs false
set_option linter.unusedVariables false

set_option maxRecDepth 100000 in
set_option maxHeartbeats 2000000 in
theorem l10Back_any (v : Value) (ps : List (Int × Int)) (w : World) (hv : PAt w w.heap.size v ps) (hn24 : ps.length ≤ 24) :
    Calls Try.prog 127 #[v] w fun e w' => ∃ u, e = .returned u ∧ PRow w' w.heap.size u ps.reverse ∧ Below w.heap.size w w' := by
  obtain ⟨i0, hi, hz0, hz1, hz2⟩ := info_parts info_pair
  obtain ⟨ar, c, rfl, hcl⟩ := hv
  have HCL := Lib.hid hcl
  clear hcl
  have kl : IntKind.i64.wrap ((ps.length : Int) - 1) = (ps.length : Int) - 1 := IntWalk.i64_in _ (by omega)
  go_enter Try.func127, Try.ntmps127
  go_wp2
  go_loopw [3, 4] (fun u i wr => ∃ k : Nat, k ≤ ps.length ∧ i = .int .i64 ((k : Int) - 1) ∧ PRow wr w.heap.size u (ps.drop k).reverse ∧ Below w.heap.size w wr) (fun _ i _ => (intOf i + 1).toNat)
  case atStart => exact ⟨ps.length, Nat.le_refl _, rfl, by simp; exact prow_made w _ (Nat.le_refl _), (Below.refl _ _).alloc (Nat.le_refl _) _⟩
  case round =>
    obtain ⟨k, hk, rfl, hr, hb⟩ := hrel
    have HR := Lib.hid hr
    have HB := Lib.hid hb
    have hsz := hb.size
    by_cases hlt : 0 < k
    · obtain ⟨j, rfl⟩ : ∃ j, k = j + 1 := ⟨k - 1, by omega⟩
      have ej : ((j + 1 : Nat) : Int) - 1 = (j : Int) := by omega
      rw [ej]
      obtain ⟨b, off, rfl, hbs, c1, c2⟩ := HCL.out j (by omega)
      rw [pat_of (by omega)] at c1 c2
      have u1 := (hb.cell (p := ⟨b, off + j * 2, none⟩) hbs).trans c1
      have u2 := (hb.cell (p := ⟨b, off + j * 2 + 1, none⟩) hbs).trans c2
      have hj0 : 0 ≤ (j : Int) := by omega
      have hj1 : (j : Int) < (ps.length : Int) := by omega
      have kj : IntKind.i64.wrap ((j : Int) - 1) = (j : Int) - 1 := IntWalk.i64_in _ (by omega)
      have DR := Lib.hid (drop_rev (ps := ps) (k := j) (by omega))
      obtain ⟨qs, hqs⟩ : ∃ qs, Hid ((ps.drop (j + 1)).reverse = qs) := ⟨_, Lib.hid rfl⟩
      have hql : qs.length ≤ 24 := by rw [← hqs.out]; simp; omega
      rw [hqs.out] at HR DR
      clear c1 c2 hr hb
      generalize (pAt ps j).1 = x1 at u1 DR
      generalize (pAt ps j).2 = x2 at u2 DR
      go_wp2_with (at_builtin; refine wpList_append_own _ rfl _ _ 52 rfl w.heap.size 60 i0 (.agg #[.int .i64 0, .int .i64 0]) 2 16 Try.underlying52 hi hz0 hz1 hz2 rfl (by decide) _ qs.length _ rfl (HR.out.alloc _) ⟨wr.heap.size, 0, none⟩ 1 1 [.int .i64 x1, .int .i64 x2] rfl rfl (newPl _ _ _ _ (by first | rfl | simp)) (cellPl _ _) (by unfold maxLen; omega) (by omega) (by simp; omega) ?_; intro v4 w4 hown4 hg4 _)
      go_roundw
      case rel => exact ⟨j, by omega, by go_num, by rw [DR.out]; exact snocPl hown4, (HB.out.alloc hsz _).grown hg4 (by simp; omega) (fun j hj => (HR.out.lt j hj).1)⟩
      case measure => first | (simp [intOf]; done) | (simp [intOf]; omega)
    · obtain rfl : k = 0 := by omega
      have HE := Lib.hid (show PRow wr w.heap.size u3 ps.reverse by simpa using hr)
      have e0 : ((0 : Nat) : Int) - 1 = -1 := by omega
      rw [e0]
      clear hr hb
      go_wp2
      go_ret
      exact ⟨_, rfl, HE.out, HB.out⟩
/-- All but the first place of a list that is read. -/
theorem pat_tail {w : World} {B b off n c : Nat} {ps : List Pl} (h : PAt w B (.slice (some ⟨b, off, none⟩) n c) ps) (h1 : 1 ≤ ps.length) : PAt w B (.slice (some ⟨b, off + 2, none⟩) (n - 1) (c - 1)) (ps.drop 1) := by
  obtain ⟨a, c', e, h⟩ := h
  injection e with e1 e2 e3
  subst e1 e2 e3
  refine ⟨some ⟨b, off + 2, none⟩, c - 1, by simp, fun k hk => ?_⟩
  have hk' : k + 1 < ps.length := by simp at hk; omega
  obtain ⟨b', off', e4, hb, c1, c2⟩ := h (k + 1) hk'
  simp only [Option.some.injEq, Addr.mk.injEq, and_true] at e4
  obtain ⟨rfl, rfl⟩ := e4
  refine ⟨b, off + 2, rfl, hb, ?_, ?_⟩
  · rw [show off + 2 + k * 2 = off + (k + 1) * 2 by omega, c1]; simp [Nat.add_comm]
  · rw [show off + 2 + k * 2 + 1 = off + (k + 1) * 2 + 1 by omega, c2]; simp [Nat.add_comm]
theorem ints_flat_len' (ps : List (Int × Int)) : (ints (flat ps)).length = ps.length * 2 := by
  have := flat_len ps
  simp [ints, this]
theorem pat_flat' {w : World} {B n : Nat} {b off c : Nat} {ps : List (Int × Int)} (h : PAt w B (.slice (some ⟨b, off, none⟩) n c) ps) : ∀ j u, (ints (flat ps))[j]? = some u → w.cell? ((⟨b, off, none⟩ : Addr).add j) = some u := by
  intro j u hu
  rw [add_plain']
  obtain ⟨a, c', e, h⟩ := h
  injection e with e1 e2 e3
  subst e1
  have hj : j < ps.length * 2 := by
    have := (List.getElem?_eq_some_iff.1 hu).1
    rwa [ints_flat_len'] at this
  obtain ⟨b', off', e4, _, h1, h2⟩ := h (j / 2) (by omega)
  simp only [Option.some.injEq, Addr.mk.injEq, and_true] at e4
  obtain ⟨rfl, rfl⟩ := e4
  obtain ⟨f1, f2⟩ := flat_at ps (j / 2) (by omega)
  have h3 : j % 2 = 0 ∨ j % 2 = 1 := by omega
  rcases h3 with h | h
  · rw [show j / 2 * 2 = j by omega] at f1
    rw [show off + j / 2 * 2 = off + j by omega] at h1
    rw [h1, ← hu]; simp [ints, f1]
  · rw [show j / 2 * 2 + 1 = j by omega] at f2
    rw [show off + j / 2 * 2 + 1 = off + j by omega] at h2
    rw [h2, ← hu]; simp [ints, f2]
theorem own_zero {w : World} {B : Nat} {v : Value} {ps : List (Int × Int)} (h : w.ownsRow B 60 2 v (0 + ps.length) ([] ++ ints (flat ps))) : PRow w B v ps := by
  unfold PRow
  rw [Nat.zero_add, List.nil_append] at h
  exact h
set_option maxRecDepth 100000 in
set_option maxHeartbeats 1000000 in
theorem specLeftTurned_any (v : Value) (ps : List (Int × Int)) (w : World) (hv : PAt w w.heap.size v ps) (hl : ps.length ≤ 1048576) :
    Calls Try.prog 45 #[v] w fun e w' => ∃ u, e = .returned (.tuple #[u, .int .i64 (codeG ps)]) ∧ PRow w' w.heap.size u (leftL ps) ∧ Below w.heap.size w w' := by
  obtain ⟨i0, hi, hz0, hz1, hz2⟩ := info_parts info_pair
  have HV := Lib.hid hv
  obtain ⟨ar, c, rfl, hcl⟩ := hv
  by_cases hc : codeG ps = 0
  · have hok := (codeG_of hc).1
    have hn := okC_of hok
    have hA : leftL ps = if areaI ps < 0 then ps.reverse else ps := by simp [leftL, hc]
    rw [hA, hc]
    obtain ⟨b, off, rfl, hjunk⟩ := hcl 0 (by omega)
    clear hjunk
    clear hcl
    have HC := Lib.hid hc
    clear hA hc
    by_cases hneg : areaI ps < 0
    · rw [if_pos hneg]
      generalize hR : areaI ps = R at hneg
      have HR := Lib.hid hR
      clear hR
      have hn24 := hn.2.1
      clear hn
      go_enter Try.func45, Try.ntmps45
      go_wp2_with (first | (go_at_call 123; refine (l10Code_any _ ps _ HV.out hl).mono ?_; rw [HC.out]; rintro e w1 ⟨rfl, hb⟩; have HB1 := Lib.hid hb; clear hb) | (go_at_call 124; refine (l10Area_any _ ps _ (pat_up (pat_keep HV.out HB1.out) HB1.out.size) hok).mono ?_; rw [HR.out]; rintro e w2 ⟨rfl, hb⟩; have HB2 := Lib.hid (HB1.out.trans (hb.mono HB1.out.size)); clear hb) | (go_at_call 127; refine (l10Back_any _ ps _ (pat_up (pat_keep HV.out HB2.out) HB2.out.size) hn24).mono ?_; rintro e w3 ⟨u, rfl, hr, hb⟩; have HB3 := Lib.hid (HB2.out.trans (hb.mono HB2.out.size)); have RO := Lib.hid (prow_up hr HB2.out.size); obtain ⟨au, cu, rfl, _⟩ := prow_at hr; clear hb hr))
      exact bodyPost_ret (v := .tuple #[.slice au ps.reverse.length cu, .int .i64 0]) (by simp [results, Try.results45, go_sem]) rfl ⟨_, rfl, RO.out, HB3.out⟩
    · rw [if_neg hneg]
      generalize hR : areaI ps = R at hneg
      have HR := Lib.hid hR
      clear hR
      have hn24 := hn.2.1
      have hn2 := hn.1
      clear hn
      go_enter Try.func45, Try.ntmps45
      go_wp2_with (first | (go_at_call 123; refine (l10Code_any _ ps _ HV.out hl).mono ?_; rw [HC.out]; rintro e w1 ⟨rfl, hb⟩; have HB1 := Lib.hid hb; clear hb) | (go_at_call 124; refine (l10Area_any _ ps _ (pat_up (pat_keep HV.out HB1.out) HB1.out.size) hok).mono ?_; rw [HR.out]; rintro e w2 ⟨rfl, hb⟩; have HB2 := Lib.hid (HB1.out.trans (hb.mono HB1.out.size)); clear hb) | (at_builtin; refine wpList_append_own _ rfl _ _ 52 rfl w.heap.size 60 i0 (.agg #[.int .i64 0, .int .i64 0]) 2 16 Try.underlying52 hi hz0 hz1 hz2 rfl (by decide) _ 0 [] rfl (prow_made w2 _ HB2.out.size) ⟨b, off, none⟩ ps.length c (ints (flat ps)) rfl (ints_flat_len' ps) (pat_flat' (pat_keep HV.out (HB2.out.alloc HB2.out.size _))) (ints_one _) (by unfold maxLen; omega) (by omega) (by have := HB2.out.size; simp; omega) ?_; intro v4 w4 hown4 hg4 _; have RO := Lib.hid (show PRow w4 w.heap.size v4 ps from own_zero hown4); have HB4 := Lib.hid ((HB2.out.alloc HB2.out.size _).grown hg4 (by have := HB2.out.size; simp; omega) (fun j hj => by cases hj; exact HB2.out.size)); obtain ⟨au, cu, rfl, _⟩ := prow_at RO.out; clear hown4 hg4))
      exact bodyPost_ret (v := .tuple #[.slice au ps.length cu, .int .i64 0]) (by simp [results, Try.results45, go_sem]) rfl ⟨_, rfl, RO.out, HB4.out⟩
  · have hA : leftL ps = [] := by simp [leftL, hc]
    rw [hA]
    obtain ⟨C, hC⟩ : ∃ C, Hid (codeG ps = C) := ⟨_, Lib.hid rfl⟩
    have hne : ¬ C = 0 := by rw [← hC.out]; exact hc
    rw [hC.out]
    clear hc hA hcl
    go_enter Try.func45, Try.ntmps45
    go_wp2_with (first | (go_at_call 123; refine (l10Code_any _ ps _ HV.out hl).mono ?_; rw [hC.out]; rintro e w1 ⟨rfl, hb⟩; have HB1 := Lib.hid hb; clear hb))
    exact bodyPost_ret (v := .tuple #[.slice none 0 0, .int .i64 C]) (by simp [results, Try.results45, go_sem]) rfl ⟨_, rfl, prow_nil _ _, HB1.out⟩
end Go.Proofs.Ytemhmejjmhbfdaa.sines
