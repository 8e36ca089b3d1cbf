/- The program's places, and what is left out: contracts. -/
import Derived.Test.YtmfjpmimkpldjaaLabI1
import Derived.Test.YtmfjpmimkpldjaaLabS4
namespace Go.Proofs.Ytmfjpmimkpldjaa.ltab
open Go.ChangeShapes Go.WideShapes Go.ChangeAt Go.RowKit Go.Proofs.Ytmfjpmimkpldjaa.irows Go.Proofs.Ytmfjpmimkpldjaa.sines
set_option linter.unusedSimpArgs false
set_option linter.unusedVariables false

set_option maxRecDepth 100000 in
set_option maxHeartbeats 2000000 in
theorem arePlaces_any (v u : Value) (ps : List Lb) (zs : List Int) (w : World) (hv : LAt w w.heap.size v ps) (hu : IAt w w.heap.size u zs) (hl : ps.length ≤ 1048576) (hr : ∀ i, (hi : i < ps.length) → ps[i].2.2.1.length ≤ 1048576) (hz : zs.length ≤ 1048576) :
    Calls Try.prog 75 #[v, u] w fun e w' => e = .returned (.bool (placesOk ps zs)) ∧ w' = w := by
  have HR := Lib.hid hr
  obtain ⟨a, c, rfl, hcl⟩ := lat_k hv
  have HCL := Lib.hid hcl
  obtain ⟨au, cu, rfl, hcu⟩ := hu
  have HCU := Lib.hid hcu
  clear hcl hcu hr hv
  have hl2 : (ps.length : Int) ≤ 1048576 := by omega
  have hz2 : (zs.length : Int) ≤ 1048576 := by omega
  by_cases hlen : zs.length = ps.length
  · obtain ⟨R, hR⟩ : ∃ R, Hid (placesOk ps zs = R) := ⟨_, Lib.hid rfl⟩
    rw [hR.out]
    have NO := Lib.hid (show ∀ k, k < ps.length → inP ps zs k = false → R = false from fun k hk h => by rw [← hR.out]; exact placesOk_no (by omega) h)
    have YES := Lib.hid (show (∀ j, j < ps.length → inP ps zs j = true) → R = true from fun h => by rw [← hR.out]; exact placesOk_all hlen (fun j hj => h j (by omega)))
    have HI := Lib.hid (fun k => show inP ps zs k = inB (zAt zs k) (-1) (((lbAt ps k).2.2.1.length : Int) - 1) from rfl)
    have HLB := Lib.hid (fun k (hk : k < ps.length) => show (lbAt ps k).2.2.1.length ≤ 1048576 by rw [← lbAt_eq hk]; exact HR.out k hk)
    rw [hlen] at HCU ⊢
    clear hlen hz hz2
    go_enter Try.func75, Try.ntmps75
    go_wp2
    go_loopw [14] (fun i wr => ∃ k : Nat, k ≤ ps.length ∧ i = .int .i64 (k : Int) ∧ (∀ j, j < k → inP ps zs j = true) ∧ wr = w) (fun i _ => ps.length - (intOf i).toNat)
    case atStart => exact ⟨0, Nat.zero_le _, rfl, fun j h => by omega, rfl⟩
    case round =>
      obtain ⟨k, hk, rfl, ha, rfl⟩ := hrel
      have HA := Lib.hid ha
      clear ha
      by_cases hlt : k < ps.length
      · obtain ⟨b, off, rfl, hbs, x, _, _, c3, _, hx, _⟩ := HCL.out k hlt
        obtain ⟨b2, off2, rfl, hbs2, d1⟩ := HCU.out k hlt
        have hk0 : 0 ≤ (k : Int) := by omega
        have hk1 : (k : Int) < (ps.length : Int) := by omega
        have LB := HLB.out k hlt
        have HIk := HI.out k
        have N := Lib.hid (NO.out k hlt)
        have Y := Lib.hid (show inP ps zs k = true → ∀ j, j < k + 1 → inP ps zs j = true from fun h j hj => by
          by_cases e : j = k
          · subst e; exact h
          · exact HA.out j (by omega))
        generalize inP ps zs k = g at N Y HIk
        generalize zAt zs k = z at d1 HIk
        generalize lbAt ps k = p at c3 hx LB HIk
        obtain ⟨ax, cx, rfl, _⟩ := hx
        generalize p.2.2.1.length = L at c3 LB HIk
        have kw : IntKind.i64.wrap ((L : Int) - 1) = (L : Int) - 1 := IntWalk.i64_in _ (by omega)
        have H2 := HIk.symm
        clear HIk
        cases g with
        | false =>
          obtain rfl := N.out rfl
          go_wp2_with fail
          refine (withinL _ H2).mono ?_
          rintro e w1 ⟨rfl, rfl⟩
          go_wp2
          go_ret
          exact ⟨rfl, rfl⟩
        | true =>
          have Y2 := Lib.hid (Y.out rfl)
          go_wp2_with fail
          refine (withinL _ H2).mono ?_
          rintro e w1 ⟨rfl, rfl⟩
          go_wp2
          go_roundw
          case rel => exact ⟨k + 1, by omega, by go_num, Y2.out, by first | rfl | trivial⟩
          case measure => simp [intOf]; omega
      · obtain rfl : k = ps.length := by omega
        obtain rfl := YES.out HA.out
        go_wp2
        go_ret
        exact ⟨rfl, rfl⟩
  · have RR := Lib.hid (show placesOk ps zs = false by simp [placesOk, hlen])
    rw [RR.out]
    have hne : decide ((zs.length : Int) = (ps.length : Int)) = false := by simpa using fun h => hlen (by omega)
    have hne2 : ((zs.length : Int) == (ps.length : Int)) = false := by simpa using fun h => hlen (by omega)
    have hne3 : ¬ (zs.length : Int) = (ps.length : Int) := fun h => hlen (by omega)
    clear hlen
    go_enter Try.func75, Try.ntmps75
    go_wp2
    go_ret
    exact ⟨rfl, rfl⟩
theorem codeI {ps : List Lb} {zs : List Int} : (if okL ps = false then 1 else if placesOk ps zs = false then 2 else 0 : Int) = codeK ps zs := rfl
set_option maxRecDepth 100000 in
set_option maxHeartbeats 2000000 in
theorem implLeftOut_any (v u : Value) (ps : List Lb) (zs : List Int) (w : World) (hv : LAt w w.heap.size v ps) (hu : IAt w w.heap.size u zs) (hl : ps.length ≤ 1048576) (hr : ∀ i, (hi : i < ps.length) → ps[i].2.2.1.length ≤ 1048576) (hz : zs.length ≤ 1048576) :
    Calls Try.prog 22 #[v, u] w fun e w' => ∃ r, e = .returned (.tuple #[r, .int .i64 (codeK ps zs)]) ∧ IRow w' w.heap.size r (valLO ps zs) ∧ Below w.heap.size w w' := by
  obtain ⟨i0, hi, hz0, hz1, hz2⟩ := info_parts info_int
  have VL := Lib.hid (implValidLabels_any v ps w hv hl hr)
  have AP := Lib.hid (fun W (h : Below w.heap.size w W) => arePlaces_any v u ps zs W (lat_up (lat_keep hv h) h.size) (iat_up (iat_keep hu h) h.size) hl hr hz)
  have CO := Lib.hid (fun W => codeOf_any (okL ps) (placesOk ps zs) W)
  rw [codeI] at CO
  obtain ⟨a, c, rfl, _⟩ := hv
  obtain ⟨au, cu, rfl, hcu⟩ := hu
  have HCU := Lib.hid hcu
  have EZ := Lib.hid (fun h => codeK_zero (ps := ps) (zs := zs) h)
  have EP := Lib.hid (fun h1 h2 => places_facts (ps := ps) (zs := zs) h1 h2)
  have EL := Lib.hid (show valLO ps zs = if codeK ps zs = 0 then outK zs zs.length else [] from rfl)
  clear hcu hr
  by_cases h0 : codeK ps zs = 0
  · obtain ⟨h1, h2⟩ := EZ.out h0
    obtain ⟨hp, hzl, hf⟩ := EP.out h1 h2
    have HZ := Lib.hid (fun k (hk : k < zs.length) => (hf k (by omega)).2.1)
    clear hf
    have ZV := Lib.hid (show valLO ps zs = outK zs zs.length by rw [EL.out, if_pos h0])
    rw [ZV.out, h0]
    rw [h0] at CO
    generalize okL ps = o1 at VL CO
    generalize placesOk ps zs = o2 at AP CO
    have hk2 : (zs.length : Int) ≤ 8 := by omega
    clear ZV h1 h2 h0 hzl hz EZ EP EL
    go_enter Try.func22, Try.ntmps22
    go_wp2_with fail
    refine VL.out.mono ?_
    rintro e w1 ⟨rfl, hb1⟩
    have B1 := Lib.hid hb1
    clear hb1
    go_wp2_with fail
    refine (AP.out w1 B1.out).mono ?_
    rintro e w2 ⟨rfl, rfl⟩
    go_wp2_with fail
    refine (CO.out _).mono ?_
    rintro e w3 ⟨rfl, rfl⟩
    go_wp2
    go_loopw [7, 21] (fun u i wr => ∃ k : Nat, k ≤ zs.length ∧ i = .int .i64 (k : Int) ∧ IRow wr w3.heap.size u (outK zs k) ∧ Below w3.heap.size w3 wr) (fun _ i _ => zs.length - (intOf i).toNat)
    case atStart => exact ⟨0, Nat.zero_le _, rfl, irow_nil _ _, Below.refl _ _⟩
    case round =>
      obtain ⟨k, hk, rfl, hr, hb⟩ := hrel
      have HR2 := Lib.hid hr
      have HB3 := Lib.hid hb
      have hsz := hb.size
      have NL := outK_len zs k
      by_cases hlt : k < zs.length
      · obtain ⟨bb, off, rfl, hbs, c1⟩ := HCU.out k hlt
        have d1 := ((B1.out.trans (hb.mono B1.out.size)).cell (p := ⟨bb, off + k, none⟩) hbs).trans c1
        have hk0' : 0 ≤ (k : Int) := by omega
        have hk1 : (k : Int) < (zs.length : Int) := by omega
        have EO := Lib.hid (show outK zs (k + 1) = if zAt zs k < 0 then outK zs k ++ [(k : Int)] else outK zs k from rfl)
        obtain ⟨ns, hns⟩ : ∃ ns, Hid (outK zs k = ns) := ⟨_, Lib.hid rfl⟩
        rw [hns.out] at NL HR2 EO
        have hzk := HZ.out k hlt
        clear c1 hb hr
        generalize zAt zs k = z at d1 EO hzk
        by_cases hd : z = -1
        · subst hd
          have SM := Lib.hid (show outK zs (k + 1) = ns ++ [(k : Int)] by rw [EO.out, if_pos (by omega)])
          go_wp2_with (at_builtin; refine wpList_append_own _ rfl _ _ 26 rfl (w3.heap.size) 2 i0 (.int .i64 0) 1 8 Try.underlying26 hi hz0 hz1 hz2 rfl (by decide) _ ns.length _ rfl (HR2.out.alloc _) ⟨wr.heap.size, 0, none⟩ 1 1 [.int .i64 (k : Int)] rfl rfl (newL _ _ _ (by first | rfl | simp)) (cellL _) (by unfold maxLen; omega) (by omega) (by simp; omega) ?_; intro v4 w4 hown1 hg1 _)
          go_roundw
          case rel => exact ⟨k + 1, by omega, by go_num, by rw [SM.out]; exact snocL hown1, (HB3.out.alloc hsz _).grown hg1 (by simp; omega) (fun j hj => (HR2.out.lt j hj).1)⟩
          case measure => simp [intOf]; omega
        · have SM := Lib.hid (show outK zs (k + 1) = ns by rw [EO.out, if_neg (by omega)])
          have hd2 : decide (z = -1) = false := by simpa using hd
          have hd3 : (z == -1) = false := by simpa using hd
          clear hzk
          go_wp2
          go_roundw
          case rel => exact ⟨k + 1, by omega, by go_num, by rw [SM.out]; exact HR2.out, HB3.out⟩
          case measure => simp [intOf]; omega
      · obtain rfl : k = zs.length := by omega
        clear hr hb
        go_wp2
        exact bodyPost_ret (v := .tuple #[u7, .int .i64 0]) (by simp [results, Try.results22, go_sem]) rfl ⟨_, rfl, irow_up HR2.out B1.out.size, B1.out.trans (HB3.out.mono B1.out.size)⟩
  · have ZV := Lib.hid (show valLO ps zs = [] by rw [EL.out, if_neg h0])
    rw [ZV.out]
    have hzz1 : decide (codeK ps zs = 0) = false := by simpa using h0
    have hzz2 : (codeK ps zs == 0) = false := by simpa using h0
    generalize codeK ps zs = C at h0 hzz1 hzz2 CO ⊢
    generalize okL ps = o1 at VL CO
    generalize placesOk ps zs = o2 at AP CO
    clear ZV HCU EZ EP EL
    go_enter Try.func22, Try.ntmps22
    go_wp2_with fail
    refine VL.out.mono ?_
    rintro e w1 ⟨rfl, hb1⟩
    have B1 := Lib.hid hb1
    clear hb1
    go_wp2_with fail
    refine (AP.out w1 B1.out).mono ?_
    rintro e w2 ⟨rfl, rfl⟩
    go_wp2_with fail
    refine (CO.out _).mono ?_
    rintro e w3 ⟨rfl, rfl⟩
    go_wp2
    exact bodyPost_ret (v := .tuple #[.slice none 0 0, .int .i64 C]) (by simp [results, Try.results22, go_sem]) rfl ⟨_, rfl, irow_nil _ _, B1.out⟩
end Go.Proofs.Ytmfjpmimkpldjaa.ltab
