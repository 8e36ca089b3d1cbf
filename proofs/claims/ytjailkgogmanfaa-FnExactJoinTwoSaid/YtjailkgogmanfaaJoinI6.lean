/- Two chains joined: contracts of the program. -/
import Derived.Test.YtjailkgogmanfaaJoinI5
import Derived.Deep.RegionHeld3
namespace Go.Proofs.Ytjailkgogmanfaa.sines
open Go.ChangeShapes Go.WideShapes Go.ChangeAt Go.RowKit Go.Proofs.Ytjailkgogmanfaa.spots Go.Proofs.Ytjailkgogmanfaa.irows Go.Proofs.Ytjailkgogmanfaa.pairsPlace
set_option linter.unusedSimpArgs false
set_option linter.unusedVariables false

theorem pat_tail' {w : World} {B b off k c : Nat} {ps : List Pl} (h : PAt w B (.slice (some ⟨b, off, none⟩) (k + 1) c) ps) (hl : ps.length = k + 1) : PAt w B (.slice (some ⟨b, off + 2, none⟩) k (c - 1)) (ps.drop 1) := pat_tail h (by omega)
theorem concat_rel (W0 w : World) (gr cr m g off n c : Nat) (ps qs : List Pl) (h2 : PRow w W0.heap.size (.slice (some ⟨gr, 0, none⟩) (m + 1) cr) qs) (hm : qs.length = m + 1) (hb : Below W0.heap.size W0 w) (hP : PAt W0 W0.heap.size (.slice (some ⟨g, off, none⟩) (n + 1) c) ps) (hn : ps.length = n + 1) (n1 : 1 ≤ n) (n2 : n ≤ 40) (m2 : m ≤ 40) :
    Calls Try.prog 107 #[.slice (some ⟨w.heap.size, 0, none⟩) 2 2] (w.alloc (.cells #[.slice (some ⟨gr, 0, none⟩) (m + 1) cr, .slice (some ⟨g, off + 2, none⟩) n (c - 1)] 82)) fun e w' => ∃ r, e = .returned r ∧ PRow w' W0.heap.size r (qs ++ ps.drop 1) ∧ PAt w' w'.heap.size r (qs ++ ps.drop 1) ∧ Below W0.heap.size W0 w' := by
  have BL := (Below.refl w.heap.size w).alloc (Nat.le_refl _) (.cells #[.slice (some ⟨gr, 0, none⟩) (m + 1) cr, .slice (some ⟨g, off + 2, none⟩) n (c - 1)] 82)
  refine (concat_any w.heap.size 0 _ (.slice (some ⟨g, off + 2, none⟩) n (c - 1)) qs (ps.drop 1) _ (by simp) (by simp) (pat_up (pat_keep (prow_at h2) BL) BL.size) (pat_up (pat_keep (pat_up (pat_keep (pat_tail' hP hn) hb) hb.size) BL) BL.size) (by omega) (by rw [List.length_drop]; omega) (by omega) (by rw [List.length_drop]; omega)).mono ?_
  rintro e w' ⟨r, rfl, hr, hb2⟩
  have B2 := BL.trans (hb2.mono BL.size)
  exact ⟨r, rfl, prow_up hr (Nat.le_trans hb.size BL.size), prow_at hr, hb.trans (B2.mono hb.size)⟩
set_option maxRecDepth 100000 in
set_option maxHeartbeats 4000000 in
theorem joinedTo_any (v u : Value) (ps qs : List (Int × Int)) (w : World) (hv : PAt w w.heap.size v ps) (hu : PAt w w.heap.size u qs) (hcv : CapOk v) (hcu : CapOk u) (ha : okC ps = true) (hb' : okC qs = true) :
    Calls Try.prog 71 #[v, u] w fun e w' => ∃ r, e = .returned (.tuple #[r, .int .i64 (codeJ ps qs)]) ∧ PRow w' w.heap.size r (joinR ps qs) ∧ Below w.heap.size w w' := by
  obtain ⟨ha2, ha24, _⟩ := okC_of ha
  obtain ⟨hb2, hb24, _⟩ := okC_of hb'
  obtain ⟨g, off, c, rfl, _, _, _, _, _⟩ := ends_at hv (by omega)
  obtain ⟨g', off', c', rfl, _, _, _, _, _⟩ := ends_at hu (by omega)
  have hc1 : ps.length ≤ c := hcv _ _ _ rfl
  have hc2 : qs.length ≤ c' := hcu _ _ _ rfl
  obtain ⟨n, hn⟩ : ∃ n : Nat, Hid (ps.length = n + 1) := ⟨ps.length - 1, Lib.hid (by omega)⟩
  obtain ⟨m, hm⟩ : ∃ m : Nat, Hid (qs.length = m + 1) := ⟨qs.length - 1, Lib.hid (by omega)⟩
  have hnl := hn.out
  have hml := hm.out
  rw [hn.out] at hv hcv ⊢
  rw [hm.out] at hu hcu ⊢
  have PA := Lib.hid hv
  have PB := Lib.hid hu
  have CA := Lib.hid (fun W (hb : Below w.heap.size w W) => isClosed_any _ ps W (pat_up (pat_keep hv hb) hb.size) (by omega))
  have CB := Lib.hid (fun W (hb : Below w.heap.size w W) => isClosed_any _ qs W (pat_up (pat_keep hu hb) hb.size) (by omega))
  have FA := Lib.hid (fun W (hb : Below w.heap.size w W) => first_any _ ps W (pat_up (pat_keep hv hb) hb.size) (by omega))
  have FB := Lib.hid (fun W (hb : Below w.heap.size w W) => first_any _ qs W (pat_up (pat_keep hu hb) hb.size) (by omega))
  have LA := Lib.hid (fun W (hb : Below w.heap.size w W) => last_any _ ps W (pat_up (pat_keep hv hb) hb.size) (by omega) (by omega))
  have LB := Lib.hid (fun W (hb : Below w.heap.size w W) => last_any _ qs W (pat_up (pat_keep hu hb) hb.size) (by omega) (by omega))
  have FEB := Lib.hid (fun W (hb : Below w.heap.size w W) => by have h := fromEnd_any _ qs W (pat_up (pat_keep hu hb) hb.size) (by omega) (by omega); rw [hm.out] at h; exact h)
  have FEB2 := Lib.hid (fun W0 (h0 : Below w.heap.size w W0) W (hb : Below W0.heap.size W0 W) => show Calls Try.prog 84 #[.slice (some ⟨g', off', none⟩) (m + 1) c'] W fun e w' => ∃ gr cr, e = .returned (.slice (some ⟨gr, 0, none⟩) (m + 1) cr) ∧ PRow w' W0.heap.size (.slice (some ⟨gr, 0, none⟩) (m + 1) cr) qs.reverse ∧ Below W0.heap.size W0 w' ∧ m + 1 ≤ cr from
    (FEB.out W (h0.trans (hb.mono h0.size))).mono fun _ _ ⟨gr, cr, h1, h2, _, h4⟩ => ⟨gr, cr, h1, prow_up h2 hb.size, hb.trans (h4.mono hb.size), prow_capOk h2 _ _ _ rfl⟩)
  have CO4 := Lib.hid (fun W0 (h0 : Below w.heap.size w W0) W gr cr (hcr : m + 1 ≤ cr) (h2 : PRow W W0.heap.size (.slice (some ⟨gr, 0, none⟩) (m + 1) cr) qs.reverse) (hb : Below W0.heap.size W0 W) => by have h := concat_rel W0 W gr cr m g off n c ps qs.reverse h2 (by rw [List.length_reverse]; exact hml) hb (pat_up (pat_keep hv h0) h0.size) hnl (by omega) (by omega) (by omega); exact h.mono fun e w' ⟨r, e1, e2, e3, e4⟩ => (⟨r, e1, prow_up e2 h0.size, e3, e4⟩ : ∃ r, e = Ending.returned r ∧ PRow w' w.heap.size r (qs.reverse ++ ps.drop 1) ∧ PAt w' w'.heap.size r (qs.reverse ++ ps.drop 1) ∧ Below W0.heap.size W0 w'))
  obtain ⟨x1, hx1⟩ : ∃ x, Hid ((pAt ps 0).1 = x) := ⟨_, Lib.hid rfl⟩
  obtain ⟨x2, hx2⟩ : ∃ x, Hid ((pAt ps 0).2 = x) := ⟨_, Lib.hid rfl⟩
  obtain ⟨t1, ht1⟩ : ∃ x, Hid ((lastP ps).1 = x) := ⟨_, Lib.hid rfl⟩
  obtain ⟨t2, ht2⟩ : ∃ x, Hid ((lastP ps).2 = x) := ⟨_, Lib.hid rfl⟩
  obtain ⟨p1, hp1⟩ : ∃ x, Hid ((pAt qs 0).1 = x) := ⟨_, Lib.hid rfl⟩
  obtain ⟨p2, hp2⟩ : ∃ x, Hid ((pAt qs 0).2 = x) := ⟨_, Lib.hid rfl⟩
  obtain ⟨q1, hq1⟩ : ∃ x, Hid ((lastP qs).1 = x) := ⟨_, Lib.hid rfl⟩
  obtain ⟨q2, hq2⟩ : ∃ x, Hid ((lastP qs).2 = x) := ⟨_, Lib.hid rfl⟩
  rw [hx1.out, hx2.out] at FA
  rw [ht1.out, ht2.out] at LA
  rw [hp1.out, hp2.out] at FB
  rw [hq1.out, hq2.out] at LB
  have n3 : (1 : Int) ≤ (n : Int) + 1 := by omega
  have m3 : (1 : Int) ≤ (m : Int) + 1 := by omega
  have cn : ¬ c = 1 := by omega
  have cn' : ¬ c' = 1 := by omega
  have B0 := Lib.hid (Below.refl w.heap.size w)
  clear hv hu hcv hcu
  obtain ⟨kA, KA⟩ : ∃ b, Hid (closedB ps = b) := ⟨_, Lib.hid rfl⟩
  obtain ⟨kB, KB⟩ : ∃ b, Hid (closedB qs = b) := ⟨_, Lib.hid rfl⟩
  rw [KA.out] at CA
  rw [KB.out] at CB
  cases kA with
  | true =>
    have EC : codeJ ps qs = 6 := by unfold codeJ; rw [KA.out]; rfl
    have ER : joinR ps qs = [] := by unfold joinR; rw [EC]; rfl
    rw [EC, ER]
    clear EC ER
    go_enter Try.func71, Try.ntmps71
    go_wp2_with fail
    refine (CA.out _ B0.out).mono ?_
    rintro e w1 ⟨rfl, hb⟩
    go_wp2
    exact bodyPost_ret (v := .tuple #[.slice none 0 0, .int .i64 6]) (by simp [results, Try.results71, go_sem]) rfl ⟨_, rfl, prow_nil _ _, hb⟩
  | false =>
    cases kB with
    | true =>
      have EC : codeJ ps qs = 6 := by unfold codeJ; rw [KA.out, KB.out]; rfl
      have ER : joinR ps qs = [] := by unfold joinR; rw [EC]; rfl
      rw [EC, ER]
      clear EC ER
      go_enter Try.func71, Try.ntmps71
      go_wp2_with fail
      refine (CA.out _ B0.out).mono ?_
      rintro e w1 ⟨rfl, hb⟩
      have B1 := Lib.hid hb
      clear hb
      go_wp2_with fail
      refine (CB.out _ B1.out).mono ?_
      rintro e w2 ⟨rfl, hb⟩
      have B2 := Lib.hid (B1.out.trans (hb.mono B1.out.size))
      clear hb
      go_wp2
      exact bodyPost_ret (v := .tuple #[.slice none 0 0, .int .i64 6]) (by simp [results, Try.results71, go_sem]) rfl ⟨_, rfl, prow_nil _ _, B2.out⟩
    | false =>
      by_cases h1 : t1 = p1 ∧ t2 = p2
      · have f1 := fun W => eqlP t1 t2 p1 p2 W
        rw [decide_eq_true h1] at f1
        have EQ1 := Lib.hid (show lastP ps = pAt qs 0 from Prod.ext (by rw [ht1.out, hp1.out]; exact h1.1) (by rw [ht2.out, hp2.out]; exact h1.2))
        clear h1
        have EJ : joinO ps qs = some (ps ++ qs.drop 1) := by unfold joinO; rw [if_pos (EQ1.out)]
        obtain ⟨XX, hXX⟩ : ∃ X, Hid (ps ++ qs.drop 1 = X) := ⟨_, Lib.hid rfl⟩
        rw [hXX.out] at EJ
        have EC : codeJ ps qs = if okC XX = true then 0 else 5 := by unfold codeJ; rw [EJ, KA.out, KB.out]; rfl
        have ER : joinR ps qs = if okC XX = true then XX else [] := by unfold joinR; rw [EC, EJ]; cases okC XX <;> simp
        have XL : XX.length ≤ 48 := by have := joinO_len (by omega) (by omega) EJ; omega
        rw [EC, ER]
        clear EC ER EJ
        obtain ⟨bx, hbx⟩ : ∃ b, Hid (okC XX = b) := ⟨_, Lib.hid rfl⟩
        rw [hbx.out]
        have VC := Lib.hid (fun v W (h : PAt W W.heap.size v XX) => by have h2 := implValidChain_any v XX W h (by omega); rw [hbx.out] at h2; exact h2)
        go_enter Try.func71, Try.ntmps71
        go_wp2_with fail
        refine (CA.out _ B0.out).mono ?_
        rintro e w1 ⟨rfl, hb⟩
        have B1 := Lib.hid (B0.out.trans (hb.mono B0.out.size))
        clear hb
        go_wp2_with fail
        refine (CB.out _ B1.out).mono ?_
        rintro e w2 ⟨rfl, hb⟩
        have B2 := Lib.hid (B1.out.trans (hb.mono B1.out.size))
        clear hb
        go_wp2_with fail
        refine (LA.out _ B2.out).mono ?_
        rintro e w3 ⟨rfl, hb⟩
        have B3 := Lib.hid (B2.out.trans (hb.mono B2.out.size))
        clear hb
        go_wp2_with fail
        refine (FB.out _ B3.out).mono ?_
        rintro e w4 ⟨rfl, hb⟩
        have B4 := Lib.hid (B3.out.trans (hb.mono B3.out.size))
        clear hb
        go_wp2_with fail
        have BL := Lib.hid (B4.out.alloc B4.out.size (.cells #[.slice (some ⟨g, off, none⟩) (n + 1) c, (.slice (some ⟨g', off' + 2, none⟩) m (c' - 1))] 82))
        have CO := Lib.hid (concat_any w4.heap.size 0 _ (.slice (some ⟨g', off' + 2, none⟩) m (c' - 1)) ps (qs.drop 1) (w4.alloc (.cells #[.slice (some ⟨g, off, none⟩) (n + 1) c, (.slice (some ⟨g', off' + 2, none⟩) m (c' - 1))] 82)) (by simp) (by simp) (pat_up (pat_keep PA.out BL.out) BL.out.size) (pat_up (pat_keep (pat_tail' PB.out hm.out) BL.out) BL.out.size) (by omega) (by rw [List.length_drop]; omega) (by omega) (by rw [List.length_drop]; omega))
        rw [hXX.out] at CO
        refine CO.out.mono ?_
        rintro e w5 ⟨r, rfl, hr, hb⟩
        have HR := Lib.hid (prow_up hr BL.out.size)
        have B5 := Lib.hid (BL.out.trans (hb.mono BL.out.size))
        have PR := Lib.hid (prow_at hr)
        clear hb hr CO
        obtain ⟨ar, cr2, er, _⟩ := PR.out
        subst er
        go_wp2_with fail
        refine (VC.out _ _ PR.out).mono ?_
        rintro e w6 ⟨rfl, hb⟩
        have HR2 := Lib.hid (prow_keep HR.out hb)
        have B6 := Lib.hid (B5.out.trans (hb.mono B5.out.size))
        clear hb
        cases bx with
        | true =>
          go_wp2
          all_goals exact bodyPost_ret (v := .tuple #[.slice ar XX.length cr2, .int .i64 0]) (by simp [results, Try.results71, go_sem]) rfl ⟨_, rfl, HR2.out, B6.out⟩
        | false =>
          go_wp2
          all_goals exact bodyPost_ret (v := .tuple #[.slice none 0 0, .int .i64 5]) (by simp [results, Try.results71, go_sem]) rfl ⟨_, rfl, prow_nil _ _, B6.out⟩
      · have f1 := fun W => eqlP t1 t2 p1 p2 W
        rw [decide_eq_false h1] at f1
        have NE1 := Lib.hid (show ¬ lastP ps = pAt qs 0 from fun k => h1 ⟨by rw [← ht1.out, ← hp1.out, k], by rw [← ht2.out, ← hp2.out, k]⟩)
        clear h1
        by_cases h2 : t1 = q1 ∧ t2 = q2
        · have f2 := fun W => eqlP t1 t2 q1 q2 W
          rw [decide_eq_true h2] at f2
          have EQ2 := Lib.hid (show lastP ps = lastP qs from Prod.ext (by rw [ht1.out, hq1.out]; exact h2.1) (by rw [ht2.out, hq2.out]; exact h2.2))
          clear h2
          have EJ : joinO ps qs = some (ps ++ qs.reverse.drop 1) := by unfold joinO; rw [if_neg (NE1.out), if_pos (EQ2.out)]
          obtain ⟨XX, hXX⟩ : ∃ X, Hid (ps ++ qs.reverse.drop 1 = X) := ⟨_, Lib.hid rfl⟩
          rw [hXX.out] at EJ
          have EC : codeJ ps qs = if okC XX = true then 0 else 5 := by unfold codeJ; rw [EJ, KA.out, KB.out]; rfl
          have ER : joinR ps qs = if okC XX = true then XX else [] := by unfold joinR; rw [EC, EJ]; cases okC XX <;> simp
          have XL : XX.length ≤ 48 := by have := joinO_len (by omega) (by omega) EJ; omega
          rw [EC, ER]
          clear EC ER EJ
          obtain ⟨bx, hbx⟩ : ∃ b, Hid (okC XX = b) := ⟨_, Lib.hid rfl⟩
          rw [hbx.out]
          have VC := Lib.hid (fun v W (h : PAt W W.heap.size v XX) => by have h2 := implValidChain_any v XX W h (by omega); rw [hbx.out] at h2; exact h2)
          go_enter Try.func71, Try.ntmps71
          go_wp2_with fail
          refine (CA.out _ B0.out).mono ?_
          rintro e w1 ⟨rfl, hb⟩
          have B1 := Lib.hid (B0.out.trans (hb.mono B0.out.size))
          clear hb
          go_wp2_with fail
          refine (CB.out _ B1.out).mono ?_
          rintro e w2 ⟨rfl, hb⟩
          have B2 := Lib.hid (B1.out.trans (hb.mono B1.out.size))
          clear hb
          go_wp2_with fail
          refine (LA.out _ B2.out).mono ?_
          rintro e w3 ⟨rfl, hb⟩
          have B3 := Lib.hid (B2.out.trans (hb.mono B2.out.size))
          clear hb
          go_wp2_with fail
          refine (FB.out _ B3.out).mono ?_
          rintro e w4 ⟨rfl, hb⟩
          have B4 := Lib.hid (B3.out.trans (hb.mono B3.out.size))
          clear hb
          go_wp2_with fail
          refine (LA.out _ B4.out).mono ?_
          rintro e w5 ⟨rfl, hb⟩
          have B5 := Lib.hid (B4.out.trans (hb.mono B4.out.size))
          clear hb
          go_wp2_with fail
          refine (LB.out _ B5.out).mono ?_
          rintro e w6 ⟨rfl, hb⟩
          have B6 := Lib.hid (B5.out.trans (hb.mono B5.out.size))
          clear hb
          go_wp2_with fail
          refine (FEB.out _ B6.out).mono ?_
          rintro e w7 ⟨gr, cr, rfl, hr, _, hb⟩
          have B7 := Lib.hid (B6.out.trans (hb.mono B6.out.size))
          have hcr : m + 1 ≤ cr := prow_capOk hr _ _ _ rfl
          have crn : ¬ cr = 1 := by omega
          have PRV := Lib.hid (prow_at hr)
          clear hb hr
          go_wp2_with fail
          have BL := Lib.hid (B7.out.alloc B7.out.size (.cells #[.slice (some ⟨g, off, none⟩) (n + 1) c, (.slice (some ⟨gr, 2, none⟩) m (cr - 1))] 82))
          have BL2 := Lib.hid ((Below.refl w7.heap.size w7).alloc (Nat.le_refl _) (.cells #[.slice (some ⟨g, off, none⟩) (n + 1) c, (.slice (some ⟨gr, 2, none⟩) m (cr - 1))] 82))
          have CO := Lib.hid (concat_any w7.heap.size 0 _ (.slice (some ⟨gr, 2, none⟩) m (cr - 1)) ps (qs.reverse.drop 1) (w7.alloc (.cells #[.slice (some ⟨g, off, none⟩) (n + 1) c, (.slice (some ⟨gr, 2, none⟩) m (cr - 1))] 82)) (by simp) (by simp) (pat_up (pat_keep PA.out BL.out) BL.out.size) (pat_up (pat_keep (pat_tail' PRV.out (by rw [List.length_reverse]; exact hm.out)) BL2.out) BL2.out.size) (by omega) (by rw [List.length_drop, List.length_reverse]; omega) (by omega) (by rw [List.length_drop, List.length_reverse]; omega))
          rw [hXX.out] at CO
          refine CO.out.mono ?_
          rintro e w8 ⟨r, rfl, hr, hb⟩
          have HR := Lib.hid (prow_up hr BL.out.size)
          have B8 := Lib.hid (BL.out.trans (hb.mono BL.out.size))
          have PR := Lib.hid (prow_at hr)
          clear hb hr CO
          obtain ⟨ar, cr2, er, _⟩ := PR.out
          subst er
          go_wp2_with fail
          refine (VC.out _ _ PR.out).mono ?_
          rintro e w9 ⟨rfl, hb⟩
          have HR2 := Lib.hid (prow_keep HR.out hb)
          have B9 := Lib.hid (B8.out.trans (hb.mono B8.out.size))
          clear hb
          cases bx with
          | true =>
            go_wp2
            all_goals exact bodyPost_ret (v := .tuple #[.slice ar XX.length cr2, .int .i64 0]) (by simp [results, Try.results71, go_sem]) rfl ⟨_, rfl, HR2.out, B9.out⟩
          | false =>
            go_wp2
            all_goals exact bodyPost_ret (v := .tuple #[.slice none 0 0, .int .i64 5]) (by simp [results, Try.results71, go_sem]) rfl ⟨_, rfl, prow_nil _ _, B9.out⟩
        · have f2 := fun W => eqlP t1 t2 q1 q2 W
          rw [decide_eq_false h2] at f2
          have NE2 := Lib.hid (show ¬ lastP ps = lastP qs from fun k => h2 ⟨by rw [← ht1.out, ← hq1.out, k], by rw [← ht2.out, ← hq2.out, k]⟩)
          clear h2
          by_cases h3 : x1 = q1 ∧ x2 = q2
          · have f3 := fun W => eqlP x1 x2 q1 q2 W
            rw [decide_eq_true h3] at f3
            have EQ3 := Lib.hid (show pAt ps 0 = lastP qs from Prod.ext (by rw [hx1.out, hq1.out]; exact h3.1) (by rw [hx2.out, hq2.out]; exact h3.2))
            clear h3
            have EJ : joinO ps qs = some (qs ++ ps.drop 1) := by unfold joinO; rw [if_neg (NE1.out), if_neg (NE2.out), if_pos (EQ3.out)]
            obtain ⟨XX, hXX⟩ : ∃ X, Hid (qs ++ ps.drop 1 = X) := ⟨_, Lib.hid rfl⟩
            rw [hXX.out] at EJ
            have EC : codeJ ps qs = if okC XX = true then 0 else 5 := by unfold codeJ; rw [EJ, KA.out, KB.out]; rfl
            have ER : joinR ps qs = if okC XX = true then XX else [] := by unfold joinR; rw [EC, EJ]; cases okC XX <;> simp
            have XL : XX.length ≤ 48 := by have := joinO_len (by omega) (by omega) EJ; omega
            rw [EC, ER]
            clear EC ER EJ
            obtain ⟨bx, hbx⟩ : ∃ b, Hid (okC XX = b) := ⟨_, Lib.hid rfl⟩
            rw [hbx.out]
            have VC := Lib.hid (fun v W (h : PAt W W.heap.size v XX) => by have h2 := implValidChain_any v XX W h (by omega); rw [hbx.out] at h2; exact h2)
            go_enter Try.func71, Try.ntmps71
            go_wp2_with fail
            refine (CA.out _ B0.out).mono ?_
            rintro e w1 ⟨rfl, hb⟩
            have B1 := Lib.hid (B0.out.trans (hb.mono B0.out.size))
            clear hb
            go_wp2_with fail
            refine (CB.out _ B1.out).mono ?_
            rintro e w2 ⟨rfl, hb⟩
            have B2 := Lib.hid (B1.out.trans (hb.mono B1.out.size))
            clear hb
            go_wp2_with fail
            refine (LA.out _ B2.out).mono ?_
            rintro e w3 ⟨rfl, hb⟩
            have B3 := Lib.hid (B2.out.trans (hb.mono B2.out.size))
            clear hb
            go_wp2_with fail
            refine (FB.out _ B3.out).mono ?_
            rintro e w4 ⟨rfl, hb⟩
            have B4 := Lib.hid (B3.out.trans (hb.mono B3.out.size))
            clear hb
            go_wp2_with fail
            refine (LA.out _ B4.out).mono ?_
            rintro e w5 ⟨rfl, hb⟩
            have B5 := Lib.hid (B4.out.trans (hb.mono B4.out.size))
            clear hb
            go_wp2_with fail
            refine (LB.out _ B5.out).mono ?_
            rintro e w6 ⟨rfl, hb⟩
            have B6 := Lib.hid (B5.out.trans (hb.mono B5.out.size))
            clear hb
            go_wp2_with fail
            refine (FA.out _ B6.out).mono ?_
            rintro e w7 ⟨rfl, hb⟩
            have B7 := Lib.hid (B6.out.trans (hb.mono B6.out.size))
            clear hb
            go_wp2_with fail
            refine (LB.out _ B7.out).mono ?_
            rintro e w8 ⟨rfl, hb⟩
            have B8 := Lib.hid (B7.out.trans (hb.mono B7.out.size))
            clear hb
            go_wp2_with fail
            have BL := Lib.hid (B8.out.alloc B8.out.size (.cells #[.slice (some ⟨g', off', none⟩) (m + 1) c', (.slice (some ⟨g, off + 2, none⟩) n (c - 1))] 82))
            have CO := Lib.hid (concat_any w8.heap.size 0 _ (.slice (some ⟨g, off + 2, none⟩) n (c - 1)) qs (ps.drop 1) (w8.alloc (.cells #[.slice (some ⟨g', off', none⟩) (m + 1) c', (.slice (some ⟨g, off + 2, none⟩) n (c - 1))] 82)) (by simp) (by simp) (pat_up (pat_keep PB.out BL.out) BL.out.size) (pat_up (pat_keep (pat_tail' PA.out hn.out) BL.out) BL.out.size) (by omega) (by rw [List.length_drop]; omega) (by omega) (by rw [List.length_drop]; omega))
            rw [hXX.out] at CO
            refine CO.out.mono ?_
            rintro e w9 ⟨r, rfl, hr, hb⟩
            have HR := Lib.hid (prow_up hr BL.out.size)
            have B9 := Lib.hid (BL.out.trans (hb.mono BL.out.size))
            have PR := Lib.hid (prow_at hr)
            clear hb hr CO
            obtain ⟨ar, cr2, er, _⟩ := PR.out
            subst er
            go_wp2_with fail
            refine (VC.out _ _ PR.out).mono ?_
            rintro e w10 ⟨rfl, hb⟩
            have HR2 := Lib.hid (prow_keep HR.out hb)
            have B10 := Lib.hid (B9.out.trans (hb.mono B9.out.size))
            clear hb
            cases bx with
            | true =>
              go_wp2
              all_goals exact bodyPost_ret (v := .tuple #[.slice ar XX.length cr2, .int .i64 0]) (by simp [results, Try.results71, go_sem]) rfl ⟨_, rfl, HR2.out, B10.out⟩
            | false =>
              go_wp2
              all_goals exact bodyPost_ret (v := .tuple #[.slice none 0 0, .int .i64 5]) (by simp [results, Try.results71, go_sem]) rfl ⟨_, rfl, prow_nil _ _, B10.out⟩
          · have f3 := fun W => eqlP x1 x2 q1 q2 W
            rw [decide_eq_false h3] at f3
            have NE3 := Lib.hid (show ¬ pAt ps 0 = lastP qs from fun k => h3 ⟨by rw [← hx1.out, ← hq1.out, k], by rw [← hx2.out, ← hq2.out, k]⟩)
            clear h3
            by_cases h4 : x1 = p1 ∧ x2 = p2
            · have f4 := fun W => eqlP x1 x2 p1 p2 W
              rw [decide_eq_true h4] at f4
              have EQ4 := Lib.hid (show pAt ps 0 = pAt qs 0 from Prod.ext (by rw [hx1.out, hp1.out]; exact h4.1) (by rw [hx2.out, hp2.out]; exact h4.2))
              clear h4
              have EJ : joinO ps qs = some (qs.reverse ++ ps.drop 1) := by unfold joinO; rw [if_neg (NE1.out), if_neg (NE2.out), if_neg (NE3.out), if_pos (EQ4.out)]
              obtain ⟨XX, hXX⟩ : ∃ X, Hid (qs.reverse ++ ps.drop 1 = X) := ⟨_, Lib.hid rfl⟩
              rw [hXX.out] at EJ
              have EC : codeJ ps qs = if okC XX = true then 0 else 5 := by unfold codeJ; rw [EJ, KA.out, KB.out]; rfl
              have ER : joinR ps qs = if okC XX = true then XX else [] := by unfold joinR; rw [EC, EJ]; cases okC XX <;> simp
              have XL : XX.length ≤ 48 := by have := joinO_len (by omega) (by omega) EJ; omega
              rw [EC, ER]
              clear EC ER EJ
              rw [hXX.out] at CO4
              obtain ⟨bx, hbx⟩ : ∃ b, Hid (okC XX = b) := ⟨_, Lib.hid rfl⟩
              rw [hbx.out]
              have VC := Lib.hid (fun v W (h : PAt W W.heap.size v XX) => by have h2 := implValidChain_any v XX W h (by omega); rw [hbx.out] at h2; exact h2)
              go_enter Try.func71, Try.ntmps71
              go_wp2_with fail
              refine (CA.out _ B0.out).mono ?_
              rintro e w1 ⟨rfl, hb⟩
              have B1 := Lib.hid (B0.out.trans (hb.mono B0.out.size))
              clear hb
              go_wp2_with fail
              refine (CB.out _ B1.out).mono ?_
              rintro e w2 ⟨rfl, hb⟩
              have B2 := Lib.hid (B1.out.trans (hb.mono B1.out.size))
              clear hb
              go_wp2_with fail
              refine (LA.out _ B2.out).mono ?_
              rintro e w3 ⟨rfl, hb⟩
              have B3 := Lib.hid (B2.out.trans (hb.mono B2.out.size))
              clear hb
              go_wp2_with fail
              refine (FB.out _ B3.out).mono ?_
              rintro e w4 ⟨rfl, hb⟩
              have B4 := Lib.hid (B3.out.trans (hb.mono B3.out.size))
              clear hb
              go_wp2_with fail
              refine (LA.out _ B4.out).mono ?_
              rintro e w5 ⟨rfl, hb⟩
              have B5 := Lib.hid (B4.out.trans (hb.mono B4.out.size))
              clear hb
              go_wp2_with fail
              refine (LB.out _ B5.out).mono ?_
              rintro e w6 ⟨rfl, hb⟩
              have B6 := Lib.hid (B5.out.trans (hb.mono B5.out.size))
              clear hb
              go_wp2_with fail
              refine (FA.out _ B6.out).mono ?_
              rintro e w7 ⟨rfl, hb⟩
              have B7 := Lib.hid (B6.out.trans (hb.mono B6.out.size))
              clear hb
              go_wp2_with fail
              refine (LB.out _ B7.out).mono ?_
              rintro e w8 ⟨rfl, hb⟩
              have B8 := Lib.hid (B7.out.trans (hb.mono B7.out.size))
              clear hb
              go_wp2_with fail
              refine (FA.out _ B8.out).mono ?_
              rintro e w9 ⟨rfl, hb⟩
              have B9 := Lib.hid (B8.out.trans (hb.mono B8.out.size))
              clear hb
              go_wp2_with fail
              refine (FB.out _ B9.out).mono ?_
              rintro e w10 ⟨rfl, hb⟩
              have B10 := Lib.hid (B9.out.trans (hb.mono B9.out.size))
              clear hb
              go_wp2_with fail
              go_region_held3 (fun _ => True) (first | exact trivial | skip) (first | ((go_at_call 84; refine (FEB2.out w10 B10.out _ (by repeat (first | assumption | exact Below.refl _ _ | exact Below.refl _ _ | refine Below.drew ?_ | refine bdP ?_ _))).mono ?_; rintro e w90 ⟨gr, cr, rfl, hr, hb, hcr⟩; have crn : ¬ cr = 1 := (by omega); have PRV := Lib.hid (prow_at hr); have B90 := Lib.hid hb; clear hb)) | (go_at_call 107; refine (CO4.out w10 B10.out _ gr cr hcr hr B90.out).mono ?_; rintro e w91 ⟨r, rfl, hr9, hp9, hb9⟩))
              all_goals
                have HR := Lib.hid hr9
                have PR := Lib.hid hp9
                have B11 := Lib.hid (B10.out.trans (hb9.mono B10.out.size))
                clear hb9 hr9 hp9
                obtain ⟨ar, cr2, er, _⟩ := PR.out
                subst er
                go_wp2_with fail
                refine (VC.out _ _ PR.out).mono ?_
                rintro e w12 ⟨rfl, hb⟩
                have HR2 := Lib.hid (prow_keep HR.out hb)
                have B12 := Lib.hid (B11.out.trans (hb.mono B11.out.size))
                clear hb
                cases bx with
                | true =>
                  go_wp2
                  all_goals exact bodyPost_ret (v := .tuple #[.slice ar XX.length cr2, .int .i64 0]) (by simp [results, Try.results71, go_sem]) rfl ⟨_, rfl, HR2.out, B12.out⟩
                | false =>
                  go_wp2
                  all_goals exact bodyPost_ret (v := .tuple #[.slice none 0 0, .int .i64 5]) (by simp [results, Try.results71, go_sem]) rfl ⟨_, rfl, prow_nil _ _, B12.out⟩
            · have f4 := fun W => eqlP x1 x2 p1 p2 W
              rw [decide_eq_false h4] at f4
              have NE4 := Lib.hid (show ¬ pAt ps 0 = pAt qs 0 from fun k => h4 ⟨by rw [← hx1.out, ← hp1.out, k], by rw [← hx2.out, ← hp2.out, k]⟩)
              clear h4
              have EJ : joinO ps qs = none := by unfold joinO; rw [if_neg (NE1.out), if_neg (NE2.out), if_neg (NE3.out), if_neg (NE4.out)]
              have EC : codeJ ps qs = 10 := by unfold codeJ; rw [EJ, KA.out, KB.out]; rfl
              have ER : joinR ps qs = [] := by unfold joinR; rw [EC]; rfl
              rw [EC, ER]
              clear EC ER EJ
              go_enter Try.func71, Try.ntmps71
              go_wp2_with fail
              refine (CA.out _ B0.out).mono ?_
              rintro e w1 ⟨rfl, hb⟩
              have B1 := Lib.hid (B0.out.trans (hb.mono B0.out.size))
              clear hb
              go_wp2_with fail
              refine (CB.out _ B1.out).mono ?_
              rintro e w2 ⟨rfl, hb⟩
              have B2 := Lib.hid (B1.out.trans (hb.mono B1.out.size))
              clear hb
              go_wp2_with fail
              refine (LA.out _ B2.out).mono ?_
              rintro e w3 ⟨rfl, hb⟩
              have B3 := Lib.hid (B2.out.trans (hb.mono B2.out.size))
              clear hb
              go_wp2_with fail
              refine (FB.out _ B3.out).mono ?_
              rintro e w4 ⟨rfl, hb⟩
              have B4 := Lib.hid (B3.out.trans (hb.mono B3.out.size))
              clear hb
              go_wp2_with fail
              refine (LA.out _ B4.out).mono ?_
              rintro e w5 ⟨rfl, hb⟩
              have B5 := Lib.hid (B4.out.trans (hb.mono B4.out.size))
              clear hb
              go_wp2_with fail
              refine (LB.out _ B5.out).mono ?_
              rintro e w6 ⟨rfl, hb⟩
              have B6 := Lib.hid (B5.out.trans (hb.mono B5.out.size))
              clear hb
              go_wp2_with fail
              refine (FA.out _ B6.out).mono ?_
              rintro e w7 ⟨rfl, hb⟩
              have B7 := Lib.hid (B6.out.trans (hb.mono B6.out.size))
              clear hb
              go_wp2_with fail
              refine (LB.out _ B7.out).mono ?_
              rintro e w8 ⟨rfl, hb⟩
              have B8 := Lib.hid (B7.out.trans (hb.mono B7.out.size))
              clear hb
              go_wp2_with fail
              refine (FA.out _ B8.out).mono ?_
              rintro e w9 ⟨rfl, hb⟩
              have B9 := Lib.hid (B8.out.trans (hb.mono B8.out.size))
              clear hb
              go_wp2_with fail
              refine (FB.out _ B9.out).mono ?_
              rintro e w10 ⟨rfl, hb⟩
              have B10 := Lib.hid (B9.out.trans (hb.mono B9.out.size))
              clear hb
              go_wp2
              exact bodyPost_ret (v := .tuple #[.slice none 0 0, .int .i64 10]) (by simp [results, Try.results71, go_sem]) rfl ⟨_, rfl, prow_nil _ _, B10.out⟩
set_option maxHeartbeats 1000000 in
theorem implJoinTwo_any (v u : Value) (ps qs : List (Int × Int)) (w : World) (hv : PAt w w.heap.size v ps) (hu : PAt w w.heap.size u qs) (hcv : CapOk v) (hcu : CapOk u) (hl : ps.length ≤ 1048576) (hm : qs.length ≤ 1048576) :
    Calls Try.prog 21 #[v, u] w fun e w' => ∃ r, e = .returned (.tuple #[r, .int .i64 (codeJ2 ps qs)]) ∧ PRow w' w.heap.size r (joinV ps qs) ∧ Below w.heap.size w w' := by
  have AC := Lib.hid (areChains_any _ [ps, qs] _ (cat_two (T := 28) hv hu hcv hcu) (by simp) (fun j hj => by match j, hj with | 0, _ => exact hl | 1, _ => exact hm))
  have eA : [ps, qs].all okC = (okC ps && okC qs) := by simp
  rw [eA] at AC
  have JT := Lib.hid (fun (h1 : okC ps = true) (h2 : okC qs = true) W (hb : Below w.heap.size w W) => joinedTo_any v u ps qs W (pat_up (pat_keep hv hb) hb.size) (pat_up (pat_keep hu hb) hb.size) hcv hcu h1 h2)
  have BL := Lib.hid ((Below.refl w.heap.size w).alloc (Nat.le_refl _) (.cells #[v, u] 28))
  obtain ⟨av, cv, rfl, _⟩ := hv
  obtain ⟨au, cu, rfl, _⟩ := hu
  clear hcv hcu eA
  have E1 : codeJ2 ps qs = if (okC ps && okC qs) = true then codeJ ps qs else 1 := rfl
  have E2 : joinV ps qs = if (okC ps && okC qs) = true then joinR ps qs else [] := rfl
  cases hk : (okC ps && okC qs) with
  | false =>
    rw [E1, E2, hk]
    rw [hk] at AC
    clear E1 E2
    go_enter Try.func21, Try.ntmps21
    go_wp2_with fail
    refine AC.out.mono ?_
    rintro e w1 ⟨rfl, hb⟩
    have B1 := Lib.hid (BL.out.trans (hb.mono BL.out.size))
    clear hb
    go_wp2
    exact bodyPost_ret (v := .tuple #[.slice none 0 0, .int .i64 1]) (by simp [results, Try.results21, go_sem]) rfl ⟨_, rfl, prow_nil _ _, B1.out⟩
  | true =>
    rw [E1, E2, hk, if_pos rfl, if_pos rfl]
    rw [hk] at AC
    have hk2 := hk
    rw [Bool.and_eq_true] at hk2
    have JK := Lib.hid (JT.out hk2.1 hk2.2)
    clear E1 E2 hk hk2 JT
    go_enter Try.func21, Try.ntmps21
    go_wp2_with fail
    refine AC.out.mono ?_
    rintro e w1 ⟨rfl, hb⟩
    have B1 := Lib.hid (BL.out.trans (hb.mono BL.out.size))
    clear hb
    go_wp2_with fail
    refine (JK.out _ B1.out).mono ?_
    rintro e w2 ⟨r, rfl, hr, hb⟩
    have B2 := Lib.hid (B1.out.trans (hb.mono B1.out.size))
    have HR := Lib.hid (prow_up hr B1.out.size)
    obtain ⟨ar, cr, er, _⟩ := prow_at hr
    subst er
    clear hb hr
    go_wp2
    exact bodyPost_ret (v := .tuple #[.slice ar (joinR ps qs).length cr, .int .i64 (codeJ ps qs)]) (by simp [results, Try.results21, go_sem]) rfl ⟨_, rfl, HR.out, B2.out⟩
end Go.Proofs.Ytjailkgogmanfaa.sines
