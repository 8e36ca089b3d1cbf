/- The model's walk through all orders: what it keeps. -/
import Derived.Test.YtkiimdfnobcdpaaShortS
namespace Go.Proofs.Ytkiimdfnobcdpaa.sines
open Go.ChangeShapes Go.WideShapes Go.ChangeAt Go.RowKit Go.Proofs.Ytkiimdfnobcdpaa.spots Go.Proofs.Ytkiimdfnobcdpaa.irows Go.Proofs.Ytkiimdfnobcdpaa.pairs Go.Proofs.Ytkiimdfnobcdpaa.trows
set_option linter.unusedVariables false
theorem pred_cast {n : Nat} (h : 0 < n) : (n : Int) - 1 = ((n - 1 : Nat) : Int) := by omega
theorem far_cell {w w' : World} {g b o : Nat} {v : Value} (hg : w.grownBy w' (some g)) (hne : b ≠ g) (h : w.cell? ⟨b, o, none⟩ = some v) : w'.cell? ⟨b, o, none⟩ = some v :=
  (World.grownBy.cell_far hg ⟨b, o, none⟩ (World.block_lt_of_cell? _ _ h) (fun e => hne (Option.some.inj e))).trans h
theorem grown_of_below {w w' : World} (r : Option Nat) (h : Below w.heap.size w w') : w.grownBy w' r := ⟨h.os, h.tape, h.output, h.size, fun k hk _ => h.block k hk⟩
theorem wst_heap {w w' : World} {g : Nat} {tb vb : Value} {bs : List Nat} {ls : Int} (h : WSt w g tb vb bs ls) (e : w'.heap = w.heap) : WSt w' g tb vb bs ls := ⟨by rw [e]; exact h.1, irow_heap h.2 e⟩
theorem nz_last {os : List Nat} (h : os ≠ []) : ∃ hj : os.length - 1 < (nz os).length, (nz os)[os.length - 1] = ((os.getLastD 0 : Nat) : Int) := by
  have hp : 0 < os.length := List.length_pos_iff.2 h
  refine ⟨by rw [nz_len]; omega, ?_⟩
  simp only [nz, List.getElem_map]
  rw [List.getLastD_eq_getLast?, List.getLast?_eq_getElem?, List.getElem?_eq_getElem (by omega)]
  rfl
theorem last_mem {os : List Nat} (h : os ≠ []) : os.getLastD 0 ∈ os := by
  have hp : 0 < os.length := List.length_pos_iff.2 h
  rw [List.getLastD_eq_getLast?, List.getLast?_eq_getElem?, List.getElem?_eq_getElem (by omega)]
  exact List.getElem_mem _

theorem l00Own_rel (v : Value) (B : Nat) (zs : List Int) (W w : World) (hb : Below W.heap.size W w) (h : IRow w B v zs) (h0 : 0 < zs.length) (hl : zs.length ≤ 100000) :
    Calls Try.prog 63 #[v] w fun e w' => ∃ u, e = .returned u ∧ IRow w' W.heap.size u zs ∧ Below W.heap.size W w' ∧ ∀ b, b < w.heap.size → w'.heap[b]? = w.heap[b]? :=
  (l00Own_any v B zs w h h0 hl).mono fun _ _ ⟨u, h1, h2, h3⟩ => ⟨u, h1, irow_up h2 hb.size, hb.trans (h3.mono hb.size), h3.block⟩

set_option maxRecDepth 100000 in
set_option maxHeartbeats 4000000 in
theorem walk_prune (g : Nat) (tb : Value) (ps : List (Int × Int)) (m : Nat) (os bs : List Nat) (len ls : Int) (vo vb : Value) (w : World) (h1 : WSt w g tb vb bs ls) (h2 : IRow w (g + 1) vo (nz os)) (h3 : DAt w g tb ps) (h4 : os ≠ []) (h5 : os.length + m = ps.length) (h6 : ∀ i ∈ os, i < ps.length) (h7 : 0 ≤ len) (h8 : len ≤ 1000000 * (os.length : Int)) (s1 : 0 ≤ ls) (s2 : ls ≤ len) :
    Calls Try.prog 44 #[.pointer (some ⟨g, 0, none⟩), vo, .int .i64 len] w fun e w' => (∃ r, e = .returned r) ∧ ∃ vb', WSt w' g tb vb' (walkF (dd ps) ps.length m os len (bs, ls)).1 (walkF (dd ps) ps.length m os len (bs, ls)).2 ∧ w.grownBy w' (some g) := by
  obtain ⟨g0, c0, c1, c2, fz⟩ := wst_cells h1
  have f1 := fz 1
  have f2 := fz 2
  obtain ⟨⟨ao, co, rfl⟩, _⟩ := irow_shape h2
  rw [nz_len] at h2 ⊢
  have H1 := Lib.hid h1
  have H2 := Lib.hid h2
  have H3 := Lib.hid h3
  obtain ⟨at_, ct, rfl, _⟩ := h3
  obtain ⟨⟨ab, cb, rfl⟩, _⟩ := irow_shape h1.2
  have EE := Lib.hid (show walkF (dd ps) ps.length m os len (bs, ls) = (bs, ls) by cases m <;> (unfold walkF; rw [if_pos ⟨s1, s2⟩]))
  rw [EE.out]
  have d1 : decide (0 ≤ ls) = true := decide_eq_true s1
  have d2 : decide (ls ≤ len) = true := decide_eq_true s2
  clear h1 h2 h4 h5 h6 fz s1 s2
  go_enter Try.func44, Try.ntmps44
  go_wp2_with fail
  exact bodyPost_ret (v := .tuple #[]) (by simp [results, Try.results44, go_sem]) rfl ⟨⟨_, rfl⟩, _, H1.out, World.grownBy.refl _ _⟩

set_option maxRecDepth 100000 in
set_option maxHeartbeats 4000000 in
theorem walk_zero (g : Nat) (tb : Value) (ps : List (Int × Int)) (hl : ps.length < 8) (os bs : List Nat) (len ls : Int) (vo vb : Value) (w : World) (h1 : WSt w g tb vb bs ls) (h2 : IRow w (g + 1) vo (nz os)) (h3 : DAt w g tb ps) (h4 : os ≠ []) (h5 : os.length + 0 = ps.length) (h6 : ∀ i ∈ os, i < ps.length) (h7 : 0 ≤ len) (h8 : len ≤ 1000000 * (os.length : Int)) (hc : ¬ (0 ≤ ls ∧ ls ≤ len)) :
    Calls Try.prog 44 #[.pointer (some ⟨g, 0, none⟩), vo, .int .i64 len] w fun e w' => (∃ r, e = .returned r) ∧ ∃ vb', WSt w' g tb vb' (walkF (dd ps) ps.length 0 os len (bs, ls)).1 (walkF (dd ps) ps.length 0 os len (bs, ls)).2 ∧ w.grownBy w' (some g) := by
  obtain ⟨g0, c0, c1, c2, fz⟩ := wst_cells h1
  have f1 := fz 1
  have f2 := fz 2
  obtain ⟨⟨ao, co, rfl⟩, _⟩ := irow_shape h2
  rw [nz_len] at h2 ⊢
  have H1 := Lib.hid h1
  have H2 := Lib.hid h2
  have H3 := Lib.hid h3
  obtain ⟨at_, ct, rfl, _⟩ := h3
  obtain ⟨⟨ab, cb, rfl⟩, _⟩ := irow_shape h1.2
  have EE := Lib.hid (show walkF (dd ps) ps.length 0 os len (bs, ls) = (os, len) by unfold walkF; rw [if_neg hc])
  rw [EE.out]
  have hq : ((os.length : Int) == (ps.length : Int)) = true := by rw [show os.length = ps.length by omega]; exact beq_self_eq_true _
  have ol : (os.length : Int) ≤ 7 := by omega
  by_cases s1 : 0 ≤ ls
  · have d1 : decide (0 ≤ ls) = true := decide_eq_true s1
    have d2 : decide (ls ≤ len) = false := decide_eq_false (fun k => hc ⟨s1, k⟩)
    clear h1 h2 h4 h5 h6 fz s1 hc
    go_enter Try.func44, Try.ntmps44
    go_wp2_with fail
    exact bodyPost_ret (v := .tuple #[]) (by simp [results, Try.results44, go_sem]) rfl ⟨⟨_, rfl⟩, _, (wst_store H1.out H2.out).1, (wst_store H1.out H2.out).2⟩
  · have d1 : decide (0 ≤ ls) = false := decide_eq_false s1
    clear h1 h2 h4 h5 h6 fz s1 hc
    go_enter Try.func44, Try.ntmps44
    go_wp2_with fail
    exact bodyPost_ret (v := .tuple #[]) (by simp [results, Try.results44, go_sem]) rfl ⟨⟨_, rfl⟩, _, (wst_store H1.out H2.out).1, (wst_store H1.out H2.out).2⟩

set_option maxRecDepth 100000 in
set_option maxHeartbeats 16000000 in
theorem walk_succ (g : Nat) (tb : Value) (ps : List (Int × Int)) (hl : ps.length < 8) (m : Nat)
    (ih : ∀ (os bs : List Nat) (len ls : Int) (vo vb : Value) (w : World) (h1 : WSt w g tb vb bs ls) (h2 : IRow w (g + 1) vo (nz os)) (h3 : DAt w g tb ps) (h4 : os ≠ []) (h5 : os.length + m = ps.length) (h6 : ∀ i ∈ os, i < ps.length) (h7 : 0 ≤ len) (h8 : len ≤ 1000000 * (os.length : Int)), Calls Try.prog 44 #[.pointer (some ⟨g, 0, none⟩), vo, .int .i64 len] w fun e w' => (∃ r, e = .returned r) ∧ ∃ vb', WSt w' g tb vb' (walkF (dd ps) ps.length m os len (bs, ls)).1 (walkF (dd ps) ps.length m os len (bs, ls)).2 ∧ w.grownBy w' (some g))
    (os bs : List Nat) (len ls : Int) (vo vb : Value) (w : World) (h1 : WSt w g tb vb bs ls) (h2 : IRow w (g + 1) vo (nz os)) (h3 : DAt w g tb ps) (h4 : os ≠ []) (h5 : os.length + (m + 1) = ps.length) (h6 : ∀ i ∈ os, i < ps.length) (h7 : 0 ≤ len) (h8 : len ≤ 1000000 * (os.length : Int)) (hc : ¬ (0 ≤ ls ∧ ls ≤ len)) :
    Calls Try.prog 44 #[.pointer (some ⟨g, 0, none⟩), vo, .int .i64 len] w fun e w' => (∃ r, e = .returned r) ∧ ∃ vb', WSt w' g tb vb' (walkF (dd ps) ps.length (m + 1) os len (bs, ls)).1 (walkF (dd ps) ps.length (m + 1) os len (bs, ls)).2 ∧ w.grownBy w' (some g) := by
  obtain ⟨i0', hi, hz0, hz1, hz2⟩ := info_parts info_int
  obtain ⟨g0, c0, c1, c2, fz⟩ := wst_cells h1
  have f1 := fz 1
  have f2 := fz 2
  obtain ⟨⟨ao, co, rfl⟩, _⟩ := irow_shape h2
  rw [nz_len] at h2 ⊢
  have H1 := Lib.hid h1
  have H2 := Lib.hid h2
  have H3 := Lib.hid h3
  obtain ⟨at_, ct, rfl, _⟩ := h3
  obtain ⟨⟨ab, cb, rfl⟩, _⟩ := irow_shape h1.2
  obtain ⟨F, hF⟩ : ∃ F : Nat → List Nat × Int → List Nat × Int, Hid ((fun i s => if i ∈ os then s else walkF (dd ps) ps.length m (os ++ [i]) (len + dd ps (os.getLastD 0) i) s) = F) := ⟨_, Lib.hid rfl⟩
  have EE := Lib.hid (show walkF (dd ps) ps.length (m + 1) os len (bs, ls) = loopW F ps.length (bs, ls) by rw [← hF.out]; exact if_neg hc)
  rw [EE.out]
  have hq : ((os.length : Int) == (ps.length : Int)) = false := beq_eq_false_iff_ne.2 (by omega)
  have ol : (os.length : Int) ≤ 7 := by omega
  by_cases s1 : 0 ≤ ls
  · have d1 : decide (0 ≤ ls) = true := decide_eq_true s1
    have d2 : decide (ls ≤ len) = false := decide_eq_false (fun k => hc ⟨s1, k⟩)
    clear h1 h2 fz s1 hc
    go_enter Try.func44, Try.ntmps44
    go_wp2
    go_loopw [6] (fun i wr => ∃ k : Nat, k ≤ ps.length ∧ i = .int .i64 (k : Int) ∧ (∃ vb', WSt wr g (.slice at_ ps.length ct) vb' (loopW F k (bs, ls)).1 (loopW F k (bs, ls)).2) ∧ w.grownBy wr (some g)) (fun i _ => ps.length - (intOf i).toNat)
    case atStart => exact ⟨0, Nat.zero_le _, rfl, ⟨_, H1.out⟩, World.grownBy.refl _ _⟩
    case round =>
      obtain ⟨k, hk, rfl, ⟨vb2, hst⟩, hg⟩ := hrel
      have HST := Lib.hid hst
      have HG := Lib.hid hg
      have RO := Lib.hid (row_off H2.out hg)
      have RD := Lib.hid (dat_off H3.out hg (Nat.le_of_lt g0))
      obtain ⟨gw, k1, _, _, _⟩ := wst_cells hst
      clear hst hg
      by_cases hlt : k < ps.length
      · have LS := Lib.hid (show loopW F (k + 1) (bs, ls) = F k (loopW F k (bs, ls)) from rfl)
        have i0 : 0 ≤ (k : Int) := by omega
        have i1 : (k : Int) < (ps.length : Int) := by omega
        by_cases hm : k ∈ os
        · have EF := Lib.hid (show loopW F (k + 1) (bs, ls) = loopW F k (bs, ls) by rw [LS.out, ← hF.out]; exact if_pos hm)
          have dm : decide ((k : Int) ∈ nz os) = true := decide_eq_true (nz_mem.2 hm)
          clear hm
          go_wp2_with fail
          refine (l00Has_any _ _ (nz os) (k : Int) _ RO.out (by rw [nz_len]; omega)).mono ?_
          rw [dm]
          rintro e w' ⟨rfl, rfl⟩
          go_wp2
          go_roundw
          case rel => exact ⟨k + 1, by omega, by go_num, ⟨vb2, by rw [EF.out]; exact HST.out⟩, HG.out⟩
          case measure => simp [intOf]; omega
        · obtain ⟨⟨bk, lk⟩, hs⟩ : ∃ s, Hid (loopW F k (bs, ls) = s) := ⟨_, Lib.hid rfl⟩
          rw [hs.out] at LS HST
          obtain ⟨la, hla⟩ : ∃ la, Hid (os.getLastD 0 = la) := ⟨_, Lib.hid rfl⟩
          have EF := Lib.hid (show loopW F (k + 1) (bs, ls) = walkF (dd ps) ps.length m (os ++ [k]) (len + dd ps la k) (bk, lk) by rw [LS.out, ← hF.out, ← hla.out]; exact if_neg hm)
          have dm : decide ((k : Int) ∈ nz os) = false := decide_eq_false (fun e => hm (nz_mem.1 e))
          have hla2 : la < ps.length := by rw [← hla.out]; exact h6 _ (last_mem h4)
          have op : 0 < os.length := List.length_pos_iff.2 h4
          obtain ⟨hj, ej⟩ := nz_last h4
          rw [hla.out] at ej
          obtain ⟨ao2, co2, eo, hao⟩ := irow_at' RO.out
          rw [nz_len] at eo
          simp at eo
          obtain ⟨rfl, rfl⟩ := eo
          obtain ⟨go, rfl, hgo1, z2, k2⟩ := hao (os.length - 1) hj
          rw [ej] at k2
          have jn : (os.length : Int) - 1 = ((os.length - 1 : Nat) : Int) := pred_cast op
          obtain ⟨j, hjj⟩ : ∃ j : Nat, Hid (os.length - 1 = j) := ⟨_, Lib.hid rfl⟩
          rw [hjj.out] at jn k2
          have jw : IntKind.i64.wrap (j : Int) = (j : Int) := IntWalk.i64_in _ (by have := hjj.out; omega)
          have j0 : 0 ≤ (j : Int) := by omega
          have j1 : (j : Int) < (os.length : Int) := by have := hjj.out; omega
          obtain ⟨at2, ct2, et, hat⟩ := RD.out
          simp at et
          obtain ⟨et1, et2⟩ := et
          subst et1
          subst et2
          obtain ⟨bt, ar, cr, rfl, hbt, k3, hrow⟩ := hat la hla2
          obtain ⟨gr, rfl, hgr, k4⟩ := hrow k hlt
          obtain ⟨d1', d2'⟩ := dd_bounds ps la k
          obtain ⟨d, hd⟩ : ∃ d, Hid (dd ps la k = d) := ⟨_, Lib.hid rfl⟩
          rw [hd.out] at d1' d2' k4 EF
          have z1 : g < wr.heap.size := gw
          have z3 : bt < wr.heap.size := by omega
          have z4 : gr < wr.heap.size := by omega
          have l0 : 0 ≤ (la : Int) := by omega
          have l1 : (la : Int) < (ps.length : Int) := by omega
          have sw : IntKind.i64.wrap (len + d) = len + d := IntWalk.i64_in _ (by omega)
          have nl : (nz os).length + 1 ≤ maxLen := by rw [nz_len]; unfold maxLen; omega
          have nl2 : ((nz os).length + 1) * 8 ≤ 140737488355328 := by rw [nz_len]; omega
          have NP := Lib.hid (show 0 < (nz os).length by rw [nz_len]; exact List.length_pos_iff.2 h4)
          have NQ := Lib.hid (show (nz os).length ≤ 100000 by rw [nz_len]; omega)
          have ng : g + 1 ≤ wr.heap.size := by omega
          have IH := Lib.hid ih
          have G6 := Lib.hid (show ∀ i ∈ os ++ [k], i < ps.length from fun i hi => by
            rcases List.mem_append.1 hi with h | h
            · exact h6 i h
            · rw [List.mem_singleton.1 h]; exact hlt)
          have G8 := Lib.hid (show len + d ≤ 1000000 * ((os ++ [k]).length : Int) by simp; omega)
          have NE := Lib.hid (show os ++ [k] ≠ [] by simp)
          have G5 := Lib.hid (show (os ++ [k]).length + m = ps.length by simp; omega)
          have NS := Lib.hid (nz_snoc os k)
          have ne3 : bt ≠ g := by omega
          have ne4 : gr ≠ g := by omega
          have ne2 : go ≠ g := by omega
          clear hat hrow hao hm ih
          go_wp2_with fail
          refine (l00Has_any _ _ (nz os) (k : Int) _ RO.out (by rw [nz_len]; omega)).mono ?_
          rw [dm]
          rintro e w' ⟨rfl, rfl⟩
          have y1 : (wr.alloc (.cells #[.int .i64 (k : Int)] 2)).cell? ⟨g, 0, none⟩ = some (.slice (some ⟨bt, 0, none⟩) ps.length ct) := by rw [World.cell?_alloc_past _ _ _ z1]; exact k1
          have y2 : (wr.alloc (.cells #[.int .i64 (k : Int)] 2)).cell? ⟨go, j, none⟩ = some (.int .i64 (la : Int)) := by rw [World.cell?_alloc_past _ _ _ z2]; exact k2
          have y3 : (wr.alloc (.cells #[.int .i64 (k : Int)] 2)).cell? ⟨bt, la, none⟩ = some (.slice (some ⟨gr, 0, none⟩) ps.length cr) := by rw [World.cell?_alloc_past _ _ _ z3]; exact k3
          have y4 : (wr.alloc (.cells #[.int .i64 (k : Int)] 2)).cell? ⟨gr, k, none⟩ = some (.int .i64 d) := by rw [World.cell?_alloc_past _ _ _ z4]; exact k4
          go_wp2_with fail
          go_region_held3 (fun W => W.cell? ⟨g, 0, none⟩ = some (.slice (some ⟨bt, 0, none⟩) ps.length ct) ∧ W.cell? ⟨go, j, none⟩ = some (.int .i64 (la : Int)) ∧ W.cell? ⟨bt, la, none⟩ = some (.slice (some ⟨gr, 0, none⟩) ps.length cr) ∧ W.cell? ⟨gr, k, none⟩ = some (.int .i64 d)) (first | exact ⟨k1, k2, k3, k4⟩ | exact ⟨y1, y2, y3, y4⟩ | exact ⟨n1, n2, n3, n4⟩ | exact ⟨t1, t2, t3, t4⟩ | exact ⟨m1, m2, m3, m4⟩ | exact ⟨p1, p2, p3, p4⟩ | (simp [go_sem]; first | exact ⟨k1, k2, k3, k4⟩ | exact ⟨n1, n2, n3, n4⟩ | exact ⟨t1, t2, t3, t4⟩ | exact ⟨m1, m2, m3, m4⟩ | exact ⟨p1, p2, p3, p4⟩)) (first | (go_at_call 63; refine (l00Own_rel _ _ (nz os) wr _ (by repeat (first | assumption | exact Below.refl _ _ | refine Below.drew ?_ | refine bdq ?_ _ | refine Below.alloc ?_ (by first | exact Nat.le_refl _ | omega | (simp; done) | (simp; omega)) _ | refine Below.setCell ?_ (by first | exact Nat.le_refl _ | omega | (simp; done) | (simp; omega)) _)) (irow_keep RO.out (by repeat (first | assumption | exact Below.refl _ _ | refine Below.drew ?_ | refine bdq ?_ _ | refine Below.alloc ?_ (by first | exact Nat.le_refl _ | omega | (simp; done) | (simp; omega)) _ | refine Below.setCell ?_ (by first | exact Nat.le_refl _ | omega | (simp; done) | (simp; omega)) _))) NP.out NQ.out).mono ?_; rintro e w1 ⟨u, rfl, hru, hbu, hkk⟩; have HRU := Lib.hid hru; have BN := Lib.hid hbu; have hzu := hbu.size; have n1 := (BN.out.cell (p := ⟨g, 0, none⟩) z1).trans k1; have n2 := (BN.out.cell (p := ⟨go, j, none⟩) z2).trans k2; have n3 := (BN.out.cell (p := ⟨bt, la, none⟩) z3).trans k3; have n4 := (BN.out.cell (p := ⟨gr, k, none⟩) z4).trans k4; have BA := Lib.hid (BN.out.alloc hzu (.cells #[.int .i64 (k : Int)] 2)); have t1 := (BA.out.cell (p := ⟨g, 0, none⟩) z1).trans k1; have t2 := (BA.out.cell (p := ⟨go, j, none⟩) z2).trans k2; have t3 := (BA.out.cell (p := ⟨bt, la, none⟩) z3).trans k3; have t4 := (BA.out.cell (p := ⟨gr, k, none⟩) z4).trans k4; skip) | ((refine step_append_lies _ (by rfl) _ _ 29 (by rfl) (wr.heap.size) 2 i0' (.int .i64 0) 1 8 Try.underlying29 hi hz0 hz1 hz2 rfl (by decide) _ (nz os).length _ (by rfl) (irow_heap (HRU.out.alloc (.cells #[.int .i64 (k : Int)] 2)) (by rfl)) ⟨w1.heap.size, 0, none⟩ 1 1 [.int .i64 (k : Int)] (by rfl) rfl (newI w1 _ _ rfl) (cellI _) (by decide) nl nl2 (by simp; omega) (w1.heap.size + 1) (by simp) ?_; intro g4 cap4 w4 hown4 hg4 hat4 hlt4; have BG := Lib.hid (BA.out.grown hg4 (by simp; omega) (fun j hj => (HRU.out.lt j hj).1)); have R4 := Lib.hid (irow_up (B' := g + 1) (snocI hown4) ng); have R5 := Lib.hid (show IRow w4 (g + 1) (.slice (some ⟨g4, 0, none⟩) ((nz os).length + 1) cap4) (nz (os ++ [k])) by rw [NS.out]; exact R4.out); have m1 := (BG.out.cell (p := ⟨g, 0, none⟩) z1).trans k1; have m2 := (BG.out.cell (p := ⟨go, j, none⟩) z2).trans k2; have m3 := (BG.out.cell (p := ⟨bt, la, none⟩) z3).trans k3; have m4 := (BG.out.cell (p := ⟨gr, k, none⟩) z4).trans k4; skip)) | ((refine step_append_lies _ (by rfl) _ _ 29 (by rfl) (wr.heap.size) 2 i0' (.int .i64 0) 1 8 Try.underlying29 hi hz0 hz1 hz2 rfl (by decide) _ (nz os).length _ (by rfl) (irow_heap HRU.out (by rfl)) ⟨wr.heap.size, 0, none⟩ 1 1 [.int .i64 (k : Int)] (by rfl) rfl (World.news_of_block (cs := #[.int .i64 (k : Int)]) (t := 2) (fr := (0, 0)) ((hkk wr.heap.size (by simp)).trans (heap_alloc_new wr _))) (cellI _) (by decide) nl nl2 hzu (w1.heap.size) (by rfl) ?_; intro g4 cap4 w4 hown4 hg4 hat4 hlt4; have BG := Lib.hid (BN.out.grown hg4 hzu (fun j hj => (HRU.out.lt j hj).1)); have R4 := Lib.hid (irow_up (B' := g + 1) (snocI hown4) ng); have R5 := Lib.hid (show IRow w4 (g + 1) (.slice (some ⟨g4, 0, none⟩) ((nz os).length + 1) cap4) (nz (os ++ [k])) by rw [NS.out]; exact R4.out); have m1 := (BG.out.cell (p := ⟨g, 0, none⟩) z1).trans k1; have m2 := (BG.out.cell (p := ⟨go, j, none⟩) z2).trans k2; have m3 := (BG.out.cell (p := ⟨bt, la, none⟩) z3).trans k3; have m4 := (BG.out.cell (p := ⟨gr, k, none⟩) z4).trans k4; skip)) | (go_at_call 44; refine (IH.out (os ++ [k]) bk (len + d) lk _ _ _ (wst_heap (wst_keep HST.out BG.out) (by rfl)) (irow_heap R5.out (by rfl)) (dat_keep RD.out (BG.out.mono (by omega))) NE.out G5.out G6.out (by omega) G8.out).mono ?_; rintro e w5 ⟨⟨r, rfl⟩, vb5, hst5, hg5⟩; have HS5 := Lib.hid hst5; have HG5 := Lib.hid hg5; have p1 := (wst_cells hst5).2.1; have p2 := far_cell hg5 ne2 m2; have p3 := far_cell hg5 ne3 m3; have p4 := far_cell hg5 ne4 m4; skip))
          all_goals go_wp2
          all_goals go_roundw
          all_goals first
            | exact ⟨k + 1, by omega, by go_num, ⟨vb5, by rw [EF.out]; exact HS5.out⟩, Lib.grownBy_trans HG.out (Lib.grownBy_trans (grown_of_below (some g) BG.out) HG5.out)⟩
            | (simp [intOf]; omega)
      · obtain rfl : k = ps.length := by omega
        go_wp2
        exact bodyPost_end (v := .tuple #[]) (by simp [results, Try.results44, go_sem]) rfl ⟨⟨_, rfl⟩, _, HST.out, HG.out⟩
  · have d1 : decide (0 ≤ ls) = false := decide_eq_false s1
    clear h1 h2 fz s1 hc
    go_enter Try.func44, Try.ntmps44
    go_wp2
    go_loopw [6] (fun i wr => ∃ k : Nat, k ≤ ps.length ∧ i = .int .i64 (k : Int) ∧ (∃ vb', WSt wr g (.slice at_ ps.length ct) vb' (loopW F k (bs, ls)).1 (loopW F k (bs, ls)).2) ∧ w.grownBy wr (some g)) (fun i _ => ps.length - (intOf i).toNat)
    case atStart => exact ⟨0, Nat.zero_le _, rfl, ⟨_, H1.out⟩, World.grownBy.refl _ _⟩
    case round =>
      obtain ⟨k, hk, rfl, ⟨vb2, hst⟩, hg⟩ := hrel
      have HST := Lib.hid hst
      have HG := Lib.hid hg
      have RO := Lib.hid (row_off H2.out hg)
      have RD := Lib.hid (dat_off H3.out hg (Nat.le_of_lt g0))
      obtain ⟨gw, k1, _, _, _⟩ := wst_cells hst
      clear hst hg
      by_cases hlt : k < ps.length
      · have LS := Lib.hid (show loopW F (k + 1) (bs, ls) = F k (loopW F k (bs, ls)) from rfl)
        have i0 : 0 ≤ (k : Int) := by omega
        have i1 : (k : Int) < (ps.length : Int) := by omega
        by_cases hm : k ∈ os
        · have EF := Lib.hid (show loopW F (k + 1) (bs, ls) = loopW F k (bs, ls) by rw [LS.out, ← hF.out]; exact if_pos hm)
          have dm : decide ((k : Int) ∈ nz os) = true := decide_eq_true (nz_mem.2 hm)
          clear hm
          go_wp2_with fail
          refine (l00Has_any _ _ (nz os) (k : Int) _ RO.out (by rw [nz_len]; omega)).mono ?_
          rw [dm]
          rintro e w' ⟨rfl, rfl⟩
          go_wp2
          go_roundw
          case rel => exact ⟨k + 1, by omega, by go_num, ⟨vb2, by rw [EF.out]; exact HST.out⟩, HG.out⟩
          case measure => simp [intOf]; omega
        · obtain ⟨⟨bk, lk⟩, hs⟩ : ∃ s, Hid (loopW F k (bs, ls) = s) := ⟨_, Lib.hid rfl⟩
          rw [hs.out] at LS HST
          obtain ⟨la, hla⟩ : ∃ la, Hid (os.getLastD 0 = la) := ⟨_, Lib.hid rfl⟩
          have EF := Lib.hid (show loopW F (k + 1) (bs, ls) = walkF (dd ps) ps.length m (os ++ [k]) (len + dd ps la k) (bk, lk) by rw [LS.out, ← hF.out, ← hla.out]; exact if_neg hm)
          have dm : decide ((k : Int) ∈ nz os) = false := decide_eq_false (fun e => hm (nz_mem.1 e))
          have hla2 : la < ps.length := by rw [← hla.out]; exact h6 _ (last_mem h4)
          have op : 0 < os.length := List.length_pos_iff.2 h4
          obtain ⟨hj, ej⟩ := nz_last h4
          rw [hla.out] at ej
          obtain ⟨ao2, co2, eo, hao⟩ := irow_at' RO.out
          rw [nz_len] at eo
          simp at eo
          obtain ⟨rfl, rfl⟩ := eo
          obtain ⟨go, rfl, hgo1, z2, k2⟩ := hao (os.length - 1) hj
          rw [ej] at k2
          have jn : (os.length : Int) - 1 = ((os.length - 1 : Nat) : Int) := pred_cast op
          obtain ⟨j, hjj⟩ : ∃ j : Nat, Hid (os.length - 1 = j) := ⟨_, Lib.hid rfl⟩
          rw [hjj.out] at jn k2
          have jw : IntKind.i64.wrap (j : Int) = (j : Int) := IntWalk.i64_in _ (by have := hjj.out; omega)
          have j0 : 0 ≤ (j : Int) := by omega
          have j1 : (j : Int) < (os.length : Int) := by have := hjj.out; omega
          obtain ⟨at2, ct2, et, hat⟩ := RD.out
          simp at et
          obtain ⟨et1, et2⟩ := et
          subst et1
          subst et2
          obtain ⟨bt, ar, cr, rfl, hbt, k3, hrow⟩ := hat la hla2
          obtain ⟨gr, rfl, hgr, k4⟩ := hrow k hlt
          obtain ⟨d1', d2'⟩ := dd_bounds ps la k
          obtain ⟨d, hd⟩ : ∃ d, Hid (dd ps la k = d) := ⟨_, Lib.hid rfl⟩
          rw [hd.out] at d1' d2' k4 EF
          have z1 : g < wr.heap.size := gw
          have z3 : bt < wr.heap.size := by omega
          have z4 : gr < wr.heap.size := by omega
          have l0 : 0 ≤ (la : Int) := by omega
          have l1 : (la : Int) < (ps.length : Int) := by omega
          have sw : IntKind.i64.wrap (len + d) = len + d := IntWalk.i64_in _ (by omega)
          have nl : (nz os).length + 1 ≤ maxLen := by rw [nz_len]; unfold maxLen; omega
          have nl2 : ((nz os).length + 1) * 8 ≤ 140737488355328 := by rw [nz_len]; omega
          have NP := Lib.hid (show 0 < (nz os).length by rw [nz_len]; exact List.length_pos_iff.2 h4)
          have NQ := Lib.hid (show (nz os).length ≤ 100000 by rw [nz_len]; omega)
          have ng : g + 1 ≤ wr.heap.size := by omega
          have IH := Lib.hid ih
          have G6 := Lib.hid (show ∀ i ∈ os ++ [k], i < ps.length from fun i hi => by
            rcases List.mem_append.1 hi with h | h
            · exact h6 i h
            · rw [List.mem_singleton.1 h]; exact hlt)
          have G8 := Lib.hid (show len + d ≤ 1000000 * ((os ++ [k]).length : Int) by simp; omega)
          have NE := Lib.hid (show os ++ [k] ≠ [] by simp)
          have G5 := Lib.hid (show (os ++ [k]).length + m = ps.length by simp; omega)
          have NS := Lib.hid (nz_snoc os k)
          have ne3 : bt ≠ g := by omega
          have ne4 : gr ≠ g := by omega
          have ne2 : go ≠ g := by omega
          clear hat hrow hao hm ih
          go_wp2_with fail
          refine (l00Has_any _ _ (nz os) (k : Int) _ RO.out (by rw [nz_len]; omega)).mono ?_
          rw [dm]
          rintro e w' ⟨rfl, rfl⟩
          have y1 : (wr.alloc (.cells #[.int .i64 (k : Int)] 2)).cell? ⟨g, 0, none⟩ = some (.slice (some ⟨bt, 0, none⟩) ps.length ct) := by rw [World.cell?_alloc_past _ _ _ z1]; exact k1
          have y2 : (wr.alloc (.cells #[.int .i64 (k : Int)] 2)).cell? ⟨go, j, none⟩ = some (.int .i64 (la : Int)) := by rw [World.cell?_alloc_past _ _ _ z2]; exact k2
          have y3 : (wr.alloc (.cells #[.int .i64 (k : Int)] 2)).cell? ⟨bt, la, none⟩ = some (.slice (some ⟨gr, 0, none⟩) ps.length cr) := by rw [World.cell?_alloc_past _ _ _ z3]; exact k3
          have y4 : (wr.alloc (.cells #[.int .i64 (k : Int)] 2)).cell? ⟨gr, k, none⟩ = some (.int .i64 d) := by rw [World.cell?_alloc_past _ _ _ z4]; exact k4
          go_wp2_with fail
          go_region_held3 (fun W => W.cell? ⟨g, 0, none⟩ = some (.slice (some ⟨bt, 0, none⟩) ps.length ct) ∧ W.cell? ⟨go, j, none⟩ = some (.int .i64 (la : Int)) ∧ W.cell? ⟨bt, la, none⟩ = some (.slice (some ⟨gr, 0, none⟩) ps.length cr) ∧ W.cell? ⟨gr, k, none⟩ = some (.int .i64 d)) (first | exact ⟨k1, k2, k3, k4⟩ | exact ⟨y1, y2, y3, y4⟩ | exact ⟨n1, n2, n3, n4⟩ | exact ⟨t1, t2, t3, t4⟩ | exact ⟨m1, m2, m3, m4⟩ | exact ⟨p1, p2, p3, p4⟩ | (simp [go_sem]; first | exact ⟨k1, k2, k3, k4⟩ | exact ⟨n1, n2, n3, n4⟩ | exact ⟨t1, t2, t3, t4⟩ | exact ⟨m1, m2, m3, m4⟩ | exact ⟨p1, p2, p3, p4⟩)) (first | (go_at_call 63; refine (l00Own_rel _ _ (nz os) wr _ (by repeat (first | assumption | exact Below.refl _ _ | refine Below.drew ?_ | refine bdq ?_ _ | refine Below.alloc ?_ (by first | exact Nat.le_refl _ | omega | (simp; done) | (simp; omega)) _ | refine Below.setCell ?_ (by first | exact Nat.le_refl _ | omega | (simp; done) | (simp; omega)) _)) (irow_keep RO.out (by repeat (first | assumption | exact Below.refl _ _ | refine Below.drew ?_ | refine bdq ?_ _ | refine Below.alloc ?_ (by first | exact Nat.le_refl _ | omega | (simp; done) | (simp; omega)) _ | refine Below.setCell ?_ (by first | exact Nat.le_refl _ | omega | (simp; done) | (simp; omega)) _))) NP.out NQ.out).mono ?_; rintro e w1 ⟨u, rfl, hru, hbu, hkk⟩; have HRU := Lib.hid hru; have BN := Lib.hid hbu; have hzu := hbu.size; have n1 := (BN.out.cell (p := ⟨g, 0, none⟩) z1).trans k1; have n2 := (BN.out.cell (p := ⟨go, j, none⟩) z2).trans k2; have n3 := (BN.out.cell (p := ⟨bt, la, none⟩) z3).trans k3; have n4 := (BN.out.cell (p := ⟨gr, k, none⟩) z4).trans k4; have BA := Lib.hid (BN.out.alloc hzu (.cells #[.int .i64 (k : Int)] 2)); have t1 := (BA.out.cell (p := ⟨g, 0, none⟩) z1).trans k1; have t2 := (BA.out.cell (p := ⟨go, j, none⟩) z2).trans k2; have t3 := (BA.out.cell (p := ⟨bt, la, none⟩) z3).trans k3; have t4 := (BA.out.cell (p := ⟨gr, k, none⟩) z4).trans k4; skip) | ((refine step_append_lies _ (by rfl) _ _ 29 (by rfl) (wr.heap.size) 2 i0' (.int .i64 0) 1 8 Try.underlying29 hi hz0 hz1 hz2 rfl (by decide) _ (nz os).length _ (by rfl) (irow_heap (HRU.out.alloc (.cells #[.int .i64 (k : Int)] 2)) (by rfl)) ⟨w1.heap.size, 0, none⟩ 1 1 [.int .i64 (k : Int)] (by rfl) rfl (newI w1 _ _ rfl) (cellI _) (by decide) nl nl2 (by simp; omega) (w1.heap.size + 1) (by simp) ?_; intro g4 cap4 w4 hown4 hg4 hat4 hlt4; have BG := Lib.hid (BA.out.grown hg4 (by simp; omega) (fun j hj => (HRU.out.lt j hj).1)); have R4 := Lib.hid (irow_up (B' := g + 1) (snocI hown4) ng); have R5 := Lib.hid (show IRow w4 (g + 1) (.slice (some ⟨g4, 0, none⟩) ((nz os).length + 1) cap4) (nz (os ++ [k])) by rw [NS.out]; exact R4.out); have m1 := (BG.out.cell (p := ⟨g, 0, none⟩) z1).trans k1; have m2 := (BG.out.cell (p := ⟨go, j, none⟩) z2).trans k2; have m3 := (BG.out.cell (p := ⟨bt, la, none⟩) z3).trans k3; have m4 := (BG.out.cell (p := ⟨gr, k, none⟩) z4).trans k4; skip)) | ((refine step_append_lies _ (by rfl) _ _ 29 (by rfl) (wr.heap.size) 2 i0' (.int .i64 0) 1 8 Try.underlying29 hi hz0 hz1 hz2 rfl (by decide) _ (nz os).length _ (by rfl) (irow_heap HRU.out (by rfl)) ⟨wr.heap.size, 0, none⟩ 1 1 [.int .i64 (k : Int)] (by rfl) rfl (World.news_of_block (cs := #[.int .i64 (k : Int)]) (t := 2) (fr := (0, 0)) ((hkk wr.heap.size (by simp)).trans (heap_alloc_new wr _))) (cellI _) (by decide) nl nl2 hzu (w1.heap.size) (by rfl) ?_; intro g4 cap4 w4 hown4 hg4 hat4 hlt4; have BG := Lib.hid (BN.out.grown hg4 hzu (fun j hj => (HRU.out.lt j hj).1)); have R4 := Lib.hid (irow_up (B' := g + 1) (snocI hown4) ng); have R5 := Lib.hid (show IRow w4 (g + 1) (.slice (some ⟨g4, 0, none⟩) ((nz os).length + 1) cap4) (nz (os ++ [k])) by rw [NS.out]; exact R4.out); have m1 := (BG.out.cell (p := ⟨g, 0, none⟩) z1).trans k1; have m2 := (BG.out.cell (p := ⟨go, j, none⟩) z2).trans k2; have m3 := (BG.out.cell (p := ⟨bt, la, none⟩) z3).trans k3; have m4 := (BG.out.cell (p := ⟨gr, k, none⟩) z4).trans k4; skip)) | (go_at_call 44; refine (IH.out (os ++ [k]) bk (len + d) lk _ _ _ (wst_heap (wst_keep HST.out BG.out) (by rfl)) (irow_heap R5.out (by rfl)) (dat_keep RD.out (BG.out.mono (by omega))) NE.out G5.out G6.out (by omega) G8.out).mono ?_; rintro e w5 ⟨⟨r, rfl⟩, vb5, hst5, hg5⟩; have HS5 := Lib.hid hst5; have HG5 := Lib.hid hg5; have p1 := (wst_cells hst5).2.1; have p2 := far_cell hg5 ne2 m2; have p3 := far_cell hg5 ne3 m3; have p4 := far_cell hg5 ne4 m4; skip))
          all_goals go_wp2
          all_goals go_roundw
          all_goals first
            | exact ⟨k + 1, by omega, by go_num, ⟨vb5, by rw [EF.out]; exact HS5.out⟩, Lib.grownBy_trans HG.out (Lib.grownBy_trans (grown_of_below (some g) BG.out) HG5.out)⟩
            | (simp [intOf]; omega)
      · obtain rfl : k = ps.length := by omega
        go_wp2
        exact bodyPost_end (v := .tuple #[]) (by simp [results, Try.results44, go_sem]) rfl ⟨⟨_, rfl⟩, _, HST.out, HG.out⟩

theorem walk_any (g : Nat) (tb : Value) (ps : List (Int × Int)) (hl : ps.length < 8) : ∀ m, ∀ (os bs : List Nat) (len ls : Int) (vo vb : Value) (w : World) (h1 : WSt w g tb vb bs ls) (h2 : IRow w (g + 1) vo (nz os)) (h3 : DAt w g tb ps) (h4 : os ≠ []) (h5 : os.length + m = ps.length) (h6 : ∀ i ∈ os, i < ps.length) (h7 : 0 ≤ len) (h8 : len ≤ 1000000 * (os.length : Int)),
    Calls Try.prog 44 #[.pointer (some ⟨g, 0, none⟩), vo, .int .i64 len] w fun e w' => (∃ r, e = .returned r) ∧ ∃ vb', WSt w' g tb vb' (walkF (dd ps) ps.length m os len (bs, ls)).1 (walkF (dd ps) ps.length m os len (bs, ls)).2 ∧ w.grownBy w' (some g) := by
  intro m
  induction m with
  | zero =>
    intro os bs len ls vo vb w h1 h2 h3 h4 h5 h6 h7 h8
    by_cases hc : 0 ≤ ls ∧ ls ≤ len
    · exact walk_prune g tb ps 0 os bs len ls vo vb w h1 h2 h3 h4 h5 h6 h7 h8 hc.1 hc.2
    · exact walk_zero g tb ps hl os bs len ls vo vb w h1 h2 h3 h4 h5 h6 h7 h8 hc
  | succ m ih =>
    intro os bs len ls vo vb w h1 h2 h3 h4 h5 h6 h7 h8
    by_cases hc : 0 ≤ ls ∧ ls ≤ len
    · exact walk_prune g tb ps (m + 1) os bs len ls vo vb w h1 h2 h3 h4 h5 h6 h7 h8 hc.1 hc.2
    · exact walk_succ g tb ps hl m ih os bs len ls vo vb w h1 h2 h3 h4 h5 h6 h7 h8 hc

end Go.Proofs.Ytkiimdfnobcdpaa.sines
