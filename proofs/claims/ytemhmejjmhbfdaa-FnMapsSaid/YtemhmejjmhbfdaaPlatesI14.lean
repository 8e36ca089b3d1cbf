/- The corner of a box of places: the program's contract. -/
import Derived.Test.YtemhmejjmhbfdaaPlatesI13
namespace Go.Proofs.Ytemhmejjmhbfdaa.sines
open Go.ChangeShapes Go.WideShapes Go.ChangeAt Go.RowKit Go.Proofs.Ytemhmejjmhbfdaa.spots Go.Proofs.Ytemhmejjmhbfdaa.pairs
set_option linter.unusedSimpArgs false
set_option linter.unusedVariables false

/-- The boxes of a corner's call. -/
def Crn (w W : World) (g : Nat) (T : TypeId) (s x y : Int) : Prop := W.heap[w.heap.size]? = some (.cells #[.iface T (.agg #[]), .int .i64 s] 98 (0, 0)) ∧ W.heap[w.heap.size + 1]? = some (.cells #[.int .i64 0, .int .i64 0] 29 (0, 0)) ∧ W.heap[g]? = some (.cells #[.int .i64 x, .int .i64 y] 29 (0, 0)) ∧ w.heap.size + 1 < g ∧ Below w.heap.size w W
theorem crn_keep {w W W' : World} {g : Nat} {T : TypeId} {s x y : Int} (h : Crn w W g T s x y) (hb : Below W.heap.size W W') : Crn w W' g T s x y :=
  ⟨(hb.block _ (lt_of h.1)).trans h.1, (hb.block _ (lt_of h.2.1)).trans h.2.1, (hb.block _ (lt_of h.2.2.1)).trans h.2.2.1, h.2.2.2.1, h.2.2.2.2.trans (hb.mono h.2.2.2.2.size)⟩
theorem crn_store {w W : World} {g : Nat} {T : TypeId} {s x y : Int} (h : Crn w W g T s x y) (x' y' : Int) : Crn w ((W.setCell ⟨g, 0, none⟩ (.int .i64 x')).setCell ⟨g, 1, none⟩ (.int .i64 y')) g T s x' y' := by
  obtain ⟨h1, h2, h3, h4, h5⟩ := h
  obtain ⟨a1, a2⟩ := two_other h3 h1 (show w.heap.size ≠ g by omega) (.int .i64 x') (.int .i64 y')
  obtain ⟨_, a3⟩ := two_other h3 h2 (show w.heap.size + 1 ≠ g by omega) (.int .i64 x') (.int .i64 y')
  exact ⟨a2, a3, a1, h4, (h5.setCell (show w.heap.size ≤ g by omega) _).setCell (show w.heap.size ≤ g by omega) _⟩
theorem crn_cells {w W : World} {g : Nat} {T : TypeId} {s x y : Int} (h : Crn w W g T s x y) : W.cell? ⟨w.heap.size, 0, none⟩ = some (.iface T (.agg #[])) ∧ W.cell? ⟨w.heap.size, 1, none⟩ = some (.int .i64 s) ∧ W.cell? ⟨g, 0, none⟩ = some (.int .i64 x) ∧ W.cell? ⟨g, 1, none⟩ = some (.int .i64 y) ∧ W.frozen? ⟨g, 0, none⟩ = false ∧ W.frozen? ⟨g, 1, none⟩ = false ∧ W.cell? ⟨w.heap.size + 1, 0, none⟩ = some (.int .i64 0) ∧ W.cell? ⟨w.heap.size + 1, 1, none⟩ = some (.int .i64 0) ∧ W.frozen? ⟨w.heap.size + 1, 0, none⟩ = false ∧ W.frozen? ⟨w.heap.size + 1, 1, none⟩ = false := by
  obtain ⟨h1, h2, h3, h4, h5⟩ := h
  obtain ⟨a1, a2, _, _⟩ := cel2_cells h1
  obtain ⟨b1, b2, b3, b4⟩ := cel2_cells h3
  obtain ⟨c1, c2, c3, c4⟩ := cel2_cells h2
  exact ⟨a1, a2, b1, b2, b3, b4, c1, c2, c3, c4⟩
set_option maxRecDepth 100000 in
set_option maxHeartbeats 2000000 in
theorem corner_any (g : Nat) (op : Int → Int → Int) (F G : Nat → Int) (ps : List (Int × Int)) (s : Int) (wave : Bool) (ar : Option Addr) (cp : Nat) (w : World)
    (eg : ∀ args w, (callFunc g args).run Try.prog w = .ok (.enter g args) w)
    (hG : ∀ a b c d W, Calls Try.prog g #[.agg #[.int .i64 a, .int .i64 b], .agg #[.int .i64 c, .int .i64 d]] W fun e w' => e = .returned (.agg #[.int .i64 (op a c), .int .i64 (op b d)]) ∧ Below W.heap.size W w')
    (F0 : F 0 = fX ps s wave 0) (G0 : G 0 = fY ps s 0) (FS : ∀ k, F (k + 1) = op (F k) (fX ps s wave (k + 1))) (GS : ∀ k, G (k + 1) = op (G k) (fY ps s (k + 1)))
    (hv : PAt w w.heap.size (.slice ar ps.length cp) ps) (hn : 0 < ps.length) (hl : ps.length ≤ 1048576) (hc : ps.length ≤ cp) (hok : okL ps = true) (s0 : 1 ≤ s) (s1 : s ≤ 100000) :
    Calls Try.prog 95 #[.agg #[.iface (projT wave) (.agg #[]), .int .i64 s], .slice ar ps.length cp, .func (.func g) #[] #[]] w fun e w' => e = .returned (.agg #[.int .i64 (F (ps.length - 1)), .int .i64 (G (ps.length - 1))]) ∧ Below w.heap.size w w' := by
  obtain ⟨a', c', ev, hcl⟩ := hv
  simp only [Value.slice.injEq, true_and] at ev
  obtain ⟨rfl, rfl⟩ := ev
  have HCL := Lib.hid hcl
  have HO := Lib.hid (okL_iff.1 hok)
  have DK := Lib.hid (fun (k : Nat) (hk : k < ps.length) W => draw_any (sAt ps k).1 (sAt ps k).2 s wave W (okL_iff.1 hok k hk) s0 s1)
  have HG := Lib.hid hG
  have HF0 := Lib.hid F0
  have HG0 := Lib.hid G0
  have HFS := Lib.hid FS
  have HGS := Lib.hid GS
  obtain ⟨b0, o0, ra, hb0, i1, i2⟩ := hcl 0 hn
  subst ra
  rw [sAt_of hn] at i1 i2
  simp only [Nat.zero_mul, Nat.add_zero] at i1 i2
  have D0 := Lib.hid (DK.out 0 hn)
  have eX : drX (sAt ps 0).1 (sAt ps 0).2 s wave = F 0 := F0.symm
  have eY : near (sAt ps 0).1 s = G 0 := G0.symm
  rw [eX, eY] at D0
  clear eX eY hcl hok s0 s1 hG F0 G0 FS GS
  obtain ⟨L, hL⟩ : ∃ L, Hid (ps.length = L + 1) := ⟨ps.length - 1, Lib.hid (by omega)⟩
  have hl2 : (L : Int) ≤ 1048575 := by have := hL.out; omega
  have hcL : L + 1 ≤ cp := by have := hL.out; omega
  have hp0 : 0 < L + 1 := by omega
  rw [hL.out, Nat.add_sub_cancel]
  generalize projT wave = T at D0 DK ⊢
  generalize (sAt ps 0).1 = l0 at i1 D0
  generalize (sAt ps 0).2 = n0 at i2 D0
  obtain ⟨x0, hx0⟩ : ∃ x, Hid (F 0 = x) := ⟨_, Lib.hid rfl⟩
  obtain ⟨y0, hy0⟩ : ∃ x, Hid (G 0 = x) := ⟨_, Lib.hid rfl⟩
  rw [hx0.out, hy0.out] at D0
  have B0 := Lib.hid (((Below.refl w.heap.size w).alloc (Nat.le_refl _) (.cells #[.iface T (.agg #[]), .int .i64 s] 98)).alloc (by simp) (.cells #[.int .i64 0, .int .i64 0] 29))
  obtain ⟨z1, u1, u2, u3, u4, u5⟩ := cells22 w (.iface T (.agg #[])) (.int .i64 s) (.int .i64 0) (.int .i64 0) 98 29
  have Z1 := Lib.hid z1
  have g0 : ((w.alloc (.cells #[.iface T (.agg #[]), .int .i64 s] 98)).alloc (.cells #[.int .i64 0, .int .i64 0] 29)).heap[w.heap.size]? = some (.cells #[.iface T (.agg #[]), .int .i64 s] 98 (0, 0)) := by
    rw [Below.heap_alloc _ _ _ (by simp)]
    exact heap_alloc_new w _
  have HG1 := Lib.hid g0
  have HG2 := Lib.hid u5
  clear z1 hn g0 u5 hc hl
  go_enter Try.func95, Try.ntmps95
  go_wp2_with fail
  generalize ((w.alloc (.cells #[.iface T (.agg #[]), .int .i64 s] 98)).alloc (.cells #[.int .i64 0, .int .i64 0] 29)) = V0 at *
  have hn : w.heap.size < V0.heap.size := by have := Z1.out; omega
  have hn1 : w.heap.size + 1 < V0.heap.size := by have := Z1.out; omega
  have hbn : b0 < V0.heap.size := by omega
  have hv0 := B0.out
  replace i1 := (hv0.cell (p := ⟨b0, o0, none⟩) hb0).trans i1
  replace i2 := (hv0.cell (p := ⟨b0, o0 + 1, none⟩) hb0).trans i2
  clear hv0
  have UP := Lib.hid (fun W (hW : Below V0.heap.size V0 W) => (⟨(hW.cell (p := ⟨w.heap.size, 0, none⟩) hn).trans u1, (hW.cell (p := ⟨w.heap.size, 1, none⟩) hn).trans u2, (hW.cell (p := ⟨b0, o0, none⟩) hbn).trans i1, (hW.cell (p := ⟨b0, o0 + 1, none⟩) hbn).trans i2⟩ : W.cell? ⟨w.heap.size, 0, none⟩ = some (.iface T (.agg #[])) ∧ W.cell? ⟨w.heap.size, 1, none⟩ = some (.int .i64 s) ∧ W.cell? ⟨b0, o0, none⟩ = some (.int .i64 l0) ∧ W.cell? ⟨b0, o0 + 1, none⟩ = some (.int .i64 n0)))
  have DR2 := Lib.hid (fun W (hW : Below V0.heap.size V0 W) => (D0.out W).mono fun e w' h => (⟨h.1, h.2, hW.trans (h.2.mono hW.size)⟩ : e = .returned (.agg #[.int .i64 x0, .int .i64 y0]) ∧ Below W.heap.size W w' ∧ Below V0.heap.size V0 w'))
  first | (go_region_held3 (fun W => W.cell? ⟨w.heap.size, 0, none⟩ = some (.iface T (.agg #[])) ∧ W.cell? ⟨w.heap.size, 1, none⟩ = some (.int .i64 s) ∧ W.cell? ⟨b0, o0, none⟩ = some (.int .i64 l0) ∧ W.cell? ⟨b0, o0 + 1, none⟩ = some (.int .i64 n0)) (first | exact ⟨u1, u2, i1, i2⟩ | exact ⟨n1, n2, n3, n4⟩ | (refine ⟨?_, ?_, ?_, ?_⟩ <;> repeat (first | assumption | exact u1 | exact u2 | exact i1 | exact i2 | refine al_cell _ ?_ | refine sc_cell (by (first | exact Nat.ne_of_lt hn | exact Nat.ne_of_lt hbn | exact Nat.ne_of_lt (Nat.lt_of_lt_of_le hn hv1.size) | exact Nat.ne_of_lt (Nat.lt_of_lt_of_le hbn hv1.size))) ?_))) (first
      | (go_at_call 149; refine (DR2.out _ (by repeat (first | assumption | exact Below.refl _ _ | refine Below.drew ?_ | refine bdQ ?_ _ | refine Below.alloc ?_ (by first | exact Nat.le_refl _ | exact hv1.size | (simp; done) | (simp; omega)) _))).mono ?_; rintro e w1 ⟨rfl, hb1, hv1⟩; obtain ⟨n1, n2, n3, n4⟩ := UP.out _ hv1; (first | have p1 : w1.heap[V0.heap.size]? = some (.cells #[.int .i64 0, .int .i64 0] 29 (0, 0)) := box1h (belOf hb1) | skip); (first | (have FF := cel2_cells p1; obtain ⟨f1, f2, f3, f4⟩ := FF) | (have FF := cel2_cells (heap_alloc_new w1 (.cells #[.int .i64 0, .int .i64 0] 29)); obtain ⟨f1, f2, f3, f4⟩ := FF))))) | fail
  · have CR : Crn w (w1.alloc (.cells #[.int .i64 x0, .int .i64 y0] 29)) w1.heap.size T s x0 y0 := ⟨(Below.heap_alloc w1 (.cells #[.int .i64 x0, .int .i64 y0] 29) _ (Nat.lt_of_lt_of_le hn hv1.size)).trans ((hv1.block _ hn).trans HG1.out), (Below.heap_alloc w1 (.cells #[.int .i64 x0, .int .i64 y0] 29) _ (Nat.lt_of_lt_of_le hn1 hv1.size)).trans ((hv1.block _ hn1).trans HG2.out), heap_alloc_new w1 (.cells #[.int .i64 x0, .int .i64 y0] 29), Nat.lt_of_lt_of_le hn1 hv1.size, (B0.out.trans (hv1.mono B0.out.size)).alloc (Nat.le_trans B0.out.size hv1.size) (.cells #[.int .i64 x0, .int .i64 y0] 29)⟩
    generalize w1.alloc (.cells #[.int .i64 x0, .int .i64 y0] 29) = W3 at CR ⊢
    generalize w1.heap.size = g7 at CR ⊢
    have CH := Lib.hid CR
    clear CR hb1 hv1 n1 n2 n3 n4 u1 u2 u3 u4 i1 i2 f1 f2 f3 f4 DR2 UP D0 hn hbn hn1
    by_cases hcap : cp = 1
    · subst hcap
      obtain rfl : L = 0 := by omega
      obtain ⟨xl, hxl⟩ : ∃ x, Hid (F 0 = x) := ⟨_, Lib.hid rfl⟩
      obtain ⟨yl, hyl⟩ : ∃ x, Hid (G 0 = x) := ⟨_, Lib.hid rfl⟩
      have C0 := Lib.hid (show Crn w W3 g7 T s xl yl by rw [← hxl.out, ← hyl.out, hx0.out, hy0.out]; exact CH.out)
      go_wp2
      go_loopw [18] (fun i wr => i = .int .i64 0 ∧ wr = W3) (fun _ _ => 0)
      case atStart => exact ⟨rfl, rfl⟩
      case round =>
        obtain ⟨rfl, rfl⟩ := hrel
        obtain ⟨c1, c2, c3, c4, c5, c6, c7, c8, c9, c10⟩ := crn_cells C0.out
        obtain ⟨q0, q1, q2⟩ := stored2 C0.out.2.1 (.int .i64 xl) (.int .i64 yl)
        have HB := Lib.hid C0.out.2.2.2.2
        go_wp2
        exact bodyPost_ret (v := .agg #[.int .i64 xl, .int .i64 yl]) (by simp [results, Try.results95, go_sem, q0, q1, q2]) rfl ⟨by rw [hxl.out, hyl.out], (HB.out.setCell (Nat.le_succ _) _).setCell (Nat.le_succ _) _⟩
    · have HX0 := Lib.hid (show Crn w W3 g7 T s (F 0) (G 0) by rw [hx0.out, hy0.out]; exact CH.out)
      clear CH
      go_wp2
      go_loopw [18] (fun i wr => ∃ k : Nat, k ≤ L ∧ i = .int .i64 (k : Int) ∧ Crn w wr g7 T s (F k) (G k)) (fun i _ => L - (intOf i).toNat)
      case atStart => exact ⟨0, Nat.zero_le _, rfl, HX0.out⟩
      case round =>
        obtain ⟨k, hk, rfl, hC⟩ := hrel
        have CC := Lib.hid hC
        clear hC
        by_cases hlt : k < L
        · obtain ⟨b, off, rk, hbs, j1, j2⟩ := HCL.out (k + 1) (by have := hL.out; omega)
          simp only [Option.some.injEq, Addr.mk.injEq, and_true] at rk
          obtain ⟨rfl, rfl⟩ := rk
          rw [sAt_of (by have := hL.out; omega), show o0 + (k + 1) * 2 = o0 + 2 + k * 2 by omega] at j1 j2
          have v1 := (CC.out.2.2.2.2.cell (p := ⟨b0, o0 + 2 + k * 2, none⟩) hbs).trans j1
          have v2 := (CC.out.2.2.2.2.cell (p := ⟨b0, o0 + 2 + k * 2 + 1, none⟩) hbs).trans j2
          have hk0 : 0 ≤ (k : Int) := by omega
          have hki : (k : Int) < (L : Int) := by omega
          have DD := Lib.hid (DK.out (k + 1) (by have := hL.out; omega))
          have eX : drX (sAt ps (k + 1)).1 (sAt ps (k + 1)).2 s wave = fX ps s wave (k + 1) := rfl
          have eY : near (sAt ps (k + 1)).1 s = fY ps s (k + 1) := rfl
          rw [eX, eY] at DD
          have NX := Lib.hid (HFS.out k)
          have NY := Lib.hid (HGS.out k)
          clear eX eY j1 j2
          generalize (sAt ps (k + 1)).1 = l1 at v1 DD
          generalize (sAt ps (k + 1)).2 = n1 at v2 DD
          generalize fX ps s wave (k + 1) = x1 at DD NX
          generalize fY ps s (k + 1) = y1 at DD NY
          generalize F k = xa at CC NX
          generalize G k = ya at CC NY
          have BA := (Below.refl wr.heap.size wr).alloc (Nat.le_refl _) (.cells #[.int .i64 l1, .int .i64 n1] 25)
          have CV := Lib.hid (crn_keep CC.out BA)
          have PB := Lib.hid (heap_alloc_new wr (.cells #[.int .i64 l1, .int .i64 n1] 25))
          obtain ⟨c1, c2, c3, c4, c5, c6, c7, c8, c9, c10⟩ := crn_cells CV.out
          obtain ⟨d1, d2, d3, d4⟩ := cel2_cells PB.out
          clear BA c7 c8 c9 c10 d3 d4
          go_wp2_with fail
          generalize (wr.alloc (.cells #[.int .i64 l1, .int .i64 n1] 25)) = V at *
          first | (go_region_with (first | (go_at_call 149; refine (DD.out _).mono ?_; rintro e w2 ⟨rfl, hb2⟩; have r2 := Lib.hid (crn_keep CV.out (belOf hb2)); obtain ⟨e1, e2, e3, e4, e5, e6, e7, e8, e9, e10⟩ := crn_cells r2.out; obtain ⟨g1, g2, g3, g4⟩ := cel2_cells (((belOf hb2).block _ (lt_of PB.out)).trans PB.out)) | (refine (HG.out _ _ _ _ _).mono ?_; rintro e w3 ⟨rfl, hb3⟩; have r3 := Lib.hid (crn_keep r2.out hb3); obtain ⟨h1, h2, h3, h4, h5, h6, h7, h8, h9, h10⟩ := crn_cells r3.out))) | fail
          all_goals
            have RS := Lib.hid (crn_store r3.out (op xa x1) (op ya y1))
            clear hb2 hb3 e1 e2 e3 e4 e5 e6 e7 e8 e9 e10 g1 g2 g3 g4 h1 h2 h3 h4 h5 h6 h7 h8 h9 h10 c1 c2 c3 c4 c5 c6 d1 d2
            go_wp2
            go_roundw
            case rel => exact ⟨k + 1, by omega, by go_num, by rw [NX.out, NY.out]; exact RS.out⟩
            case measure => simp [intOf]; omega
        · obtain rfl : k = L := by omega
          obtain ⟨xl, hxl⟩ : ∃ x, Hid (F k = x) := ⟨_, Lib.hid rfl⟩
          obtain ⟨yl, hyl⟩ : ∃ x, Hid (G k = x) := ⟨_, Lib.hid rfl⟩
          rw [hxl.out, hyl.out] at CC
          obtain ⟨c1, c2, c3, c4, c5, c6, c7, c8, c9, c10⟩ := crn_cells CC.out
          obtain ⟨q0, q1, q2⟩ := stored2 CC.out.2.1 (.int .i64 xl) (.int .i64 yl)
          have HB := Lib.hid CC.out.2.2.2.2
          go_wp2
          exact bodyPost_ret (v := .agg #[.int .i64 xl, .int .i64 yl]) (by simp [results, Try.results95, go_sem, q0, q1, q2]) rfl ⟨by rw [hxl.out, hyl.out], (HB.out.setCell (Nat.le_succ _) _).setCell (Nat.le_succ _) _⟩
  · have CR := crn_store (⟨(hv1.block _ hn).trans HG1.out, (hv1.block _ hn1).trans HG2.out, p1, hn1, B0.out.trans (hv1.mono B0.out.size)⟩ : Crn w w1 V0.heap.size T s 0 0) x0 y0
    generalize (w1.setCell ⟨V0.heap.size, 0, none⟩ (.int .i64 x0)).setCell ⟨V0.heap.size, 1, none⟩ (.int .i64 y0) = W3 at CR ⊢
    generalize V0.heap.size = g7 at CR ⊢
    have CH := Lib.hid CR
    clear CR hb1 hv1 n1 n2 n3 n4 u1 u2 u3 u4 i1 i2 f1 f2 f3 f4 DR2 UP D0 hn hbn hn1
    by_cases hcap : cp = 1
    · subst hcap
      obtain rfl : L = 0 := by omega
      obtain ⟨xl, hxl⟩ : ∃ x, Hid (F 0 = x) := ⟨_, Lib.hid rfl⟩
      obtain ⟨yl, hyl⟩ : ∃ x, Hid (G 0 = x) := ⟨_, Lib.hid rfl⟩
      have C0 := Lib.hid (show Crn w W3 g7 T s xl yl by rw [← hxl.out, ← hyl.out, hx0.out, hy0.out]; exact CH.out)
      go_wp2
      go_loopw [18] (fun i wr => i = .int .i64 0 ∧ wr = W3) (fun _ _ => 0)
      case atStart => exact ⟨rfl, rfl⟩
      case round =>
        obtain ⟨rfl, rfl⟩ := hrel
        obtain ⟨c1, c2, c3, c4, c5, c6, c7, c8, c9, c10⟩ := crn_cells C0.out
        obtain ⟨q0, q1, q2⟩ := stored2 C0.out.2.1 (.int .i64 xl) (.int .i64 yl)
        have HB := Lib.hid C0.out.2.2.2.2
        go_wp2
        exact bodyPost_ret (v := .agg #[.int .i64 xl, .int .i64 yl]) (by simp [results, Try.results95, go_sem, q0, q1, q2]) rfl ⟨by rw [hxl.out, hyl.out], (HB.out.setCell (Nat.le_succ _) _).setCell (Nat.le_succ _) _⟩
    · have HX0 := Lib.hid (show Crn w W3 g7 T s (F 0) (G 0) by rw [hx0.out, hy0.out]; exact CH.out)
      clear CH
      go_wp2
      go_loopw [18] (fun i wr => ∃ k : Nat, k ≤ L ∧ i = .int .i64 (k : Int) ∧ Crn w wr g7 T s (F k) (G k)) (fun i _ => L - (intOf i).toNat)
      case atStart => exact ⟨0, Nat.zero_le _, rfl, HX0.out⟩
      case round =>
        obtain ⟨k, hk, rfl, hC⟩ := hrel
        have CC := Lib.hid hC
        clear hC
        by_cases hlt : k < L
        · obtain ⟨b, off, rk, hbs, j1, j2⟩ := HCL.out (k + 1) (by have := hL.out; omega)
          simp only [Option.some.injEq, Addr.mk.injEq, and_true] at rk
          obtain ⟨rfl, rfl⟩ := rk
          rw [sAt_of (by have := hL.out; omega), show o0 + (k + 1) * 2 = o0 + 2 + k * 2 by omega] at j1 j2
          have v1 := (CC.out.2.2.2.2.cell (p := ⟨b0, o0 + 2 + k * 2, none⟩) hbs).trans j1
          have v2 := (CC.out.2.2.2.2.cell (p := ⟨b0, o0 + 2 + k * 2 + 1, none⟩) hbs).trans j2
          have hk0 : 0 ≤ (k : Int) := by omega
          have hki : (k : Int) < (L : Int) := by omega
          have DD := Lib.hid (DK.out (k + 1) (by have := hL.out; omega))
          have eX : drX (sAt ps (k + 1)).1 (sAt ps (k + 1)).2 s wave = fX ps s wave (k + 1) := rfl
          have eY : near (sAt ps (k + 1)).1 s = fY ps s (k + 1) := rfl
          rw [eX, eY] at DD
          have NX := Lib.hid (HFS.out k)
          have NY := Lib.hid (HGS.out k)
          clear eX eY j1 j2
          generalize (sAt ps (k + 1)).1 = l1 at v1 DD
          generalize (sAt ps (k + 1)).2 = n1 at v2 DD
          generalize fX ps s wave (k + 1) = x1 at DD NX
          generalize fY ps s (k + 1) = y1 at DD NY
          generalize F k = xa at CC NX
          generalize G k = ya at CC NY
          have BA := (Below.refl wr.heap.size wr).alloc (Nat.le_refl _) (.cells #[.int .i64 l1, .int .i64 n1] 25)
          have CV := Lib.hid (crn_keep CC.out BA)
          have PB := Lib.hid (heap_alloc_new wr (.cells #[.int .i64 l1, .int .i64 n1] 25))
          obtain ⟨c1, c2, c3, c4, c5, c6, c7, c8, c9, c10⟩ := crn_cells CV.out
          obtain ⟨d1, d2, d3, d4⟩ := cel2_cells PB.out
          clear BA c7 c8 c9 c10 d3 d4
          go_wp2_with fail
          generalize (wr.alloc (.cells #[.int .i64 l1, .int .i64 n1] 25)) = V at *
          first | (go_region_with (first | (go_at_call 149; refine (DD.out _).mono ?_; rintro e w2 ⟨rfl, hb2⟩; have r2 := Lib.hid (crn_keep CV.out (belOf hb2)); obtain ⟨e1, e2, e3, e4, e5, e6, e7, e8, e9, e10⟩ := crn_cells r2.out; obtain ⟨g1, g2, g3, g4⟩ := cel2_cells (((belOf hb2).block _ (lt_of PB.out)).trans PB.out)) | (refine (HG.out _ _ _ _ _).mono ?_; rintro e w3 ⟨rfl, hb3⟩; have r3 := Lib.hid (crn_keep r2.out hb3); obtain ⟨h1, h2, h3, h4, h5, h6, h7, h8, h9, h10⟩ := crn_cells r3.out))) | fail
          all_goals
            have RS := Lib.hid (crn_store r3.out (op xa x1) (op ya y1))
            clear hb2 hb3 e1 e2 e3 e4 e5 e6 e7 e8 e9 e10 g1 g2 g3 g4 h1 h2 h3 h4 h5 h6 h7 h8 h9 h10 c1 c2 c3 c4 c5 c6 d1 d2
            go_wp2
            go_roundw
            case rel => exact ⟨k + 1, by omega, by go_num, by rw [NX.out, NY.out]; exact RS.out⟩
            case measure => simp [intOf]; omega
        · obtain rfl : k = L := by omega
          obtain ⟨xl, hxl⟩ : ∃ x, Hid (F k = x) := ⟨_, Lib.hid rfl⟩
          obtain ⟨yl, hyl⟩ : ∃ x, Hid (G k = x) := ⟨_, Lib.hid rfl⟩
          rw [hxl.out, hyl.out] at CC
          obtain ⟨c1, c2, c3, c4, c5, c6, c7, c8, c9, c10⟩ := crn_cells CC.out
          obtain ⟨q0, q1, q2⟩ := stored2 CC.out.2.1 (.int .i64 xl) (.int .i64 yl)
          have HB := Lib.hid CC.out.2.2.2.2
          go_wp2
          exact bodyPost_ret (v := .agg #[.int .i64 xl, .int .i64 yl]) (by simp [results, Try.results95, go_sem, q0, q1, q2]) rfl ⟨by rw [hxl.out, hyl.out], (HB.out.setCell (Nat.le_succ _) _).setCell (Nat.le_succ _) _⟩
end Go.Proofs.Ytemhmejjmhbfdaa.sines
