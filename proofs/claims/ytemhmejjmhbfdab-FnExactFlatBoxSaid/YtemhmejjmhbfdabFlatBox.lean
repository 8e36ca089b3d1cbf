/- FnExactFlatBox answers true for every list of places, every scale and both maps. -/
import Derived.Test.YtemhmejjmhbfdabPlatesI15
import Derived.Test.YtemhmejjmhbfdabOwn2
import Derived.Test.YtemhmejjmhbfdabFlats
namespace Go.Proofs.Ytemhmejjmhbfdab.flatBox
open Go.ChangeShapes Go.WideShapes Go.ChangeAt Go.RowKit Go.Proofs.Ytemhmejjmhbfdab.spots Go.Proofs.Ytemhmejjmhbfdab.sines Go.Proofs.Ytemhmejjmhbfdab.irows Go.Proofs.Ytemhmejjmhbfdab.pairs Go.Proofs.Ytemhmejjmhbfdab.own2 Go.Proofs.Ytemhmejjmhbfdab.flats
def BoxAt (W : World) (n : Nat) (x y : Int) : Prop := W.cell? ⟨n, 0, none⟩ = some (.int .i64 x) ∧ W.cell? ⟨n, 1, none⟩ = some (.int .i64 y) ∧ n < W.heap.size
theorem box_keep {W W' : World} {n : Nat} {x y : Int} (h : BoxAt W n x y) (hb : Below W.heap.size W W') : BoxAt W' n x y := keepF hb h.2.2 h.1 h.2.1
theorem boxes_laid (W : World) (x y z t : Int) (T : TypeId) : Below W.heap.size W ((W.alloc (.cells #[.int .i64 x, .int .i64 y] T)).alloc (.cells #[.int .i64 z, .int .i64 t] T)) ∧ BoxAt ((W.alloc (.cells #[.int .i64 x, .int .i64 y] T)).alloc (.cells #[.int .i64 z, .int .i64 t] T)) W.heap.size x y ∧ BoxAt ((W.alloc (.cells #[.int .i64 x, .int .i64 y] T)).alloc (.cells #[.int .i64 z, .int .i64 t] T)) (W.heap.size + 1) z t := by
  obtain ⟨a1, a2, a4, a3⟩ := newF W (.int .i64 x) (.int .i64 y) T
  obtain ⟨b1, b2, b4, b3⟩ := newF (W.alloc (.cells #[.int .i64 x, .int .i64 y] T)) (.int .i64 z) (.int .i64 t) T
  obtain ⟨c1, c2, c4⟩ := keepF b3 a4 a1 a2
  have e : (W.alloc (.cells #[.int .i64 x, .int .i64 y] T)).heap.size = W.heap.size + 1 := by simp
  rw [e] at b1 b2 b4
  exact ⟨a3.trans (b3.mono a3.size), ⟨c1, c2, c4⟩, ⟨b1, b2, b4⟩⟩

set_option maxRecDepth 100000 in
set_option maxHeartbeats 2000000 in
theorem walk (vps : Value) (ps : List (Int × Int)) (s : Int) (wave : Bool) (w : World) (hv : PAt w w.heap.size vps ps) (hm : ps.length ≤ maxLen) (_ : (Lit.int .i64 s).wf = true) :
    Calls Try.prog 3 #[vps, .int .i64 s, .bool wave] w fun e w' => e = .returned (.bool true) ∧ Below w.heap.size w w' := by
  have HV := Lib.hid hv
  clear hv
  by_cases hbig : 1048576 < ps.length
  · go_enter Try.func3, Try.ntmps3
    go_wp2_with (go_at_call 9; refine (sz_no vps ps w _ HV.out hm hbig).mono ?_; rintro e w' ⟨rfl, rfl⟩)
    go_ret
    exact ⟨rfl, Below.refl _ _⟩
  have hl : ps.length ≤ 1048576 := by omega
  clear hbig
  obtain ⟨c0, HC0⟩ : ∃ c, Hid (boxV ps s (minN (fX ps s wave) (ps.length - 1)) = c) := ⟨_, Lib.hid rfl⟩
  obtain ⟨c1, HC1⟩ : ∃ c, Hid (boxV ps s (minN (fY ps s) (ps.length - 1)) = c) := ⟨_, Lib.hid rfl⟩
  obtain ⟨c2, HC2⟩ : ∃ c, Hid (boxV ps s (maxN (fX ps s wave) (ps.length - 1)) = c) := ⟨_, Lib.hid rfl⟩
  obtain ⟨c3, HC3⟩ : ∃ c, Hid (boxV ps s (maxN (fY ps s) (ps.length - 1)) = c) := ⟨_, Lib.hid rfl⟩
  obtain ⟨c4, HC4⟩ : ∃ c, Hid (codeFB ps s = c) := ⟨_, Lib.hid rfl⟩
  have hl2 : (ps.length : Int) ≤ 1048576 := by omega
  have HB0 := Lib.hid (Below.refl w.heap.size w)
  go_enter Try.func3, Try.ntmps3
  go_wp2_with fail
  refine (sz_yes vps ps w _ HV.out hl).mono ?_
  rintro e w' ⟨rfl, rfl⟩
  have hsz0 : decide (1048576 - (ps.length : Int) < 0) = false := by simp; omega
  go_wp2_with fail
  refine (toS_any vps ps w HV.out hl).mono ?_
  rintro e w1 ⟨ux0, rfl, hr, hb⟩
  have HB1 := Lib.hid (HB0.out.trans (hb.mono HB0.out.size))
  have R1 := Lib.hid hr
  clear hr
  clear hb
  have BZ2 := Lib.hid (show w.heap.size ≤ w.heap.size from Nat.le_refl _)
  go_wp2_with fail
  refine (specFlatBox_any ux0 ps s wave w1 (prow_at R1.out) hl).mono ?_
  rw [HC0.out]
  rw [HC1.out]
  rw [HC2.out]
  rw [HC3.out]
  rw [HC4.out]
  rintro e w2 ⟨rfl, hb⟩
  have HB2 := Lib.hid (HB1.out.trans (hb.mono HB1.out.size))
  have R3 := Lib.hid (prow_keep R1.out hb)
  clear hb
  obtain ⟨hb, x1, x2⟩ := boxes_laid w2 c0 c1 c2 c3 25
  have HB3 := Lib.hid (HB2.out.trans (hb.mono HB2.out.size))
  have X4 := Lib.hid x1
  have X5 := Lib.hid x2
  clear hb x1 x2
  go_wp2_with fail
  generalize ((w2.alloc (.cells #[.int .i64 c0, .int .i64 c1] 25)).alloc (.cells #[.int .i64 c2, .int .i64 c3] 25)) = w3 at *
  go_wp2_with fail
  refine (toS_any vps ps w3 (pat_up (pat_keep HV.out HB3.out) HB3.out.size) hl).mono ?_
  rintro e w4 ⟨ux1, rfl, hr, hb⟩
  have HB4 := Lib.hid (HB3.out.trans (hb.mono HB3.out.size))
  have R8 := Lib.hid hr
  clear hr
  have X6 := Lib.hid (box_keep X4.out hb)
  have X7 := Lib.hid (box_keep X5.out hb)
  clear hb
  have BZ9 := Lib.hid (show w.heap.size ≤ w3.heap.size from HB3.out.size)
  go_wp2_with fail
  refine (implFlatBox_any ux1 ps s wave w4 R8.out hl).mono ?_
  rw [HC0.out]
  rw [HC1.out]
  rw [HC2.out]
  rw [HC3.out]
  rw [HC4.out]
  rintro e w5 ⟨rfl, hb⟩
  have HB5 := Lib.hid (HB4.out.trans (hb.mono HB4.out.size))
  have R12 := Lib.hid (prow_keep R8.out hb)
  have X10 := Lib.hid (box_keep X6.out hb)
  have X11 := Lib.hid (box_keep X7.out hb)
  clear hb
  obtain ⟨hb, x1, x2⟩ := boxes_laid w5 c0 c1 c2 c3 25
  have HB6 := Lib.hid (HB5.out.trans (hb.mono HB5.out.size))
  have R15 := Lib.hid (prow_keep R12.out hb)
  have X16 := Lib.hid (box_keep X10.out hb)
  have X17 := Lib.hid (box_keep X11.out hb)
  have X13 := Lib.hid x1
  have X14 := Lib.hid x2
  clear hb x1 x2
  obtain ⟨p1, p2, _⟩ := X13.out
  obtain ⟨q1, q2, _⟩ := X16.out
  go_wp2_with fail
  generalize ((w5.alloc (.cells #[.int .i64 c0, .int .i64 c1] 25)).alloc (.cells #[.int .i64 c2, .int .i64 c3] 25)) = w6 at *
  go_wp2_with fail
  refine (eqFlat_bel c0 c1 w6).mono ?_
  rintro e w7 ⟨rfl, hb⟩
  have HB7 := Lib.hid (HB6.out.trans (hb.mono HB6.out.size))
  have R22 := Lib.hid (prow_keep R15.out hb)
  clear p1 p2 q1 q2
  have X18 := Lib.hid (box_keep X16.out hb)
  have X19 := Lib.hid (box_keep X17.out hb)
  have X20 := Lib.hid (box_keep X13.out hb)
  have X21 := Lib.hid (box_keep X14.out hb)
  clear hb
  obtain ⟨p1, p2, _⟩ := X21.out
  obtain ⟨q1, q2, _⟩ := X19.out
  go_wp2_with fail
  refine (eqFlat_bel c2 c3 w7).mono ?_
  rintro e w8 ⟨rfl, hb⟩
  have HB8 := Lib.hid (HB7.out.trans (hb.mono HB7.out.size))
  have R27 := Lib.hid (prow_keep R22.out hb)
  clear p1 p2 q1 q2
  have X23 := Lib.hid (box_keep X18.out hb)
  have X24 := Lib.hid (box_keep X19.out hb)
  have X25 := Lib.hid (box_keep X20.out hb)
  have X26 := Lib.hid (box_keep X21.out hb)
  clear hb
  go_wp2_with fail
  refine (toS_any vps ps w8 (pat_up (pat_keep HV.out HB8.out) HB8.out.size) hl).mono ?_
  rintro e w9 ⟨ux2, rfl, hr, hb⟩
  have HB9 := Lib.hid (HB8.out.trans (hb.mono HB8.out.size))
  have R32 := Lib.hid (prow_keep R27.out hb)
  have R33 := Lib.hid hr
  have NE34 := Lib.hid (ne_of R27.out R33.out)
  have NE35 := Lib.hid (ne_of' R27.out R33.out)
  clear hr
  have X28 := Lib.hid (box_keep X23.out hb)
  have X29 := Lib.hid (box_keep X24.out hb)
  have X30 := Lib.hid (box_keep X25.out hb)
  have X31 := Lib.hid (box_keep X26.out hb)
  clear hb
  have BZ36 := Lib.hid (show w.heap.size ≤ w8.heap.size from HB8.out.size)
  go_wp2_with fail
  refine (eqS_same ux1 ux2 ps w9 (prow_at R32.out) (prow_at R33.out) hl).mono ?_
  rintro e w10 ⟨rfl, hb⟩
  have HB10 := Lib.hid (HB9.out.trans (hb.mono HB9.out.size))
  have R41 := Lib.hid (prow_keep R32.out hb)
  have R42 := Lib.hid (prow_keep R33.out hb)
  have X37 := Lib.hid (box_keep X28.out hb)
  have X38 := Lib.hid (box_keep X29.out hb)
  have X39 := Lib.hid (box_keep X30.out hb)
  have X40 := Lib.hid (box_keep X31.out hb)
  clear hb
  go_wp2
  go_ret
  exact ⟨rfl, HB10.out⟩

set_option maxRecDepth 100000 in
theorem lifted (os : Os) (started : os.Started) (H : Type) (enc : TypeId × Value → H) :
    ReturnsInHanded {} Try.checked os 3 .any (Rows.fnExactFlatBoxSpec.pre6 enc Try.prog Try.f3 Rows.fnExactFlatBoxRow.domain false) (Rows.fnExactFlatBoxSpec.post enc Try.prog Try.f3 false true false false) := by
  refine returnsInHanded_of_change (C := Try.checked) own started (by kernel_rfl) Try.func3
    (ChangeSpec.witness6 (enc := enc) (C := Try.checked) false ⟨#[], #[.slice none 0 0, .int .i64 0, .bool false], []⟩ 8 (by kernel_rfl) (by kernel_rfl) (by kernel_rfl) (by kernel_rfl)) ?_
  intro W base args ds gs before hval0 hW hcnd _
  have hval : ∀ (j : Nat) t v, Try.f3.params[j]? = some t → args[j]? = some v → Value.okWide Try.prog W .any base t v := hval0
  have hW' := hW
  obtain ⟨p, q, hA0, hV, hpq, hfz, hnd⟩ := hW
  have hA : DataW.TrodAll enc Try.prog W 0 (fun _ => true) true Try.f3.params.toList args.toList ds p := hA0
  rw [Try.params3] at hA hval
  obtain ⟨v0, vs0, d0, ds0, p0, q0, hargs, rfl, rfl, h0, r0⟩ := trodAll_cons hA
  obtain ⟨v1, vs1, d1, ds1, p1, q1, rfl, rfl, rfl, h1, r1⟩ := trodAll_cons r0
  obtain ⟨v2, vs2, d2, ds2, p2, q2, rfl, rfl, rfl, h2, r2⟩ := trodAll_cons r1
  obtain ⟨rfl, rfl, rfl⟩ := trodAll_nil r2
  obtain rfl : args = #[v0, v1, v2] := by cases args; simp_all
  obtain ⟨a0, len0, cap0, rfl⟩ := okWide_slice Try.underlying22 (hval 0 22 v0 rfl rfl)
  obtain ⟨fuel0, hf0⟩ := h0
  obtain ⟨ps0, hp0, hl0⟩ := Go.Proofs.Ytemhmejjmhbfdab.pairs.open_list hf0 ⟨_, _, _, rfl⟩
  obtain ⟨a1, rfl, _, _, w1⟩ := open_int Try.underlying2 (hval 1 2 v1 rfl rfl) h1
  obtain ⟨a2, rfl, _, _⟩ := open_bool Try.underlying4 (hval 2 4 v2 rfl rfl) h2
  refine (walk (.slice a0 len0 cap0) ps0 a1 a2 W hp0 hl0 w1).mono fun e W' ⟨he, bel⟩ => ?_
  subst he
  exact ⟨_, rfl, post_of_law laidOut (by kernel_rfl) Try.underlying4 rfl rfl (fun ds h => by match ds, h with | [_, _, _], _ => rfl) hW' bel⟩

theorem holds : Rows.FnExactFlatBoxSaid :=
  OpenClaim.holds_of_wide 3 Try.f3 rfl rfl rfl rfl rfl rfl rfl ⟨rfl, rfl, rfl, rfl, rfl⟩ rfl rfl rfl rfl rfl (by kernel_rfl) Try.func3 (by kernel_rfl)
    (of_decide_eq_true (by kernel_rfl)) (by unfold Func.isWrapper; first | (rw [if_pos (by decide +kernel)]; kernel_rfl) | (rw [if_neg (by decide +kernel)]; exact ⟨rfl, rfl⟩))
    (fun os started H enc _ => lifted os started H enc)
#print axioms holds

end Go.Proofs.Ytemhmejjmhbfdab.flatBox
