/- FnExactSplitWords answers true for every text. -/
import Derived.Test.YtdbjfadnfbpoeaaSWords
namespace Go.Proofs.Ytdbjfadnfbpoeaa.splitWords
open Go.ChangeShapes Go.WideShapes Go.ChangeAt Go.RowKit Go.Proofs.Ytdbjfadnfbpoeaa.split

theorem lists_inj : ∀ (a b : List ByteArray), lists a = lists b → a = b
  | [], [], _ => rfl
  | [], _ :: _, h => by simp [lists] at h
  | _ :: _, [], h => by simp [lists] at h
  | x :: a, y :: b, h => by
    simp only [lists, List.map_cons, List.cons.injEq] at h
    have h1 : x = y := ByteArray.ext (Array.toList_inj.1 h.1)
    rw [h1, lists_inj a b h.2]
theorem bdr {B : Nat} {a w : World} (h : Below B a w) (q : Nat) : Below B a (w.drewN q) := ⟨h.os, h.tape, h.output, h.size, h.block⟩
theorem below_drawn (w : World) (q : Nat) : Below w.heap.size w (w.drewN q) := bdr (Below.refl _ _) q
theorem srow_up {w : World} {B B' : Nat} {v : Value} {ps : List ByteArray} (h : SRow w B v ps) (hB : B' ≤ B) : SRow w B' v ps := by
  refine ⟨h.1, ?_⟩
  rcases h.2 with hn | ⟨g, cap, cur, hv, hg1, hr⟩
  · exact .inl hn
  · exact .inr ⟨g, cap, cur, hv, Nat.le_trans hB hg1, hr⟩
/-- A row whose block lies below another one's is not touched by what is done to that. -/
theorem srow_other {w w' : World} {B C : Nat} {v u : Value} {ps qs : List ByteArray} (h : SRow w B v ps) (hv : ∀ k, v.ownBlock = some k → k < C) (hu : SRow w C u qs) (hg : w.grownBy w' u.ownBlock) : SRow w' B v ps := by
  refine World.ownsRow.kept h hg ?_
  cases hk : v.ownBlock with
  | none => exact .inl rfl
  | some k =>
    refine .inr fun e => ?_
    have h1 := hv k hk
    have h2 := (World.ownsRow.lt hu k e.symm).1
    omega
set_option maxRecDepth 100000 in
set_option maxHeartbeats 1000000 in
theorem walk (s : ByteArray) (w : World) (hs : s.size ≤ maxLen) :
    Calls Try.prog 5 #[.string s] w fun e w' => e = .returned (.bool true) ∧ Below w.heap.size w w' := by
  unfold maxLen at hs
  by_cases hl : 1048576 < s.size
  · have hl' : 1048576 < (s.size : Int) := by omega
    go_enter Try.func5, Try.ntmps5
    go_wp2
    go_ret
    exact ⟨rfl, Below.refl _ _⟩
  have hl' : (s.size : Int) ≤ 1048576 := by omega
  have HS := Lib.hid (show s.size ≤ 1048576 by omega)
  go_enter Try.func5, Try.ntmps5
  go_wp2_with fail
  refine (specSplit_any s w HS.out).mono ?_
  rintro e w1 ⟨vw, ps, rfl, hlw, hnw, hrw, hb1⟩
  have HLW := Lib.hid hlw
  have R1 := Lib.hid hrw
  have B1 := Lib.hid hb1
  have hn : ps.length ≤ 2000000 := by omega
  clear hlw hrw hb1 hnw
  go_wp2_with fail
  refine (implSplit_any s w1 HS.out).mono ?_
  rintro e w2 ⟨vg, pg, rfl, hlg, hrg, hb2⟩
  obtain rfl : pg = ps := lists_inj _ _ (hlg.trans HLW.out.symm)
  have R2w := Lib.hid (srow_keep R1.out hb2)
  have R2g := Lib.hid hrg
  have B2 := Lib.hid (B1.out.trans (hb2.mono B1.out.size))
  have LW := Lib.hid (show ∀ k, vw.ownBlock = some k → k < w1.heap.size from fun k hk => (World.ownsRow.lt R1.out k hk).2)
  have Z1 := Lib.hid B1.out.size
  clear hlg hrg hb2
  go_wp2_with fail
  refine (eq_same vg vw _ _ pg w2 R2g.out R2w.out (by omega)).mono ?_
  rintro e w3 ⟨rfl, q, hw3⟩
  have R3w := Lib.hid (show SRow w3 _ vw pg by rw [hw3]; exact srow_keep R2w.out (below_drawn w2 q))
  have R3g := Lib.hid (show SRow w3 _ vg pg by rw [hw3]; exact srow_keep R2g.out (below_drawn w2 q))
  have B3 := Lib.hid (show Below w.heap.size w w3 by rw [hw3]; exact bdr B2.out q)
  clear hw3
  go_wp2_with fail
  refine (mark_any vg _ pg w3 R3g.out hn).mono ?_
  rintro e w4 ⟨rfl, hr4, hg4⟩
  have R4g := Lib.hid hr4
  have R4w := Lib.hid (srow_other R3w.out LW.out R3g.out hg4)
  have B4 := Lib.hid (show Below w.heap.size w w4 from B3.out.grown hg4 B3.out.size (fun k hk => Nat.le_trans Z1.out (World.ownsRow.lt R3g.out k hk).1))
  have SH := Lib.hid (srow_shape R3g.out).1
  clear hr4 hg4
  go_wp2_with fail
  refine (held_any vg _ pg.length w4 SH.out R4g.out hn).mono ?_
  rintro e w5 ⟨rfl, hb5⟩
  have R5g := Lib.hid (srow_keep R4g.out hb5)
  have R5w := Lib.hid (srow_keep R4w.out hb5)
  have B5 := Lib.hid (B4.out.trans (hb5.mono B4.out.size))
  clear hb5
  have hn0 : 0 ≤ (pg.length : Int) := by omega
  have hn1 : (pg.length : Int) ≤ 2000000 := by omega
  go_wp2_with fail
  refine (implSplit_any s w5 HS.out).mono ?_
  rintro e w6 ⟨vh, ph, rfl, hlh, hrh, hb6⟩
  obtain rfl : ph = pg := lists_inj _ _ (hlh.trans HLW.out.symm)
  have R6g := Lib.hid (srow_keep R5g.out hb6)
  have R6w := Lib.hid (srow_keep R5w.out hb6)
  have R6h := Lib.hid hrh
  have B6 := Lib.hid (B5.out.trans (hb6.mono B5.out.size))
  clear hlh hrh hb6
  go_wp2_with fail
  refine (eq_same vh vw _ _ ph w6 R6h.out R6w.out (by omega)).mono ?_
  rintro e w7 ⟨rfl, q2, hw7⟩
  have R7g := Lib.hid (show SRow w7 _ vg (marks 1 ph.length) by rw [hw7]; exact srow_keep R6g.out (below_drawn w6 q2))
  have B7 := Lib.hid (show Below w.heap.size w w7 by rw [hw7]; exact bdr B6.out q2)
  clear hw7
  go_wp2_with fail
  refine (held_any vg _ ph.length w7 SH.out R7g.out hn).mono ?_
  rintro e w8 ⟨rfl, hb8⟩
  go_wp2
  go_ret
  exact ⟨rfl, B7.out.trans (hb8.mono B7.out.size)⟩

set_option maxRecDepth 100000 in
theorem lifted (os : Os) (started : os.Started) (H : Type) (enc : TypeId × Value → H) :
    ReturnsInHanded {} Try.checked os 5 .any (Rows.fnExactSplitWordsSpec.pre6 enc Try.prog Try.f5 Rows.fnExactSplitWordsRow.domain false) (Rows.fnExactSplitWordsSpec.post enc Try.prog Try.f5 false true false false) := by
  refine returnsInHanded_of_change (C := Try.checked) own started (by kernel_rfl) Try.func5
    (ChangeSpec.witness6 (enc := enc) (C := Try.checked) false ⟨#[], #[.string ByteArray.empty], []⟩ 8 (by kernel_rfl) (by kernel_rfl) (by kernel_rfl) (by kernel_rfl)) ?_
  intro W base args ds gs before hval0 hW hcnd _
  have hval : ∀ (j : Nat) t v, Try.f5.params[j]? = some t → args[j]? = some v → Value.okWide Try.prog W .any base t v := hval0
  have hW' := hW
  obtain ⟨p, q, hA0, hV, hpq, hfz, hnd⟩ := hW
  have hA : DataW.TrodAll enc Try.prog W 0 (fun _ => true) true Try.f5.params.toList args.toList ds p := hA0
  rw [Try.params5] at hA hval
  obtain ⟨v0, vs0, d0, ds0, p0, q0, hargs, rfl, rfl, h0, r0⟩ := trodAll_cons hA
  obtain ⟨rfl, rfl, rfl⟩ := trodAll_nil r0
  obtain rfl : args = #[v0] := by cases args; simp_all
  obtain ⟨a0, rfl, _, _, w0⟩ := Go.ChangeMaps.open_string Try.underlying9 (hval 0 9 v0 rfl rfl) h0
  refine (walk a0 W w0).mono fun e W' ⟨he, bel⟩ => ?_
  subst he
  exact ⟨_, rfl, post_of_law laidOut (by kernel_rfl) Try.underlying4 rfl rfl (fun ds h => by match ds, h with | [_], _ => rfl) hW' bel⟩

theorem holds : Rows.FnExactSplitWordsSaid :=
  OpenClaim.holds_of_wide 5 Try.f5 rfl rfl rfl rfl rfl rfl rfl ⟨rfl, rfl, rfl, rfl, rfl⟩ rfl rfl rfl rfl rfl (by kernel_rfl) Try.func5 (by kernel_rfl)
    (of_decide_eq_true (by kernel_rfl)) (by unfold Func.isWrapper; first | (rw [if_pos (by decide +kernel)]; kernel_rfl) | (rw [if_neg (by decide +kernel)]; exact ⟨rfl, rfl⟩))
    (fun os started H enc _ => lifted os started H enc)
#print axioms holds

end Go.Proofs.Ytdbjfadnfbpoeaa.splitWords
