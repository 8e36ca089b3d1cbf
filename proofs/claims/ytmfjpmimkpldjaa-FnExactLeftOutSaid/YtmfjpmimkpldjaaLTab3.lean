/- Lists of labels of the call's own are marked. -/
import Derived.Test.YtmfjpmimkpldjaaLTab2
namespace Go.Proofs.Ytmfjpmimkpldjaa.ltab
open Go.ChangeShapes Go.WideShapes Go.ChangeAt Go.RowKit Go.Proofs.Ytmfjpmimkpldjaa.irows Go.Proofs.Ytmfjpmimkpldjaa.sines
set_option linter.unusedSimpArgs false
set_option linter.unusedVariables false

theorem irow_mid {w w' : World} {B C B' : Nat} {v : Value} {xs : List Int} (h : IRow w B' v xs) (hm : Mid B C w w') (hB : C ≤ B') : IRow w' B' v xs := own_mid h hm hB
theorem irow_below {w w' : World} {B C : Nat} {v : Value} {xs : List Int} (h : IRow w B v xs) (hC : ∀ b, v.ownBlock = some b → b < C) (hb : Below C w w') : IRow w' B v xs := ownL_below h hC hb
theorem lv_mark {w w1 : World} {B C g n k : Nat} {cs : List Value} {qs : List Lb} {m0 m1 m3 : Int} {x : Value} {ys : List Int} (h : LV w B C g n cs qs) (hn : qs.length = n) (hk : k < qs.length) (hx : cs[k * 4 + 2]? = some x) (hne : x.ownBlock = none ∨ x.ownBlock ≠ some g)
    (hg : ((w.setCell ⟨g, k * 4, none⟩ (.int .i64 m0)).setCell ⟨g, k * 4 + 1, none⟩ (.int .i64 m1)).grownBy w1 x.ownBlock) (hys : IRow w1 B x ys) :
    (w1.cell? ⟨g, k * 4 + 3, none⟩ = cs[k * 4 + 3]? ∧ w1.frozen? ⟨g, k * 4 + 3, none⟩ = false) ∧ ∃ cs', LV (w1.setCell ⟨g, k * 4 + 3, none⟩ (.int .i64 m3)) B C g n cs' (qs.set k (m0, m1, ys, m3)) := by
  have hl := lv_len h
  obtain ⟨h1, h2, h3, h4, h5, h6⟩ := h
  have s1 := (World.ownsRow.stored h1 (k * 4) (.int .i64 m0)).1
  have s2 := (World.ownsRow.stored s1 (k * 4 + 1) (.int .i64 m1)).1
  have g2 := Lib.grownBy_setB (Lib.grownBy_setB (World.grownBy.refl w (some g)) (k * 4) (.int .i64 m0)) (k * 4 + 1) (.int .i64 m1)
  have hv : (Value.slice (some ⟨g, 0, none⟩) n n).ownBlock = none ∨ (Value.slice (some ⟨g, 0, none⟩) n n).ownBlock ≠ x.ownBlock := .inr fun e => by
    rcases hne with e2 | e2
    · rw [e2] at e; simp [Value.ownBlock] at e
    · exact e2 e.symm
  have s3 := World.ownsRow.kept s2 hg hv
  have s4 := (World.ownsRow.stored s3 (k * 4 + 3) (.int .i64 m3)).1
  have g4 := Lib.grownBy_setB (World.grownBy.refl w1 (some g)) (k * 4 + 3) (.int .i64 m3)
  have nn : ∀ i, i ≠ k → ∀ j, j < 4 → (((cs.set (k * 4) (.int .i64 m0)).set (k * 4 + 1) (.int .i64 m1)).set (k * 4 + 3) (.int .i64 m3))[i * 4 + j]? = cs[i * 4 + j]? := fun i hi j hj => by
    rw [List.getElem?_set_ne (by omega), List.getElem?_set_ne (by omega), List.getElem?_set_ne (by omega)]
  have n2 : (((cs.set (k * 4) (.int .i64 m0)).set (k * 4 + 1) (.int .i64 m1)).set (k * 4 + 3) (.int .i64 m3))[k * 4 + 2]? = cs[k * 4 + 2]? := by
    rw [List.getElem?_set_ne (by omega), List.getElem?_set_ne (by omega), List.getElem?_set_ne (by omega)]
  have all2 : ∀ i, (((cs.set (k * 4) (.int .i64 m0)).set (k * 4 + 1) (.int .i64 m1)).set (k * 4 + 3) (.int .i64 m3))[i * 4 + 2]? = cs[i * 4 + 2]? := fun i => by
    by_cases e : i = k
    · subst e; exact n2
    · exact nn i e 2 (by omega)
  obtain ⟨x', _, _, e3, _, hx5, hx6, hx7⟩ := h4 k hk
  rw [hx] at e3; cases e3
  refine ⟨⟨?_, World.ownsRow.frozenAt s3 _⟩, _, s4, h2, by simpa using h3, fun i hi => ?_, fun i hi hin => by rw [List.length_set] at hi; omega, fun i j y z hij hj hy hz => ?_⟩
  · rw [World.ownsRow.cellAt s3 _ (by omega), List.getElem?_set_ne (by omega), List.getElem?_set_ne (by omega)]
  · by_cases e : i = k
    · subst e
      rw [List.getElem_set_self]
      refine ⟨x, ?_, ?_, n2.trans hx, ?_, World.ownsRow.kept hys g4 hne, hx6, hne⟩
      · rw [List.getElem?_set_ne (by omega), List.getElem?_set_ne (by omega), List.getElem?_set_self (by omega)]
      · rw [List.getElem?_set_ne (by omega), List.getElem?_set_self (by simp; omega)]
      · rw [List.getElem?_set_self (by simp; omega)]
    · rw [List.getElem_set_ne (fun h => e h.symm)]
      have hi2 : i < qs.length := by simpa using hi
      obtain ⟨y, e1, e2, e3, e4, e5, e6, e7⟩ := h4 i hi2
      refine ⟨y, (nn i e 0 (by omega)).trans e1, (nn i e 1 (by omega)).trans e2, (all2 i).trans e3, (nn i e 3 (by omega)).trans e4, ?_, e6, e7⟩
      refine World.ownsRow.kept (World.ownsRow.kept (World.ownsRow.kept e5 g2 e7) hg ?_) g4 e7
      rcases Nat.lt_or_gt_of_ne e with hlt | hlt
      · exact h6 i k y x hlt hk e3 hx
      · rcases h6 k i x y hlt hi2 hx e3 with e8 | e8
        · cases ey : y.ownBlock with
          | none => exact .inl rfl
          | some b => exact .inr (by rw [e8]; simp)
        · exact .inr fun e9 => e8 e9.symm
  · rw [all2 i] at hy
    rw [all2 j] at hz
    exact h6 i j y z hij (by simpa using hj) hy hz
set_option maxRecDepth 100000 in
set_option maxHeartbeats 1000000 in
theorem markI_any (v : Value) (B : Nat) (zs : List Int) (k0 : Int) (w : World) (ha : IRow w B v zs) (hn : zs.length ≤ 1048576) (h0 : 0 ≤ k0) (h1 : k0 ≤ 16000000) :
    Calls Try.prog 61 #[v, .int .i64 k0] w fun e w' => e = .returned (.int .i64 (k0 + (zs.length : Int))) ∧ (∃ ys, ys.length = zs.length ∧ IRow w' B v ys) ∧ w.grownBy w' v.ownBlock := by
  obtain ⟨⟨aa, ca, rfl⟩, sa⟩ := irow_shape ha
  have H0 := Lib.hid ha
  have HS := Lib.hid sa
  clear ha sa
  go_enter Try.func61, Try.ntmps61
  go_wp2
  go_loopw [1, 5] (fun m i wr => ∃ k : Nat, k ≤ zs.length ∧ i = .int .i64 (k : Int) ∧ m = .int .i64 (k0 + (k : Int)) ∧ (∃ ys, ys.length = zs.length ∧ IRow wr B (.slice aa zs.length ca) ys) ∧ w.grownBy wr (Value.slice aa zs.length ca).ownBlock) (fun _ i _ => zs.length - (intOf i).toNat)
  case atStart => exact ⟨0, Nat.zero_le _, rfl, by simp, ⟨zs, rfl, H0.out⟩, World.grownBy.refl _ _⟩
  case round =>
    obtain ⟨k, hk, rfl, rfl, ⟨ys, hyl, hr⟩, hg⟩ := hrel
    by_cases hlt : k < zs.length
    · obtain ⟨g, c, e, hB⟩ := HS.out (by omega)
      simp at e
      obtain ⟨rfl, rfl⟩ := e
      have hk0 : 0 ≤ (k : Int) := by omega
      have hk1 : (k : Int) < (zs.length : Int) := by omega
      have h2 : IRow wr B (.slice (some ⟨g, 0, none⟩) ys.length ca) ys := by rw [hyl]; exact hr
      have hc1 := irow_cell h2 k (by omega)
      have hf1 : wr.frozen? ⟨g, k, none⟩ = false := World.ownsRow.frozenAt h2 k
      have kw : IntKind.i64.wrap (k0 + (k : Int)) = k0 + (k : Int) := IntWalk.i64_in _ (by omega)
      have kw1 : IntKind.i64.wrap (k0 + (k : Int) + 1) = k0 + (k : Int) + 1 := IntWalk.i64_in _ (by omega)
      have HR := Lib.hid hr
      have HL := Lib.hid hyl
      have HG := Lib.hid (Lib.grownBy_setB (show w.grownBy wr (some g) from hg) k (.int .i64 (k0 + (k : Int))))
      generalize ys[k]'(by omega) = old at hc1
      clear hr hg hyl h2
      go_wp2
      go_roundw
      case rel => exact ⟨k + 1, by omega, by go_num, by rw [show k0 + ((k + 1 : Nat) : Int) = k0 + (k : Int) + 1 by omega], ⟨ys.set k (k0 + (k : Int)), by rw [List.length_set]; exact HL.out, irow_store HR.out HL.out (by simp [ints, List.map_set]) (by rw [List.length_set]; exact HL.out)⟩, HG.out⟩
      case measure => simp [intOf]; omega
    · obtain rfl : k = zs.length := by omega
      have HG := Lib.hid hg
      have HR := Lib.hid hr
      have HL := Lib.hid hyl
      clear hr hg hyl
      go_wp2
      go_ret
      exact ⟨rfl, ⟨ys, HL.out, HR.out⟩, HG.out⟩
set_option maxRecDepth 100000 in
set_option maxHeartbeats 2000000 in
theorem markL_any (g : Nat) (cs : List Value) (B C : Nat) (ps : List Lb) (k0 : Int) (w : World) (h : LV w B C g ps.length cs ps) (hl : ps.length ≤ 1048576) (ht : totL ps ps.length ≤ 1048576) (h0 : 0 ≤ k0) (h1 : k0 ≤ 4000000) :
    Calls Try.prog 60 #[.slice (some ⟨g, 0, none⟩) ps.length ps.length, .int .i64 k0] w fun e w' => (∃ r : Int, e = .returned (.int .i64 r) ∧ 0 ≤ r ∧ r ≤ k0 + 4194304) ∧ Mid B C w w' := by
  have HH := Lib.hid h
  have HT := Lib.hid ht
  have HL := Lib.hid hl
  have hBg := (lv_lt h).1
  have hgC := h.2.1
  have hl2 : (ps.length : Int) ≤ 1048576 := by omega
  clear h
  go_enter Try.func60, Try.ntmps60
  go_wp2
  go_loopw [1, 5] (fun m i wr => ∃ k : Nat, k ≤ ps.length ∧ i = .int .i64 (k : Int) ∧ m = .int .i64 (k0 + 3 * (k : Int) + (totL ps k : Int)) ∧ (∃ cs qs, LV wr B C g ps.length cs qs ∧ qs.length = ps.length ∧ ∀ j, (hj : j < qs.length) → qs[j].2.2.1.length = (ps.getD j (0, 0, [], 0)).2.2.1.length) ∧ Mid B C w wr) (fun _ i _ => ps.length - (intOf i).toNat)
  case atStart => exact ⟨0, Nat.zero_le _, rfl, by simp [totL], ⟨cs, ps, HH.out, rfl, fun j hj => by simp [hj]⟩, mid_refl _ _ _⟩
  case round =>
    obtain ⟨k, hk, rfl, rfl, ⟨cs1, qs, hv, hql, hqs⟩, hm⟩ := hrel
    have HV := Lib.hid hv
    have HQ := Lib.hid hqs
    have HQL := Lib.hid hql
    have HM := Lib.hid hm
    have hk0 : 0 ≤ (k : Int) := by omega
    have TK := totL_le ps hk
    by_cases hlt : k < ps.length
    · have hkq : k < qs.length := by omega
      obtain ⟨x, e1, e2, e3, e4, hx5, hx6, hx7⟩ := hv.2.2.2.1 k hkq
      obtain ⟨q0, q1, q2, q3, f0, f1, f2, f3⟩ := lv_cells hv k hlt ⟨e1, e2, e3, e4⟩
      have hk1 : (k : Int) < (ps.length : Int) := by omega
      have ET := Lib.hid (show totL ps (k + 1) = totL ps k + (ps.getD k (0, 0, [], 0)).2.2.1.length from rfl)
      have TK1 := totL_le ps (show k + 1 ≤ ps.length by omega)
      have EL := hqs k hkq
      have LL : qs[k].2.2.1.length ≤ 1048576 := by have := ET.out; have := HT.out; omega
      have HTk : (totL ps k : Int) + (qs[k].2.2.1.length : Int) ≤ 1048576 := by have := ET.out; have := HT.out; omega
      have g2 := Lib.grownBy_setB (Lib.grownBy_setB (World.grownBy.refl wr (some g)) (k * 4) (.int .i64 (k0 + 3 * (k : Int) + (totL ps k : Int)))) (k * 4 + 1) (.int .i64 (k0 + 3 * (k : Int) + (totL ps k : Int) + 1))
      have MK := Lib.hid (markI_any x B qs[k].2.2.1 (k0 + 3 * (k : Int) + (totL ps k : Int) + 1 + 1) _ (World.ownsRow.kept hx5 g2 hx7) LL (by omega) (by omega))
      have EX := Lib.hid (show k0 + 3 * ((k + 1 : Nat) : Int) + (totL ps (k + 1) : Int) = k0 + 3 * (k : Int) + (totL ps k : Int) + 1 + 1 + (qs[k].2.2.1.length : Int) + 1 by rw [ET.out, EL]; omega)
      have LM := Lib.hid (fun w1 hg ys hys m3 => lv_mark (m0 := k0 + 3 * (k : Int) + (totL ps k : Int)) (m1 := k0 + 3 * (k : Int) + (totL ps k : Int) + 1) (m3 := m3) (w1 := w1) (ys := ys) HV.out HQL.out hkq e3 hx7 hg hys)
      have E4 := Lib.hid e4
      have X6 := Lib.hid hx6
      have X5 := Lib.hid hx5
      obtain ⟨⟨ax, cx, ex⟩, _⟩ := irow_shape hx5
      have hb0 : 0 ≤ k0 + 3 * (k : Int) + (totL ps k : Int) := by omega
      have hb1 : k0 + 3 * (k : Int) + (totL ps k : Int) ≤ 9000000 := by omega
      have hLi : (qs[k].2.2.1.length : Int) ≤ 1048576 := by omega
      generalize qs[k].1 = r1 at q0
      generalize qs[k].2.1 = r2 at q1
      generalize qs[k].2.2.2 = r3 at q3 E4
      generalize k0 + 3 * (k : Int) + (totL ps k : Int) = M at *
      have kw1 : IntKind.i64.wrap (M + 1) = M + 1 := IntWalk.i64_in _ (by omega)
      have kw2 : IntKind.i64.wrap (M + 1 + 1) = M + 1 + 1 := IntWalk.i64_in _ (by omega)
      obtain ⟨L, hL⟩ : ∃ L, Hid (qs[k].2.2.1.length = L) := ⟨_, Lib.hid rfl⟩
      rw [hL.out] at MK EX hLi ex
      have kw3 : IntKind.i64.wrap (M + 1 + 1 + (L : Int) + 1) = M + 1 + 1 + (L : Int) + 1 := IntWalk.i64_in _ (by omega)
      subst ex
      clear hv hqs hm e1 e2 e3 e4 hx5 hx6 hx7 EL g2 ET TK1 HTk
      go_wp2_with fail
      refine MK.out.mono ?_
      rintro e w1 ⟨rfl, ⟨ys, hyl, hys⟩, hg⟩
      obtain ⟨⟨z3, zf⟩, cs', hLV⟩ := LM.out w1 hg ys hys (M + 1 + 1 + (L : Int))
      rw [E4.out] at z3
      have HLV := Lib.hid hLV
      have HG := Lib.hid hg
      have HY := Lib.hid hyl
      clear hg hLV hyl hys
      go_wp2
      go_roundw
      case rel =>
        refine ⟨k + 1, by omega, by go_num, by rw [EX.out], ⟨cs', _, HLV.out, by rw [List.length_set]; exact HQL.out, fun j hj => ?_⟩, ?_⟩
        · by_cases e : k = j
          · subst e
            rw [List.getElem_set_self, ← HQ.out k hkq]
            exact HY.out.trans hL.out.symm
          · rw [List.getElem_set_ne e]
            exact HQ.out j (by simpa using hj)
        · exact mid_trans (mid_trans (mid_trans (mid_trans HM.out (mid_set _ hBg hgC)) (mid_set _ hBg hgC)) (mid_grown HG.out (fun b hb => ⟨(World.ownsRow.lt X5.out b hb).1, X6.out b hb⟩))) (mid_set _ hBg hgC)
      case measure => simp [intOf]; omega
    · obtain rfl : k = ps.length := by omega
      have HT2 := HT.out
      clear hv hqs hm
      go_wp2
      go_ret
      exact ⟨⟨_, rfl, by omega, by omega⟩, HM.out⟩
end Go.Proofs.Ytmfjpmimkpldjaa.ltab
