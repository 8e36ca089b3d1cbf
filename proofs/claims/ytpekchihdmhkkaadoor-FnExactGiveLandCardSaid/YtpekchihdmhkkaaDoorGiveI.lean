/- The program's GiveLand: contract. -/
import Derived.Test.YtpekchihdmhkkaaDoorGiveM
import Derived.Deep.DeepCutAuto
import Derived.Deep.CutRange
import Derived.Deep.Cut
namespace Go.Proofs.YtpekchihdmhkkaaDoor.stab
open Go.ChangeShapes Go.WideShapes Go.ChangeAt Go.RowKit Go.Proofs.YtpekchihdmhkkaaDoor.split Go.Proofs.YtpekchihdmhkkaaDoor.sines Go.Proofs.YtpekchihdmhkkaaDoor.names
set_option linter.unusedSimpArgs false
set_option linter.unusedVariables false

theorem maxlen_cell {w : World} (h : w.ShapedOpen Tryd.prog) : ∃ m, w.cell? ⟨0, 0, none⟩ = some (.int .i64 m) :=
  cell_of_shapedOpen_int (k := .i64) (t := 3) (zero := #[.int .i64 0]) h (of_decide_eq_true (by kernel_rfl)) (by kernel_rfl) rfl (by kernel_rfl) (by kernel_rfl) Tryd.underlying3
theorem countB_le (s o : ByteArray) (h : o.size = 1) : Lib.countB s o ≤ s.size := by
  unfold Lib.countB
  rw [one_text h, Lib.count_one]
  exact Nat.le_trans List.count_le_length (by rw [size_list]; exact Nat.le_refl _)
theorem replaceOne_any (s f t : ByteArray) (m : Int) (w : World) (hf : f.size = 1) (ht : t.size = 1) (hs : s.size ≤ 1048576) (hm : w.cell? ⟨0, 0, none⟩ = some (.int .i64 m)) :
    Calls Tryd.prog 27 #[.string s, .string f, .string t] w fun e w' => e = .returned (.string (giveT f t s)) ∧ Below w.heap.size w w' := by
  have hcb := countB_le s f hf
  have h := Tryd.strings_ReplaceAll s f t m w (by omega) hm (by omega) (by rw [ht]; omega)
  rw [one_text hf, one_text ht, replaceAll_give] at h
  exact h
set_option maxRecDepth 100000 in
set_option maxHeartbeats 4000000 in
theorem implGiveLand_any {m : Int} (v : Value) (ps : List ByteArray) (f t : ByteArray) (w : World) (hv : SAt w w.heap.size v ps) (hl : ps.length ≤ 1048576) (hr : ∀ i, i < ps.length → (sAt ps i).size ≤ 1048576) (hf : f.size ≤ 1048576) (ht : t.size ≤ 1048576)
    (hm : w.cell? ⟨0, 0, none⟩ = some (.int .i64 m)) :
    Calls Tryd.prog 7 #[v, .string f, .string t] w fun e w' => ∃ r, e = .returned (.tuple #[r, .int .i64 (codeGL ps f t)]) ∧ SRow w' w.heap.size r (valGL ps f t) ∧ Below w.heap.size w w' := by
  have HV := Lib.hid hv
  have LC := Lib.hid (landCode_any v ps f (isTo t) w hv hl hr hf)
  rw [codeGL_landK] at LC
  have IL := Lib.hid (fun W => isLetter_any t W ht)
  have hmb := World.block_lt_of_cell? _ _ hm
  obtain ⟨ar, c, rfl, _, hcl⟩ := hv
  have HCL := Lib.hid hcl
  have ht2 : (t.size : Int) ≤ 1048576 := by omega
  clear hl hr hcl
  have e46 : decide (t = ⟨#[46]⟩) = (t.toList == [46]) := by
    rw [Bool.eq_iff_iff]
    simp only [beq_iff_eq, decide_eq_true_eq]
    rw [ByteArray.toList_eq]
    constructor
    · rintro rfl; rfl
    · intro h; exact ByteArray.ext (Array.toList_inj.1 h)
  have TT := Lib.hid (show ∀ b, b = isTo t → (isL t = true ∧ b = true) ∨ (isL t = false ∧ b = (t.toList == [46])) from fun b hb => by
    unfold isTo at hb
    rw [e46] at hb
    cases h : isL t <;> rw [h] at hb
    · right; exact ⟨rfl, by rw [hb, Bool.false_or]⟩
    · left; exact ⟨rfl, by rw [hb, Bool.true_or]⟩)
  clear e46
  obtain ⟨bt, hbt⟩ : ∃ b, Hid (isTo t = b) := ⟨_, Lib.hid rfl⟩
  rw [hbt.out] at LC
  obtain ⟨cd, hcd⟩ : ∃ c, Hid (codeGL ps f t = c) := ⟨_, Lib.hid rfl⟩
  obtain ⟨vz, hvz⟩ : ∃ c, Hid (valGL ps f t = c) := ⟨_, Lib.hid rfl⟩
  rw [hcd.out] at LC ⊢
  rw [hvz.out]
  go_enter Tryd.func7, Tryd.ntmps7
  go_upto_region 1 with fail
  go_cut [8] (fun x wx => x = .int .i64 cd ∧ Below w.heap.size w wx)
  case first =>
    rcases TT.out bt hbt.out.symm with ⟨h1, h2⟩ | ⟨h1, h2⟩
    · subst h2
      go_wp2_with fail
      refine (IL.out _).mono ?_
      rw [h1]
      rintro e w' ⟨rfl, rfl⟩
      go_wp2_with fail
      refine LC.out.mono ?_
      rintro e w1 ⟨rfl, hb1⟩
      have HB1 := Lib.hid hb1
      clear hb1
      go_wp2
      go_meet
      case rel => exact ⟨rfl, HB1.out⟩
    · go_wp2_with fail
      refine (IL.out _).mono ?_
      rw [h1]
      rintro e w' ⟨rfl, rfl⟩
      go_wp2_with fail
      rw [← h2]
      refine LC.out.mono ?_
      rintro e w1 ⟨rfl, hb1⟩
      have HB1 := Lib.hid hb1
      clear hb1
      go_wp2
      go_meet
      case rel => exact ⟨rfl, HB1.out⟩
  case rest =>
    obtain ⟨e8, hb1⟩ := hcut
    subst e8
    have HB1 := Lib.hid hb1
    have hsz1 := hb1.size
    have EV := Lib.hid (show valGL ps f t = if cd = 0 then ps.map (giveT f t) else [] by unfold valGL; rw [hcd.out])
    clear hb1
    by_cases h0 : cd = 0
    · obtain rfl : (rowS ps.length fun i => giveT f t (sAt ps i)) = vz := by rw [← hvz.out, EV.out, if_pos h0, valGL_row]
      obtain ⟨g1, g2, g3⟩ := codeGL_zero (hcd.out.trans h0)
      have g := grid_of g1
      have hfo := (isL_of (codeG_zero g3).2.1).1
      have hto := isTo_one g2
      have hm2 := g.m2
      have hm1 := g.m1
      have RP := Lib.hid (fun s (hs : s.size ≤ 1048576) W (h : Below w.heap.size w W) => replaceOne_any s f t m W hfo hto hs ((h.cell (p := ⟨0, 0, none⟩) hmb).trans hm))
      have HS := Lib.hid (show ∀ i, i < ps.length → (sAt ps i).size ≤ 1048576 from fun i hi => by have := g.size i hi; have := g.n2; omega)
      subst h0
      clear g1 g2 g3 g hfo hto
      have hml : (ps.length : Int) ≤ 16 := by omega
      obtain ⟨i0, hi, hz0, hz1, hz2⟩ := info_partsT info_str
      obtain ⟨w2, hmk1, hown1, hg1⟩ := run_make_full (P := Tryd.prog) (w := wc) wc.heap.size 24 9 i0 (.string ByteArray.empty) 1 Tryd.underlying24 hi hz0 hz1 .i64 .i64 ps.length (by rw [hz2]; omega) (by unfold maxLen; omega) (by simp)
      have R1 := Lib.hid (rowT_start hown1)
      have B1 := Lib.hid (show Below wc.heap.size wc w2 from (Below.refl _ _).grown hg1 (by simp) (by simp))
      clear hown1 hg1
      go_wp2
      clear hmk1
      go_loopw [29] (fun i wr => ∃ k : Nat, k ≤ ps.length ∧ i = .int .i64 (k : Int) ∧ RowT wr wc.heap.size wc.heap.size ps.length (fun j => if j < k then giveT f t (sAt ps j) else ByteArray.empty) ∧ Below wc.heap.size wc wr) (fun i _ => ps.length - (intOf i).toNat)
      case atStart => exact ⟨0, Nat.zero_le _, rfl, rowT_congr R1.out (fun j _ => by simp), B1.out⟩
      case round =>
        obtain ⟨k, hk, rfl, hr, hb⟩ := hrel
        have HR := Lib.hid hr
        have HB := Lib.hid hb
        by_cases hlt : k < ps.length
        · obtain ⟨bb, off, rfl, hbs, c1⟩ := HCL.out k hlt
          have HBW := Lib.hid (HB1.out.trans (hb.mono hsz1))
          have u1 := (HBW.out.cell (p := ⟨bb, off + k, none⟩) hbs).trans c1
          have hk0 : 0 ≤ (k : Int) := by omega
          have hk1 : (k : Int) < (ps.length : Int) := by omega
          have RPK := Lib.hid (RP.out (sAt ps k) (HS.out k hlt) wr HBW.out)
          have ST := Lib.hid (show ∀ V : World, RowT V wc.heap.size wc.heap.size ps.length (fun j => if j < k then giveT f t (sAt ps j) else ByteArray.empty) → RowT (V.setCell ⟨wc.heap.size, k, none⟩ (.string (giveT f t (sAt ps k)))) wc.heap.size wc.heap.size ps.length (fun j => if j < k + 1 then giveT f t (sAt ps j) else ByteArray.empty) from fun V hV => rowT_congr (rowT_store hV (k := k) hlt (giveT f t (sAt ps k))) (fun j _ => by
            by_cases e : j = k
            · subst e; simp
            · by_cases e2 : j < k
              · simp [e, e2, show j < k + 1 by omega]
              · simp [e, e2, show ¬ j < k + 1 by omega]))
          generalize giveT f t (sAt ps k) = gs at RPK ST
          generalize sAt ps k = s at u1 RPK
          clear hr hb c1
          go_wp2_with fail
          refine RPK.out.mono ?_
          rintro e w3 ⟨rfl, hb3⟩
          have HR3 := Lib.hid (rowT_keep HR.out hb3)
          have HB3 := Lib.hid (HB.out.trans (hb3.mono HB.out.size))
          obtain ⟨ck, fk⟩ := rowT_cell HR3.out (k := k) hlt
          rw [if_neg (by omega)] at ck
          clear hb3
          go_wp2
          go_roundw
          case rel => exact ⟨k + 1, by omega, by go_num, ST.out _ HR3.out, HB3.out.setCell (p := ⟨wc.heap.size, k, none⟩) (Nat.le_refl _) _⟩
          case measure => simp [intOf]; omega
        · obtain rfl : k = ps.length := by omega
          have HE := Lib.hid (show SRow wr wc.heap.size (.slice (some ⟨wc.heap.size, 0, none⟩) ps.length ps.length) (rowS ps.length fun i => giveT f t (sAt ps i)) from by
            have := rowT_congr (f' := fun i => giveT f t (sAt ps i)) hr (fun j hj => by simp [hj])
            exact this)
          clear hr hb
          go_wp2
          exact bodyPost_ret (v := .tuple #[.slice (some ⟨wc.heap.size, 0, none⟩) ps.length ps.length, .int .i64 0]) (by simp [results, Tryd.results7, go_sem]) rfl ⟨_, rfl, srow_up HE.out hsz1, HB1.out.trans (HB.out.mono hsz1)⟩
    · obtain rfl : [] = vz := by rw [← hvz.out, EV.out, if_neg h0]
      have h0b : (cd != 0) = true := by simpa using h0
      clear h0
      go_wp2
      exact bodyPost_ret (v := .tuple #[.slice none 0 0, .int .i64 cd]) (by simp [results, Tryd.results7, go_sem]) rfl ⟨_, rfl, ⟨rfl, .inl ⟨rfl, rfl⟩⟩, HB1.out⟩
end Go.Proofs.YtpekchihdmhkkaaDoor.stab
