/- The program's neighbours of a cell: contract. -/
import Derived.Test.YtpekchihdmhkkaaGridN2
import Derived.Test.YtpekchihdmhkkaaShelfG
import Derived.Deep.RegionHeld3
import Derived.Deep.Upon
namespace Go.Proofs.Ytpekchihdmhkkaa.stab
open Go.ChangeShapes Go.WideShapes Go.ChangeAt Go.RowKit Go.Proofs.Ytpekchihdmhkkaa.split Go.Proofs.Ytpekchihdmhkkaa.sines Go.Proofs.Ytpekchihdmhkkaa.names
set_option linter.unusedSimpArgs false
set_option linter.unusedVariables false

theorem jints_len (zs : List Nat) : (jints zs).length = zs.length := by simp [jints]
theorem jints_one (zs : List Nat) : ∀ u ∈ jints zs, u.oneCell' = true := by
  intro u hu
  simp only [jints, List.mem_map] at hu
  obtain ⟨b, _, rfl⟩ := hu
  rfl
theorem jints_app (a b : List Nat) : jints (a ++ b) = jints a ++ jints b := by simp [jints]
/-- A row's shape: nothing, or a block of its own. -/
theorem jrow_form {w : World} {B : Nat} {v : Value} {zs : List Nat} (h : JRow w B v zs) : (v = .slice none 0 0 ∧ zs = []) ∨ ∃ g c, v = .slice (some ⟨g, 0, none⟩) zs.length c ∧ B ≤ g ∧ g < w.heap.size ∧ zs.length ≤ c ∧ ∀ j u, (jints zs)[j]? = some u → w.cell? ((⟨g, 0, none⟩ : Addr).add j) = some u := by
  rcases h.2 with ⟨hv, h0⟩ | ⟨g, cap, cur, hv, hB, hg, hc, hr⟩
  · exact .inl ⟨hv, List.length_eq_zero_iff.1 h0⟩
  · refine .inr ⟨g, cap, hv, hB, (Array.getElem?_eq_some_iff.1 hg).1, hc, fun j u hj => ?_⟩
    subst hv
    rw [add_plain', Nat.zero_add, World.ownsRow.cellAt h j (by have := (List.getElem?_eq_some_iff.1 hj).1; rw [jints_len] at this; omega)]
    simp [hj]
theorem jrow_le {w : World} {B g l c : Nat} {zs : List Nat} (h : JRow w B (.slice (some ⟨g, 0, none⟩) l c) zs) : l ≤ c := by
  rcases h.2 with ⟨hv, h0⟩ | ⟨g', cap, cur, hv, hB, hg, hc, hr⟩
  · cases hv
  · cases hv; exact hc
theorem own_some {w : World} {B n : Nat} {e : TypeId} {v : Value} {xs : List Value} (h : w.ownsRow B e 1 v n xs) (hn : v ≠ .slice none 0 0) : ∃ g l c, v = .slice (some ⟨g, 0, none⟩) l c := by
  rcases h.2 with ⟨hv, _⟩ | ⟨g', cap, cur, hv, _⟩
  · exact absurd hv hn
  · exact ⟨_, _, _, hv⟩
theorem growJ_any (n : Nat) (w : World) (h0 : 0 < n) (hn : n ≤ 100) :
    Calls Try.prog 101 #[.slice none 0 0, .int .i64 (n : Int)] w fun e w' => ∃ G, e = .returned (.slice (some ⟨w.heap.size, 0, none⟩) 0 G) ∧ JRow w' w.heap.size (.slice (some ⟨w.heap.size, 0, none⟩) 0 G) [] ∧ Below w.heap.size w w' := by
  obtain ⟨i0, hi, hz0, hz1, hz2⟩ := info_partsT info_jint
  have key : ∀ G, 0 + n ≤ G → G ≤ maxLen → JRow (w.drew.alloc (.cells (([] : List Value).toArray ++ Builtin.zeroCells (Value.int .i64 0).cells (0 + n - 0) ++ Builtin.zeroCells (Value.int .i64 0).cells (G - (0 + n))) 3)) w.heap.size (.slice (some ⟨w.heap.size, 0, none⟩) 0 G) [] := fun G h1 h2 =>
    World.ownsRow_made (e := 3) (size := 1) (base := w.heap.size) w.drew _ G (Nat.le_refl _) h2 (by simp [Builtin.zeroCells, Value.cells]; omega)
  have hC := Any8.slices_Grow_grow Try.growN i0 (.int .i64 0) hi hz0 (by rw [hz1]; decide) none 0 0 n [] w (Nat.le_refl _) (by omega) (by rw [hz2]; omega) (by omega) (by simp) (fun _ => rfl) (fun a h => by cases h)
  refine Calls.mono hC ?_
  rintro e w' ⟨rfl, rfl⟩
  exact ⟨_, rfl, key _ (grownCap_ge w (0 + n) 0 3) (grownCap_le_maxLen w (0 + n) 0 3 (by unfold maxLen; omega)), (Below.drew (Below.refl _ _)).alloc (Nat.le_refl _) _⟩
set_option maxRecDepth 100000 in
set_option maxHeartbeats 2000000 in
theorem concatJ_any (b : Nat) (v u : Value) (ps qs : List Nat) (w : World) (h0 : w.cell? ⟨b, 0, none⟩ = some v) (h1 : w.cell? ⟨b, 1, none⟩ = some u) (B C : Nat) (hv : JRow w B v ps) (hu : JRow w C u qs) (p1 : 0 < ps.length + qs.length) (p2 : ps.length ≤ 4) (q2 : qs.length ≤ 2) :
    Calls Try.prog 81 #[.slice (some ⟨b, 0, none⟩) 2 2] w fun e w' => ∃ r, e = .returned r ∧ JRow w' w.heap.size r (ps ++ qs) ∧ Below w.heap.size w w' := by
  obtain ⟨i0, hi, hz0, hz1, hz2⟩ := info_partsT info_jint
  have hbl : b < w.heap.size := World.block_lt_of_cell? _ _ h0
  have FV := jrow_form hv
  have FU := jrow_form hu
  obtain ⟨av, cv, ev⟩ := jrow_shape hv
  obtain ⟨au, cu, eu⟩ := jrow_shape hu
  clear hv hu
  obtain ⟨n, hn⟩ : ∃ n, Hid (ps.length = n) := ⟨_, Lib.hid rfl⟩
  obtain ⟨m, hm⟩ : ∃ m, Hid (qs.length = m) := ⟨_, Lib.hid rfl⟩
  rw [hn.out] at ev p1 p2
  rw [hm.out] at eu p1 q2
  subst ev
  subst eu
  have k1 : IntKind.i64.wrap (n : Int) = (n : Int) := IntWalk.i64_in _ (by omega)
  have k2 : IntKind.i64.wrap ((n : Int) + (m : Int)) = (n : Int) + (m : Int) := IntWalk.i64_in _ (by omega)
  have k3 : ¬ (n : Int) < 0 := by omega
  have k4 : ¬ (n : Int) + (m : Int) < 0 := by omega
  have GR := Lib.hid (fun W => by have h := growJ_any (n + m) W (by omega) (by omega); rw [Int.natCast_add] at h; exact h)
  go_enter Try.func81, Try.ntmps81
  go_wp2
  go_loopw [3, 11] (fun s i wr => ∃ k : Nat, k ≤ 2 ∧ i = .int .i64 (k : Int) ∧ s = .int .i64 (if k = 0 then 0 else if k = 1 then (n : Int) else (n : Int) + (m : Int)) ∧ w = wr) (fun _ i _ => 2 - (intOf i).toNat)
  case atStart => exact ⟨0, by omega, rfl, rfl, rfl⟩
  case round =>
    obtain ⟨k, hk, rfl, rfl, rfl⟩ := hrel
    match k, hk with
    | 0, _ =>
      go_wp2
      go_roundw
      case rel => exact ⟨1, by omega, by go_num, by go_num, by trivial⟩
      case measure => simp [intOf]
    | 1, _ =>
      go_wp2
      go_roundw
      case rel => exact ⟨2, by omega, by go_num, by go_num, by trivial⟩
      case measure => simp [intOf]
    | 2, _ =>
      go_wp2_with (go_at_call 101; refine (GR.out _).mono ?_; rintro e w1 ⟨G, rfl, hr1, hb1⟩; have HR1 := Lib.hid hr1; have HB1 := Lib.hid hb1; clear hr1 hb1)
      go_loopw [6, 27] (fun u i wr => ∃ k : Nat, k ≤ 2 ∧ i = .int .i64 (k : Int) ∧ JRow wr w.heap.size u (if k = 0 then [] else if k = 1 then ps else ps ++ qs) ∧ Below w.heap.size w wr ∧ ∃ g l c, u = .slice (some ⟨g, 0, none⟩) l c) (fun _ i _ => 2 - (intOf i).toNat)
      case atStart => exact ⟨0, by omega, rfl, HR1.out, HB1.out, _, _, _, rfl⟩
      case round =>
        obtain ⟨k, hk, rfl, hr, hb, g6, l6, c6, rfl⟩ := hrel
        have HR := Lib.hid hr
        have HB := Lib.hid hb
        have c0 := (hb.cell (p := ⟨b, 0, none⟩) hbl).trans h0
        have c1 := (hb.cell (p := ⟨b, 1, none⟩) hbl).trans h1
        clear hr hb
        match k, hk with
        | 0, _ =>
          have HR := Lib.hid (show JRow wr w.heap.size (.slice (some ⟨g6, 0, none⟩) l6 c6) [] from HR.out)
          rcases FV with ⟨e, hnil⟩ | ⟨g, cg, e, _, hgl, hcg, hcells⟩
          · obtain ⟨rfl, rfl, rfl⟩ : av = none ∧ n = 0 ∧ cv = 0 := by cases e; exact ⟨rfl, rfl, rfl⟩
            subst hnil
            have hle := (jrow_le HR.out)
            have NIL := fun W => run_append_nothing (P := Try.prog) W 54 54 54 3 i0 Try.underlying54 hi (some ⟨g6, 0, none⟩) l6 c6 hle
            go_wp2
            go_roundw
            case rel => exact ⟨1, by omega, by go_num, by simpa using HR.out, HB.out, _, _, _, rfl⟩
            case measure => simp [intOf]
          · obtain ⟨rfl, rfl⟩ : av = some ⟨g, 0, none⟩ ∧ cv = cg := by cases e; exact ⟨rfl, rfl⟩
            have HCG := Lib.hid (show ∀ j u, (jints ps)[j]? = some u → wr.cell? ((⟨g, 0, none⟩ : Addr).add j) = some u from fun j u hj => by
              have h := hcells j u hj
              rw [add_plain'] at h ⊢
              exact (HB.out.cell (p := ⟨g, 0 + j, none⟩) hgl).trans h)
            have LJ := Lib.hid (show (jints ps).length = n by rw [jints_len]; exact hn.out)
            clear e hcells
            go_wp2_with (at_builtin; refine wpList_append_own _ rfl _ _ 54 rfl w.heap.size 3 i0 (.int .i64 0) 1 8 Try.underlying54 hi hz0 hz1 hz2 rfl (by decide) _ (([] : List Nat)).length (jints (([] : List Nat))) rfl HR.out ⟨g, 0, none⟩ n _ (jints ps) rfl (by rw [LJ.out]; omega) HCG.out (jints_one _) (by have hlp : ([] : List Nat).length = 0 := rfl; unfold maxLen; omega) (by have hlp : ([] : List Nat).length = 0 := rfl; omega) HB.out.size ?_; intro v4 w4 hown4 hg4 hsh4)
            go_roundw
            case rel => exact ⟨1, by omega, by go_num, by (have h := hown4; unfold JRow; rw [show (if (1 : Nat) = 0 then [] else if (1 : Nat) = 1 then ps else ps ++ qs) = ps from rfl]; simpa [JRow, hn.out, jints] using h), HB.out.grown hg4 HB.out.size (fun j hj => (World.ownsRow.lt HR.out j hj).1), own_some hown4 (fun e => by cases (hsh4.1 e).1)⟩
            case measure => simp [intOf]
        | 1, _ =>
          have HR := Lib.hid (show JRow wr w.heap.size (.slice (some ⟨g6, 0, none⟩) l6 c6) ps from HR.out)
          rcases FU with ⟨e, hnil⟩ | ⟨g, cg, e, _, hgl, hcg, hcells⟩
          · obtain ⟨rfl, rfl, rfl⟩ : au = none ∧ m = 0 ∧ cu = 0 := by cases e; exact ⟨rfl, rfl, rfl⟩
            subst hnil
            have hle := (jrow_le HR.out)
            have NIL := fun W => run_append_nothing (P := Try.prog) W 54 54 54 3 i0 Try.underlying54 hi (some ⟨g6, 0, none⟩) l6 c6 hle
            go_wp2
            go_roundw
            case rel => exact ⟨2, by omega, by go_num, by simpa using HR.out, HB.out, _, _, _, rfl⟩
            case measure => simp [intOf]
          · obtain ⟨rfl, rfl⟩ : au = some ⟨g, 0, none⟩ ∧ cu = cg := by cases e; exact ⟨rfl, rfl⟩
            have HCG := Lib.hid (show ∀ j u, (jints qs)[j]? = some u → wr.cell? ((⟨g, 0, none⟩ : Addr).add j) = some u from fun j u hj => by
              have h := hcells j u hj
              rw [add_plain'] at h ⊢
              exact (HB.out.cell (p := ⟨g, 0 + j, none⟩) hgl).trans h)
            have LJ := Lib.hid (show (jints qs).length = m by rw [jints_len]; exact hm.out)
            clear e hcells
            go_wp2_with (at_builtin; refine wpList_append_own _ rfl _ _ 54 rfl w.heap.size 3 i0 (.int .i64 0) 1 8 Try.underlying54 hi hz0 hz1 hz2 rfl (by decide) _ (ps).length (jints (ps)) rfl HR.out ⟨g, 0, none⟩ m _ (jints qs) rfl (by rw [LJ.out]; omega) HCG.out (jints_one _) (by unfold maxLen; have hlp := hn.out; omega) (by have hlp := hn.out; omega) HB.out.size ?_; intro v4 w4 hown4 hg4 hsh4)
            go_roundw
            case rel => exact ⟨2, by omega, by go_num, by (have h := hown4; unfold JRow; rw [show (if (2 : Nat) = 0 then [] else if (2 : Nat) = 1 then ps else ps ++ qs) = ps ++ qs from rfl]; rw [List.length_append, jints_app, hm.out]; exact h), HB.out.grown hg4 HB.out.size (fun j hj => (World.ownsRow.lt HR.out j hj).1), own_some hown4 (fun e => by cases (hsh4.1 e).1)⟩
            case measure => simp [intOf]
        | 2, _ =>
          go_wp2
          go_ret
          exact ⟨_, rfl, HR.out, HB.out⟩
/-- The neighbours of the cell c. -/
def nbrs (L n c : Nat) : List Nat := onS L n c ++ ovC n c
set_option maxRecDepth 100000 in
set_option maxHeartbeats 2000000 in
theorem neighbours_any (ga : Option Addr) (L cap n c : Nat) (w : World) (hL : L ≤ 512) (hn1 : 1 ≤ n) (hn2 : n ≤ 32) (hc : c < L) (hne : 0 < (onS L n c).length + (ovC n c).length) :
    Calls Try.prog 52 #[.agg #[.slice ga L cap, .int .i64 (n : Int)], .int .i64 (c : Int)] w fun e w' => ∃ v, e = .returned v ∧ JRow w' w.heap.size v (nbrs L n c) ∧ Below w.heap.size w w' := by
  have ON := Lib.hid (fun W => onSheet_any ga L cap n c W hL hn1 hn2 hc)
  have OV := Lib.hid (fun W => overCut_any ga L cap n c W hL hn1 hn2 hc)
  have l1 := onS_len L n c
  have l2 := ovC_len n c
  unfold nbrs
  obtain ⟨ps, hps⟩ : ∃ ps, Hid (onS L n c = ps) := ⟨_, Lib.hid rfl⟩
  obtain ⟨qs, hqs⟩ : ∃ qs, Hid (ovC n c = qs) := ⟨_, Lib.hid rfl⟩
  rw [hps.out] at ON l1 hne ⊢
  rw [hqs.out] at OV l2 hne ⊢
  have r0 : (w.alloc (.cells #[.slice ga L cap, .int .i64 (n : Int)] 45)).cell? ⟨w.heap.size, 0, none⟩ = some (.slice ga L cap) := by simp [go_sem]
  have r1 : (w.alloc (.cells #[.slice ga L cap, .int .i64 (n : Int)] 45)).cell? ⟨w.heap.size, 1, none⟩ = some (.int .i64 (n : Int)) := by simp [go_sem]
  have BW := Lib.hid (show Below w.heap.size w (w.alloc (.cells #[.slice ga L cap, .int .i64 (n : Int)] 45)) from (Below.refl _ _).alloc (Nat.le_refl _) _)
  have hsB : w.heap.size < (w.alloc (.cells #[.slice ga L cap, .int .i64 (n : Int)] 45)).heap.size := by simp
  go_enter Try.func52, Try.ntmps52
  go_wp2_with fail
  generalize w.alloc (.cells #[.slice ga L cap, .int .i64 (n : Int)] 45) = W0 at *
  go_region_held3 (fun U => U.cell? ⟨w.heap.size, 0, none⟩ = some (.slice ga L cap) ∧ U.cell? ⟨w.heap.size, 1, none⟩ = some (.int .i64 (n : Int))) (first | exact ⟨r0, r1⟩ | exact ⟨n0, n1⟩ | exact ⟨m0, m1⟩ | exact ⟨AK0 _, AK1 _⟩ | exact ⟨t0, t1⟩ | (simp [go_sem]; first | exact ⟨r0, r1⟩ | exact ⟨n0, n1⟩ | exact ⟨m0, m1⟩)) (first | (go_at_call 82; refine (ON.out _).mono ?_; rintro e w1 ⟨v1, rfl, hr1, hb1⟩; have HR1 := Lib.hid hr1; have HB1 := Lib.hid (show Below W0.heap.size W0 w1 from (Below.refl _ W0).drew.trans hb1); have n0 := (HB1.out.cell (p := ⟨w.heap.size, 0, none⟩) hsB).trans r0; have n1 := (HB1.out.cell (p := ⟨w.heap.size, 1, none⟩) hsB).trans r1; clear hr1 hb1; obtain ⟨a1, c1, rfl⟩ := jrow_shape HR1.out) | (go_at_call 83; refine (OV.out _).mono ?_; rintro e w2 ⟨v2, rfl, hr2, hb2⟩; have HR2 := Lib.hid hr2; have HR3 := Lib.hid (jrow_keep HR1.out hb2); have HB2 := Lib.hid (HB1.out.trans (hb2.mono HB1.out.size)); have m0 := (HB2.out.cell (p := ⟨w.heap.size, 0, none⟩) hsB).trans r0; have m1 := (HB2.out.cell (p := ⟨w.heap.size, 1, none⟩) hsB).trans r1; obtain ⟨a2, c2, rfl⟩ := jrow_shape HR2.out; have AL := Lib.hid (fun o => (HB2.out.alloc HB2.out.size o)); have AK0 := fun o => ((AL.out o).cell (p := ⟨w.heap.size, 0, none⟩) hsB).trans r0; have AK1 := fun o => ((AL.out o).cell (p := ⟨w.heap.size, 1, none⟩) hsB).trans r1; clear hr2 hb2) | (go_at_call 81; refine (concatJ_any w2.heap.size _ _ ps qs _ (by simp [go_sem]) (by simp [go_sem]) _ _ (jrow_keep HR3.out ((Below.refl _ _).alloc (Nat.le_refl _) _)) (jrow_keep HR2.out ((Below.refl _ _).alloc (Nat.le_refl _) _)) hne l1 l2).mono ?_; rintro e w4 ⟨r, rfl, hr4, hb4⟩; have HR4 := Lib.hid hr4; have HB4 := Lib.hid ((AL.out _).trans (hb4.mono (AL.out _).size)); have t0 := (HB4.out.cell (p := ⟨w.heap.size, 0, none⟩) hsB).trans r0; have t1 := (HB4.out.cell (p := ⟨w.heap.size, 1, none⟩) hsB).trans r1; clear hr4 hb4))
  go_wp2
  go_ret
  exact ⟨_, rfl, jrow_up HR4.out (Nat.le_trans BW.out.size (AL.out _).size), BW.out.trans (HB4.out.mono BW.out.size)⟩
end Go.Proofs.Ytpekchihdmhkkaa.stab
