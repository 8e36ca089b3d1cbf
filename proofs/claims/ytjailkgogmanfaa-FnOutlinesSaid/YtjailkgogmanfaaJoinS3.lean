/- The model chains joined: contracts. -/
import Derived.Test.YtjailkgogmanfaaJoinS2
import Derived.Deep.AppendLies
import Derived.Deep.RegionLawGrows
namespace Go.Proofs.Ytjailkgogmanfaa.sines
open Go.ChangeShapes Go.WideShapes Go.ChangeAt Go.RowKit Go.Proofs.Ytjailkgogmanfaa.spots Go.Proofs.Ytjailkgogmanfaa.irows Go.Proofs.Ytjailkgogmanfaa.pairsPlace
set_option linter.unusedSimpArgs false
set_option linter.unusedVariables false

/-- A slice whose length is within its capacity. -/
def CapOk (v : Value) : Prop := ∀ a n c, v = .slice a n c → n ≤ c
theorem prow_capOk {w : World} {B : Nat} {v : Value} {ps : List (Int × Int)} (h : PRow w B v ps) : CapOk v := by
  intro a n c e
  rcases h.2 with ⟨hn, h0⟩ | ⟨g, cap, cur, hv, _, hc, h1, _⟩
  · rw [hn] at e; cases e; omega
  · rw [hv] at e; cases e; exact h1
theorem prow_two {w : World} {B n m g c : Nat} {ps qs : List Pl} (hn : n = ps.length) (hm : m = qs.length) (h : w.ownsRow B 43 2 (.slice (some ⟨g, 0, none⟩) (n + m) c) (n + m) (ints (flat ps) ++ ints (flat qs))) : PRow w B (.slice (some ⟨g, 0, none⟩) (n + m) c) (ps ++ qs) := by
  subst hn hm
  unfold PRow
  rw [List.length_append, flat_append]
  simpa [ints] using h
theorem prow_two' {w : World} {B n m g c : Nat} {ps qs : List Pl} (hn : n = ps.length) (hm : m = qs.length) (h : w.ownsRow B 43 2 (.slice (some ⟨g, 0, none⟩) (0 + n + m) c) (0 + n + m) ([] ++ ints (flat ps) ++ ints (flat qs))) : PRow w B (.slice (some ⟨g, 0, none⟩) (0 + n + m) c) (ps ++ qs) := by
  rw [Nat.zero_add, List.nil_append] at h
  rw [Nat.zero_add]
  exact prow_two hn hm h
theorem prow_made' (w : World) (B n : Nat) (hn : n = w.heap.size) (h : B ≤ n) : PRow (w.alloc (.cells #[] 43)) B (.slice (some ⟨n, 0, none⟩) 0 0) [] := by
  subst hn; exact prow_made w B h
theorem own_keep {w w' : World} {B : Nat} {e : TypeId} {s n : Nat} {v : Value} {xs : List Value} (h : w.ownsRow B e s v n xs) (hb : Below w.heap.size w w') : w'.ownsRow B e s v n xs := by
  refine ⟨h.1, ?_⟩
  rcases h.2 with hn | ⟨g, cap, cur, hv, hg1, hg2, hg3⟩
  · exact .inl hn
  · exact .inr ⟨g, cap, cur, hv, hg1, by rw [hb.block g (Array.getElem?_eq_some_iff.1 hg2).1]; exact hg2, hg3⟩
theorem prow_form {w : World} {B : Nat} {v : Value} {ps : List (Int × Int)} (h : PRow w B v ps) (h0 : 0 < ps.length) : ∃ g c, v = .slice (some ⟨g, 0, none⟩) ps.length c := by
  rcases h.2 with ⟨_, h1⟩ | ⟨g, cap, cur, hv, _⟩
  · omega
  · exact ⟨g, cap, hv⟩
theorem l10Back_rel (v : Value) (ps : List (Int × Int)) (W0 w : World) (hw : Below W0.heap.size W0 w) (hv : PAt W0 W0.heap.size v ps) (hn24 : ps.length ≤ 24) :
    Calls Try.prog 86 #[v] w fun e w' => ∃ u, e = .returned u ∧ PRow w' W0.heap.size u ps.reverse ∧ Below W0.heap.size W0 w' :=
  (l10Back_any v ps w (pat_up (pat_keep hv hw) hw.size) hn24).mono fun _ _ ⟨u, h1, h2, h3⟩ => ⟨u, h1, prow_up h2 hw.size, hw.trans (h3.mono hw.size)⟩
set_option maxRecDepth 100000 in
set_option maxHeartbeats 2000000 in
theorem l10Join_any (v u : Value) (ps qs : List (Int × Int)) (w : World) (hv : PAt w w.heap.size v ps) (hu : PAt w w.heap.size u qs) (ha2 : 2 ≤ ps.length) (hb2 : 2 ≤ qs.length) (ha24 : ps.length ≤ 24) (hb24 : qs.length ≤ 24) (hcv : CapOk v) (hcu : CapOk u) :
    Calls Try.prog 74 #[v, u] w fun e w' => ∃ r, e = .returned (.tuple #[r, .bool (joinO ps qs).isSome]) ∧ PRow w' w.heap.size r ((joinO ps qs).getD []) ∧ Below w.heap.size w w' := by
  obtain ⟨i0, hi, hz0, hz1, hz2⟩ := info_parts info_pair
  obtain ⟨g, off, c, rfl, hgl, a1, a2, z1, z2⟩ := ends_at hv (by omega)
  obtain ⟨g', off', c', rfl, hgl', b1, b2, y1, y2⟩ := ends_at hu (by omega)
  have HV := Lib.hid hv
  have HU := Lib.hid hu
  have hc1 : ps.length ≤ c := hcv _ _ _ rfl
  have hc2 : qs.length ≤ c' := hcu _ _ _ rfl
  clear hv hu hcv hcu
  obtain ⟨n, hn⟩ : ∃ n : Nat, Hid (ps.length = n + 1) := ⟨ps.length - 1, Lib.hid (by omega)⟩
  obtain ⟨m, hm⟩ : ∃ m : Nat, Hid (qs.length = m + 1) := ⟨qs.length - 1, Lib.hid (by omega)⟩
  rw [hn.out] at z1 z2 ha2 ha24 hc1
  rw [hm.out] at y1 y2 hb2 hb24 hc2
  rw [hn.out, hm.out]
  simp only [Nat.add_sub_cancel] at z1 z2 y1 y2
  have wn : IntKind.i64.wrap ((n : Int)) = (n : Int) := IntWalk.i64_in _ (by omega)
  have wm : IntKind.i64.wrap ((m : Int)) = (m : Int) := IntWalk.i64_in _ (by omega)
  have en : (((n + 1 : Nat) : Int)) - 1 = (n : Int) := by omega
  have em : (((m + 1 : Nat) : Int)) - 1 = (m : Int) := by omega
  have en2 : ((n : Int) + 1) - 1 = (n : Int) := by omega
  have em2 : ((m : Int) + 1) - 1 = (m : Int) := by omega
  have n0 : 0 ≤ (n : Int) := by omega
  have m0 : 0 ≤ (m : Int) := by omega
  have n1 : (n : Int) < (n : Int) + 1 := by omega
  have m1 : (m : Int) < (m : Int) + 1 := by omega
  have n2 : (0 : Int) < (n : Int) + 1 := by omega
  have m2 : (0 : Int) < (m : Int) + 1 := by omega
  obtain ⟨x1, hx1⟩ : ∃ x, Hid ((pAt ps 0).1 = x) := ⟨_, Lib.hid rfl⟩
  obtain ⟨x2, hx2⟩ : ∃ x, Hid ((pAt ps 0).2 = x) := ⟨_, Lib.hid rfl⟩
  obtain ⟨t1, ht1⟩ : ∃ x, Hid ((lastP ps).1 = x) := ⟨_, Lib.hid rfl⟩
  obtain ⟨t2, ht2⟩ : ∃ x, Hid ((lastP ps).2 = x) := ⟨_, Lib.hid rfl⟩
  obtain ⟨p1, hp1⟩ : ∃ x, Hid ((pAt qs 0).1 = x) := ⟨_, Lib.hid rfl⟩
  obtain ⟨p2, hp2⟩ : ∃ x, Hid ((pAt qs 0).2 = x) := ⟨_, Lib.hid rfl⟩
  obtain ⟨q1, hq1⟩ : ∃ x, Hid ((lastP qs).1 = x) := ⟨_, Lib.hid rfl⟩
  obtain ⟨q2, hq2⟩ : ∃ x, Hid ((lastP qs).2 = x) := ⟨_, Lib.hid rfl⟩
  rw [hx1.out] at a1
  rw [hx2.out] at a2
  rw [ht1.out] at z1
  rw [ht2.out] at z2
  rw [hp1.out] at b1
  rw [hp2.out] at b2
  rw [hq1.out] at y1
  rw [hq2.out] at y2
  have HU2 := Lib.hid (show PAt w w.heap.size (.slice (some ⟨g', off', none⟩) (m + 1) c') qs by have h := HU.out; rw [hm.out] at h; exact h)
  have n3 : (1 : Int) ≤ (n : Int) + 1 := by omega
  have m3 : (1 : Int) ≤ (m : Int) + 1 := by omega
  have cn : ¬ c = 1 := by omega
  have cn' : ¬ c' = 1 := by omega
  by_cases h1 : t1 = p1 ∧ t2 = p2
  · have f1 := fun W => eqlP t1 t2 p1 p2 W
    rw [decide_eq_true h1] at f1
    have EQ1 := Lib.hid (show lastP ps = pAt qs 0 from Prod.ext (by rw [ht1.out, hp1.out]; exact h1.1) (by rw [ht2.out, hp2.out]; exact h1.2))
    clear h1
    have EJ := Lib.hid (show joinO ps qs = some (ps ++ qs.drop 1) from by unfold joinO; rw [if_pos (EQ1.out)])
    rw [EJ.out]
    simp only [Option.isSome_some, Option.getD_some]
    go_enter Try.func74, Try.ntmps74
    go_wp2
    go_quiet (fail)
    go_wp2
    go_region_law (first | (refine step_append_lies _ rfl (.tmp 23) (.tmp 24) 28 rfl w.heap.size 43 i0 (.agg #[.int .i64 0, .int .i64 0]) 2 16 Try.underlying28 hi hz0 hz1 hz2 rfl (by decide) (.slice (some ⟨w.heap.size + 1 + 1, 0, none⟩) 0 0) 0 [] (by simp [Act.eval, Act.put]) (prow_made' _ _ _ (by first | (simp; done) | rfl) (by first | omega | (simp; done) | (simp; omega))) ⟨g, off, none⟩ (n + 1) c (ints (flat ps)) (by simp [Act.eval, Act.put]) (by rw [ints_flat_len']; have h1 := hn.out; have h2 := hm.out; first | omega | (simp; omega)) (pat_flat' (pat_keep HV.out (by repeat (first | assumption | exact Below.refl _ _ | exact HB1.out | refine Below.drew ?_ | refine bdP ?_ _ | refine Below.alloc ?_ (by first | exact Nat.le_refl _ | (simp; done) | (simp; omega)) _)))) (ints_one _) (by omega) (by unfold maxLen; omega) (by omega) (by first | omega | (simp; done) | (simp; omega)) _ rfl ?_; intro g1 cap1 w1 hown1 hg1 hat1 hlt1; have HO1 := Lib.hid hown1; have HB1 := Lib.hid (show Below w.heap.size w w1 from Below.grown (by repeat (first | assumption | exact Below.refl _ _ | exact HB1.out | refine Below.drew ?_ | refine bdP ?_ _ | refine Below.alloc ?_ (by first | exact Nat.le_refl _ | (simp; done) | (simp; omega)) _)) hg1 (by first | omega | (simp; done) | (simp; omega)) (fun j hj => by cases hj; first | omega | (simp; done) | (simp; omega))); have hat := hat1; clear hown1 hg1) | (refine step_append_lies _ rfl (.tmp 25) (.tmp 27) 28 rfl w.heap.size 43 i0 (.agg #[.int .i64 0, .int .i64 0]) 2 16 Try.underlying28 hi hz0 hz1 hz2 rfl (by decide) (.slice (some ⟨g1, 0, none⟩) (0 + (n + 1)) cap1) (0 + (n + 1)) ([] ++ ints (flat ps)) (by simp [Act.eval, Act.put]) HO1.out ⟨g', off' + 2, none⟩ m (c' - 1) (ints (flat (qs.drop 1))) (by simp [Act.eval, Act.put]) (by rw [ints_flat_len']; have h1 := hn.out; have h2 := hm.out; first | omega | (simp; omega)) (pat_flat' (pat_keep (pat_tail HU.out (by have h1 := hn.out; have h2 := hm.out; omega)) (by repeat (first | assumption | exact Below.refl _ _ | exact HB1.out | refine Below.drew ?_ | refine bdP ?_ _ | refine Below.alloc ?_ (by first | exact Nat.le_refl _ | (simp; done) | (simp; omega)) _)))) (ints_one _) (by omega) (by unfold maxLen; omega) (by omega) (by have := HB1.out.size; first | exact this | (simp; omega)) _ rfl ?_; intro g2 cap2 w2 hown2 hg2 hat2 hlt2; have HO2 := Lib.hid hown2; have HB2 := Lib.hid (show Below w.heap.size w w2 from Below.grown HB1.out hg2 HB1.out.size (fun j hj => (World.ownsRow.lt HO1.out j hj).1)); clear hown2 hg2))
    go_wp2
    exact bodyPost_ret (v := .tuple #[.slice (some ⟨g2, 0, none⟩) (0 + (n + 1) + m) cap2, .bool true]) (by simp [results, Try.results74, go_sem]) rfl ⟨_, rfl, prow_two' (by simp [hn.out]) (by simp [hm.out]) HO2.out, HB2.out⟩
  · have f1 := fun W => eqlP t1 t2 p1 p2 W
    rw [decide_eq_false h1] at f1
    have NE1 := Lib.hid (show ¬ lastP ps = pAt qs 0 from fun k => h1 ⟨by rw [← ht1.out, ← hp1.out, k], by rw [← ht2.out, ← hp2.out, k]⟩)
    clear h1
    by_cases h2 : t1 = q1 ∧ t2 = q2
    · have f2 := fun W => eqlP t1 t2 q1 q2 W
      rw [decide_eq_true h2] at f2
      have EQ2 := Lib.hid (show lastP ps = lastP qs from Prod.ext (by rw [ht1.out, hq1.out]; exact h2.1) (by rw [ht2.out, hq2.out]; exact h2.2))
      clear h2
      have EJ := Lib.hid (show joinO ps qs = some (ps ++ qs.reverse.drop 1) from by unfold joinO; rw [if_neg (NE1.out), if_pos (EQ2.out)])
      rw [EJ.out]
      simp only [Option.isSome_some, Option.getD_some]
      go_enter Try.func74, Try.ntmps74
      go_wp2
      go_quiet (fail)
      go_wp2
      go_quiet (fail)
      go_wp2_with (at_builtin; refine wpList_append_lies _ rfl _ _ 28 rfl w.heap.size 43 i0 (.agg #[.int .i64 0, .int .i64 0]) 2 16 Try.underlying28 hi hz0 hz1 hz2 rfl (by decide) (.slice (some ⟨w.heap.size + 1 + 1, 0, none⟩) 0 0) 0 [] rfl (prow_made' _ _ _ (by first | (simp; done) | rfl) (by first | omega | (simp; done) | (simp; omega))) ⟨g, off, none⟩ (n + 1) c (ints (flat ps)) rfl (by rw [ints_flat_len']; have h1 := hn.out; have h2 := hm.out; first | omega | (simp; omega)) (pat_flat' (pat_keep HV.out (by repeat (first | assumption | exact Below.refl _ _ | exact HB1.out | refine Below.drew ?_ | refine bdP ?_ _ | refine Below.alloc ?_ (by first | exact Nat.le_refl _ | (simp; done) | (simp; omega)) _)))) (ints_one _) (by omega) (by unfold maxLen; omega) (by omega) (by first | omega | (simp; done) | (simp; omega)) _ rfl ?_; intro g1 cap1 w1 hown1 hg1 hat1 hlt1; have HO1 := Lib.hid hown1; have HB1 := Lib.hid (show Below w.heap.size w w1 from Below.grown (by repeat (first | assumption | exact Below.refl _ _ | exact HB1.out | refine Below.drew ?_ | refine bdP ?_ _ | refine Below.alloc ?_ (by first | exact Nat.le_refl _ | (simp; done) | (simp; omega)) _)) hg1 (by first | omega | (simp; done) | (simp; omega)) (fun j hj => by cases hj; first | omega | (simp; done) | (simp; omega))); have hat := hat1; clear hown1 hg1)
      refine (l10Back_any _ qs _ (pat_up (pat_keep HU2.out HB1.out) HB1.out.size) (by have h2 := hm.out; omega)).mono ?_
      rintro e w3 ⟨r3, rfl, hr3, hb3⟩
      have HO3 := Lib.hid (own_keep HO1.out hb3)
      have HB3 := Lib.hid (HB1.out.trans (hb3.mono HB1.out.size))
      have hrl : qs.reverse.length = m + 1 := by rw [List.length_reverse]; exact hm.out
      obtain ⟨gr, cr, er⟩ := prow_form hr3 (by omega)
      rw [hrl] at er
      subst er
      have hcr : m + 1 ≤ cr := prow_capOk hr3 _ _ _ rfl
      have PR := Lib.hid (prow_at hr3)
      have crn : ¬ cr = 1 := by omega
      have HRL := Lib.hid hrl
      clear hr3 hb3 hrl
      go_wp2_with (at_builtin; refine wpList_append_lies _ rfl _ _ 28 rfl w.heap.size 43 i0 (.agg #[.int .i64 0, .int .i64 0]) 2 16 Try.underlying28 hi hz0 hz1 hz2 rfl (by decide) (.slice (some ⟨g1, 0, none⟩) (0 + (n + 1)) cap1) (0 + (n + 1)) ([] ++ ints (flat ps)) (by simp [Act.eval, Act.put]) HO3.out ⟨gr, 0 + 2, none⟩ m (cr - 1) (ints (flat (qs.reverse.drop 1))) (by simp [Act.eval, Act.put]) (by rw [ints_flat_len']; have h1 := hn.out; have h2 := hm.out; first | omega | (simp; omega)) (pat_flat' (pat_tail PR.out (by have h2 := hm.out; rw [List.length_reverse]; omega))) (ints_one _) (by omega) (by unfold maxLen; omega) (by omega) HB3.out.size _ rfl ?_; intro g2 cap2 w2 hown2 hg2 hat2 hlt2; have HO2 := Lib.hid hown2; have HB2 := Lib.hid (show Below w.heap.size w w2 from Below.grown HB3.out hg2 HB3.out.size (fun j hj => (World.ownsRow.lt HO3.out j hj).1)); clear hown2 hg2)
      exact bodyPost_ret (v := .tuple #[.slice (some ⟨g2, 0, none⟩) (0 + (n + 1) + m) cap2, .bool true]) (by simp [results, Try.results74, go_sem]) rfl ⟨_, rfl, prow_two' (by simp [hn.out]) (by simp [hm.out]) HO2.out, HB2.out⟩
    · have f2 := fun W => eqlP t1 t2 q1 q2 W
      rw [decide_eq_false h2] at f2
      have NE2 := Lib.hid (show ¬ lastP ps = lastP qs from fun k => h2 ⟨by rw [← ht1.out, ← hq1.out, k], by rw [← ht2.out, ← hq2.out, k]⟩)
      clear h2
      by_cases h3 : x1 = q1 ∧ x2 = q2
      · have f3 := fun W => eqlP x1 x2 q1 q2 W
        rw [decide_eq_true h3] at f3
        have EQ3 := Lib.hid (show pAt ps 0 = lastP qs from Prod.ext (by rw [hx1.out, hq1.out]; exact h3.1) (by rw [hx2.out, hq2.out]; exact h3.2))
        clear h3
        have EJ := Lib.hid (show joinO ps qs = some (qs ++ ps.drop 1) from by unfold joinO; rw [if_neg (NE1.out), if_neg (NE2.out), if_pos (EQ3.out)])
        rw [EJ.out]
        simp only [Option.isSome_some, Option.getD_some]
        go_enter Try.func74, Try.ntmps74
        go_wp2
        go_quiet (fail)
        go_wp2
        go_quiet (fail)
        go_wp2
        go_quiet (fail)
        go_wp2
        go_region_law (first | (refine step_append_lies _ rfl (.tmp 54) (.tmp 55) 28 rfl w.heap.size 43 i0 (.agg #[.int .i64 0, .int .i64 0]) 2 16 Try.underlying28 hi hz0 hz1 hz2 rfl (by decide) (.slice (some ⟨w.heap.size + 1 + 1, 0, none⟩) 0 0) 0 [] (by simp [Act.eval, Act.put]) (prow_made' _ _ _ (by first | (simp; done) | rfl) (by first | omega | (simp; done) | (simp; omega))) ⟨g', off', none⟩ (m + 1) c' (ints (flat qs)) (by simp [Act.eval, Act.put]) (by rw [ints_flat_len']; have h1 := hn.out; have h2 := hm.out; first | omega | (simp; omega)) (pat_flat' (pat_keep HU.out (by repeat (first | assumption | exact Below.refl _ _ | exact HB1.out | refine Below.drew ?_ | refine bdP ?_ _ | refine Below.alloc ?_ (by first | exact Nat.le_refl _ | (simp; done) | (simp; omega)) _)))) (ints_one _) (by omega) (by unfold maxLen; omega) (by omega) (by first | omega | (simp; done) | (simp; omega)) _ rfl ?_; intro g1 cap1 w1 hown1 hg1 hat1 hlt1; have HO1 := Lib.hid hown1; have HB1 := Lib.hid (show Below w.heap.size w w1 from Below.grown (by repeat (first | assumption | exact Below.refl _ _ | exact HB1.out | refine Below.drew ?_ | refine bdP ?_ _ | refine Below.alloc ?_ (by first | exact Nat.le_refl _ | (simp; done) | (simp; omega)) _)) hg1 (by first | omega | (simp; done) | (simp; omega)) (fun j hj => by cases hj; first | omega | (simp; done) | (simp; omega))); have hat := hat1; clear hown1 hg1) | (refine step_append_lies _ rfl (.tmp 56) (.tmp 58) 28 rfl w.heap.size 43 i0 (.agg #[.int .i64 0, .int .i64 0]) 2 16 Try.underlying28 hi hz0 hz1 hz2 rfl (by decide) (.slice (some ⟨g1, 0, none⟩) (0 + (m + 1)) cap1) (0 + (m + 1)) ([] ++ ints (flat qs)) (by simp [Act.eval, Act.put]) HO1.out ⟨g, off + 2, none⟩ n (c - 1) (ints (flat (ps.drop 1))) (by simp [Act.eval, Act.put]) (by rw [ints_flat_len']; have h1 := hn.out; have h2 := hm.out; first | omega | (simp; omega)) (pat_flat' (pat_keep (pat_tail HV.out (by have h1 := hn.out; have h2 := hm.out; omega)) (by repeat (first | assumption | exact Below.refl _ _ | exact HB1.out | refine Below.drew ?_ | refine bdP ?_ _ | refine Below.alloc ?_ (by first | exact Nat.le_refl _ | (simp; done) | (simp; omega)) _)))) (ints_one _) (by omega) (by unfold maxLen; omega) (by omega) (by have := HB1.out.size; first | exact this | (simp; omega)) _ rfl ?_; intro g2 cap2 w2 hown2 hg2 hat2 hlt2; have HO2 := Lib.hid hown2; have HB2 := Lib.hid (show Below w.heap.size w w2 from Below.grown HB1.out hg2 HB1.out.size (fun j hj => (World.ownsRow.lt HO1.out j hj).1)); clear hown2 hg2))
        go_wp2
        exact bodyPost_ret (v := .tuple #[.slice (some ⟨g2, 0, none⟩) (0 + (m + 1) + n) cap2, .bool true]) (by simp [results, Try.results74, go_sem]) rfl ⟨_, rfl, prow_two' (by simp [hm.out]) (by simp [hn.out]) HO2.out, HB2.out⟩
      · have f3 := fun W => eqlP x1 x2 q1 q2 W
        rw [decide_eq_false h3] at f3
        have NE3 := Lib.hid (show ¬ pAt ps 0 = lastP qs from fun k => h3 ⟨by rw [← hx1.out, ← hq1.out, k], by rw [← hx2.out, ← hq2.out, k]⟩)
        clear h3
        by_cases h4 : x1 = p1 ∧ x2 = p2
        · have f4 := fun W => eqlP x1 x2 p1 p2 W
          rw [decide_eq_true h4] at f4
          have EQ4 := Lib.hid (show pAt ps 0 = pAt qs 0 from Prod.ext (by rw [hx1.out, hp1.out]; exact h4.1) (by rw [hx2.out, hp2.out]; exact h4.2))
          clear h4
          have EJ := Lib.hid (show joinO ps qs = some (qs.reverse ++ ps.drop 1) from by unfold joinO; rw [if_neg (NE1.out), if_neg (NE2.out), if_neg (NE3.out), if_pos (EQ4.out)])
          rw [EJ.out]
          simp only [Option.isSome_some, Option.getD_some]
          go_enter Try.func74, Try.ntmps74
          go_wp2
          go_quiet (fail)
          go_wp2
          go_quiet (fail)
          go_wp2
          go_quiet (fail)
          go_wp2
          go_quiet (fail)
          go_wp2
          go_region_held3 (fun _ => True) (exact trivial) (first | (refine step_append_lies _ rfl (.tmp 67) (.tmp 69) 28 rfl w.heap.size 43 i0 (.agg #[.int .i64 0, .int .i64 0]) 2 16 Try.underlying28 hi hz0 hz1 hz2 rfl (by decide) (.slice (some ⟨g1, 0, none⟩) (m + 1) cap1) (m + 1) (ints (flat qs.reverse)) (by rfl) HO1.out ⟨g, off + 2, none⟩ n (c - 1) (ints (flat (ps.drop 1))) (by rfl) (by rw [ints_flat_len']; have h1 := hn.out; have h2 := hm.out; first | omega | (simp; omega)) (pat_flat' (pat_keep (pat_tail HV.out (by have h1 := hn.out; have h2 := hm.out; omega)) (by repeat (first | assumption | exact Below.refl _ _ | exact HB1.out | refine Below.drew ?_ | refine bdP ?_ _ | refine Below.alloc ?_ (by first | exact Nat.le_refl _ | (simp; done) | (simp; omega)) _)))) (ints_one _) (by omega) (by unfold maxLen; omega) (by omega) (by have := HB1.out.size; first | exact this | (simp; omega)) _ rfl ?_; intro g2 cap2 w2 hown2 hg2 hat2 hlt2; have HO2 := Lib.hid hown2; have HB2 := Lib.hid (show Below w.heap.size w w2 from Below.grown HB1.out hg2 HB1.out.size (fun j hj => (World.ownsRow.lt HO1.out j hj).1)); clear hown2 hg2) | (go_at_call 86; refine (l10Back_rel _ qs w _ (by repeat (first | assumption | exact Below.refl _ _ | exact HB1.out | refine Below.drew ?_ | refine bdP ?_ _ | refine Below.alloc ?_ (by first | exact Nat.le_refl _ | (simp; done) | (simp; omega)) _)) HU2.out (by have := hm.out; omega)).mono ?_; rintro e w1 ⟨r3, rfl, hr3, hb3⟩; obtain ⟨g1, cap1, er⟩ := prow_form hr3 (by have h2 := hm.out; rw [List.length_reverse]; omega); subst er; have HB1 := Lib.hid hb3; have HO1 := Lib.hid (show w1.ownsRow w.heap.size 43 2 (.slice (some ⟨g1, 0, none⟩) (m + 1) cap1) (m + 1) (ints (flat qs.reverse)) by have h := hr3; unfold PRow at h; rw [show qs.reverse.length = m + 1 by simp [hm.out]] at h; exact h); rw [show qs.reverse.length = m + 1 by rw [List.length_reverse]; exact hm.out]; clear hr3 hb3))
          go_wp2
          exact bodyPost_ret (v := .tuple #[.slice (some ⟨g2, 0, none⟩) (m + 1 + n) cap2, .bool true]) (by simp [results, Try.results74, go_sem]) rfl ⟨_, rfl, prow_two (by simp [hm.out]) (by simp [hn.out]) HO2.out, HB2.out⟩
        · have f4 := fun W => eqlP x1 x2 p1 p2 W
          rw [decide_eq_false h4] at f4
          have NE4 := Lib.hid (show ¬ pAt ps 0 = pAt qs 0 from fun k => h4 ⟨by rw [← hx1.out, ← hp1.out, k], by rw [← hx2.out, ← hp2.out, k]⟩)
          clear h4
          have EJ := Lib.hid (show joinO ps qs = none from by unfold joinO; rw [if_neg (NE1.out), if_neg (NE2.out), if_neg (NE3.out), if_neg (NE4.out)])
          rw [EJ.out]
          go_enter Try.func74, Try.ntmps74
          go_wp2
          go_quiet (fail)
          go_wp2
          go_quiet (fail)
          go_wp2
          go_quiet (fail)
          go_wp2
          go_quiet (fail)
          go_wp2
          exact bodyPost_ret (v := .tuple #[.slice none 0 0, .bool false]) (by simp [results, Try.results74, go_sem]) rfl ⟨_, rfl, prow_nil _ _, (by repeat (first | assumption | exact Below.refl _ _ | exact HB1.out | refine Below.drew ?_ | refine bdP ?_ _ | refine Below.alloc ?_ (by first | exact Nat.le_refl _ | (simp; done) | (simp; omega)) _))⟩
end Go.Proofs.Ytjailkgogmanfaa.sines
