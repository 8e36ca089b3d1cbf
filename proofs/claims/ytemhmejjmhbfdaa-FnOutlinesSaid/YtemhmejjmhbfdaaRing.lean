/- The model's drawn closed chains. -/
import Derived.Test.YtemhmejjmhbfdaaPLDraw
import Derived.Test.YtemhmejjmhbfdaaJoinS3
namespace Go.Proofs.Ytemhmejjmhbfdaa.srcP
open Go.ChangeShapes Go.WideShapes Go.ChangeAt Go.RowKit Go.Proofs.Ytemhmejjmhbfdaa.irows Go.Proofs.Ytemhmejjmhbfdaa.pairsPlace Go.Proofs.Ytemhmejjmhbfdaa.src Go.Proofs.Ytemhmejjmhbfdaa.sines
set_option linter.unusedSimpArgs false
set_option linter.unusedVariables false

theorem st_self {W0 w : World} {B : Nat} {a : Option Addr} {len cap : Nat} {m : Int} (h : St W0 w B a len cap m) : St w w B a len cap m := ⟨h.1, World.grownBy.refl _ _, h.2.2.1, Nat.lt_of_lt_of_le h.2.2.2 h.2.1.size⟩
theorem st_trans {W0 w w' : World} {B : Nat} {a : Option Addr} {len cap : Nat} {m m' : Int} (h : St W0 w B a len cap m) (k : St w w' B a len cap m') : St W0 w' B a len cap m' := ⟨k.1, Lib.grownBy_trans h.2.1 k.2.1, k.2.2.1, h.2.2.2⟩
theorem below_grown {w w' : World} (h : Below w.heap.size w w') (r : Option Nat) : w.grownBy w' r := ⟨h.os, h.tape, h.output, h.size, fun i hi _ => h.block i hi⟩
/-- A list written out. -/
theorem prow_lit (w : World) (ps : List Pl) (cs : Array Value) (h : cs = (ints (flat ps)).toArray) (hl : ps.length ≤ 100) : PRow (w.alloc (.cells cs 60)) w.heap.size (.slice (some ⟨w.heap.size, 0, none⟩) ps.length ps.length) ps := by
  have hz := ints_flat_len' ps
  refine ⟨hz, .inr ⟨w.heap.size, ps.length, cs, rfl, Nat.le_refl _, heap_alloc_new w _, Nat.le_refl _, by unfold maxLen; omega, by rw [h]; simpa using hz, ?_⟩⟩
  rw [h]
  simp only
  rw [← hz]
  exact List.take_length
theorem one_keep {W0 w : World} {B : Nat} {a : Option Addr} {len cap : Nat} {m : Int} (n : Int) (h : St W0 w B a len cap m) (hm : m ≤ 4611686018427387000) (hn0 : 1 ≤ n) (hn1 : n ≤ 65536) :
    Calls Try.prog 93 #[.pointer (some ⟨B, 0, none⟩), .int .i64 n] w fun e w' => ∃ b, e = .returned (.bool b) ∧ St W0 w' B a len cap (m + 2) ∧ w.grownBy w' (some B) := by
  have H := Lib.hid h
  clear h
  go_enter Try.func93, Try.ntmps93
  go_wp2_with fail
  refine (pick_keep n H.out hm hn0 hn1).mono ?_
  rintro e w1 ⟨v, rfl, _, _, h2, hg⟩
  have H2 := Lib.hid h2
  have HG := Lib.hid hg
  clear h2 hg
  go_wp2_with fail
  go_ret
  exact ⟨_, rfl, H2.out, HG.out⟩
theorem draw_keep {W0 w : World} {B : Nat} {a : Option Addr} {len cap : Nat} {m : Int} (h : St W0 w B a len cap m) (hm : m ≤ 1000000) :
    Calls Try.prog 151 #[.pointer (some ⟨B, 0, none⟩)] w fun e w' => ∃ x y, e = .returned (.agg #[.int .i64 x, .int .i64 y]) ∧ Drawn x y ∧ St W0 w' B a len cap (m + 14) ∧ w.grownBy w' (some B) := by
  refine (l02Draw_any w B a len cap m h.1 hm h.2.2.1 (Nat.lt_of_lt_of_le h.2.2.2 h.2.1.size)).mono ?_
  rintro e w' ⟨x, y, h1, h2, h4, h5⟩
  exact ⟨x, y, h1, h2, ⟨h4, Lib.grownBy_trans h.2.1 h5, bytes_grown h.2.2.1 h5 (Nat.le_refl _), h.2.2.2⟩, h5⟩
set_option maxRecDepth 100000 in
set_option maxHeartbeats 2000000 in
theorem l10Ring_any {W0 : World} (w : World) (B : Nat) (a : Option Addr) (len cap : Nat) (m : Int) (h : St W0 w B a len cap m) (hm : m ≤ 100000) :
    Calls Try.prog 163 #[.pointer (some ⟨B, 0, none⟩)] w fun e w' => ∃ u ps, e = .returned u ∧ ps.length = 6 ∧ PRow w' w.heap.size u ps ∧ St W0 w' B a len cap (m + 12) ∧ w.grownBy w' (some B) := by
  have H0 := Lib.hid h
  have S0 := Lib.hid (st_self h)
  have hB : B < w.heap.size := (st_self h).2.2.2
  clear h
  go_enter Try.func163, Try.ntmps163
  go_wp2_with fail
  refine (pick_st 60 S0.out (by omega) (by decide) (by decide)).mono ?_
  rintro e w1 ⟨x, rfl, x0, x1, s1⟩
  have S1 := Lib.hid s1
  clear s1
  go_wp2_with fail
  refine (pick_st 60 S1.out (by omega) (by decide) (by decide)).mono ?_
  rintro e w2 ⟨y, rfl, y0, y1, s2⟩
  have S2 := Lib.hid s2
  clear s2
  go_wp2_with fail
  refine (pick_st 60 S2.out (by omega) (by decide) (by decide)).mono ?_
  rintro e w3 ⟨p, rfl, p0, p1, s3⟩
  have S3 := Lib.hid s3
  clear s3
  go_wp2_with fail
  refine (pick_st 60 S3.out (by omega) (by decide) (by decide)).mono ?_
  rintro e w4 ⟨q, rfl, q0, q1, s4⟩
  have S4 := Lib.hid s4
  clear s4
  have hz4 : w.heap.size ≤ w4.heap.size := S4.out.2.1.size
  have k1 : IntKind.i64.wrap (2 + p) = 2 + p := IntWalk.i64_in _ (by omega)
  have k2 : IntKind.i64.wrap (2 + q) = 2 + q := IntWalk.i64_in _ (by omega)
  have k3 : IntKind.i64.wrap (x + (2 + p)) = x + (2 + p) := IntWalk.i64_in _ (by omega)
  have k4 : IntKind.i64.wrap (y + (2 + q)) = y + (2 + q) := IntWalk.i64_in _ (by omega)
  have t1 : (2 + p).tdiv 2 = (2 + p) / 2 := Int.tdiv_eq_ediv_of_nonneg (by omega)
  have t2 : (2 + q).tdiv 2 = (2 + q) / 2 := Int.tdiv_eq_ediv_of_nonneg (by omega)
  have t3 : IntKind.i64.wrap ((2 + p) / 2) = (2 + p) / 2 := IntWalk.i64_in _ (by omega)
  have t4 : IntKind.i64.wrap ((2 + q) / 2) = (2 + q) / 2 := IntWalk.i64_in _ (by omega)
  have t5 : IntKind.i64.wrap (x + (2 + p) / 2) = x + (2 + p) / 2 := IntWalk.i64_in _ (by omega)
  have t6 : IntKind.i64.wrap (y + (2 + q) / 2) = y + (2 + q) / 2 := IntWalk.i64_in _ (by omega)
  have t7 : IntKind.i64.wrap (y + (2 + q) / 2 + 1) = y + (2 + q) / 2 + 1 := IntWalk.i64_in _ (by omega)
  obtain ⟨PS, hPS⟩ : ∃ PS : List Pl, Hid ([(x, y), (x + (2 + p), y), (x + (2 + p), y + (2 + q)), (x + (2 + p) / 2, y + (2 + q) / 2 + 1), (x, y + (2 + q)), (x, y)] = PS) := ⟨_, Lib.hid rfl⟩
  have hPL : PS.length = 6 := by rw [← hPS.out]; rfl
  have R4 := Lib.hid (show PRow (w4.alloc (.cells #[.int .i64 x, .int .i64 y, .int .i64 (x + (2 + p)), .int .i64 y, .int .i64 (x + (2 + p)), .int .i64 (y + (2 + q)), .int .i64 (x + (2 + p) / 2), .int .i64 (y + (2 + q) / 2 + 1), .int .i64 x, .int .i64 (y + (2 + q)), .int .i64 x, .int .i64 y] 60)) w.heap.size (.slice (some ⟨w4.heap.size, 0, none⟩) 6 6) PS from by
    have h := prow_lit w4 PS _ (by rw [← hPS.out]; try rfl) (by omega)
    rw [hPL] at h
    exact prow_up h hz4)
  have S5 := Lib.hid (st_alloc S4.out (.cells #[.int .i64 x, .int .i64 y, .int .i64 (x + (2 + p)), .int .i64 y, .int .i64 (x + (2 + p)), .int .i64 (y + (2 + q)), .int .i64 (x + (2 + p) / 2), .int .i64 (y + (2 + q) / 2 + 1), .int .i64 x, .int .i64 (y + (2 + q)), .int .i64 x, .int .i64 y] 60))
  have HPL := Lib.hid hPL
  clear hPL hz4
  go_wp2_with fail
  refine (one_keep 2 S5.out (by omega) (by decide) (by decide)).mono ?_
  rintro e w6 ⟨b, rfl, s6, hg6⟩
  have S6 := Lib.hid s6
  have R6 := Lib.hid (row_src R4.out hB hg6)
  clear s6 hg6
  cases b with
  | false =>
    go_wp2
    go_ret
    exact ⟨_, PS, rfl, HPL.out, R6.out, st_le (st_trans H0.out S6.out) (by omega), S6.out.2.1⟩
  | true =>
    have hl : PS.length ≤ 24 := by have := HPL.out; omega
    have BK := Lib.hid (l10Back_any _ PS w6 (by have h := prow_at R6.out; exact h) hl)
    clear hl
    go_wp2_with fail
    refine BK.out.mono ?_
    rintro e w7 ⟨u, rfl, hr, hb⟩
    have S7 := Lib.hid (st_own S6.out (below_grown hb none) (fun k hk => by cases hk))
    have R7 := Lib.hid (prow_up hr S6.out.2.1.size)
    obtain ⟨au, cu, eu, _⟩ := prow_at hr
    subst eu
    rw [List.length_reverse] at R7
    clear hr hb
    go_wp2
    go_ret
    exact ⟨_, PS.reverse, rfl, by rw [List.length_reverse]; exact HPL.out, R7.out, st_le (st_trans H0.out S7.out) (by omega), S7.out.2.1⟩
theorem flat_set1 (ps : List Pl) (k : Nat) (z : Int) (h : k < ps.length) : (flat ps).set (k * 2) z = flat (ps.set k (z, (pAt ps k).2)) := by
  have e := flat_set ps (z, (pAt ps k).2) k h
  rw [← e]
  simp only
  have hl := flat_len ps
  have hk : k * 2 + 1 < ((flat ps).set (k * 2) z).length := by rw [List.length_set]; omega
  have e2 : ((flat ps).set (k * 2) z)[k * 2 + 1] = (pAt ps k).2 := by
    rw [List.getElem_set_ne (by omega)]
    have := (flat_at ps k h).2
    rw [List.getElem?_eq_getElem (by omega)] at this
    have := Option.some.inj this
    rw [this, pat_of h]
  rw [← e2, List.set_getElem_self]
/-- One number of a row is written. -/
theorem prow_set1 {w : World} {B g n c : Nat} {ps : List Pl} (h : PRow w B (.slice (some ⟨g, 0, none⟩) n c) ps) (hn : ps.length = n) (k : Nat) (hk : k < n) (z : Int) : PRow (w.setCell ⟨g, k * 2, none⟩ (.int .i64 z)) B (.slice (some ⟨g, 0, none⟩) n c) (ps.set k (z, (pAt ps k).2)) ∧ w.grownBy (w.setCell ⟨g, k * 2, none⟩ (.int .i64 z)) (some g) := by
  subst hn
  have h1 := World.ownsRow.stored h (k * 2) (.int .i64 z)
  refine ⟨?_, h1.2⟩
  have h2 := h1.1
  rw [Go.Proofs.Ytemhmejjmhbfdaa.pairsPlace.ints_set, flat_set1 ps k z hk] at h2
  unfold PRow
  rw [List.length_set]
  exact h2
theorem among_keep {W0 w : World} {B L : Nat} {a : Option Addr} {len cap n : Nat} {m : Int} (P : Int → Prop) (h : St W0 w B a len cap m) (hm : m ≤ 1000000) (hn0 : 1 ≤ n) (hn1 : n ≤ 65536) (hl : ListAt w L n P) (hL : L ≠ B) :
    Calls Try.prog 106 #[.pointer (some ⟨B, 0, none⟩), .slice (some ⟨L, 0, none⟩) n n] w fun e w' => ∃ v, e = .returned (.int .i64 v) ∧ P v ∧ St W0 w' B a len cap (m + 2) ∧ w.grownBy w' (some B) :=
  (among_st P (st_self h) (by omega) hn0 hn1 hl hL).mono fun _ _ ⟨v, h1, h2, h3⟩ => ⟨v, h1, h2, st_trans h h3, h3.2.1⟩
set_option maxRecDepth 100000 in
set_option maxHeartbeats 2000000 in
theorem l10Any_any {W0 : World} (w : World) (B : Nat) (a : Option Addr) (len cap : Nat) (m : Int) (h : St W0 w B a len cap m) (hm : m ≤ 900) :
    Calls Try.prog 120 #[.pointer (some ⟨B, 0, none⟩)] w fun e w' => ∃ u ps, e = .returned u ∧ ps.length ≤ 10 ∧ PRow w' w.heap.size u ps ∧ St W0 w' B a len cap (m + 60) ∧ w.grownBy w' (some B) := by
  have H0 := Lib.hid h
  have S0 := Lib.hid (st_self h)
  have hB : B < w.heap.size := (st_self h).2.2.2
  clear h
  go_enter Try.func120, Try.ntmps120
  go_wp2_with fail
  refine (pick_keep 8 S0.out (by omega) (by decide) (by decide)).mono ?_
  rintro e w1 ⟨x, rfl, x0, x1, s1, hg1⟩
  have S1 := Lib.hid s1
  have G1 := Lib.hid hg1
  have hz1 : w.heap.size ≤ w1.heap.size := hg1.size
  clear s1 hg1
  by_cases e0 : x = 0
  · subst e0
    have DR := Lib.hid (l07Draw_any w1 B a len cap _ (st_self S1.out) (by omega))
    go_wp2_with fail
    refine DR.out.mono ?_
    rintro e w2 ⟨u, ps, rfl, _, hl, hr, hg, hs⟩
    have S2 := Lib.hid (st_trans S1.out hs)
    have R2 := Lib.hid (prow_up hr hz1)
    obtain ⟨au, cu, eu, _⟩ := prow_at hr
    subst eu
    clear hr hg hs
    go_wp2
    go_ret
    exact ⟨_, ps, rfl, hl, R2.out, st_le (st_trans H0.out S2.out) (by omega), S2.out.2.1⟩
  · have DR := Lib.hid (l10Ring_any w1 B a len cap _ S1.out (by omega))
    by_cases e1 : x = 1
    · subst e1
      go_wp2_with fail
      refine DR.out.mono ?_
      rintro e w2 ⟨u, ps, rfl, hl, hr, hs, hg⟩
      have S2 := Lib.hid hs
      have R2 := Lib.hid (prow_up hr hz1)
      obtain ⟨g, cu, eu⟩ := prow_form hr (by omega)
      rw [hl] at eu
      subst eu
      have HL := Lib.hid hl
      clear hl
      have hgw : w.heap.size ≤ g := Nat.le_trans hz1 (World.ownsRow.lt hr g rfl).1
      clear hr hs hg
      go_wp2_with fail
      refine (pick_keep 6 S2.out (by omega) (by decide) (by decide)).mono ?_
      rintro e w3 ⟨v, rfl, v0, v1, s3, hg3⟩
      have S3 := Lib.hid s3
      have R3 := Lib.hid (row_src R2.out hB hg3)
      clear s3 hg3
      obtain ⟨V, rfl⟩ := Int.eq_ofNat_of_zero_le v0
      have hV : V < 6 := by omega
      go_wp2_with fail
      refine (among_keep (n := 5) (fun _ => True) (st_alloc S3.out _) (by omega) (by decide) (by decide) (list_of rfl (by intro i hi; rcases i with _ | _ | _ | _ | _ | i <;> first | exact ⟨_, rfl, trivial⟩ | omega)) (by have := (S3.out).2.1.size; have := (S3.out).2.2.2; omega)).mono ?_
      rintro e w4 ⟨z, rfl, _, s4, hg4⟩
      have S4 := Lib.hid s4
      have R4 := Lib.hid (row_src (World.ownsRow.alloc R3.out _) hB hg4)
      clear s4 hg4
      obtain ⟨g', y0, y1, eg, _, hws, q0, _, f0, _⟩ := own_cells (k := V) R4.out HL.out hV
      simp only [Option.some.injEq, Addr.mk.injEq, and_true] at eg
      subst eg
      obtain ⟨T1, T2⟩ := prow_set1 R4.out HL.out V hV z
      have R5 := Lib.hid T1
      have S5 := Lib.hid (st_own S4.out T2 (fun k hk => by cases hk; exact hgw))
      have hV0 : 0 ≤ (V : Int) := by omega
      have hV1 : (V : Int) < 6 := by omega
      clear T1 T2
      go_wp2
      go_ret
      exact ⟨_, _, rfl, by rw [List.length_set]; have := HL.out; omega, R5.out, st_le (st_trans H0.out S5.out) (by omega), S5.out.2.1⟩
    · go_wp2_with fail
      refine DR.out.mono ?_
      rintro e w2 ⟨u, ps, rfl, hl, hr, hs, hg⟩
      have S2 := Lib.hid hs
      have R2 := Lib.hid (prow_up hr hz1)
      obtain ⟨au, cu, eu, _⟩ := prow_at hr
      subst eu
      have HL := Lib.hid hl
      clear hr hs hg hl
      go_wp2
      go_ret
      exact ⟨_, ps, rfl, by have := HL.out; omega, R2.out, st_le (st_trans H0.out S2.out) (by omega), S2.out.2.1⟩
end Go.Proofs.Ytemhmejjmhbfdaa.srcP
