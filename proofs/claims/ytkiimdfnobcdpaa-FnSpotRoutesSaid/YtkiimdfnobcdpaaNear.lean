/- NearestSpot and SpotsWithin, of the program and of the model. -/
import Derived.Test.YtkiimdfnobcdpaaRow
import Derived.Maps.AppendAt
namespace Go.Proofs.Ytkiimdfnobcdpaa.sines
open Go.ChangeShapes Go.WideShapes Go.ChangeAt Go.RowKit Go.Proofs.Ytkiimdfnobcdpaa.spots Go.Proofs.Ytkiimdfnobcdpaa.irows Go.Proofs.Ytkiimdfnobcdpaa.pairs

def nearA (ps : List (Int × Int)) (a b : Int) : Int := if codeW ps a b 1 = 0 then (fminL (rowD ps a b) : Int) else 0
theorem codeW_bad {ps : List (Int × Int)} {a b least : Int} (h : okB a b = false) : codeW ps a b least = 1 := by simp [codeW, h]
theorem codeW_yes {ps : List (Int × Int)} {a b least : Int} (h : okB a b = true) : codeW ps a b least = codeL ps least 12 := by simp [codeW, h]

theorem l05Distance_rev (a b c d : Int) (W0 w : World) (h : Below W0.heap.size W0 w) (ha : okB a b = true) (hc : okB c d = true) :
    Calls Try.prog 33 #[.agg #[.int .i64 a, .int .i64 b], .agg #[.int .i64 c, .int .i64 d]] w fun e w' => e = .returned (.int .i64 (distL c d a b)) ∧ Below W0.heap.size W0 w' := by
  rw [distL_sym c d a b]
  exact l05Distance_rel a b c d W0 w h ha hc

set_option maxRecDepth 100000 in
set_option maxHeartbeats 2000000 in
theorem implNearest_any (v : Value) (ps : List (Int × Int)) (a b : Int) (w : World) (hv : PAt w w.heap.size v ps) (hl : ps.length ≤ 1048576) :
    Calls Try.prog 11 #[v, .agg #[.int .i64 a, .int .i64 b]] w fun e w' => e = .returned (.tuple #[.int .i64 (nearA ps a b), .int .i64 (codeW ps a b 1)]) ∧ Below w.heap.size w w' := by
  have HV := Lib.hid hv
  clear hv
  cases h : okB a b with
  | false =>
    rw [show nearA ps a b = 0 by simp [nearA, codeW_bad h], codeW_bad h]
    go_enter Try.func11, Try.ntmps11
    go_wp2_with fail
    refine (ValidSpot_any a b _).mono ?_
    rw [h]
    rintro e w1 ⟨rfl, o1, rfl⟩
    go_wp2
    exact bodyPost_ret (v := .tuple #[.int .i64 0, .int .i64 1]) (by simp [results, Try.results11, go_sem]) rfl ⟨rfl, below_two _ _ _⟩
  | true =>
    have HO := Lib.hid h
    rw [codeW_yes h]
    by_cases hc : codeL ps 1 12 = 0
    · obtain ⟨k1, k2, k3⟩ := codeL_ok hc
      rw [show nearA ps a b = (fminL (rowD ps a b) : Int) by simp [nearA, codeW_yes h, hc], hc]
      have HC := Lib.hid hc
      obtain ⟨zs, hzs⟩ : ∃ zs, Hid (rowD ps a b = zs) := ⟨_, Lib.hid rfl⟩
      have zl : zs.length = ps.length := by rw [← hzs.out, rowD_len]
      have z1 : 0 < zs.length := by omega
      have z2 : zs.length ≤ 1048576 := by omega
      rw [hzs.out]
      obtain ⟨m, hm⟩ : ∃ m, Hid (fminL zs = m) := ⟨_, Lib.hid rfl⟩
      rw [hm.out]
      have K1 := Lib.hid k1
      clear hc zl k1
      go_enter Try.func11, Try.ntmps11
      go_wp2_with fail
      refine (ValidSpot_any a b _).mono ?_
      rw [h]
      rintro e w1 ⟨rfl, o1, rfl⟩
      go_wp2_with fail
      refine (spotsCode_any v ps 1 12 _ (pat_up (pat_keep HV.out (below_two w _ _)) (by simp <;> omega)) hl).mono ?_
      rw [HC.out]
      rintro e w2 ⟨rfl, hb⟩
      have HB := Lib.hid (below_alloc2 hb)
      have q0 : w2.cell? ⟨w.heap.size, 0, none⟩ = some (.int .i64 a) := (hb.cell (p := ⟨w.heap.size, 0, none⟩) (by simp <;> omega)).trans (by rw [World.cell?_alloc_past _ _ _ (by simp)]; simp)
      have q1 : w2.cell? ⟨w.heap.size, 1, none⟩ = some (.int .i64 b) := (hb.cell (p := ⟨w.heap.size, 1, none⟩) (by simp <;> omega)).trans (by rw [World.cell?_alloc_past _ _ _ (by simp)]; simp)
      clear hb
      go_wp2_with fail
      refine (distancesFrom_any v ps a b _ (pat_up (pat_keep HV.out HB.out) HB.out.size) hl K1.out HO.out).mono ?_
      rw [hzs.out]
      rintro e w3 ⟨u, rfl, hr, hb⟩
      have HB2 := Lib.hid (HB.out.trans (hb.mono HB.out.size))
      have HR := Lib.hid hr
      clear hb hr
      go_wp2_with fail
      refine (firstLeast_any u _ zs _ HR.out z1 z2).mono ?_
      rw [hm.out]
      rintro e w4 ⟨rfl, q, rfl⟩
      go_wp2
      exact bodyPost_ret (v := .tuple #[.int .i64 (m : Nat), .int .i64 0]) (by simp [results, Try.results11, go_sem]) rfl ⟨rfl, bdq HB2.out _⟩
    · rw [show nearA ps a b = 0 by simp [nearA, codeW_yes h, hc]]
      obtain ⟨C, HC⟩ : ∃ C, Hid (codeL ps 1 12 = C) := ⟨_, Lib.hid rfl⟩
      rw [HC.out] at hc ⊢
      have hc1 : (C != 0) = true := by simpa using hc
      clear hc
      go_enter Try.func11, Try.ntmps11
      go_wp2_with fail
      refine (ValidSpot_any a b _).mono ?_
      rw [h]
      rintro e w1 ⟨rfl, o1, rfl⟩
      go_wp2_with fail
      refine (spotsCode_any v ps 1 12 _ (pat_up (pat_keep HV.out (below_two w _ _)) (by simp <;> omega)) hl).mono ?_
      rw [HC.out]
      rintro e w2 ⟨rfl, hb⟩
      have HB := Lib.hid (below_alloc2 hb)
      clear hb
      go_wp2
      exact bodyPost_ret (v := .tuple #[.int .i64 0, .int .i64 C]) (by simp [results, Try.results11, go_sem]) rfl ⟨rfl, HB.out⟩


end Go.Proofs.Ytkiimdfnobcdpaa.sines
