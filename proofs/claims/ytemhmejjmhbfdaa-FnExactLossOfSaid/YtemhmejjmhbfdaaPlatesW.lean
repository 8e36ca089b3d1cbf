/- The model's maps with true parallels: contracts. -/
import Derived.Test.YtemhmejjmhbfdaaPlatesS
import Derived.StillTailTactics
namespace Go.Proofs.Ytemhmejjmhbfdaa.sines
open Go.ChangeShapes Go.WideShapes Go.ChangeAt Go.RowKit Go.Proofs.Ytemhmejjmhbfdaa.spots
set_option linter.unusedSimpArgs false
set_option linter.unusedVariables false

set_option maxRecDepth 100000 in
set_option maxHeartbeats 2000000 in
theorem l08Wave_any (lat lon s : Int) (w : World) (h : okB lat lon = true) (s0 : 1 ≤ s) (s1 : s ≤ 100000) :
    Calls Try.prog 82 #[.agg #[.int .i64 lat, .int .i64 lon], .int .i64 s] w fun e w' => e = .returned (.agg #[.int .i64 (waX lat lon s), .int .i64 (near lat s)]) ∧ Below w.heap.size w w' := by
  obtain ⟨h1, h2, h3, h4⟩ := okB_of h
  obtain ⟨c0, c1⟩ := cosL_lat h1 h2
  have m := mul_range (x := lon) (s := cosL lat) (X := 648000) (S := 1000000) (by omega) (by omega) c0 c1 (by omega)
  have P2 := Lib.hid (fun W => l03Cosine_any lat W (by omega) (by omega))
  have hcc : sineL (lat + 324000) = cosL lat := rfl
  rw [hcc] at P2
  have HX : waX lat lon s = near (lon * cosL lat) (1000000 * s) := rfl
  rw [HX]
  clear h HX hcc
  generalize cosL lat = c at c0 c1 m P2 ⊢
  have k1 : IntKind.i64.wrap (lon * c) = lon * c := IntWalk.i64_in _ (by omega)
  have k2 : IntKind.i64.wrap (1000000 * s) = 1000000 * s := IntWalk.i64_in _ (by omega)
  obtain ⟨a1, a2, a3, a4, a5, a6, a7, a8⟩ := boxes2 (w := w) (a := .int .i64 lat) (b := .int .i64 lon) (c := .int .i64 0) (d := .int .i64 0) (T := 25) (U := 29) (Below.drew (Below.refl _ _))
  have R1 := Lib.hid (fun W => l00Round_any (lon * c) (1000000 * s) W (by omega) (by omega) (by omega) (by omega))
  have R2 := Lib.hid (fun W => l00Round_any lat s W (by omega) (by omega) (by omega) (by omega))
  have A7 := Lib.hid a7
  have A8 := Lib.hid a8
  clear a7 a8 m
  go_enter Try.func82, Try.ntmps82
  go_wp2_with fail
  generalize ((w.alloc (.cells #[.int .i64 lat, .int .i64 lon] 25)).alloc (.cells #[.int .i64 0, .int .i64 0] 29)) = V0 at *
  go_still_tail 14, (by kernel_rfl)
  change wpStill _ _ V0.drew (fun a' => wpList _ _ _ _ a' V0.drew) _ _
  generalize V0.drew = V at *
  repeat still_step
  still_call ((P2.out _).mono fun _ _ h => ⟨h.1, h.2.symm⟩)
  repeat still_step
  still_call ((R1.out _).mono fun _ _ h => ⟨h.1, h.2.symm⟩)
  repeat still_step
  still_call ((R2.out _).mono fun _ _ h => ⟨h.1, h.2.symm⟩)
  repeat still_step
  refine wpStill_nil ?_
  obtain ⟨q0, q1, q2⟩ := stored2 A8.out (.int .i64 (near (lon * c) (1000000 * s))) (.int .i64 (near lat s))
  have B7 := A7.out
  clear P2 R1 R2
  go_wp2
  exact bodyPost_ret (v := .agg #[.int .i64 (near (lon * c) (1000000 * s)), .int .i64 (near lat s)]) (by simp [results, Try.results82, go_sem, q0, q1, q2]) rfl ⟨rfl, by repeat (first | assumption | exact Below.refl _ _ | refine Below.drew ?_ | refine bdQ ?_ _ | refine Below.setCell ?_ (by first | exact Nat.le_refl _ | (simp; done) | (simp; omega)) _ | refine Below.alloc ?_ (by first | exact Nat.le_refl _ | (simp; done) | (simp; omega)) _)⟩
set_option maxRecDepth 100000 in
set_option maxHeartbeats 1000000 in
theorem specWaveOf_any (lat lon s : Int) (w : World) :
    Calls Try.prog 19 #[.agg #[.int .i64 lat, .int .i64 lon], .int .i64 s] w fun e w' => e = .returned (.tuple #[.agg #[.int .i64 (if codeS8 lat lon s = 0 then waX lat lon s else 0), .int .i64 (if codeS8 lat lon s = 0 then near lat s else 0)], .int .i64 (codeS8 lat lon s)]) ∧ Below w.heap.size w w' := by
  have CD := Lib.hid (fun W => l08Code_any lat lon s W)
  by_cases hc : codeS8 lat lon s = 0
  · obtain ⟨hok, s0, s1⟩ := codeS8_of hc
    have PL := Lib.hid (fun W => l08Wave_any lat lon s W hok s0 s1)
    rw [if_pos hc, if_pos hc, hc]
    rw [hc] at CD
    clear hc hok s0 s1
    go_enter Try.func19, Try.ntmps19
    go_wp2_with fail
    refine (CD.out _).mono ?_
    rintro e w1 ⟨rfl, hb⟩
    obtain ⟨a1, a2, a3, a4, a5, a6, a7, a8⟩ := boxes2 hb
    have B2 := Lib.hid (fun w2 (h : Below w1.heap.size w1 w2) => boxes2 (hb.trans (h.mono hb.size)))
    clear hb
    go_wp2_with fail
    refine (PL.out _).mono ?_
    rintro e w2 ⟨rfl, hb⟩
    obtain ⟨b1, b2, b3, b4, b5, b6, b7, b8⟩ := B2.out _ hb
    obtain ⟨q0, q1, q2⟩ := stored2 b8 (.int .i64 (waX lat lon s)) (.int .i64 (near lat s))
    clear hb
    go_wp2
    exact bodyPost_ret (v := .tuple #[.agg #[.int .i64 (waX lat lon s), .int .i64 (near lat s)], .int .i64 0]) (by simp [results, Try.results19, go_sem, q0, q1, q2]) rfl ⟨rfl, by repeat (first | assumption | exact Below.refl _ _ | refine Below.drew ?_ | refine bdQ ?_ _ | refine Below.setCell ?_ (by first | exact Nat.le_refl _ | (simp; done) | (simp; omega)) _ | refine Below.alloc ?_ (by first | exact Nat.le_refl _ | (simp; done) | (simp; omega)) _)⟩
  · rw [if_neg hc, if_neg hc]
    generalize codeS8 lat lon s = c at CD hc ⊢
    have hn : (c == 0) = false := by simpa using hc
    go_enter Try.func19, Try.ntmps19
    go_wp2_with fail
    refine (CD.out _).mono ?_
    rintro e w1 ⟨rfl, hb⟩
    obtain ⟨a1, a2, a3, a4, a5, a6, a7, a8⟩ := boxes2 hb
    obtain ⟨q0, q1, q2⟩ := stored2 a8 (.int .i64 0) (.int .i64 0)
    clear hb
    go_wp2
    exact bodyPost_ret (v := .tuple #[.agg #[.int .i64 0, .int .i64 0], .int .i64 c]) (by simp [results, Try.results19, go_sem, q0, q1, q2]) rfl ⟨rfl, by repeat (first | assumption | exact Below.refl _ _ | refine Below.drew ?_ | refine bdQ ?_ _ | refine Below.setCell ?_ (by first | exact Nat.le_refl _ | (simp; done) | (simp; omega)) _ | refine Below.alloc ?_ (by first | exact Nat.le_refl _ | (simp; done) | (simp; omega)) _)⟩
end Go.Proofs.Ytemhmejjmhbfdaa.sines
