/- The program's places on maps and back, and what is lost between: contracts. -/
import Derived.Test.YtemhmejjmhbfdaaPlatesI5
namespace Go.Proofs.Ytemhmejjmhbfdaa.sines
open Go.ChangeShapes Go.WideShapes Go.ChangeAt Go.RowKit Go.Proofs.Ytemhmejjmhbfdaa.spots Go.Proofs.Ytemhmejjmhbfdaa.pairs
set_option linter.unusedSimpArgs false
set_option linter.unusedVariables false


theorem kept3 {w V0 W : World} {p q r t : Value} {o : Obj} (hz : V0.heap.size = w.heap.size + 3) (u1 : V0.cell? ⟨w.heap.size, 0, none⟩ = some p) (u2 : V0.cell? ⟨w.heap.size, 1, none⟩ = some q) (u3 : V0.cell? ⟨w.heap.size + 1, 0, none⟩ = some r) (u4 : V0.cell? ⟨w.heap.size + 1, 1, none⟩ = some t) (u5 : V0.heap[w.heap.size + 1 + 1]? = some o) (hW : Below V0.heap.size V0 W) (hB : Below w.heap.size w V0) :
    W.cell? ⟨w.heap.size, 0, none⟩ = some p ∧ W.cell? ⟨w.heap.size, 1, none⟩ = some q ∧ W.cell? ⟨w.heap.size + 1, 0, none⟩ = some r ∧ W.cell? ⟨w.heap.size + 1, 1, none⟩ = some t ∧ W.heap[w.heap.size + 1 + 1]? = some o ∧ Below w.heap.size w W :=
  ⟨(hW.cell (p := ⟨w.heap.size, 0, none⟩) (show w.heap.size < V0.heap.size by omega)).trans u1, (hW.cell (p := ⟨w.heap.size, 1, none⟩) (show w.heap.size < V0.heap.size by omega)).trans u2, (hW.cell (p := ⟨w.heap.size + 1, 0, none⟩) (show w.heap.size + 1 < V0.heap.size by omega)).trans u3, (hW.cell (p := ⟨w.heap.size + 1, 1, none⟩) (show w.heap.size + 1 < V0.heap.size by omega)).trans u4, (hW.block _ (by omega)).trans u5, hB.trans (hW.mono hB.size)⟩
theorem isLat8_any (n : Int) (w : World) :
    Calls Try.prog 115 #[.int .i64 n] w fun e w' => e = .returned (.bool (inB n (-324000) 324000)) ∧ w = w' := by
  go_enter Try.func115, Try.ntmps115
  go_wp2_with (go_at_call 107; refine (within_any _ _ _ _).mono ?_; rintro e w' ⟨rfl, rfl⟩)
  go_ret
  exact ⟨rfl, rfl⟩
set_option maxRecDepth 100000 in
set_option maxHeartbeats 1000000 in
theorem implStretchAt_any (lat : Int) (w : World) :
    Calls Try.prog 39 #[.int .i64 lat] w fun e w' => e = .returned (.tuple #[.int .i64 (stretchV lat), .int .i64 (codeT8 lat)]) ∧ Below w.heap.size w w' := by
  have P1 := Lib.hid (fun W => isLat8_any lat W)
  cases g : inB lat (-324000) 324000 with
  | false =>
    rw [g] at P1
    rw [show stretchV lat = 0 by simp [stretchV, g], show codeT8 lat = 2 by simp [codeT8, g]]
    go_enter Try.func39, Try.ntmps39
    go_wp2_with (go_at_call 115; refine (P1.out _).mono ?_; rintro e w' ⟨rfl, rfl⟩)
    exact bodyPost_ret (v := .tuple #[.int .i64 0, .int .i64 2]) (by simp [results, Try.results39, go_sem]) rfl ⟨rfl, by repeat (first | assumption | exact Below.refl _ _ | refine Below.drew ?_ | refine bdQ ?_ _ | refine Below.setCell ?_ (by first | exact Nat.le_refl _ | omega | (simp; done) | (simp; omega)) _ | refine Below.alloc ?_ (by first | exact Nat.le_refl _ | omega | (simp; done) | (simp; omega)) _)⟩
  | true =>
    rw [g] at P1
    obtain ⟨l0, l1⟩ := inB_of g
    obtain ⟨c0, c1⟩ := cosL_lat l0 l1
    have P2 := Lib.hid (fun W => cosineAtW_any lat W (by omega) (by omega))
    have HV := Lib.hid (show stretchV lat = if cosL lat = 0 then 0 else near 1000000000 (cosL lat) by simp [stretchV, g])
    have HT := Lib.hid (show codeT8 lat = if cosL lat = 0 then 6 else 0 by simp [codeT8, g])
    rw [HV.out, HT.out]
    clear HV HT
    generalize cosL lat = c at c0 c1 P2 ⊢
    by_cases hc : c = 0
    · subst hc
      go_enter Try.func39, Try.ntmps39
      go_wp2_with (first | (go_at_call 115; refine (P1.out _).mono ?_; rintro e w' ⟨rfl, rfl⟩) | (go_at_call 116; refine (P2.out _).mono ?_; rintro e w' ⟨rfl, rfl⟩))
      exact bodyPost_ret (v := .tuple #[.int .i64 0, .int .i64 6]) (by simp [results, Try.results39, go_sem]) rfl ⟨by simp, by repeat (first | assumption | exact Below.refl _ _ | refine Below.drew ?_ | refine bdQ ?_ _ | refine Below.setCell ?_ (by first | exact Nat.le_refl _ | omega | (simp; done) | (simp; omega)) _ | refine Below.alloc ?_ (by first | exact Nat.le_refl _ | omega | (simp; done) | (simp; omega)) _)⟩
    · rw [if_neg hc, if_neg hc]
      have hn : (c == 0) = false := by simpa using hc
      have RD := Lib.hid (fun W => nearest_any 1000000000 c W (by omega) (by omega) (by omega) (by omega))
      go_enter Try.func39, Try.ntmps39
      go_wp2_with (first | (go_at_call 115; refine (P1.out _).mono ?_; rintro e w' ⟨rfl, rfl⟩) | (go_at_call 116; refine (P2.out _).mono ?_; rintro e w' ⟨rfl, rfl⟩) | (go_at_call 117; refine (RD.out _).mono ?_; rintro e w' ⟨rfl, rfl⟩))
      exact bodyPost_ret (v := .tuple #[.int .i64 (near 1000000000 c), .int .i64 0]) (by simp [results, Try.results39, go_sem]) rfl ⟨rfl, by repeat (first | assumption | exact Below.refl _ _ | refine Below.drew ?_ | refine bdQ ?_ _ | refine Below.setCell ?_ (by first | exact Nat.le_refl _ | omega | (simp; done) | (simp; omega)) _ | refine Below.alloc ?_ (by first | exact Nat.le_refl _ | omega | (simp; done) | (simp; omega)) _)⟩
set_option maxRecDepth 100000 in
set_option maxHeartbeats 1000000 in
theorem placeOf_any (lat lon s : Int) (wave : Bool) (w : World) :
    Calls Try.prog 79 #[.agg #[.iface (projT wave) (.agg #[]), .int .i64 s], .agg #[.int .i64 lat, .int .i64 lon]] w fun e w' => e = .returned (.tuple #[.agg #[.int .i64 (if codeS8 lat lon s = 0 then drX lat lon s wave else 0), .int .i64 (if codeS8 lat lon s = 0 then near lat s else 0)], .int .i64 (codeS8 lat lon s)]) ∧ Below w.heap.size w w' := by
  have CD := Lib.hid (fun (T : TypeId) v W (hv : PAt W W.heap.size v [(lat, lon)]) => code_any T s true v [(lat, lon)] W hv (by simp))
  rw [codeP_one] at CD
  have DR := Lib.hid (fun (h : codeS8 lat lon s = 0) W => draw_any lat lon s wave W (codeS8_of h).1 (codeS8_of h).2.1 (codeS8_of h).2.2)
  generalize projT wave = T at DR ⊢
  have B0 := Lib.hid ((((Below.refl w.heap.size w).alloc (Nat.le_refl _) (.cells #[.iface T (.agg #[]), .int .i64 s] 98)).alloc (by simp) (.cells #[.int .i64 lat, .int .i64 lon] 25)).alloc (by simp; omega) (.cells #[.int .i64 0, .int .i64 0] 29))
  obtain ⟨z1, u1, u2, u3, u4, u5⟩ := cells222 w (.iface T (.agg #[])) (.int .i64 s) (.int .i64 lat) (.int .i64 lon) (.int .i64 0) (.int .i64 0) 98 25 29
  have Z1 := Lib.hid z1
  clear z1
  generalize near lat s = y at DR ⊢
  generalize drX lat lon s wave = x at DR ⊢
  obtain ⟨c, hc⟩ : ∃ c, codeS8 lat lon s = c := ⟨_, rfl⟩
  rw [hc] at CD DR ⊢
  by_cases h0 : c = 0
  · subst h0
    replace DR := Lib.hid (DR.out rfl)
    simp only [if_true]
    clear hc
    go_enter Try.func79, Try.ntmps79
    go_wp2_with fail
    generalize (((w.alloc (.cells #[.iface T (.agg #[]), .int .i64 s] 98)).alloc (.cells #[.int .i64 lat, .int .i64 lon] 25)).alloc (.cells #[.int .i64 0, .int .i64 0] 29)) = V0 at *
    have UP := Lib.hid (fun W (hW : Below V0.heap.size V0 W) => kept3 Z1.out u1 u2 u3 u4 u5 hW B0.out)
    have PV := pat_one (heap_alloc_new V0 (.cells #[.int .i64 lat, .int .i64 lon] 25))
    rw [show (⟨V0.heap.size, 0, none⟩ : Addr) = ⟨w.heap.size + 1 + 1 + 1, 0, none⟩ by rw [Z1.out]] at PV
    refine (CD.out _ _ _ PV).mono ?_
    rintro e w1 ⟨rfl, hb⟩
    have U1 := Lib.hid (((Below.refl V0.heap.size V0).alloc (Nat.le_refl _) (.cells #[.int .i64 lat, .int .i64 lon] 25)).trans (hb.mono (by simp)))
    obtain ⟨a1, a2, a3, a4, a5, a6⟩ := UP.out _ U1.out
    clear hb u1 u2 u3 u4 u5 PV
    go_wp2_with fail
    refine (DR.out _).mono ?_
    rintro e w2 ⟨rfl, hb⟩
    have U2 := Lib.hid (U1.out.trans (hb.mono U1.out.size))
    obtain ⟨b1, b2, b3, b4, b5, b6⟩ := UP.out _ U2.out
    obtain ⟨f1, f2, f3, f4⟩ := cel2_cells b5
    obtain ⟨q0, q1, q2⟩ := stored2 b5 (.int .i64 x) (.int .i64 y)
    clear hb a1 a2 a3 a4 a5 a6
    go_wp2
    exact bodyPost_ret (v := .tuple #[.agg #[.int .i64 x, .int .i64 y], .int .i64 0]) (by simp [results, Try.results79, go_sem, q0, q1, q2]) rfl ⟨rfl, by repeat (first | assumption | exact Below.refl _ _ | refine Below.drew ?_ | refine bdQ ?_ _ | refine Below.setCell ?_ (by first | exact Nat.le_refl _ | omega | (simp; done) | (simp; omega)) _ | refine Below.alloc ?_ (by first | exact Nat.le_refl _ | omega | (simp; done) | (simp; omega)) _)⟩
  · rw [if_neg h0, if_neg h0]
    have hn : (c == 0) = false := by simpa using h0
    go_enter Try.func79, Try.ntmps79
    go_wp2_with fail
    generalize (((w.alloc (.cells #[.iface T (.agg #[]), .int .i64 s] 98)).alloc (.cells #[.int .i64 lat, .int .i64 lon] 25)).alloc (.cells #[.int .i64 0, .int .i64 0] 29)) = V0 at *
    have UP := Lib.hid (fun W (hW : Below V0.heap.size V0 W) => kept3 Z1.out u1 u2 u3 u4 u5 hW B0.out)
    have PV := pat_one (heap_alloc_new V0 (.cells #[.int .i64 lat, .int .i64 lon] 25))
    rw [show (⟨V0.heap.size, 0, none⟩ : Addr) = ⟨w.heap.size + 1 + 1 + 1, 0, none⟩ by rw [Z1.out]] at PV
    refine (CD.out _ _ _ PV).mono ?_
    rintro e w1 ⟨rfl, hb⟩
    have U1 := Lib.hid (((Below.refl V0.heap.size V0).alloc (Nat.le_refl _) (.cells #[.int .i64 lat, .int .i64 lon] 25)).trans (hb.mono (by simp)))
    obtain ⟨a1, a2, a3, a4, a5, a6⟩ := UP.out _ U1.out
    obtain ⟨f1, f2, f3, f4⟩ := cel2_cells a5
    obtain ⟨q0, q1, q2⟩ := stored2 a5 (.int .i64 0) (.int .i64 0)
    clear hb u1 u2 u3 u4 u5 PV
    go_wp2
    exact bodyPost_ret (v := .tuple #[.agg #[.int .i64 0, .int .i64 0], .int .i64 c]) (by simp [results, Try.results79, go_sem, q0, q1, q2]) rfl ⟨rfl, by repeat (first | assumption | exact Below.refl _ _ | refine Below.drew ?_ | refine bdQ ?_ _ | refine Below.setCell ?_ (by first | exact Nat.le_refl _ | omega | (simp; done) | (simp; omega)) _ | refine Below.alloc ?_ (by first | exact Nat.le_refl _ | omega | (simp; done) | (simp; omega)) _)⟩
end Go.Proofs.Ytemhmejjmhbfdaa.sines
