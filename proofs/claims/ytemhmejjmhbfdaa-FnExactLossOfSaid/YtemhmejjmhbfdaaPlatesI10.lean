/- The program's losses, and whether a place is on a map: contracts. -/
import Derived.Test.YtemhmejjmhbfdaaPlatesI9
namespace Go.Proofs.Ytemhmejjmhbfdaa.sines
open Go.ChangeShapes Go.WideShapes Go.ChangeAt Go.RowKit Go.Proofs.Ytemhmejjmhbfdaa.spots Go.Proofs.Ytemhmejjmhbfdaa.pairs
set_option linter.unusedSimpArgs false
set_option linter.unusedVariables false

set_option maxRecDepth 100000 in
set_option maxHeartbeats 2000000 in
theorem implLossOf_any (lat lon s : Int) (wave : Bool) (w : World) :
    Calls Try.prog 36 #[.agg #[.int .i64 lat, .int .i64 lon], .int .i64 s, .bool wave] w fun e w' => e = .returned (.tuple #[.int .i64 (lossNV lat lon s wave), .int .i64 (lossEV lat lon s wave), .int .i64 (codeL8 lat lon s wave)]) ∧ Below w.heap.size w w' := by
  have MP := Lib.hid (fun W => mapOf_any s wave W)
  have CD := Lib.hid (fun (T : TypeId) v W (hv : PAt W W.heap.size v [(lat, lon)]) => code_any T s true v [(lat, lon)] W hv (by simp))
  rw [codeP_one] at CD
  have LO := Lib.hid (fun (h : codeS8 lat lon s = 0) W => loss_any lat lon s wave W (codeS8_of h).1 (codeS8_of h).2.1 (codeS8_of h).2.2)
  generalize projT wave = T at MP LO
  have B0 := Lib.hid ((Below.refl w.heap.size w).alloc (Nat.le_refl _) (.cells #[.int .i64 lat, .int .i64 lon] 25))
  have u0 := heap_alloc_new w (.cells #[.int .i64 lat, .int .i64 lon] 25)
  by_cases hc : codeS8 lat lon s = 0
  · replace LO := Lib.hid (LO.out hc)
    have E : codeL8 lat lon s wave = if lossOk lat lon s wave = true then 0 else 10 := by simp [codeL8, hc]
    rw [lossNV, lossEV, E]
    rw [hc] at CD
    clear E hc
    generalize lossOk lat lon s wave = b at LO ⊢
    generalize lossN lat s wave = x at LO ⊢
    generalize lossE lat lon s wave = y at LO ⊢
    rw [show (if (if b = true then (0 : Int) else 10) = 0 then x else 0) = (if b = true then x else 0) by cases b <;> simp, show (if (if b = true then (0 : Int) else 10) = 0 then y else 0) = (if b = true then y else 0) by cases b <;> simp]
    cases b
    rotate_left
    · simp only [if_true] at LO ⊢
      go_enter Try.func36, Try.ntmps36
      go_wp2_with fail
      refine (MP.out _).mono ?_
      rintro e w1 ⟨rfl, hb⟩
      have U0 := Lib.hid ((hb.block _ (lt_of u0)).trans u0)
      have U1 := Lib.hid (B0.out.trans (hb.mono B0.out.size))
      have BA := (Below.refl w1.heap.size w1).alloc (Nat.le_refl _) (.cells #[.iface T (.agg #[]), .int .i64 s] 98)
      have V0 := Lib.hid ((BA.block _ (lt_of U0.out)).trans U0.out)
      have M0 := Lib.hid (heap_alloc_new w1 (.cells #[.iface T (.agg #[]), .int .i64 s] 98))
      have V1 := Lib.hid (U1.out.trans (BA.mono U1.out.size))
      obtain ⟨c1, c2, _, _⟩ := cel2_cells V0.out
      obtain ⟨m1, m2, _, _⟩ := cel2_cells M0.out
      have MZ := Lib.hid (show (w1.alloc (.cells #[.iface T (.agg #[]), .int .i64 s] 98)).heap.size = w1.heap.size + 1 by simp)
      clear hb BA u0
      go_wp2_with fail
      generalize w1.alloc (.cells #[.iface T (.agg #[]), .int .i64 s] 98) = W1 at *
      have PV := pat_one (heap_alloc_new W1 (.cells #[.int .i64 lat, .int .i64 lon] 25))
      have BB := (Below.refl W1.heap.size W1).alloc (Nat.le_refl _) (.cells #[.int .i64 lat, .int .i64 lon] 25)
      rw [show (⟨W1.heap.size, 0, none⟩ : Addr) = ⟨w1.heap.size + 1, 0, none⟩ by rw [MZ.out]] at PV
      refine (CD.out _ _ _ PV).mono ?_
      rintro e w3 ⟨rfl, hb⟩
      have B3 := BB.trans (hb.mono BB.size)
      have V3 := Lib.hid (V1.out.trans (B3.mono V1.out.size))
      have c3 := Lib.hid ((B3.block _ (lt_of V0.out)).trans V0.out)
      have m3 := Lib.hid ((B3.block _ (lt_of M0.out)).trans M0.out)
      clear c1 c2 m1 m2 hb BB B3 PV
      obtain ⟨c1, c2, _, _⟩ := cel2_cells c3.out
      obtain ⟨m1, m2, _, _⟩ := cel2_cells m3.out
      go_wp2_with fail
      refine (LO.out _).mono ?_
      rintro e w4 ⟨rfl, hb⟩
      have HB := V3.out.trans (hb.mono V3.out.size)
      clear hb c1 c2 m1 m2
      go_wp2
      exact bodyPost_ret (v := .tuple #[.int .i64 x, .int .i64 y, .int .i64 0]) (by simp [results, Try.results36, go_sem]) rfl ⟨rfl, HB⟩
    · simp only [Bool.false_eq_true, if_false] at LO ⊢
      go_enter Try.func36, Try.ntmps36
      go_wp2_with fail
      refine (MP.out _).mono ?_
      rintro e w1 ⟨rfl, hb⟩
      have U0 := Lib.hid ((hb.block _ (lt_of u0)).trans u0)
      have U1 := Lib.hid (B0.out.trans (hb.mono B0.out.size))
      have BA := (Below.refl w1.heap.size w1).alloc (Nat.le_refl _) (.cells #[.iface T (.agg #[]), .int .i64 s] 98)
      have V0 := Lib.hid ((BA.block _ (lt_of U0.out)).trans U0.out)
      have M0 := Lib.hid (heap_alloc_new w1 (.cells #[.iface T (.agg #[]), .int .i64 s] 98))
      have V1 := Lib.hid (U1.out.trans (BA.mono U1.out.size))
      obtain ⟨c1, c2, _, _⟩ := cel2_cells V0.out
      obtain ⟨m1, m2, _, _⟩ := cel2_cells M0.out
      have MZ := Lib.hid (show (w1.alloc (.cells #[.iface T (.agg #[]), .int .i64 s] 98)).heap.size = w1.heap.size + 1 by simp)
      clear hb BA u0
      go_wp2_with fail
      generalize w1.alloc (.cells #[.iface T (.agg #[]), .int .i64 s] 98) = W1 at *
      have PV := pat_one (heap_alloc_new W1 (.cells #[.int .i64 lat, .int .i64 lon] 25))
      have BB := (Below.refl W1.heap.size W1).alloc (Nat.le_refl _) (.cells #[.int .i64 lat, .int .i64 lon] 25)
      rw [show (⟨W1.heap.size, 0, none⟩ : Addr) = ⟨w1.heap.size + 1, 0, none⟩ by rw [MZ.out]] at PV
      refine (CD.out _ _ _ PV).mono ?_
      rintro e w3 ⟨rfl, hb⟩
      have B3 := BB.trans (hb.mono BB.size)
      have V3 := Lib.hid (V1.out.trans (B3.mono V1.out.size))
      have c3 := Lib.hid ((B3.block _ (lt_of V0.out)).trans V0.out)
      have m3 := Lib.hid ((B3.block _ (lt_of M0.out)).trans M0.out)
      clear c1 c2 m1 m2 hb BB B3 PV
      obtain ⟨c1, c2, _, _⟩ := cel2_cells c3.out
      obtain ⟨m1, m2, _, _⟩ := cel2_cells m3.out
      go_wp2_with fail
      refine (LO.out _).mono ?_
      rintro e w4 ⟨rfl, hb⟩
      have HB := V3.out.trans (hb.mono V3.out.size)
      clear hb c1 c2 m1 m2
      go_wp2
      exact bodyPost_ret (v := .tuple #[.int .i64 0, .int .i64 0, .int .i64 10]) (by simp [results, Try.results36, go_sem]) rfl ⟨rfl, HB⟩
  · have E : codeL8 lat lon s wave = codeS8 lat lon s := by simp [codeL8, hc]
    rw [lossNV, lossEV, E, if_neg hc, if_neg hc]
    clear E LO
    generalize codeS8 lat lon s = c at CD hc ⊢
    have hn : (c == 0) = false := by simpa using hc
    go_enter Try.func36, Try.ntmps36
    go_wp2_with fail
    refine (MP.out _).mono ?_
    rintro e w1 ⟨rfl, hb⟩
    have U0 := Lib.hid ((hb.block _ (lt_of u0)).trans u0)
    have U1 := Lib.hid (B0.out.trans (hb.mono B0.out.size))
    have BA := (Below.refl w1.heap.size w1).alloc (Nat.le_refl _) (.cells #[.iface T (.agg #[]), .int .i64 s] 98)
    have V0 := Lib.hid ((BA.block _ (lt_of U0.out)).trans U0.out)
    have M0 := Lib.hid (heap_alloc_new w1 (.cells #[.iface T (.agg #[]), .int .i64 s] 98))
    have V1 := Lib.hid (U1.out.trans (BA.mono U1.out.size))
    obtain ⟨c1, c2, _, _⟩ := cel2_cells V0.out
    obtain ⟨m1, m2, _, _⟩ := cel2_cells M0.out
    have MZ := Lib.hid (show (w1.alloc (.cells #[.iface T (.agg #[]), .int .i64 s] 98)).heap.size = w1.heap.size + 1 by simp)
    clear hb BA u0
    go_wp2_with fail
    generalize w1.alloc (.cells #[.iface T (.agg #[]), .int .i64 s] 98) = W1 at *
    have PV := pat_one (heap_alloc_new W1 (.cells #[.int .i64 lat, .int .i64 lon] 25))
    have BB := (Below.refl W1.heap.size W1).alloc (Nat.le_refl _) (.cells #[.int .i64 lat, .int .i64 lon] 25)
    rw [show (⟨W1.heap.size, 0, none⟩ : Addr) = ⟨w1.heap.size + 1, 0, none⟩ by rw [MZ.out]] at PV
    refine (CD.out _ _ _ PV).mono ?_
    rintro e w3 ⟨rfl, hb⟩
    have B3 := BB.trans (hb.mono BB.size)
    have V3 := Lib.hid (V1.out.trans (B3.mono V1.out.size))
    have c3 := Lib.hid ((B3.block _ (lt_of V0.out)).trans V0.out)
    have m3 := Lib.hid ((B3.block _ (lt_of M0.out)).trans M0.out)
    clear c1 c2 m1 m2 hb BB B3 PV
    obtain ⟨c1, c2, _, _⟩ := cel2_cells c3.out
    obtain ⟨m1, m2, _, _⟩ := cel2_cells m3.out
    have HB := V3.out
    go_wp2
    exact bodyPost_ret (v := .tuple #[.int .i64 0, .int .i64 0, .int .i64 c]) (by simp [results, Try.results36, go_sem]) rfl ⟨rfl, HB⟩
theorem onKept {W1 W : World} {n m : Nat} {a b c d : Value} {T U : TypeId} (h1 : W1.heap[n]? = some (.cells #[a, b] T (0, 0))) (h2 : W1.heap[m]? = some (.cells #[c, d] U (0, 0))) (hb : Below W1.heap.size W1 W) :
    W.cell? ⟨m, 0, none⟩ = some c ∧ W.cell? ⟨m, 1, none⟩ = some d ∧ W.cell? ⟨n, 0, none⟩ = some a ∧ W.cell? ⟨n, 1, none⟩ = some b := by
  obtain ⟨a1, a2, _, _⟩ := cel2_cells ((hb.block _ (lt_of h1)).trans h1)
  obtain ⟨b1, b2, _, _⟩ := cel2_cells ((hb.block _ (lt_of h2)).trans h2)
  exact ⟨b1, b2, a1, a2⟩
set_option maxRecDepth 100000 in
set_option maxHeartbeats 2000000 in
theorem implOnMap_any (x y s : Int) (wave : Bool) (w : World) :
    Calls Try.prog 29 #[.agg #[.int .i64 x, .int .i64 y], .int .i64 s, .bool wave] w fun e w' => e = .returned (.tuple #[.bool (onV x y s wave), .int .i64 (codeF8 x y s)]) ∧ Below w.heap.size w w' := by
  have MP := Lib.hid (fun W => mapOf_any s wave W)
  have FL := Lib.hid (fun W => isFlat_any x y W)
  have CD := Lib.hid (fun (T : TypeId) W => code_any T s (inB x (-2000000) 2000000 && inB y (-2000000) 2000000) (.slice none 0 0) [] W (pat_none W) (by simp))
  rw [codeP_none] at CD
  have RD := Lib.hid (fun (h : codeF8 x y s = 0) W => read_any x y s wave W (codeF8_of h).2.2.1 (codeF8_of h).2.2.2.1 (codeF8_of h).2.2.2.2.1 (codeF8_of h).2.2.2.2.2 (codeF8_of h).1 (codeF8_of h).2.1)
  generalize projT wave = T at MP RD
  generalize (inB x (-2000000) 2000000 && inB y (-2000000) 2000000) = fb at FL CD
  have B0 := Lib.hid ((Below.refl w.heap.size w).alloc (Nat.le_refl _) (.cells #[.int .i64 x, .int .i64 y] 29))
  have u0 := heap_alloc_new w (.cells #[.int .i64 x, .int .i64 y] 29)
  by_cases hc : codeF8 x y s = 0
  · replace RD := Lib.hid (RD.out hc)
    have EO : onV x y s wave = rdOk x y s wave := by
      have h1 : onV x y s wave = decide (codeR x y s wave = 0) := by
        cases wave with
        | true => rw [codeR_wave]; simp [onV, hc]
        | false => rw [codeR_plate]; simp [onV, hc]
      rw [h1]
      unfold codeR
      rw [if_pos hc]
      cases rdOk x y s wave <;> simp
    rw [EO, hc]
    rw [hc] at CD
    clear EO hc
    generalize rdLat x y s wave = rl at RD
    generalize rdLon x y s wave = rn at RD
    generalize rdOk x y s wave = ok at RD ⊢
    go_enter Try.func29, Try.ntmps29
    go_wp2_with fail
    refine (MP.out _).mono ?_
    rintro e w1 ⟨rfl, hb⟩
    have U0 := Lib.hid ((hb.block _ (lt_of u0)).trans u0)
    have U1 := Lib.hid (B0.out.trans (hb.mono B0.out.size))
    have BA := (Below.refl w1.heap.size w1).alloc (Nat.le_refl _) (.cells #[.iface T (.agg #[]), .int .i64 s] 98)
    have V0 := Lib.hid ((BA.block _ (lt_of U0.out)).trans U0.out)
    have M0 := Lib.hid (heap_alloc_new w1 (.cells #[.iface T (.agg #[]), .int .i64 s] 98))
    have V1 := Lib.hid (U1.out.trans (BA.mono U1.out.size))
    obtain ⟨c1, c2, _, _⟩ := cel2_cells V0.out
    obtain ⟨m1, m2, _, _⟩ := cel2_cells M0.out
    have MZ := Lib.hid (show (w1.alloc (.cells #[.iface T (.agg #[]), .int .i64 s] 98)).heap.size = w1.heap.size + 1 by simp)
    clear hb BA u0
    go_wp2_with fail
    generalize w1.alloc (.cells #[.iface T (.agg #[]), .int .i64 s] 98) = W1 at *
    have FL2 := Lib.hid (fun W (hW : Below W1.heap.size W1 W) => (FL.out W).mono fun e w' h => (⟨h.1, hW.trans (h.2.mono hW.size)⟩ : e = .returned (.bool fb) ∧ Below W1.heap.size W1 w'))
    have CD2 := Lib.hid (fun W (hW : Below W1.heap.size W1 W) => (CD.out T W).mono fun e w' h => (⟨h.1, hW.trans (h.2.mono hW.size)⟩ : e = .returned (.int .i64 0) ∧ Below W1.heap.size W1 w'))
    have UP := Lib.hid (fun W (hW : Below W1.heap.size W1 W) => onKept V0.out M0.out hW)
    go_region_held3 (fun W => W.cell? ⟨w1.heap.size, 0, none⟩ = some (.iface T (.agg #[])) ∧ W.cell? ⟨w1.heap.size, 1, none⟩ = some (.int .i64 s) ∧ W.cell? ⟨w.heap.size, 0, none⟩ = some (.int .i64 x) ∧ W.cell? ⟨w.heap.size, 1, none⟩ = some (.int .i64 y)) (first | exact ⟨m1, m2, c1, c2⟩ | exact ⟨n1, n2, n3, n4⟩ | exact ⟨o1, o2, o3, o4⟩ | (simp [go_sem]; first | exact ⟨m1, m2, c1, c2⟩ | exact ⟨n1, n2, n3, n4⟩ | exact ⟨o1, o2, o3, o4⟩)) (first | (go_at_call 103; refine (FL2.out _ (by repeat (first | assumption | exact Below.refl _ _ | refine Below.drew ?_ | refine bdQ ?_ _ | refine Below.alloc ?_ (by first | exact Nat.le_refl _ | exact hv1.size | (simp; done) | (simp; omega)) _))).mono ?_; rintro e wa ⟨rfl, hv1⟩; obtain ⟨n1, n2, n3, n4⟩ := UP.out _ hv1) | (go_at_call 94; refine (CD2.out _ (by repeat (first | assumption | exact Below.refl _ _ | refine Below.drew ?_ | refine bdQ ?_ _ | refine Below.alloc ?_ (by first | exact Nat.le_refl _ | exact hv1.size | (simp; done) | (simp; omega)) _))).mono ?_; rintro e w2 ⟨rfl, hv2⟩; obtain ⟨o1, o2, o3, o4⟩ := UP.out _ hv2))
    all_goals
      have V3 := Lib.hid (V1.out.trans (hv2.mono V1.out.size))
      clear n1 n2 n3 n4 m1 m2 c1 c2 hv1 hv2 FL2 CD2 UP
      go_wp2_with fail
      refine (RD.out _).mono ?_
      rintro e w4 ⟨rfl, hb⟩
      have HB := V3.out.trans (hb.mono V3.out.size)
      clear hb o1 o2 o3 o4
      go_wp2
      exact bodyPost_ret (v := .tuple #[.bool ok, .int .i64 0]) (by simp [results, Try.results29, go_sem]) rfl ⟨rfl, HB.alloc HB.size _⟩
  · rw [show onV x y s wave = false by simp [onV, hc]]
    clear RD
    generalize codeF8 x y s = c at CD hc ⊢
    have hn : (c == 0) = false := by simpa using hc
    go_enter Try.func29, Try.ntmps29
    go_wp2_with fail
    refine (MP.out _).mono ?_
    rintro e w1 ⟨rfl, hb⟩
    have U0 := Lib.hid ((hb.block _ (lt_of u0)).trans u0)
    have U1 := Lib.hid (B0.out.trans (hb.mono B0.out.size))
    have BA := (Below.refl w1.heap.size w1).alloc (Nat.le_refl _) (.cells #[.iface T (.agg #[]), .int .i64 s] 98)
    have V0 := Lib.hid ((BA.block _ (lt_of U0.out)).trans U0.out)
    have M0 := Lib.hid (heap_alloc_new w1 (.cells #[.iface T (.agg #[]), .int .i64 s] 98))
    have V1 := Lib.hid (U1.out.trans (BA.mono U1.out.size))
    obtain ⟨c1, c2, _, _⟩ := cel2_cells V0.out
    obtain ⟨m1, m2, _, _⟩ := cel2_cells M0.out
    have MZ := Lib.hid (show (w1.alloc (.cells #[.iface T (.agg #[]), .int .i64 s] 98)).heap.size = w1.heap.size + 1 by simp)
    clear hb BA u0
    go_wp2_with fail
    generalize w1.alloc (.cells #[.iface T (.agg #[]), .int .i64 s] 98) = W1 at *
    have FL2 := Lib.hid (fun W (hW : Below W1.heap.size W1 W) => (FL.out W).mono fun e w' h => (⟨h.1, hW.trans (h.2.mono hW.size)⟩ : e = .returned (.bool fb) ∧ Below W1.heap.size W1 w'))
    have CD2 := Lib.hid (fun W (hW : Below W1.heap.size W1 W) => (CD.out T W).mono fun e w' h => (⟨h.1, hW.trans (h.2.mono hW.size)⟩ : e = .returned (.int .i64 c) ∧ Below W1.heap.size W1 w'))
    have UP := Lib.hid (fun W (hW : Below W1.heap.size W1 W) => onKept V0.out M0.out hW)
    go_region_held3 (fun W => W.cell? ⟨w1.heap.size, 0, none⟩ = some (.iface T (.agg #[])) ∧ W.cell? ⟨w1.heap.size, 1, none⟩ = some (.int .i64 s) ∧ W.cell? ⟨w.heap.size, 0, none⟩ = some (.int .i64 x) ∧ W.cell? ⟨w.heap.size, 1, none⟩ = some (.int .i64 y)) (first | exact ⟨m1, m2, c1, c2⟩ | exact ⟨n1, n2, n3, n4⟩ | exact ⟨o1, o2, o3, o4⟩ | (simp [go_sem]; first | exact ⟨m1, m2, c1, c2⟩ | exact ⟨n1, n2, n3, n4⟩ | exact ⟨o1, o2, o3, o4⟩)) (first | (go_at_call 103; refine (FL2.out _ (by repeat (first | assumption | exact Below.refl _ _ | refine Below.drew ?_ | refine bdQ ?_ _ | refine Below.alloc ?_ (by first | exact Nat.le_refl _ | exact hv1.size | (simp; done) | (simp; omega)) _))).mono ?_; rintro e wa ⟨rfl, hv1⟩; obtain ⟨n1, n2, n3, n4⟩ := UP.out _ hv1) | (go_at_call 94; refine (CD2.out _ (by repeat (first | assumption | exact Below.refl _ _ | refine Below.drew ?_ | refine bdQ ?_ _ | refine Below.alloc ?_ (by first | exact Nat.le_refl _ | exact hv1.size | (simp; done) | (simp; omega)) _))).mono ?_; rintro e w2 ⟨rfl, hv2⟩; obtain ⟨o1, o2, o3, o4⟩ := UP.out _ hv2))
    all_goals
      have V3 := Lib.hid (V1.out.trans (hv2.mono V1.out.size))
      clear n1 n2 n3 n4 m1 m2 c1 c2 hv1 hv2 FL2 CD2 UP
      have HB := V3.out
      go_wp2
      exact bodyPost_ret (v := .tuple #[.bool false, .int .i64 c]) (by simp [results, Try.results29, go_sem]) rfl ⟨rfl, by repeat (first | assumption | exact Below.refl _ _ | refine Below.drew ?_ | refine bdQ ?_ _ | refine Below.setCell ?_ (by first | exact Nat.le_refl _ | omega | (simp; done) | (simp; omega)) _ | refine Below.alloc ?_ (by first | exact Nat.le_refl _ | omega | (simp; done) | (simp; omega)) _)⟩
end Go.Proofs.Ytemhmejjmhbfdaa.sines
