/- The program's way back from its maps, and what is lost: contracts. -/
import Derived.Test.YtemhmejjmhbfdaaPlatesI6
namespace Go.Proofs.Ytemhmejjmhbfdaa.sines
open Go.ChangeShapes Go.WideShapes Go.ChangeAt Go.RowKit Go.Proofs.Ytemhmejjmhbfdaa.spots Go.Proofs.Ytemhmejjmhbfdaa.pairs
set_option linter.unusedSimpArgs false
set_option linter.unusedVariables false


/-- The code of a place that is read. -/
def codeR (x y s : Int) (wave : Bool) : Int := if codeF8 x y s = 0 then (if rdOk x y s wave = true then 0 else 3) else codeF8 x y s
theorem codeR_plate (x y s : Int) : codeR x y s false = codeB8 x y s := rfl
theorem codeR_wave {x y s : Int} : codeR x y s true = codeW8 x y s := by
  unfold codeR codeW8
  by_cases hc : codeF8 x y s = 0
  · rw [if_pos hc, if_pos hc]
    obtain ⟨s0, _⟩ := codeF8_of hc
    have e1 : rdOk x y s true = wbOk x y s := rfl
    rw [e1]
    cases hw : wbOk x y s with
    | true => rw [wave_in s0 hw]; rfl
    | false => simp
  · rw [if_neg hc, if_neg hc]
set_option maxRecDepth 100000 in
set_option maxHeartbeats 2000000 in
theorem placeBack_any (x y s : Int) (wave : Bool) (w : World) :
    Calls Try.prog 84 #[.agg #[.iface (projT wave) (.agg #[]), .int .i64 s], .agg #[.int .i64 x, .int .i64 y]] w fun e w' => e = .returned (.tuple #[.agg #[.int .i64 (if codeR x y s wave = 0 then rdLat x y s wave else 0), .int .i64 (if codeR x y s wave = 0 then rdLon x y s wave else 0)], .int .i64 (codeR x y s wave)]) ∧ Below w.heap.size w w' := by
  have FL := Lib.hid (fun W => isFlat_any x y W)
  have CD := Lib.hid (fun (T : TypeId) W => code_any T s (inB x (-2000000) 2000000 && inB y (-2000000) 2000000) (.slice none 0 0) [] W (pat_none W) (by simp))
  rw [codeP_none] at CD
  have RD := Lib.hid (fun (h : codeF8 x y s = 0) W => read_any x y s wave W (codeF8_of h).2.2.1 (codeF8_of h).2.2.2.1 (codeF8_of h).2.2.2.2.1 (codeF8_of h).2.2.2.2.2 (codeF8_of h).1 (codeF8_of h).2.1)
  generalize projT wave = T at RD ⊢
  have HC := Lib.hid (show codeR x y s wave = if codeF8 x y s = 0 then (if rdOk x y s wave = true then 0 else 3) else codeF8 x y s from rfl)
  have HL := Lib.hid (show rdOk x y s wave = false → rdLat x y s wave = 0 ∧ rdLon x y s wave = 0 from fun h => by simp [rdLat, rdLon, h])
  generalize codeR x y s wave = cc at HC ⊢
  generalize rdLat x y s wave = rl at RD HL ⊢
  generalize rdLon x y s wave = rn at RD HL ⊢
  generalize rdOk x y s wave = ok at RD HC HL
  generalize (inB x (-2000000) 2000000 && inB y (-2000000) 2000000) = fb at FL CD
  have B0 := Lib.hid ((((Below.refl w.heap.size w).alloc (Nat.le_refl _) (.cells #[.iface T (.agg #[]), .int .i64 s] 98)).alloc (by simp) (.cells #[.int .i64 x, .int .i64 y] 29)).alloc (by simp; omega) (.cells #[.int .i64 0, .int .i64 0] 25))
  obtain ⟨z1, u1, u2, u3, u4, u5⟩ := cells222 w (.iface T (.agg #[])) (.int .i64 s) (.int .i64 x) (.int .i64 y) (.int .i64 0) (.int .i64 0) 98 29 25
  have Z1 := Lib.hid z1
  clear z1
  obtain ⟨c, hc⟩ : ∃ c, codeF8 x y s = c := ⟨_, rfl⟩
  rw [hc] at CD RD HC
  have HC' := HC.out
  by_cases h0 : c = 0
  · subst h0
    replace RD := Lib.hid (RD.out rfl)
    clear hc HC
    rw [if_pos rfl] at HC'
    cases ok
    rotate_left
    · have HC2 : cc = 0 := by rw [HC']; rfl
      rw [HC2, if_pos rfl, if_pos rfl]
      clear HC' HC2 HL
      go_enter Try.func84, Try.ntmps84
      go_wp2_with fail
      generalize (((w.alloc (.cells #[.iface T (.agg #[]), .int .i64 s] 98)).alloc (.cells #[.int .i64 x, .int .i64 y] 29)).alloc (.cells #[.int .i64 0, .int .i64 0] 25)) = V0 at *
      have UP := Lib.hid (fun W (hW : Below V0.heap.size V0 W) => kept3 Z1.out u1 u2 u3 u4 u5 hW B0.out)
      have FL2 := Lib.hid (fun W (hW : Below V0.heap.size V0 W) => (FL.out W).mono fun e w' h => (⟨h.1, hW.trans (h.2.mono hW.size)⟩ : e = .returned (.bool fb) ∧ Below V0.heap.size V0 w'))
      have CD2 := Lib.hid (fun W (hW : Below V0.heap.size V0 W) => (CD.out T W).mono fun e w' h => (⟨h.1, hW.trans (h.2.mono hW.size)⟩ : e = .returned (.int .i64 0) ∧ Below V0.heap.size V0 w'))
      go_region_held3 (fun W => W.cell? ⟨w.heap.size, 0, none⟩ = some (.iface T (.agg #[])) ∧ W.cell? ⟨w.heap.size, 1, none⟩ = some (.int .i64 s) ∧ W.cell? ⟨w.heap.size + 1, 0, none⟩ = some (.int .i64 x) ∧ W.cell? ⟨w.heap.size + 1, 1, none⟩ = some (.int .i64 y)) (first | exact ⟨u1, u2, u3, u4⟩ | exact ⟨n1, n2, n3, n4⟩ | exact ⟨o1, o2, o3, o4⟩ | (simp [go_sem]; first | exact ⟨u1, u2, u3, u4⟩ | exact ⟨n1, n2, n3, n4⟩ | exact ⟨o1, o2, o3, o4⟩)) (first | (go_at_call 103; refine (FL2.out _ (by repeat (first | assumption | exact Below.refl _ _ | refine Below.drew ?_ | refine bdQ ?_ _ | refine Below.alloc ?_ (by first | exact Nat.le_refl _ | exact hv1.size | (simp; done) | (simp; omega)) _))).mono ?_; rintro e w1 ⟨rfl, hv1⟩; obtain ⟨n1, n2, n3, n4, n5, n6⟩ := UP.out _ hv1) | (go_at_call 94; refine (CD2.out _ (by repeat (first | assumption | exact Below.refl _ _ | refine Below.drew ?_ | refine bdQ ?_ _ | refine Below.alloc ?_ (by first | exact Nat.le_refl _ | exact hv1.size | (simp; done) | (simp; omega)) _))).mono ?_; rintro e w2 ⟨rfl, hv2⟩; obtain ⟨o1, o2, o3, o4, o5, o6⟩ := UP.out _ hv2; obtain ⟨f1, f2, f3, f4⟩ := cel2_cells o5))
      all_goals
        have U2 := Lib.hid hv2
        clear n1 n2 n3 n4 n5 n6 u1 u2 u3 u4 u5 hv1 hv2 FL FL2 CD CD2
        go_wp2_with fail
        refine (RD.out _).mono ?_
        rintro e w3 ⟨rfl, hb⟩
        have U3 := Lib.hid (U2.out.trans (hb.mono U2.out.size))
        obtain ⟨b1, b2, b3, b4, b5, b6⟩ := UP.out _ U3.out
        clear hb o1 o2 o3 o4 o5 o6 f1 f2 f3 f4
        have BA := (Below.refl w3.heap.size w3).alloc (Nat.le_refl _) (.cells #[.int .i64 rl, .int .i64 rn] 25)
        have B7 := (BA.block _ (lt_of b5)).trans b5
        have P7 := heap_alloc_new w3 (.cells #[.int .i64 rl, .int .i64 rn] 25)
        have HB7 := Lib.hid (b6.trans (BA.mono b6.size))
        obtain ⟨f1, f2, f3, f4⟩ := cel2_cells B7
        obtain ⟨g1, g2, g3, g4⟩ := cel2_cells P7
        clear b1 b2 b3 b4 b5 b6 BA
        obtain ⟨q0, q1, q2⟩ := stored2 B7 (.int .i64 rl) (.int .i64 rn)
        clear B7 P7
        go_wp2
        have HB := HB7.out
        exact bodyPost_ret (v := .tuple #[.agg #[.int .i64 rl, .int .i64 rn], .int .i64 0]) (by simp [results, Try.results84, go_sem, q0, q1, q2]) rfl ⟨rfl, by repeat (first | assumption | exact Below.refl _ _ | refine Below.drew ?_ | refine bdQ ?_ _ | refine Below.setCell ?_ (by first | exact Nat.le_refl _ | omega | (simp; done) | (simp; omega)) _ | refine Below.alloc ?_ (by first | exact Nat.le_refl _ | omega | (simp; done) | (simp; omega)) _)⟩
    · have HC2 : cc = 3 := by rw [HC']; rfl
      rw [HC2, if_neg (by decide), if_neg (by decide)]
      clear HC' HC2 HL
      go_enter Try.func84, Try.ntmps84
      go_wp2_with fail
      generalize (((w.alloc (.cells #[.iface T (.agg #[]), .int .i64 s] 98)).alloc (.cells #[.int .i64 x, .int .i64 y] 29)).alloc (.cells #[.int .i64 0, .int .i64 0] 25)) = V0 at *
      have UP := Lib.hid (fun W (hW : Below V0.heap.size V0 W) => kept3 Z1.out u1 u2 u3 u4 u5 hW B0.out)
      have FL2 := Lib.hid (fun W (hW : Below V0.heap.size V0 W) => (FL.out W).mono fun e w' h => (⟨h.1, hW.trans (h.2.mono hW.size)⟩ : e = .returned (.bool fb) ∧ Below V0.heap.size V0 w'))
      have CD2 := Lib.hid (fun W (hW : Below V0.heap.size V0 W) => (CD.out T W).mono fun e w' h => (⟨h.1, hW.trans (h.2.mono hW.size)⟩ : e = .returned (.int .i64 0) ∧ Below V0.heap.size V0 w'))
      go_region_held3 (fun W => W.cell? ⟨w.heap.size, 0, none⟩ = some (.iface T (.agg #[])) ∧ W.cell? ⟨w.heap.size, 1, none⟩ = some (.int .i64 s) ∧ W.cell? ⟨w.heap.size + 1, 0, none⟩ = some (.int .i64 x) ∧ W.cell? ⟨w.heap.size + 1, 1, none⟩ = some (.int .i64 y)) (first | exact ⟨u1, u2, u3, u4⟩ | exact ⟨n1, n2, n3, n4⟩ | exact ⟨o1, o2, o3, o4⟩ | (simp [go_sem]; first | exact ⟨u1, u2, u3, u4⟩ | exact ⟨n1, n2, n3, n4⟩ | exact ⟨o1, o2, o3, o4⟩)) (first | (go_at_call 103; refine (FL2.out _ (by repeat (first | assumption | exact Below.refl _ _ | refine Below.drew ?_ | refine bdQ ?_ _ | refine Below.alloc ?_ (by first | exact Nat.le_refl _ | exact hv1.size | (simp; done) | (simp; omega)) _))).mono ?_; rintro e w1 ⟨rfl, hv1⟩; obtain ⟨n1, n2, n3, n4, n5, n6⟩ := UP.out _ hv1) | (go_at_call 94; refine (CD2.out _ (by repeat (first | assumption | exact Below.refl _ _ | refine Below.drew ?_ | refine bdQ ?_ _ | refine Below.alloc ?_ (by first | exact Nat.le_refl _ | exact hv1.size | (simp; done) | (simp; omega)) _))).mono ?_; rintro e w2 ⟨rfl, hv2⟩; obtain ⟨o1, o2, o3, o4, o5, o6⟩ := UP.out _ hv2; obtain ⟨f1, f2, f3, f4⟩ := cel2_cells o5))
      all_goals
        have U2 := Lib.hid hv2
        clear n1 n2 n3 n4 n5 n6 u1 u2 u3 u4 u5 hv1 hv2 FL FL2 CD CD2
        go_wp2_with fail
        refine (RD.out _).mono ?_
        rintro e w3 ⟨rfl, hb⟩
        have U3 := Lib.hid (U2.out.trans (hb.mono U2.out.size))
        obtain ⟨b1, b2, b3, b4, b5, b6⟩ := UP.out _ U3.out
        clear hb o1 o2 o3 o4 o5 o6 f1 f2 f3 f4
        have BA := (Below.refl w3.heap.size w3).alloc (Nat.le_refl _) (.cells #[.int .i64 rl, .int .i64 rn] 25)
        have B7 := (BA.block _ (lt_of b5)).trans b5
        have P7 := heap_alloc_new w3 (.cells #[.int .i64 rl, .int .i64 rn] 25)
        have HB7 := Lib.hid (b6.trans (BA.mono b6.size))
        obtain ⟨f1, f2, f3, f4⟩ := cel2_cells B7
        obtain ⟨g1, g2, g3, g4⟩ := cel2_cells P7
        clear b1 b2 b3 b4 b5 b6 BA
        obtain ⟨q0, q1, q2⟩ := stored2 B7 (.int .i64 0) (.int .i64 0)
        clear B7 P7
        go_wp2
        have HB := HB7.out
        exact bodyPost_ret (v := .tuple #[.agg #[.int .i64 0, .int .i64 0], .int .i64 3]) (by simp [results, Try.results84, go_sem, q0, q1, q2]) rfl ⟨rfl, by repeat (first | assumption | exact Below.refl _ _ | refine Below.drew ?_ | refine bdQ ?_ _ | refine Below.setCell ?_ (by first | exact Nat.le_refl _ | omega | (simp; done) | (simp; omega)) _ | refine Below.alloc ?_ (by first | exact Nat.le_refl _ | omega | (simp; done) | (simp; omega)) _)⟩
  · rw [if_neg h0] at HC'
    rw [HC', if_neg h0, if_neg h0]
    have hn : (c == 0) = false := by simpa using h0
    clear HC HC' HL
    go_enter Try.func84, Try.ntmps84
    go_wp2_with fail
    generalize (((w.alloc (.cells #[.iface T (.agg #[]), .int .i64 s] 98)).alloc (.cells #[.int .i64 x, .int .i64 y] 29)).alloc (.cells #[.int .i64 0, .int .i64 0] 25)) = V0 at *
    have UP := Lib.hid (fun W (hW : Below V0.heap.size V0 W) => kept3 Z1.out u1 u2 u3 u4 u5 hW B0.out)
    have FL2 := Lib.hid (fun W (hW : Below V0.heap.size V0 W) => (FL.out W).mono fun e w' h => (⟨h.1, hW.trans (h.2.mono hW.size)⟩ : e = .returned (.bool fb) ∧ Below V0.heap.size V0 w'))
    have CD2 := Lib.hid (fun W (hW : Below V0.heap.size V0 W) => (CD.out T W).mono fun e w' h => (⟨h.1, hW.trans (h.2.mono hW.size)⟩ : e = .returned (.int .i64 c) ∧ Below V0.heap.size V0 w'))
    go_region_held3 (fun W => W.cell? ⟨w.heap.size, 0, none⟩ = some (.iface T (.agg #[])) ∧ W.cell? ⟨w.heap.size, 1, none⟩ = some (.int .i64 s) ∧ W.cell? ⟨w.heap.size + 1, 0, none⟩ = some (.int .i64 x) ∧ W.cell? ⟨w.heap.size + 1, 1, none⟩ = some (.int .i64 y)) (first | exact ⟨u1, u2, u3, u4⟩ | exact ⟨n1, n2, n3, n4⟩ | exact ⟨o1, o2, o3, o4⟩ | (simp [go_sem]; first | exact ⟨u1, u2, u3, u4⟩ | exact ⟨n1, n2, n3, n4⟩ | exact ⟨o1, o2, o3, o4⟩)) (first | (go_at_call 103; refine (FL2.out _ (by repeat (first | assumption | exact Below.refl _ _ | refine Below.drew ?_ | refine bdQ ?_ _ | refine Below.alloc ?_ (by first | exact Nat.le_refl _ | exact hv1.size | (simp; done) | (simp; omega)) _))).mono ?_; rintro e w1 ⟨rfl, hv1⟩; obtain ⟨n1, n2, n3, n4, n5, n6⟩ := UP.out _ hv1) | (go_at_call 94; refine (CD2.out _ (by repeat (first | assumption | exact Below.refl _ _ | refine Below.drew ?_ | refine bdQ ?_ _ | refine Below.alloc ?_ (by first | exact Nat.le_refl _ | exact hv1.size | (simp; done) | (simp; omega)) _))).mono ?_; rintro e w2 ⟨rfl, hv2⟩; obtain ⟨o1, o2, o3, o4, o5, o6⟩ := UP.out _ hv2; obtain ⟨f1, f2, f3, f4⟩ := cel2_cells o5))
    all_goals
      have U2 := Lib.hid hv2
      have HB7 := Lib.hid o6
      obtain ⟨q0, q1, q2⟩ := stored2 o5 (.int .i64 0) (.int .i64 0)
      clear n1 n2 n3 n4 n5 n6 u1 u2 u3 u4 u5 hv1 hv2 FL FL2 CD CD2 o5 o6
      go_wp2
      have HB := HB7.out
      exact bodyPost_ret (v := .tuple #[.agg #[.int .i64 0, .int .i64 0], .int .i64 c]) (by simp [results, Try.results84, go_sem, q0, q1, q2]) rfl ⟨rfl, by repeat (first | assumption | exact Below.refl _ _ | refine Below.drew ?_ | refine bdQ ?_ _ | refine Below.setCell ?_ (by first | exact Nat.le_refl _ | omega | (simp; done) | (simp; omega)) _ | refine Below.alloc ?_ (by first | exact Nat.le_refl _ | omega | (simp; done) | (simp; omega)) _)⟩
end Go.Proofs.Ytemhmejjmhbfdaa.sines
