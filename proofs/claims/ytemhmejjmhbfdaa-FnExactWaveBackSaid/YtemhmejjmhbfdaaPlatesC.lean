/- The model's ways back from maps, and whether a place is on one: contracts. -/
import Derived.Test.YtemhmejjmhbfdaaPlatesB
namespace Go.Proofs.Ytemhmejjmhbfdaa.sines
open Go.ChangeShapes Go.WideShapes Go.ChangeAt Go.RowKit Go.Proofs.Ytemhmejjmhbfdaa.spots
set_option linter.unusedSimpArgs false
set_option linter.unusedVariables false

set_option maxRecDepth 100000 in
set_option maxHeartbeats 2000000 in
theorem specWaveBack_any (x y s : Int) (w : World) :
    Calls Try.prog 24 #[.agg #[.int .i64 x, .int .i64 y], .int .i64 s] w fun e w' => e = .returned (.tuple #[.agg #[.int .i64 (if codeW8 x y s = 0 then wbLat y s else 0), .int .i64 (if codeW8 x y s = 0 then wbLon x y s else 0)], .int .i64 (codeW8 x y s)]) ∧ Below w.heap.size w w' := by
  have CD := Lib.hid (fun W => l08Flat_any x y s W)
  by_cases hc : codeF8 x y s = 0
  · obtain ⟨s0, s1, x0, x1, y0, y1⟩ := codeF8_of hc
    have WB := Lib.hid (fun W => l08WaveBack_any x y s W x0 x1 y0 y1 s0 s1)
    have m1 := mul_range x0 x1 (by omega : 0 ≤ s) s1 (by omega)
    have k1' : ∃ u, x * s = u ∧ IntKind.i64.wrap (x * s) = u := ⟨_, rfl, IntWalk.i64_in _ (by omega)⟩
    rw [show codeW8 x y s = if (inB (x * s) (-1296000) 1296000 && wbOk x y s) = true then 0 else 3 by simp [codeW8, hc]]
    rw [hc] at CD
    clear hc s0 s1 x0 x1 y0 y1 m1
    obtain ⟨u, eu, k1⟩ := k1'
    rw [eu]
    have P1 := Lib.hid (fun W => l00In_any u (-1296000) 1296000 W)
    generalize wbOk x y s = b at WB ⊢
    generalize wbLat y s = a at WB ⊢
    generalize wbLon x y s = o at WB ⊢
    cases g : inB u (-1296000) 1296000 with
    | false =>
      rw [g] at P1
      rw [show (if (if (false && b) = true then (0 : Int) else 3) = 0 then a else 0) = 0 by simp, show (if (if (false && b) = true then (0 : Int) else 3) = 0 then o else 0) = 0 by simp, show (if (false && b) = true then (0 : Int) else 3) = 3 by simp]
      clear g eu
      go_enter Try.func24, Try.ntmps24
      go_wp2_with fail
      refine (CD.out _).mono ?_
      rintro e w1 ⟨rfl, hb⟩
      obtain ⟨a1, a2, a3, a4, a5, a6, a7, a8⟩ := boxes2 hb
      obtain ⟨q0, q1, q2⟩ := stored2 a8 (.int .i64 0) (.int .i64 0)
      clear hb
      go_wp2_with fail
      refine (P1.out _).mono ?_
      rintro e w' ⟨rfl, rfl⟩
      go_wp2
      exact bodyPost_ret (v := .tuple #[.agg #[.int .i64 0, .int .i64 0], .int .i64 3]) (by simp [results, Try.results24, go_sem, q0, q1, q2]) rfl ⟨rfl, by repeat (first | assumption | exact Below.refl _ _ | refine Below.drew ?_ | refine bdQ ?_ _ | refine Below.setCell ?_ (by first | exact Nat.le_refl _ | (simp; done) | (simp; omega)) _ | refine Below.alloc ?_ (by first | exact Nat.le_refl _ | (simp; done) | (simp; omega)) _)⟩
    | true =>
      rw [g] at P1
      rw [show (if (if (true && b) = true then (0 : Int) else 3) = 0 then a else 0) = (if b = true then a else 0) by cases b <;> simp, show (if (if (true && b) = true then (0 : Int) else 3) = 0 then o else 0) = (if b = true then o else 0) by cases b <;> simp, show (if (true && b) = true then (0 : Int) else 3) = (if b = true then 0 else 3) by cases b <;> simp]
      clear g eu
      go_enter Try.func24, Try.ntmps24
      go_wp2_with fail
      refine (CD.out _).mono ?_
      rintro e w1 ⟨rfl, hb⟩
      obtain ⟨a1, a2, a3, a4, a5, a6, a7, a8⟩ := boxes2 hb
      have B2 := Lib.hid (fun w2 (h : Below w1.heap.size w1 w2) => boxes2 (hb.trans (h.mono hb.size)))
      clear hb
      go_wp2_with fail
      refine (P1.out _).mono ?_
      rintro e w' ⟨rfl, rfl⟩
      go_wp2_with fail
      refine (WB.out _).mono ?_
      rintro e w2 ⟨rfl, hb⟩
      obtain ⟨b1, b2, b3, b4, b5, b6, b7, b8⟩ := B2.out _ hb
      obtain ⟨c1, c2, c3, c4, c5, c6, c7, c8⟩ := B2.out _ (hb.alloc hb.size (.cells #[.int .i64 a, .int .i64 o] 25))
      have g1 : (w2.alloc (.cells #[.int .i64 a, .int .i64 o] 25)).heap[w2.heap.size]? = some (.cells #[.int .i64 a, .int .i64 o] 25 (0, 0)) := heap_alloc_new _ _
      have p1 : (w2.alloc (.cells #[.int .i64 a, .int .i64 o] 25)).cell? ⟨w2.heap.size, 0, none⟩ = some (.int .i64 a) := by simp
      have p2 : (w2.alloc (.cells #[.int .i64 a, .int .i64 o] 25)).cell? ⟨w2.heap.size, 1, none⟩ = some (.int .i64 o) := by simp
      clear hb a1 a2 a3 a4 a5 a6 a7 a8 g1
      cases b with
      | true =>
        obtain ⟨q0, q1, q2⟩ := stored2 c8 (.int .i64 a) (.int .i64 o)
        go_wp2
        exact bodyPost_ret (v := .tuple #[.agg #[.int .i64 a, .int .i64 o], .int .i64 0]) (by simp [results, Try.results24, go_sem, q0, q1, q2]) rfl ⟨by simp, by repeat (first | assumption | exact Below.refl _ _ | refine Below.drew ?_ | refine bdQ ?_ _ | refine Below.setCell ?_ (by first | exact Nat.le_refl _ | (simp; done) | (simp; omega)) _ | refine Below.alloc ?_ (by first | exact Nat.le_refl _ | (simp; done) | (simp; omega)) _)⟩
      | false =>
        obtain ⟨q0, q1, q2⟩ := stored2 c8 (.int .i64 0) (.int .i64 0)
        go_wp2
        exact bodyPost_ret (v := .tuple #[.agg #[.int .i64 0, .int .i64 0], .int .i64 3]) (by simp [results, Try.results24, go_sem, q0, q1, q2]) rfl ⟨rfl, by repeat (first | assumption | exact Below.refl _ _ | refine Below.drew ?_ | refine bdQ ?_ _ | refine Below.setCell ?_ (by first | exact Nat.le_refl _ | (simp; done) | (simp; omega)) _ | refine Below.alloc ?_ (by first | exact Nat.le_refl _ | (simp; done) | (simp; omega)) _)⟩
  · have hb0 : codeW8 x y s = codeF8 x y s := by simp [codeW8, hc]
    rw [hb0, if_neg hc, if_neg hc]
    generalize codeF8 x y s = c at CD hc ⊢
    have hn : (c == 0) = false := by simpa using hc
    clear hb0
    go_enter Try.func24, Try.ntmps24
    go_wp2_with fail
    refine (CD.out _).mono ?_
    rintro e w1 ⟨rfl, hb⟩
    obtain ⟨a1, a2, a3, a4, a5, a6, a7, a8⟩ := boxes2 hb
    obtain ⟨q0, q1, q2⟩ := stored2 a8 (.int .i64 0) (.int .i64 0)
    clear hb
    go_wp2
    exact bodyPost_ret (v := .tuple #[.agg #[.int .i64 0, .int .i64 0], .int .i64 c]) (by simp [results, Try.results24, go_sem, q0, q1, q2]) rfl ⟨rfl, by repeat (first | assumption | exact Below.refl _ _ | refine Below.drew ?_ | refine bdQ ?_ _ | refine Below.setCell ?_ (by first | exact Nat.le_refl _ | (simp; done) | (simp; omega)) _ | refine Below.alloc ?_ (by first | exact Nat.le_refl _ | (simp; done) | (simp; omega)) _)⟩
/-- One box: what lies in it behind a call. -/
theorem box1 {w w1 : World} {a b : Value} {T : TypeId} (hb : Below (w.alloc (.cells #[a, b] T)).heap.size (w.alloc (.cells #[a, b] T)) w1) :
    w1.cell? ⟨w.heap.size, 0, none⟩ = some a ∧ w1.cell? ⟨w.heap.size, 1, none⟩ = some b ∧ Below w.heap.size w w1 := by
  have h1 : w.heap.size < (w.alloc (.cells #[a, b] T)).heap.size := by simp
  have k1 : w1.heap[w.heap.size]? = some (.cells #[a, b] T (0, 0)) := by rw [hb.block _ h1]; exact heap_alloc_new _ _
  exact ⟨by simp [World.cell?, k1], by simp [World.cell?, k1], ((Below.refl _ _).alloc (Nat.le_refl _) _).trans (hb.mono (by simp))⟩
theorem retOn {a b : Bool} {c d : Int} (h : a = b) (g : c = d) : Ending.returned (.tuple #[.bool a, .int .i64 c]) = .returned (.tuple #[.bool b, .int .i64 d]) := by rw [h, g]
set_option maxRecDepth 100000 in
set_option maxHeartbeats 2000000 in
theorem specOnMap_any (x y s : Int) (wave : Bool) (w : World) :
    Calls Try.prog 30 #[.agg #[.int .i64 x, .int .i64 y], .int .i64 s, .bool wave] w fun e w' => e = .returned (.tuple #[.bool (onV x y s wave), .int .i64 (codeF8 x y s)]) ∧ Below w.heap.size w w' := by
  have CD := Lib.hid (fun W => l08Flat_any x y s W)
  by_cases hc : codeF8 x y s = 0
  · rw [show onV x y s wave = decide ((if wave = true then codeW8 x y s else codeB8 x y s) = 0) by simp [onV, hc], hc]
    rw [hc] at CD
    clear hc
    cases wave with
    | true =>
      have WB := Lib.hid (fun W => specWaveBack_any x y s W)
      simp only [if_true]
      generalize codeW8 x y s = c at WB ⊢
      have hd := Lib.hid (show (c == 0) = decide (c = 0) from rfl)
      generalize (if c = 0 then wbLat y s else 0) = a at WB
      generalize (if c = 0 then wbLon x y s else 0) = o at WB
      go_enter Try.func30, Try.ntmps30
      go_wp2_with fail
      refine (CD.out _).mono ?_
      rintro e w1 ⟨rfl, hb⟩
      obtain ⟨a1, a2, a3⟩ := box1 hb
      clear hb
      go_wp2_with fail
      refine (WB.out _).mono ?_
      rintro e w2 ⟨rfl, hb⟩
      have B4 := a3.trans (hb.mono a3.size)
      clear hb a1 a2 a3
      go_wp2
      exact bodyPost_ret (v := .tuple #[.bool (decide (c = 0)), .int .i64 0]) (by simp [results, Try.results30, go_sem]; rfl) rfl ⟨rfl, B4⟩
    | false =>
      have WB := Lib.hid (fun W => specPlateBack_any x y s W)
      simp only [Bool.false_eq_true, if_false]
      generalize codeB8 x y s = c at WB ⊢
      have hd := Lib.hid (show (c == 0) = decide (c = 0) from rfl)
      generalize (if c = 0 then y * s else 0) = a at WB
      generalize (if c = 0 then x * s else 0) = o at WB
      go_enter Try.func30, Try.ntmps30
      go_wp2_with fail
      refine (CD.out _).mono ?_
      rintro e w1 ⟨rfl, hb⟩
      obtain ⟨a1, a2, a3⟩ := box1 hb
      clear hb
      go_wp2_with fail
      refine (WB.out _).mono ?_
      rintro e w2 ⟨rfl, hb⟩
      have B4 := a3.trans (hb.mono a3.size)
      clear hb a1 a2 a3
      go_wp2
      exact bodyPost_ret (v := .tuple #[.bool (decide (c = 0)), .int .i64 0]) (by simp [results, Try.results30, go_sem]; rfl) rfl ⟨rfl, B4⟩
  · rw [show onV x y s wave = false by simp [onV, hc]]
    generalize codeF8 x y s = c at CD hc ⊢
    have hn : (c == 0) = false := by simpa using hc
    have hn2 : (c != 0) = true := by simp [hc]
    go_enter Try.func30, Try.ntmps30
    go_wp2_with fail
    refine (CD.out _).mono ?_
    rintro e w1 ⟨rfl, hb⟩
    obtain ⟨a1, a2, a3⟩ := box1 hb
    clear hb
    go_wp2
    exact bodyPost_ret (v := .tuple #[.bool false, .int .i64 c]) (by simp [results, Try.results30, go_sem]) rfl ⟨rfl, a3⟩
end Go.Proofs.Ytemhmejjmhbfdaa.sines
