/- The model's functions of maps on plates: contracts. -/
import Derived.Test.YtemhmejjmhbfdaaPlates
import Derived.Deep.RegionWith
import Derived.Deep.RegionHeld3
namespace Go.Proofs.Ytemhmejjmhbfdaa.sines
open Go.ChangeShapes Go.WideShapes Go.ChangeAt Go.RowKit Go.Proofs.Ytemhmejjmhbfdaa.spots
set_option linter.unusedSimpArgs false
set_option linter.unusedVariables false

theorem bdQ {B : Nat} {a w : World} (h : Below B a w) (q : Nat) : Below B a (w.drewN q) := ⟨h.os, h.tape, h.output, h.size, h.block⟩
theorem boxes2 {w w1 : World} {a b c d : Value} {T U : TypeId} (hb : Below ((w.alloc (.cells #[a, b] T)).alloc (.cells #[c, d] U)).heap.size ((w.alloc (.cells #[a, b] T)).alloc (.cells #[c, d] U)) w1) :
    w1.cell? ⟨w.heap.size, 0, none⟩ = some a ∧ w1.cell? ⟨w.heap.size, 1, none⟩ = some b ∧ w1.cell? ⟨w.heap.size + 1, 0, none⟩ = some c ∧ w1.cell? ⟨w.heap.size + 1, 1, none⟩ = some d ∧
    w1.frozen? ⟨w.heap.size + 1, 0, none⟩ = false ∧ w1.frozen? ⟨w.heap.size + 1, 1, none⟩ = false ∧ Below w.heap.size w w1 ∧ w1.heap[w.heap.size + 1]? = some (.cells #[c, d] U (0, 0)) := by
  have e1 : (w.alloc (.cells #[a, b] T)).heap.size = w.heap.size + 1 := by simp
  have e2 : ((w.alloc (.cells #[a, b] T)).alloc (.cells #[c, d] U)).heap.size = w.heap.size + 2 := by simp
  have g1 : ((w.alloc (.cells #[a, b] T)).alloc (.cells #[c, d] U)).heap[w.heap.size]? = some (.cells #[a, b] T (0, 0)) := by
    rw [Below.heap_alloc _ _ _ (by rw [e1]; omega)]
    exact heap_alloc_new w _
  have g2 : ((w.alloc (.cells #[a, b] T)).alloc (.cells #[c, d] U)).heap[w.heap.size + 1]? = some (.cells #[c, d] U (0, 0)) := by
    rw [← e1]
    exact heap_alloc_new _ _
  have k1 : w1.heap[w.heap.size]? = some (.cells #[a, b] T (0, 0)) := by rw [hb.block _ (by rw [e2]; omega)]; exact g1
  have k2 : w1.heap[w.heap.size + 1]? = some (.cells #[c, d] U (0, 0)) := by rw [hb.block _ (by rw [e2]; omega)]; exact g2
  refine ⟨by simp [World.cell?, k1], by simp [World.cell?, k1], by simp [World.cell?, k2], by simp [World.cell?, k2], by simp [World.frozen?, k2], by simp [World.frozen?, k2], ?_, k2⟩
  exact (((Below.refl _ _).alloc (Nat.le_refl _) _).alloc (by simp) _).trans (hb.mono (by rw [e2]; omega))
theorem stored2 {w : World} {g : Nat} {c d : Value} {U : TypeId} (h : w.heap[g]? = some (.cells #[c, d] U (0, 0))) (x y : Value) :
    (w.setCell ⟨g, 0, none⟩ x).cell? ⟨g, 0, none⟩ = some x ∧ ((w.setCell ⟨g, 0, none⟩ x).setCell ⟨g, 1, none⟩ y).cell? ⟨g, 0, none⟩ = some x ∧ ((w.setCell ⟨g, 0, none⟩ x).setCell ⟨g, 1, none⟩ y).cell? ⟨g, 1, none⟩ = some y := by
  have e1 := heap_setCell_same w g 0 _ _ x h
  have e2 := heap_setCell_same _ g 1 _ _ y e1
  refine ⟨by simp [World.cell?, e1], by simp [World.cell?, e2], by simp [World.cell?, e2]⟩
set_option maxHeartbeats 400000 in
theorem l08Scale_any (n : Int) (w : World) :
    Calls Try.prog 99 #[.int .i64 n] w fun e w' => e = .returned (.bool (inB n 1 100000)) ∧ w = w' := by
  go_enter Try.func99, Try.ntmps99
  go_wp2_with (first | (go_at_call 88; refine (l00In_any _ _ _ _).mono ?_; rintro e w' ⟨rfl, rfl⟩))
  go_ret
  exact ⟨rfl, rfl⟩
set_option maxHeartbeats 400000 in
theorem l08Code_any (lat lon s : Int) (w : World) :
    Calls Try.prog 80 #[.agg #[.int .i64 lat, .int .i64 lon], .int .i64 s] w fun e w' => e = .returned (.int .i64 (codeS8 lat lon s)) ∧ Below w.heap.size w w' := by
  have P1 := Lib.hid (fun W => l02Ok_any lat lon W)
  have P2 := Lib.hid (fun W => l08Scale_any s W)
  cases h : okB lat lon with
  | false =>
    rw [show codeS8 lat lon s = 1 by simp [codeS8, h]]
    rw [h] at P1
    go_enter Try.func80, Try.ntmps80
    go_wp2_with (first | (go_at_call 87; refine (P1.out _).mono ?_; rintro e w' ⟨rfl, o1, rfl⟩))
    go_ret
    exact ⟨rfl, ((Below.refl _ _).alloc (Nat.le_refl _) _).alloc (by simp) _⟩
  | true =>
    cases g : inB s 1 100000 with
    | false =>
      rw [show codeS8 lat lon s = 2 by simp [codeS8, h, g]]
      rw [h] at P1
      rw [g] at P2
      go_enter Try.func80, Try.ntmps80
      go_wp2_with (first | (go_at_call 87; refine (P1.out _).mono ?_; rintro e w' ⟨rfl, o1, rfl⟩) | (go_at_call 99; refine (P2.out _).mono ?_; rintro e w' ⟨rfl, rfl⟩))
      go_ret
      exact ⟨rfl, ((Below.refl _ _).alloc (Nat.le_refl _) _).alloc (by simp) _⟩
    | true =>
      rw [show codeS8 lat lon s = 0 by simp [codeS8, h, g]]
      rw [h] at P1
      rw [g] at P2
      go_enter Try.func80, Try.ntmps80
      go_wp2_with (first | (go_at_call 87; refine (P1.out _).mono ?_; rintro e w' ⟨rfl, o1, rfl⟩) | (go_at_call 99; refine (P2.out _).mono ?_; rintro e w' ⟨rfl, rfl⟩))
      go_ret
      exact ⟨rfl, ((Below.refl _ _).alloc (Nat.le_refl _) _).alloc (by simp) _⟩
set_option maxRecDepth 100000 in
set_option maxHeartbeats 1000000 in
theorem l08Plate_any (lat lon s : Int) (w : World) (h : okB lat lon = true) (s0 : 1 ≤ s) (s1 : s ≤ 100000) :
    Calls Try.prog 81 #[.agg #[.int .i64 lat, .int .i64 lon], .int .i64 s] w fun e w' => e = .returned (.agg #[.int .i64 (near lon s), .int .i64 (near lat s)]) ∧ Below w.heap.size w w' := by
  obtain ⟨h1, h2, h3, h4⟩ := okB_of h
  clear h
  have RD := Lib.hid (fun n (a : -1000000 ≤ n) (b : n ≤ 1000000) W => l00Round_any n s W (by omega) (by omega) (by omega) (by omega))
  go_enter Try.func81, Try.ntmps81
  go_wp2_with fail
  go_region_with (first | (go_at_call 119; refine (RD.out _ (by omega) (by omega) _).mono ?_; rintro e w' ⟨rfl, rfl⟩))
  all_goals go_wp2
  all_goals exact bodyPost_ret (v := .agg #[.int .i64 (near lon s), .int .i64 (near lat s)]) (by simp [results, Try.results81, go_sem]) rfl ⟨rfl, by repeat (first | assumption | exact Below.refl _ _ | refine Below.drew ?_ | refine bdQ ?_ _ | refine Below.setCell ?_ (by first | exact Nat.le_refl _ | (simp; done) | (simp; omega)) _ | refine Below.alloc ?_ (by first | exact Nat.le_refl _ | (simp; done) | (simp; omega)) _)⟩
set_option maxRecDepth 100000 in
set_option maxHeartbeats 1000000 in
theorem specPlateOf_any (lat lon s : Int) (w : World) :
    Calls Try.prog 17 #[.agg #[.int .i64 lat, .int .i64 lon], .int .i64 s] w fun e w' => e = .returned (.tuple #[.agg #[.int .i64 (if codeS8 lat lon s = 0 then near lon s else 0), .int .i64 (if codeS8 lat lon s = 0 then near lat s else 0)], .int .i64 (codeS8 lat lon s)]) ∧ Below w.heap.size w w' := by
  have CD := Lib.hid (fun W => l08Code_any lat lon s W)
  by_cases hc : codeS8 lat lon s = 0
  · obtain ⟨hok, s0, s1⟩ := codeS8_of hc
    have PL := Lib.hid (fun W => l08Plate_any lat lon s W hok s0 s1)
    rw [if_pos hc, if_pos hc, hc]
    rw [hc] at CD
    clear hc hok s0 s1
    go_enter Try.func17, Try.ntmps17
    go_wp2_with fail
    refine (CD.out _).mono ?_
    rintro e w1 ⟨rfl, hb⟩
    obtain ⟨a1, a2, a3, a4, a5, a6, a7, a8⟩ := boxes2 hb
    have B2 := Lib.hid (fun w2 (h : Below w1.heap.size w1 w2) => boxes2 (hb.trans (h.mono hb.size)))
    clear hb
    go_wp2_with fail
    refine (PL.out _).mono ?_
    rintro e w2 ⟨rfl, hb⟩
    obtain ⟨b1, b2, b3, b4, b5, b6, b7, b8⟩ := B2.out _ hb
    obtain ⟨q0, q1, q2⟩ := stored2 b8 (.int .i64 (near lon s)) (.int .i64 (near lat s))
    clear hb
    go_wp2
    exact bodyPost_ret (v := .tuple #[.agg #[.int .i64 (near lon s), .int .i64 (near lat s)], .int .i64 0]) (by simp [results, Try.results17, go_sem, q0, q1, q2]) rfl ⟨rfl, by repeat (first | assumption | exact Below.refl _ _ | refine Below.drew ?_ | refine bdQ ?_ _ | refine Below.setCell ?_ (by first | exact Nat.le_refl _ | (simp; done) | (simp; omega)) _ | refine Below.alloc ?_ (by first | exact Nat.le_refl _ | (simp; done) | (simp; omega)) _)⟩
  · rw [if_neg hc, if_neg hc]
    generalize codeS8 lat lon s = c at CD hc ⊢
    have hn : (c == 0) = false := by simpa using hc
    go_enter Try.func17, Try.ntmps17
    go_wp2_with fail
    refine (CD.out _).mono ?_
    rintro e w1 ⟨rfl, hb⟩
    obtain ⟨a1, a2, a3, a4, a5, a6, a7, a8⟩ := boxes2 hb
    obtain ⟨q0, q1, q2⟩ := stored2 a8 (.int .i64 0) (.int .i64 0)
    clear hb
    go_wp2
    exact bodyPost_ret (v := .tuple #[.agg #[.int .i64 0, .int .i64 0], .int .i64 c]) (by simp [results, Try.results17, go_sem, q0, q1, q2]) rfl ⟨rfl, by repeat (first | assumption | exact Below.refl _ _ | refine Below.drew ?_ | refine bdQ ?_ _ | refine Below.setCell ?_ (by first | exact Nat.le_refl _ | (simp; done) | (simp; omega)) _ | refine Below.alloc ?_ (by first | exact Nat.le_refl _ | (simp; done) | (simp; omega)) _)⟩
set_option maxRecDepth 100000 in
set_option maxHeartbeats 1000000 in
theorem l08Flat_any (x y s : Int) (w : World) :
    Calls Try.prog 85 #[.agg #[.int .i64 x, .int .i64 y], .int .i64 s] w fun e w' => e = .returned (.int .i64 (codeF8 x y s)) ∧ Below w.heap.size w w' := by
  have P1 := Lib.hid (fun W => l08Scale_any s W)
  have HC := Lib.hid (show codeF8 x y s = if (inB s 1 100000 && inB x (-2000000) 2000000 && inB y (-2000000) 2000000) = true then 0 else 2 from rfl)
  rw [HC.out]
  clear HC
  generalize inB s 1 100000 = b1 at P1 ⊢
  generalize h2 : inB x (-2000000) 2000000 = b2
  generalize h3 : inB y (-2000000) 2000000 = b3
  cases b1 <;> cases b2 <;> cases b3
  all_goals
    go_enter Try.func85, Try.ntmps85
    go_wp2_with (first | (go_at_call 99; refine (P1.out _).mono ?_; rintro e w' ⟨rfl, rfl⟩) | (go_at_call 88; refine (l00In_any _ _ _ _).mono ?_; (first | rw [h2] | rw [h3]); rintro e w' ⟨rfl, rfl⟩))
    go_ret
    exact ⟨rfl, by repeat (first | assumption | exact Below.refl _ _ | refine Below.drew ?_ | refine bdQ ?_ _ | refine Below.setCell ?_ (by first | exact Nat.le_refl _ | (simp; done) | (simp; omega)) _ | refine Below.alloc ?_ (by first | exact Nat.le_refl _ | (simp; done) | (simp; omega)) _)⟩
set_option maxRecDepth 100000 in
set_option maxHeartbeats 1000000 in
theorem l08PlateBack_any (x y s : Int) (w : World) (x0 : -2000000 ≤ x) (x1 : x ≤ 2000000) (y0 : -2000000 ≤ y) (y1 : y ≤ 2000000) (s0 : 1 ≤ s) (s1 : s ≤ 100000) :
    Calls Try.prog 86 #[.agg #[.int .i64 x, .int .i64 y], .int .i64 s] w fun e w' => e = .returned (.agg #[.int .i64 (y * s), .int .i64 (x * s)]) ∧ Below w.heap.size w w' := by
  have m1 := mul_range x0 x1 (by omega : 0 ≤ s) s1 (by omega)
  have m2 := mul_range y0 y1 (by omega : 0 ≤ s) s1 (by omega)
  have k1 : IntKind.i64.wrap (x * s) = x * s := IntWalk.i64_in _ (by omega)
  have k2 : IntKind.i64.wrap (y * s) = y * s := IntWalk.i64_in _ (by omega)
  clear m1 m2
  go_enter Try.func86, Try.ntmps86
  go_wp2
  exact bodyPost_ret (v := .agg #[.int .i64 (y * s), .int .i64 (x * s)]) (by simp [results, Try.results86, go_sem]) rfl ⟨rfl, by repeat (first | assumption | exact Below.refl _ _ | refine Below.drew ?_ | refine bdQ ?_ _ | refine Below.setCell ?_ (by first | exact Nat.le_refl _ | (simp; done) | (simp; omega)) _ | refine Below.alloc ?_ (by first | exact Nat.le_refl _ | (simp; done) | (simp; omega)) _)⟩
set_option maxRecDepth 100000 in
set_option maxHeartbeats 1000000 in
theorem specStretchAt_any (lat : Int) (w : World) :
    Calls Try.prog 40 #[.int .i64 lat] w fun e w' => e = .returned (.tuple #[.int .i64 (stretchV lat), .int .i64 (codeT8 lat)]) ∧ Below w.heap.size w w' := by
  have P1 := Lib.hid (fun W => l00In_any lat (-324000) 324000 W)
  cases g : inB lat (-324000) 324000 with
  | false =>
    rw [g] at P1
    rw [show stretchV lat = 0 by simp [stretchV, g], show codeT8 lat = 2 by simp [codeT8, g]]
    go_enter Try.func40, Try.ntmps40
    go_wp2_with (first | (go_at_call 88; refine (P1.out _).mono ?_; rintro e w' ⟨rfl, rfl⟩))
    exact bodyPost_ret (v := .tuple #[.int .i64 0, .int .i64 2]) (by simp [results, Try.results40, go_sem]) rfl ⟨rfl, by repeat (first | assumption | exact Below.refl _ _ | refine Below.drew ?_ | refine bdQ ?_ _ | refine Below.setCell ?_ (by first | exact Nat.le_refl _ | (simp; done) | (simp; omega)) _ | refine Below.alloc ?_ (by first | exact Nat.le_refl _ | (simp; done) | (simp; omega)) _)⟩
  | true =>
    rw [g] at P1
    obtain ⟨l0, l1⟩ := inB_of g
    obtain ⟨c0, c1⟩ := cosL_lat l0 l1
    have P2 := Lib.hid (fun W => l03Cosine_any lat W (by omega) (by omega))
    have hcc : sineL (lat + 324000) = cosL lat := rfl
    rw [hcc] at P2
    have HV := Lib.hid (show stretchV lat = if cosL lat = 0 then 0 else near 1000000000 (cosL lat) by simp [stretchV, g])
    have HT := Lib.hid (show codeT8 lat = if cosL lat = 0 then 6 else 0 by simp [codeT8, g])
    rw [HV.out, HT.out]
    clear HV HT hcc
    generalize cosL lat = c at c0 c1 P2 ⊢
    by_cases hc : c = 0
    · subst hc
      go_enter Try.func40, Try.ntmps40
      go_wp2_with (first | (go_at_call 88; refine (P1.out _).mono ?_; rintro e w' ⟨rfl, rfl⟩) | (go_at_call 118; refine (P2.out _).mono ?_; rintro e w' ⟨rfl, rfl⟩))
      exact bodyPost_ret (v := .tuple #[.int .i64 0, .int .i64 6]) (by simp [results, Try.results40, go_sem]) rfl ⟨by simp, by repeat (first | assumption | exact Below.refl _ _ | refine Below.drew ?_ | refine bdQ ?_ _ | refine Below.setCell ?_ (by first | exact Nat.le_refl _ | (simp; done) | (simp; omega)) _ | refine Below.alloc ?_ (by first | exact Nat.le_refl _ | (simp; done) | (simp; omega)) _)⟩
    · rw [if_neg hc, if_neg hc]
      have hn : (c == 0) = false := by simpa using hc
      have RD := Lib.hid (fun W => l00Round_any 1000000000 c W (by omega) (by omega) (by omega) (by omega))
      go_enter Try.func40, Try.ntmps40
      go_wp2_with (first | (go_at_call 88; refine (P1.out _).mono ?_; rintro e w' ⟨rfl, rfl⟩) | (go_at_call 118; refine (P2.out _).mono ?_; rintro e w' ⟨rfl, rfl⟩) | (go_at_call 119; refine (RD.out _).mono ?_; rintro e w' ⟨rfl, rfl⟩))
      exact bodyPost_ret (v := .tuple #[.int .i64 (near 1000000000 c), .int .i64 0]) (by simp [results, Try.results40, go_sem]) rfl ⟨rfl, by repeat (first | assumption | exact Below.refl _ _ | refine Below.drew ?_ | refine bdQ ?_ _ | refine Below.setCell ?_ (by first | exact Nat.le_refl _ | (simp; done) | (simp; omega)) _ | refine Below.alloc ?_ (by first | exact Nat.le_refl _ | (simp; done) | (simp; omega)) _)⟩
set_option maxRecDepth 100000 in
set_option maxHeartbeats 1000000 in
theorem specPlateBack_any (x y s : Int) (w : World) :
    Calls Try.prog 22 #[.agg #[.int .i64 x, .int .i64 y], .int .i64 s] w fun e w' => e = .returned (.tuple #[.agg #[.int .i64 (if codeB8 x y s = 0 then y * s else 0), .int .i64 (if codeB8 x y s = 0 then x * s else 0)], .int .i64 (codeB8 x y s)]) ∧ Below w.heap.size w w' := by
  have CD := Lib.hid (fun W => l08Flat_any x y s W)
  by_cases hc : codeF8 x y s = 0
  · obtain ⟨s0, s1, x0, x1, y0, y1⟩ := codeF8_of hc
    have PL := Lib.hid (fun W => l08PlateBack_any x y s W x0 x1 y0 y1 s0 s1)
    have OK := Lib.hid (fun W => l02Ok_any (y * s) (x * s) W)
    rw [show codeB8 x y s = if okB (y * s) (x * s) = true then 0 else 3 by simp [codeB8, hc]]
    rw [hc] at CD
    clear hc s0 s1 x0 x1 y0 y1
    generalize okB (y * s) (x * s) = b at OK ⊢
    generalize y * s = u at PL OK ⊢
    generalize x * s = v at PL OK ⊢
    go_enter Try.func22, Try.ntmps22
    go_wp2_with fail
    refine (CD.out _).mono ?_
    rintro e w1 ⟨rfl, hb⟩
    obtain ⟨a1, a2, a3, a4, a5, a6, a7, a8⟩ := boxes2 hb
    have B2 := Lib.hid (fun w2 (h : Below w1.heap.size w1 w2) => boxes2 (hb.trans (h.mono hb.size)))
    clear hb
    go_wp2_with fail
    refine (PL.out _).mono ?_
    rintro e w2 ⟨rfl, hb⟩
    obtain ⟨b1, b2, b3, b4, b5, b6, b7, b8⟩ := B2.out _ hb
    have B3 := Lib.hid (fun w3 (h : Below w2.heap.size w2 w3) => B2.out w3 (hb.trans (h.mono hb.size)))
    clear hb
    go_wp2_with fail
    refine (OK.out _).mono ?_
    rintro e w' ⟨rfl, o1, hw⟩
    have h3 : Below w2.heap.size w2 w' := by rw [hw]; exact ((Below.refl _ _).alloc (Nat.le_refl _) _).alloc (by simp) _
    have hp : w'.heap[w2.heap.size]? = some (.cells #[.int .i64 u, .int .i64 v] 25 (0, 0)) := by
      rw [hw, Below.heap_alloc _ _ _ (by simp)]
      exact heap_alloc_new w2 _
    obtain ⟨c1, c2, c3, c4, c5, c6, c7, c8⟩ := B3.out _ h3
    clear hw h3
    have p1 : w'.cell? ⟨w2.heap.size, 0, none⟩ = some (.int .i64 u) := by simp [World.cell?, hp]
    have p2 : w'.cell? ⟨w2.heap.size, 1, none⟩ = some (.int .i64 v) := by simp [World.cell?, hp]
    clear a1 a2 a3 a4 a5 a6 a7 a8 b1 b2 b3 b4 b5 b6 b7 b8
    cases b with
    | true =>
      obtain ⟨q0, q1, q2⟩ := stored2 c8 (.int .i64 u) (.int .i64 v)
      go_wp2
      exact bodyPost_ret (v := .tuple #[.agg #[.int .i64 u, .int .i64 v], .int .i64 0]) (by simp [results, Try.results22, go_sem, q0, q1, q2]) rfl ⟨rfl, by repeat (first | assumption | exact Below.refl _ _ | refine Below.drew ?_ | refine bdQ ?_ _ | refine Below.setCell ?_ (by first | exact Nat.le_refl _ | (simp; done) | (simp; omega)) _ | refine Below.alloc ?_ (by first | exact Nat.le_refl _ | (simp; done) | (simp; omega)) _)⟩
    | false =>
      obtain ⟨q0, q1, q2⟩ := stored2 c8 (.int .i64 0) (.int .i64 0)
      go_wp2
      exact bodyPost_ret (v := .tuple #[.agg #[.int .i64 0, .int .i64 0], .int .i64 3]) (by simp [results, Try.results22, go_sem, q0, q1, q2]) rfl ⟨rfl, by repeat (first | assumption | exact Below.refl _ _ | refine Below.drew ?_ | refine bdQ ?_ _ | refine Below.setCell ?_ (by first | exact Nat.le_refl _ | (simp; done) | (simp; omega)) _ | refine Below.alloc ?_ (by first | exact Nat.le_refl _ | (simp; done) | (simp; omega)) _)⟩
  · have hb0 : codeB8 x y s = codeF8 x y s := by simp [codeB8, hc]
    rw [hb0, if_neg hc, if_neg hc]
    generalize codeF8 x y s = c at CD hc ⊢
    have hn : (c == 0) = false := by simpa using hc
    clear hb0
    go_enter Try.func22, Try.ntmps22
    go_wp2_with fail
    refine (CD.out _).mono ?_
    rintro e w1 ⟨rfl, hb⟩
    obtain ⟨a1, a2, a3, a4, a5, a6, a7, a8⟩ := boxes2 hb
    obtain ⟨q0, q1, q2⟩ := stored2 a8 (.int .i64 0) (.int .i64 0)
    clear hb
    go_wp2
    exact bodyPost_ret (v := .tuple #[.agg #[.int .i64 0, .int .i64 0], .int .i64 c]) (by simp [results, Try.results22, go_sem, q0, q1, q2]) rfl ⟨rfl, by repeat (first | assumption | exact Below.refl _ _ | refine Below.drew ?_ | refine bdQ ?_ _ | refine Below.setCell ?_ (by first | exact Nat.le_refl _ | (simp; done) | (simp; omega)) _ | refine Below.alloc ?_ (by first | exact Nat.le_refl _ | (simp; done) | (simp; omega)) _)⟩
end Go.Proofs.Ytemhmejjmhbfdaa.sines
