/- The model's losses of maps: contracts. -/
import Derived.Test.YtemhmejjmhbfdaaPlatesC
import Derived.BigQuiet
namespace Go.Proofs.Ytemhmejjmhbfdaa.sines
open Go.ChangeShapes Go.WideShapes Go.ChangeAt Go.RowKit Go.Proofs.Ytemhmejjmhbfdaa.spots
set_option linter.unusedSimpArgs false
set_option linter.unusedVariables false

/-- Two boxes of a call, with what lies in them. -/
def Two (w W : World) (m : Nat) (a b u v : Int) (T : TypeId) : Prop := W.heap[w.heap.size]? = some (.cells #[.int .i64 a, .int .i64 b] T (0, 0)) ∧ W.heap[m]? = some (.cells #[.int .i64 u, .int .i64 v] T (0, 0)) ∧ w.heap.size < m ∧ Below w.heap.size w W
theorem two_keep {w W W' : World} {m : Nat} {a b u v : Int} {T : TypeId} (h : Two w W m a b u v T) (hb : Below W.heap.size W W') : Two w W' m a b u v T := by
  obtain ⟨h1, h2, h3, h4⟩ := h
  have z1 := (Array.getElem?_eq_some_iff.1 h1).1
  have z2 := (Array.getElem?_eq_some_iff.1 h2).1
  exact ⟨by rw [hb.block _ z1]; exact h1, by rw [hb.block _ z2]; exact h2, h3, h4.trans (hb.mono h4.size)⟩
theorem two_cells {w W : World} {m : Nat} {a b u v : Int} {T : TypeId} (h : Two w W m a b u v T) :
    W.cell? ⟨w.heap.size, 0, none⟩ = some (.int .i64 a) ∧ W.cell? ⟨w.heap.size, 1, none⟩ = some (.int .i64 b) ∧ W.cell? ⟨m, 0, none⟩ = some (.int .i64 u) ∧ W.cell? ⟨m, 1, none⟩ = some (.int .i64 v) ∧ W.frozen? ⟨m, 0, none⟩ = false ∧ W.frozen? ⟨m, 1, none⟩ = false := by
  obtain ⟨h1, h2, h3, h4⟩ := h
  exact ⟨by simp [World.cell?, h1], by simp [World.cell?, h1], by simp [World.cell?, h2], by simp [World.cell?, h2], by simp [World.frozen?, h2], by simp [World.frozen?, h2]⟩
theorem two_store {w W : World} {m : Nat} {a b u v : Int} {T : TypeId} (h : Two w W m a b u v T) (x y : Int) : Two w ((W.setCell ⟨m, 0, none⟩ (.int .i64 x)).setCell ⟨m, 1, none⟩ (.int .i64 y)) m a b x y T := by
  obtain ⟨h1, h2, h3, h4⟩ := h
  have e1 := heap_setCell_same W m 0 _ _ (.int .i64 x) h2
  have e2 := heap_setCell_same _ m 1 _ _ (.int .i64 y) e1
  refine ⟨?_, ?_, h3, ((h4.setCell (show w.heap.size ≤ m by omega) _).setCell (show w.heap.size ≤ m by omega) _)⟩
  · rw [heap_setCell_other _ _ _ _ (show w.heap.size ≠ m by omega), heap_setCell_other _ _ _ _ (show w.heap.size ≠ m by omega)]; exact h1
  · simpa using e2
theorem two_start {w W : World} {a b u v : Int} {T : TypeId} (h : W.heap[w.heap.size]? = some (.cells #[.int .i64 a, .int .i64 b] T (0, 0))) (hB : Below w.heap.size w W) : Two w (W.alloc (.cells #[.int .i64 u, .int .i64 v] T)) W.heap.size a b u v T := by
  have z := (Array.getElem?_eq_some_iff.1 h).1
  exact ⟨by rw [Below.heap_alloc _ _ _ z]; exact h, heap_alloc_new _ _, z, hB.alloc hB.size _⟩
theorem box1h {w w1 : World} {a b : Value} {T : TypeId} (hb : Below (w.alloc (.cells #[a, b] T)).heap.size (w.alloc (.cells #[a, b] T)) w1) : w1.heap[w.heap.size]? = some (.cells #[a, b] T (0, 0)) := by
  have h1 : w.heap.size < (w.alloc (.cells #[a, b] T)).heap.size := by simp
  rw [hb.block _ h1]; exact heap_alloc_new _ _
theorem wb_bounds {x y s : Int} (h1 : -700000 ≤ x * s) (h2 : x * s ≤ 700000) : -324000 ≤ wbLat y s ∧ wbLat y s ≤ 324000 ∧ -700000000000 ≤ wbLon x y s ∧ wbLon x y s ≤ 700000000000 := by
  unfold wbLat wbLon
  split
  · rename_i g
    obtain ⟨l0, l1⟩ := inB_of g
    obtain ⟨c0, c1⟩ := cosL_lat l0 l1
    refine ⟨l0, l1, ?_⟩
    split
    · omega
    · exact near_size _ (by omega) (by omega) (by omega) (by omega)
  · omega
theorem retL {a b c d : Int} {e f : Bool} (h : a = b) (g : c = d) (k : e = f) : Ending.returned (.tuple #[.int .i64 a, .int .i64 c, .bool e]) = .returned (.tuple #[.int .i64 b, .int .i64 d, .bool f]) := by rw [h, g, k]
set_option maxRecDepth 100000 in
set_option maxHeartbeats 2000000 in
theorem l08Loss_plain (lat lon s : Int) (w : World) (h : okB lat lon = true) (s0 : 1 ≤ s) (s1 : s ≤ 100000) :
    Calls Try.prog 113 #[.agg #[.int .i64 lat, .int .i64 lon], .int .i64 s, .bool false] w fun e w' => e = .returned (.tuple #[.int .i64 (lossN lat s false), .int .i64 (lossE lat lon s false), .bool (lossOk lat lon s false)]) ∧ Below w.heap.size w w' := by
  obtain ⟨h1, h2, h3, h4⟩ := okB_of h
  obtain ⟨p1, p2, p3, p4⟩ := plate_bounds (n := lat) (N := 324000) h1 h2 (by omega) s0 s1
  obtain ⟨r1, r2, r3, r4⟩ := plate_bounds (n := lon) (N := 648000) h3 (by omega) (by omega) s0 s1
  have PL := Lib.hid (fun W => l08Plate_any lat lon s W h s0 s1)
  have PB := Lib.hid (fun W => l08PlateBack_any (near lon s) (near lat s) s W (by omega) (by omega) (by omega) (by omega) s0 s1)
  have OK := Lib.hid (fun W => l02Ok_any (near lat s * s) (near lon s * s) W)
  rw [show lossN lat s false = near lat s * s - lat by simp [lossN], show lossE lat lon s false = near lon s * s - lon by simp [lossE], show lossOk lat lon s false = okB (near lat s * s) (near lon s * s) by simp [lossOk]]
  have k1 : IntKind.i64.wrap (near lat s * s - lat) = near lat s * s - lat := IntWalk.i64_in _ (by omega)
  have k2 : IntKind.i64.wrap (near lon s * s - lon) = near lon s * s - lon := IntWalk.i64_in _ (by omega)
  generalize okB (near lat s * s) (near lon s * s) = b at OK ⊢
  generalize near lat s * s = u at PB OK k1 ⊢
  generalize near lon s * s = v at PB OK k2 ⊢
  clear p1 p2 p3 p4 r1 r2 r3 r4 h
  generalize near lat s = f1 at PL PB
  generalize near lon s = f2 at PL PB
  go_enter Try.func113, Try.ntmps113
  go_wp2_with fail
  refine (PL.out _).mono ?_
  rintro e w1 ⟨rfl, hb⟩
  have z1 := box1h hb
  obtain ⟨a1, a2, a3⟩ := box1 hb
  clear hb
  go_wp2_with fail
  refine (PB.out _).mono ?_
  rintro e w2 ⟨rfl, hb⟩
  have z2 := (hb.block _ (Array.getElem?_eq_some_iff.1 z1).1).trans z1
  have T1 := two_start (u := u) (v := v) z2 (a3.trans (hb.mono a3.size))
  obtain ⟨t1, t2, t3, t4, t5, t6⟩ := two_cells T1
  clear hb a1 a2 a3 z1 z2
  go_wp2_with fail
  generalize w2.alloc (.cells #[.int .i64 u, .int .i64 v] 25) = V at *
  refine (OK.out _).mono ?_
  rintro e w' ⟨rfl, o1, hw⟩
  have T2 := two_keep T1 (okBel hw)
  clear hw t1 t2 t3 t4 t5 t6
  obtain ⟨t1, t2, t3, t4, t5, t6⟩ := two_cells T2
  have B2 := T2.2.2.2
  clear T1 T2
  go_wp2_with fail
  go_quiet (fail)
  all_goals go_wp2
  all_goals exact bodyPost_ret (v := .tuple #[.int .i64 (u - lat), .int .i64 (v - lon), .bool b]) (by simp [results, Try.results113, go_sem]) rfl ⟨rfl, by repeat (first | assumption | exact Below.refl _ _ | refine Below.drew ?_ | refine bdQ ?_ _ | refine Below.setCell ?_ (by first | exact Nat.le_refl _ | (simp; done) | (simp; omega)) _ | refine Below.alloc ?_ (by first | exact Nat.le_refl _ | (simp; done) | (simp; omega)) _)⟩
set_option maxRecDepth 100000 in
set_option maxHeartbeats 2000000 in
theorem l08Loss_wave (lat lon s : Int) (w : World) (h : okB lat lon = true) (s0 : 1 ≤ s) (s1 : s ≤ 100000) :
    Calls Try.prog 113 #[.agg #[.int .i64 lat, .int .i64 lon], .int .i64 s, .bool true] w fun e w' => e = .returned (.tuple #[.int .i64 (lossN lat s true), .int .i64 (lossE lat lon s true), .bool (lossOk lat lon s true)]) ∧ Below w.heap.size w w' := by
  obtain ⟨h1, h2, h3, h4⟩ := okB_of h
  obtain ⟨p1, p2, p3, p4⟩ := plate_bounds (n := lat) (N := 324000) h1 h2 (by omega) s0 s1
  obtain ⟨r1, r2, r3, r4⟩ := plate_bounds (n := lon) (N := 648000) h3 (by omega) (by omega) s0 s1
  obtain ⟨v1, v2, v3, v4⟩ := waX_bounds h s0 s1
  have PL := Lib.hid (fun W => l08Plate_any lat lon s W h s0 s1)
  have PB := Lib.hid (fun W => l08PlateBack_any (near lon s) (near lat s) s W (by omega) (by omega) (by omega) (by omega) s0 s1)
  have OK := Lib.hid (fun W => l02Ok_any (near lat s * s) (near lon s * s) W)
  have WL := Lib.hid (fun W => l08Wave_any lat lon s W h s0 s1)
  have WB := Lib.hid (fun W => l08WaveBack_any (waX lat lon s) (near lat s) s W (by omega) (by omega) (by omega) (by omega) s0 s1)
  obtain ⟨b1, b2, b3, b4⟩ := wb_bounds (y := near lat s) v3 v4
  rw [show lossN lat s true = wbLat (near lat s) s - lat by simp [lossN], show lossE lat lon s true = wbLon (waX lat lon s) (near lat s) s - lon by simp [lossE], show lossOk lat lon s true = wbOk (waX lat lon s) (near lat s) s by simp [lossOk]]
  generalize wbOk (waX lat lon s) (near lat s) s = bw at WB ⊢
  generalize wbLat (near lat s) s = x at WB b1 b2 ⊢
  generalize wbLon (waX lat lon s) (near lat s) s = y at WB b3 b4 ⊢
  have k1 : IntKind.i64.wrap (x - lat) = x - lat := IntWalk.i64_in _ (by omega)
  have k2 : IntKind.i64.wrap (y - lon) = y - lon := IntWalk.i64_in _ (by omega)
  generalize okB (near lat s * s) (near lon s * s) = b at OK
  generalize near lat s * s = u at PB OK
  generalize near lon s * s = v at PB OK
  clear p1 p2 p3 p4 r1 r2 r3 r4 h v1 v2 v3 v4 b1 b2 b3 b4
  generalize waX lat lon s = f3 at WL WB
  generalize near lat s = f1 at PL PB WL WB
  generalize near lon s = f2 at PL PB
  go_enter Try.func113, Try.ntmps113
  go_wp2_with fail
  refine (PL.out _).mono ?_
  rintro e w1 ⟨rfl, hb⟩
  have z1 := box1h hb
  obtain ⟨a1, a2, a3⟩ := box1 hb
  clear hb
  go_wp2_with fail
  refine (PB.out _).mono ?_
  rintro e w2 ⟨rfl, hb⟩
  have z2 := (hb.block _ (Array.getElem?_eq_some_iff.1 z1).1).trans z1
  have T1 := two_start (u := u) (v := v) z2 (a3.trans (hb.mono a3.size))
  obtain ⟨t1, t2, t3, t4, t5, t6⟩ := two_cells T1
  clear hb a1 a2 a3 z1 z2
  go_wp2_with fail
  generalize w2.alloc (.cells #[.int .i64 u, .int .i64 v] 25) = V at *
  refine (OK.out _).mono ?_
  rintro e w' ⟨rfl, o1, hw⟩
  have T2 := two_keep T1 (okBel hw)
  clear hw t1 t2 t3 t4 t5 t6 T1
  obtain ⟨t1, t2, t3, t4, t5, t6⟩ := two_cells T2
  go_wp2_with fail
  refine (WL.out _).mono ?_
  rintro e w4 ⟨rfl, hb⟩
  have T3 := two_keep T2 hb
  clear hb t1 t2 t3 t4 t5 t6 T2
  obtain ⟨t1, t2, t3, t4, t5, t6⟩ := two_cells T3
  go_wp2_with fail
  refine (WB.out _).mono ?_
  rintro e w5 ⟨rfl, hb⟩
  have T4 := two_keep T3 hb
  clear hb t1 t2 t3 t4 t5 t6 T3
  obtain ⟨t1, t2, t3, t4, t5, t6⟩ := two_cells T4
  have T5 := two_store T4 x y
  go_wp2_with fail
  clear t1 t2 t3 t4 t5 t6 T4
  obtain ⟨t1, t2, t3, t4, t5, t6⟩ := two_cells T5
  have B5 := T5.2.2.2
  clear T5
  generalize (w5.setCell ⟨w2.heap.size, 0, none⟩ (.int .i64 x)).setCell ⟨w2.heap.size, 1, none⟩ (.int .i64 y) = V5 at *
  go_quiet (fail)
  all_goals go_wp2
  all_goals exact bodyPost_ret (v := .tuple #[.int .i64 (x - lat), .int .i64 (y - lon), .bool bw]) (by simp [results, Try.results113, go_sem]) rfl ⟨rfl, by repeat (first | assumption | exact Below.refl _ _ | refine Below.drew ?_ | refine bdQ ?_ _ | refine Below.setCell ?_ (by first | exact Nat.le_refl _ | (simp; done) | (simp; omega)) _ | refine Below.alloc ?_ (by first | exact Nat.le_refl _ | (simp; done) | (simp; omega)) _)⟩
theorem l08Loss_any (lat lon s : Int) (wave : Bool) (w : World) (h : okB lat lon = true) (s0 : 1 ≤ s) (s1 : s ≤ 100000) :
    Calls Try.prog 113 #[.agg #[.int .i64 lat, .int .i64 lon], .int .i64 s, .bool wave] w fun e w' => e = .returned (.tuple #[.int .i64 (lossN lat s wave), .int .i64 (lossE lat lon s wave), .bool (lossOk lat lon s wave)]) ∧ Below w.heap.size w w' := by
  cases wave with
  | true => exact l08Loss_wave lat lon s w h s0 s1
  | false => exact l08Loss_plain lat lon s w h s0 s1
def lossNV (lat lon s : Int) (wave : Bool) : Int := if codeL8 lat lon s wave = 0 then lossN lat s wave else 0
def lossEV (lat lon s : Int) (wave : Bool) : Int := if codeL8 lat lon s wave = 0 then lossE lat lon s wave else 0
set_option maxRecDepth 100000 in
set_option maxHeartbeats 2000000 in
theorem specLossOf_any (lat lon s : Int) (wave : Bool) (w : World) :
    Calls Try.prog 37 #[.agg #[.int .i64 lat, .int .i64 lon], .int .i64 s, .bool wave] w fun e w' => e = .returned (.tuple #[.int .i64 (lossNV lat lon s wave), .int .i64 (lossEV lat lon s wave), .int .i64 (codeL8 lat lon s wave)]) ∧ Below w.heap.size w w' := by
  have CD := Lib.hid (fun W => l08Code_any lat lon s W)
  by_cases hc : codeS8 lat lon s = 0
  · obtain ⟨hok, s0, s1⟩ := codeS8_of hc
    have LO := Lib.hid (fun W => l08Loss_any lat lon s wave W hok s0 s1)
    have E : codeL8 lat lon s wave = if lossOk lat lon s wave = true then 0 else 10 := by simp [codeL8, hc]
    rw [lossNV, lossEV, E]
    rw [hc] at CD
    clear E hc hok
    generalize lossOk lat lon s wave = b at LO ⊢
    generalize lossN lat s wave = x at LO ⊢
    generalize lossE lat lon s wave = y at LO ⊢
    rw [show (if (if b = true then (0 : Int) else 10) = 0 then x else 0) = (if b = true then x else 0) by cases b <;> simp, show (if (if b = true then (0 : Int) else 10) = 0 then y else 0) = (if b = true then y else 0) by cases b <;> simp]
    go_enter Try.func37, Try.ntmps37
    go_wp2_with fail
    refine (CD.out _).mono ?_
    rintro e w1 ⟨rfl, hb⟩
    obtain ⟨a1, a2, a3⟩ := box1 hb
    clear hb
    go_wp2_with fail
    refine (LO.out _).mono ?_
    rintro e w2 ⟨rfl, hb⟩
    have B4 := a3.trans (hb.mono a3.size)
    clear hb a1 a2 a3
    cases b with
    | true =>
      go_wp2
      exact bodyPost_ret (v := .tuple #[.int .i64 x, .int .i64 y, .int .i64 0]) (by simp [results, Try.results37, go_sem]) rfl ⟨by simp, B4⟩
    | false =>
      go_wp2
      exact bodyPost_ret (v := .tuple #[.int .i64 0, .int .i64 0, .int .i64 10]) (by simp [results, Try.results37, go_sem]) rfl ⟨by simp, B4⟩
  · have E : codeL8 lat lon s wave = codeS8 lat lon s := by simp [codeL8, hc]
    rw [lossNV, lossEV, E, if_neg hc, if_neg hc]
    clear E
    generalize codeS8 lat lon s = c at CD hc ⊢
    have hn : (c == 0) = false := by simpa using hc
    have hn2 : (c != 0) = true := by simp [hc]
    go_enter Try.func37, Try.ntmps37
    go_wp2_with fail
    refine (CD.out _).mono ?_
    rintro e w1 ⟨rfl, hb⟩
    obtain ⟨a1, a2, a3⟩ := box1 hb
    clear hb
    go_wp2
    exact bodyPost_ret (v := .tuple #[.int .i64 0, .int .i64 0, .int .i64 c]) (by simp [results, Try.results37, go_sem]) rfl ⟨rfl, a3⟩
end Go.Proofs.Ytemhmejjmhbfdaa.sines
