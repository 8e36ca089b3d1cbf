/- Distances of two places; the codes of lists of places; CosDistance and DistanceOf, of the program and of the model. -/
import Derived.Test.YtkiimdfnobcdpaaDist
import Derived.Test.YtkiimdfnobcdpaaOkl
namespace Go.Proofs.Ytkiimdfnobcdpaa.sines
open Go.ChangeShapes Go.WideShapes Go.ChangeAt Go.RowKit Go.Proofs.Ytkiimdfnobcdpaa.spots Go.Proofs.Ytkiimdfnobcdpaa.irows Go.Proofs.Ytkiimdfnobcdpaa.pairs

theorem two_boxes (w : World) (a b c d : Int) (T U : TypeId) (o : Obj) :
    (((w.alloc (.cells #[.int .i64 a, .int .i64 b] T)).alloc (.cells #[.int .i64 c, .int .i64 d] U)).alloc o).cell? ⟨w.heap.size, 0, none⟩ = some (.int .i64 a) ∧
    (((w.alloc (.cells #[.int .i64 a, .int .i64 b] T)).alloc (.cells #[.int .i64 c, .int .i64 d] U)).alloc o).cell? ⟨w.heap.size, 1, none⟩ = some (.int .i64 b) ∧
    (((w.alloc (.cells #[.int .i64 a, .int .i64 b] T)).alloc (.cells #[.int .i64 c, .int .i64 d] U)).alloc o).cell? ⟨w.heap.size + 1, 0, none⟩ = some (.int .i64 c) ∧
    (((w.alloc (.cells #[.int .i64 a, .int .i64 b] T)).alloc (.cells #[.int .i64 c, .int .i64 d] U)).alloc o).cell? ⟨w.heap.size + 1, 1, none⟩ = some (.int .i64 d) := by
  have e : (w.alloc (.cells #[.int .i64 a, .int .i64 b] T)).heap.size = w.heap.size + 1 := by simp
  refine ⟨?_, ?_, ?_, ?_⟩
  · rw [World.cell?_alloc_past _ _ _ (by simp; omega), World.cell?_alloc_past _ _ _ (by simp)]; simp
  · rw [World.cell?_alloc_past _ _ _ (by simp; omega), World.cell?_alloc_past _ _ _ (by simp)]; simp
  · rw [World.cell?_alloc_past _ _ _ (by simp), ← e]; simp
  · rw [World.cell?_alloc_past _ _ _ (by simp), ← e]; simp
theorem below_alloc2 {w w' : World} {o1 o2 : Obj} (h : Below ((w.alloc o1).alloc o2).heap.size ((w.alloc o1).alloc o2) w') : Below w.heap.size w w' := (below_two w o1 o2).trans (h.mono (by simp <;> omega))
theorem ret_two' {a b c d : Int} (h : a = c) (k : b = d) : Ending.returned (.tuple #[.int .i64 a, .int .i64 b]) = .returned (.tuple #[.int .i64 c, .int .i64 d]) := by rw [h, k]
theorem pat_two (W : World) (n : Nat) (a b c d : Int) (h : W.heap.size = n) (T : TypeId) : PAt (W.alloc (.cells #[.int .i64 a, .int .i64 b, .int .i64 c, .int .i64 d] T)) (W.alloc (.cells #[.int .i64 a, .int .i64 b, .int .i64 c, .int .i64 d] T)).heap.size (.slice (some ⟨n, 0, none⟩) 2 2) [(a, b), (c, d)] := by
  subst h
  refine ⟨_, _, rfl, fun k hk => ⟨_, 0, rfl, by simp, ?_⟩⟩
  have hk2 : k < 2 := by simpa using hk
  match k, hk2 with
  | 0, _ => exact ⟨by simp, by simp⟩
  | 1, _ => exact ⟨by simp, by simp⟩

set_option maxRecDepth 100000 in
set_option maxHeartbeats 1000000 in
theorem distanceBetween_lon (a b d : Int) (w : World) (ha : okB a b = true) (hc : okB a d = true) (e0 : ¬ b = d) :
    Calls Try.prog 39 #[.agg #[.int .i64 a, .int .i64 b], .agg #[.int .i64 a, .int .i64 d]] w fun e w' => e = .returned (.int .i64 (distL a b a d)) ∧ Below w.heap.size w w' := by
  have HE := Lib.hid (show ¬ (a = a ∧ b = d) from fun k => e0 k.2)
  obtain ⟨x1, x2⟩ := cosD_bounds a b a d
  obtain ⟨x, hx⟩ : ∃ x, Hid (cosD a b a d = x) := ⟨_, Lib.hid rfl⟩
  rw [hx.out] at x1 x2
  by_cases hs : 0 ≤ x
  · have h1 : ¬ x < 0 := by omega
    have m1 : max x (-x) = x := by omega
    have y1 := arc_small (s := x) x2
    have HS := Lib.hid hs
    have e1 : distL a b a d = 324000 - (arcN x : Int) := by unfold distL; rw [if_neg HE.out, hx.out, if_pos hs]
    rw [e1]
    obtain ⟨y, hy⟩ : ∃ y : Nat, Hid (arcN x = y) := ⟨_, Lib.hid rfl⟩
    rw [hy.out] at y1 ⊢
    have k0 : decide (x < 0) = false := decide_eq_false h1
    have k1 : decide (0 ≤ x) = true := decide_eq_true hs
    clear e1 h1 hs
    go_enter Try.func39, Try.ntmps39
    go_wp2_with fail
    refine (cosBetween_any a b a d _ ha hc).mono ?_
    rintro e w1 ⟨rfl, hb⟩
    have HB := Lib.hid (below_alloc2 hb)
    clear hb
    rw [hx.out]
    go_wp2_with fail
    refine (implArcOf_yes x _ (by have := HS.out; simp [inB]; omega)).mono ?_
    clear m1
    rintro e w2 ⟨rfl, hb⟩
    have HB2 := Lib.hid (HB.out.trans (hb.mono HB.out.size))
    clear hb
    rw [hy.out]
    go_wp2
    go_ret
    exact ⟨rfl, HB2.out⟩
  · have h1 : x < 0 := by omega
    have m1 : max x (-x) = -x := by omega
    have y1 := arc_small (s := -x) (by omega)
    have e1 : distL a b a d = 324000 + (arcN (-x) : Int) := by unfold distL; rw [if_neg HE.out, hx.out, if_neg hs]
    rw [e1]
    obtain ⟨y, hy⟩ : ∃ y : Nat, Hid (arcN (-x) = y) := ⟨_, Lib.hid rfl⟩
    rw [hy.out] at y1 ⊢
    have k0 : decide (x < 0) = true := decide_eq_true h1
    have k1 : decide (0 ≤ x) = false := decide_eq_false hs
    have hs2 : x ≤ -1 := by omega
    clear e1 h1 hs
    go_enter Try.func39, Try.ntmps39
    go_wp2_with fail
    refine (cosBetween_any a b a d _ ha hc).mono ?_
    rintro e w1 ⟨rfl, hb⟩
    have HB := Lib.hid (below_alloc2 hb)
    clear hb
    rw [hx.out]
    go_wp2_with fail
    refine (implArcOf_yes (-x) _ (by simp [inB]; omega)).mono ?_
    clear m1
    rintro e w2 ⟨rfl, hb⟩
    have HB2 := Lib.hid (HB.out.trans (hb.mono HB.out.size))
    clear hb
    rw [hy.out]
    go_wp2
    go_ret
    exact ⟨rfl, HB2.out⟩

set_option maxRecDepth 100000 in
set_option maxHeartbeats 1000000 in
theorem distanceBetween_lat (a b c d : Int) (w : World) (ha : okB a b = true) (hc : okB c d = true) (e0 : ¬ a = c) :
    Calls Try.prog 39 #[.agg #[.int .i64 a, .int .i64 b], .agg #[.int .i64 c, .int .i64 d]] w fun e w' => e = .returned (.int .i64 (distL a b c d)) ∧ Below w.heap.size w w' := by
  have HE := Lib.hid (show ¬ (a = c ∧ b = d) from fun k => e0 k.1)
  obtain ⟨x1, x2⟩ := cosD_bounds a b c d
  obtain ⟨x, hx⟩ : ∃ x, Hid (cosD a b c d = x) := ⟨_, Lib.hid rfl⟩
  rw [hx.out] at x1 x2
  by_cases hs : 0 ≤ x
  · have h1 : ¬ x < 0 := by omega
    have m1 : max x (-x) = x := by omega
    have y1 := arc_small (s := x) x2
    have HS := Lib.hid hs
    have e1 : distL a b c d = 324000 - (arcN x : Int) := by unfold distL; rw [if_neg HE.out, hx.out, if_pos hs]
    rw [e1]
    obtain ⟨y, hy⟩ : ∃ y : Nat, Hid (arcN x = y) := ⟨_, Lib.hid rfl⟩
    rw [hy.out] at y1 ⊢
    have k0 : decide (x < 0) = false := decide_eq_false h1
    have k1 : decide (0 ≤ x) = true := decide_eq_true hs
    clear e1 h1 hs
    go_enter Try.func39, Try.ntmps39
    go_wp2_with fail
    refine (cosBetween_any a b c d _ ha hc).mono ?_
    rintro e w1 ⟨rfl, hb⟩
    have HB := Lib.hid (below_alloc2 hb)
    clear hb
    rw [hx.out]
    go_wp2_with fail
    refine (implArcOf_yes x _ (by have := HS.out; simp [inB]; omega)).mono ?_
    clear m1
    rintro e w2 ⟨rfl, hb⟩
    have HB2 := Lib.hid (HB.out.trans (hb.mono HB.out.size))
    clear hb
    rw [hy.out]
    go_wp2
    go_ret
    exact ⟨rfl, HB2.out⟩
  · have h1 : x < 0 := by omega
    have m1 : max x (-x) = -x := by omega
    have y1 := arc_small (s := -x) (by omega)
    have e1 : distL a b c d = 324000 + (arcN (-x) : Int) := by unfold distL; rw [if_neg HE.out, hx.out, if_neg hs]
    rw [e1]
    obtain ⟨y, hy⟩ : ∃ y : Nat, Hid (arcN (-x) = y) := ⟨_, Lib.hid rfl⟩
    rw [hy.out] at y1 ⊢
    have k0 : decide (x < 0) = true := decide_eq_true h1
    have k1 : decide (0 ≤ x) = false := decide_eq_false hs
    have hs2 : x ≤ -1 := by omega
    clear e1 h1 hs
    go_enter Try.func39, Try.ntmps39
    go_wp2_with fail
    refine (cosBetween_any a b c d _ ha hc).mono ?_
    rintro e w1 ⟨rfl, hb⟩
    have HB := Lib.hid (below_alloc2 hb)
    clear hb
    rw [hx.out]
    go_wp2_with fail
    refine (implArcOf_yes (-x) _ (by simp [inB]; omega)).mono ?_
    clear m1
    rintro e w2 ⟨rfl, hb⟩
    have HB2 := Lib.hid (HB.out.trans (hb.mono HB.out.size))
    clear hb
    rw [hy.out]
    go_wp2
    go_ret
    exact ⟨rfl, HB2.out⟩

set_option maxHeartbeats 1000000 in
theorem distanceBetween_any (a b c d : Int) (w : World) (ha : okB a b = true) (hc : okB c d = true) :
    Calls Try.prog 39 #[.agg #[.int .i64 a, .int .i64 b], .agg #[.int .i64 c, .int .i64 d]] w fun e w' => e = .returned (.int .i64 (distL a b c d)) ∧ Below w.heap.size w w' := by
  by_cases h1 : a = c
  · subst h1
    by_cases h2 : b = d
    · subst h2
      rw [distL_self]
      go_enter Try.func39, Try.ntmps39
      go_wp2
      go_ret
      exact ⟨rfl, below_two _ _ _⟩
    · exact distanceBetween_lon a b d w ha hc h2
  · exact distanceBetween_lat a b c d w ha hc h1

set_option maxRecDepth 100000 in
set_option maxHeartbeats 1000000 in
theorem l05Distance_lon (a b d : Int) (w : World) (ha : okB a b = true) (hc : okB a d = true) (e0 : ¬ b = d) :
    Calls Try.prog 33 #[.agg #[.int .i64 a, .int .i64 b], .agg #[.int .i64 a, .int .i64 d]] w fun e w' => e = .returned (.int .i64 (distL a b a d)) ∧ Below w.heap.size w w' := by
  have HE := Lib.hid (show ¬ (a = a ∧ b = d) from fun k => e0 k.2)
  obtain ⟨x1, x2⟩ := cosD_bounds a b a d
  obtain ⟨x, hx⟩ : ∃ x, Hid (cosD a b a d = x) := ⟨_, Lib.hid rfl⟩
  rw [hx.out] at x1 x2
  by_cases hs : 0 ≤ x
  · have h1 : ¬ x < 0 := by omega
    have y1 := arc_small (s := x) x2
    have HS := Lib.hid hs
    have e1 : distL a b a d = 324000 - (arcN x : Int) := by unfold distL; rw [if_neg HE.out, hx.out, if_pos hs]
    rw [e1]
    obtain ⟨y, hy⟩ : ∃ y : Nat, Hid (arcN x = y) := ⟨_, Lib.hid rfl⟩
    rw [hy.out] at y1 ⊢
    have k0 : decide (x < 0) = false := decide_eq_false h1
    have k1 : decide (0 ≤ x) = true := decide_eq_true hs
    clear e1 h1 hs
    go_enter Try.func33, Try.ntmps33
    go_wp2_with fail
    refine (l05Cos_any a b a d _ ha hc).mono ?_
    rintro e w1 ⟨rfl, hb⟩
    have HB := Lib.hid (below_alloc2 hb)
    clear hb
    rw [hx.out]
    go_wp2_with fail
    refine (l03Arc_any x _).mono ?_
    rintro e w2 ⟨rfl, rfl⟩
    rw [hy.out]
    go_wp2_with fail
    refine (l00Max_v _ _ _).mono ?_
    rintro e w' ⟨rfl, rfl⟩
    go_wp2
    go_ret
    exact ⟨ret_int (by have := HS.out; omega), HB.out⟩
  · have h1 : x < 0 := by omega
    have y1 := arc_small (s := -x) (by omega)
    have e1 : distL a b a d = 324000 + (arcN (-x) : Int) := by unfold distL; rw [if_neg HE.out, hx.out, if_neg hs]
    rw [e1]
    obtain ⟨y, hy⟩ : ∃ y : Nat, Hid (arcN (-x) = y) := ⟨_, Lib.hid rfl⟩
    rw [hy.out] at y1 ⊢
    have k0 : decide (x < 0) = true := decide_eq_true h1
    have k1 : decide (0 ≤ x) = false := decide_eq_false hs
    have hs2 : x ≤ -1 := by omega
    clear e1 h1 hs
    go_enter Try.func33, Try.ntmps33
    go_wp2_with fail
    refine (l05Cos_any a b a d _ ha hc).mono ?_
    rintro e w1 ⟨rfl, hb⟩
    have HB := Lib.hid (below_alloc2 hb)
    clear hb
    rw [hx.out]
    go_wp2_with fail
    refine (l03Arc_any (-x) _).mono ?_
    rintro e w2 ⟨rfl, rfl⟩
    rw [hy.out]
    go_wp2
    go_ret
    exact ⟨rfl, HB.out⟩

set_option maxRecDepth 100000 in
set_option maxHeartbeats 1000000 in
theorem l05Distance_lat (a b c d : Int) (w : World) (ha : okB a b = true) (hc : okB c d = true) (e0 : ¬ a = c) :
    Calls Try.prog 33 #[.agg #[.int .i64 a, .int .i64 b], .agg #[.int .i64 c, .int .i64 d]] w fun e w' => e = .returned (.int .i64 (distL a b c d)) ∧ Below w.heap.size w w' := by
  have HE := Lib.hid (show ¬ (a = c ∧ b = d) from fun k => e0 k.1)
  obtain ⟨x1, x2⟩ := cosD_bounds a b c d
  obtain ⟨x, hx⟩ : ∃ x, Hid (cosD a b c d = x) := ⟨_, Lib.hid rfl⟩
  rw [hx.out] at x1 x2
  by_cases hs : 0 ≤ x
  · have h1 : ¬ x < 0 := by omega
    have y1 := arc_small (s := x) x2
    have HS := Lib.hid hs
    have e1 : distL a b c d = 324000 - (arcN x : Int) := by unfold distL; rw [if_neg HE.out, hx.out, if_pos hs]
    rw [e1]
    obtain ⟨y, hy⟩ : ∃ y : Nat, Hid (arcN x = y) := ⟨_, Lib.hid rfl⟩
    rw [hy.out] at y1 ⊢
    have k0 : decide (x < 0) = false := decide_eq_false h1
    have k1 : decide (0 ≤ x) = true := decide_eq_true hs
    clear e1 h1 hs
    go_enter Try.func33, Try.ntmps33
    go_wp2_with fail
    refine (l05Cos_any a b c d _ ha hc).mono ?_
    rintro e w1 ⟨rfl, hb⟩
    have HB := Lib.hid (below_alloc2 hb)
    clear hb
    rw [hx.out]
    go_wp2_with fail
    refine (l03Arc_any x _).mono ?_
    rintro e w2 ⟨rfl, rfl⟩
    rw [hy.out]
    go_wp2_with fail
    refine (l00Max_v _ _ _).mono ?_
    rintro e w' ⟨rfl, rfl⟩
    go_wp2
    go_ret
    exact ⟨ret_int (by have := HS.out; omega), HB.out⟩
  · have h1 : x < 0 := by omega
    have y1 := arc_small (s := -x) (by omega)
    have e1 : distL a b c d = 324000 + (arcN (-x) : Int) := by unfold distL; rw [if_neg HE.out, hx.out, if_neg hs]
    rw [e1]
    obtain ⟨y, hy⟩ : ∃ y : Nat, Hid (arcN (-x) = y) := ⟨_, Lib.hid rfl⟩
    rw [hy.out] at y1 ⊢
    have k0 : decide (x < 0) = true := decide_eq_true h1
    have k1 : decide (0 ≤ x) = false := decide_eq_false hs
    have hs2 : x ≤ -1 := by omega
    clear e1 h1 hs
    go_enter Try.func33, Try.ntmps33
    go_wp2_with fail
    refine (l05Cos_any a b c d _ ha hc).mono ?_
    rintro e w1 ⟨rfl, hb⟩
    have HB := Lib.hid (below_alloc2 hb)
    clear hb
    rw [hx.out]
    go_wp2_with fail
    refine (l03Arc_any (-x) _).mono ?_
    rintro e w2 ⟨rfl, rfl⟩
    rw [hy.out]
    go_wp2
    go_ret
    exact ⟨rfl, HB.out⟩

set_option maxHeartbeats 1000000 in
theorem l05Distance_any (a b c d : Int) (w : World) (ha : okB a b = true) (hc : okB c d = true) :
    Calls Try.prog 33 #[.agg #[.int .i64 a, .int .i64 b], .agg #[.int .i64 c, .int .i64 d]] w fun e w' => e = .returned (.int .i64 (distL a b c d)) ∧ Below w.heap.size w w' := by
  by_cases h1 : a = c
  · subst h1
    by_cases h2 : b = d
    · subst h2
      rw [distL_self]
      go_enter Try.func33, Try.ntmps33
      go_wp2
      go_ret
      exact ⟨rfl, below_two _ _ _⟩
    · exact l05Distance_lon a b d w ha hc h2
  · exact l05Distance_lat a b c d w ha hc h1


def okTwo (a b c d : Int) : Bool := okB a b && okB c d
def codeD (a b c d : Int) : Int := if okTwo a b c d = true then 0 else 1
def ansD (a b c d x : Int) : Int := if okTwo a b c d = true then x else 0
theorem okTwo_of {a b c d : Int} (h : okTwo a b c d = true) : okB a b = true ∧ okB c d = true := by simpa [okTwo] using h




set_option maxRecDepth 100000 in
set_option maxHeartbeats 1000000 in
theorem specDistanceOf_any (a b c d : Int) (w : World) :
    Calls Try.prog 9 #[.agg #[.int .i64 a, .int .i64 b], .agg #[.int .i64 c, .int .i64 d]] w fun e w' => e = .returned (.tuple #[.int .i64 (ansD a b c d (distL a b c d)), .int .i64 (codeD a b c d)]) ∧ Below w.heap.size w w' := by
  cases h1 : okB a b with
  | false =>
    simp only [ansD, codeD, okTwo, h1]
    go_enter Try.func9, Try.ntmps9
    go_wp2_with fail
    refine (l02Ok_any a b _).mono ?_
    rw [h1]
    rintro e w1 ⟨rfl, o1, rfl⟩
    go_wp2
    exact bodyPost_ret (v := .tuple #[.int .i64 0, .int .i64 1]) (by simp [results, Try.results9, go_sem]) rfl ⟨rfl, (below_two _ _ _).alloc (by simp; omega) _⟩
  | true =>
    cases h2 : okB c d with
    | false =>
      simp only [ansD, codeD, okTwo, h1, h2]
      go_enter Try.func9, Try.ntmps9
      go_wp2_with fail
      refine (l02Ok_any a b _).mono ?_
      rw [h1]
      rintro e w1 ⟨rfl, o1, rfl⟩
      go_wp2_with fail
      refine (l02Ok_any c d _).mono ?_
      rw [h2]
      rintro e w1 ⟨rfl, o1, rfl⟩
      go_wp2
      exact bodyPost_ret (v := .tuple #[.int .i64 0, .int .i64 1]) (by simp [results, Try.results9, go_sem]) rfl ⟨rfl, ((below_two _ _ _).alloc (by simp; omega) _).alloc (by simp; omega) _⟩
    | true =>
      simp only [ansD, codeD, okTwo, h1, h2, Bool.and_self, if_true]
      go_enter Try.func9, Try.ntmps9
      go_wp2_with fail
      refine (l02Ok_any a b _).mono ?_
      rw [h1]
      rintro e w1 ⟨rfl, o1, rfl⟩
      go_wp2_with fail
      refine (l02Ok_any c d _).mono ?_
      rw [h2]
      rintro e w1 ⟨rfl, o1, rfl⟩
      go_wp2_with fail
      refine (l05Distance_any a b c d _ h1 h2).mono ?_
      rintro e w2 ⟨rfl, hb⟩
      have HB2 := Lib.hid ((((below_two w _ _).alloc (by simp; omega) _).alloc (by simp; omega) _).trans (hb.mono (by simp <;> omega)))
      clear hb
      go_wp2
      exact bodyPost_ret (v := .tuple #[.int .i64 (distL a b c d), .int .i64 0]) (by simp [results, Try.results9, go_sem]) rfl ⟨rfl, HB2.out⟩

end Go.Proofs.Ytkiimdfnobcdpaa.sines
