/- GoreWidths and WorstClosing of the model. -/
import Derived.Test.YtbnihalbepffoaaDoorGoreF
namespace Go.Proofs.YtbnihalbepffoaaDoor.sines
open Go.ChangeShapes Go.WideShapes Go.ChangeAt Go.RowKit Go.Proofs.YtbnihalbepffoaaDoor.spots Go.Proofs.YtbnihalbepffoaaDoor.irows
set_option linter.unusedVariables false
set_option linter.unusedSimpArgs false
/-- The code of gores, a circumference and a step. -/
def codeT (g a d : Int) : Int := codeG g (inB a 1 1000000 && inB d 3240 324000)
theorem codeT_yes {g a d : Int} (h : codeT g a d = 0) : goreB g = true ∧ 1 ≤ a ∧ a ≤ 1000000 ∧ 3240 ≤ d ∧ d ≤ 324000 := by
  cases h1 : goreB g <;> cases x : inB a 1 1000000 <;> cases y : inB d 3240 324000 <;> simp [codeT, codeG, h1, x, y] at h
  obtain ⟨a1, a2⟩ := inB_of x
  obtain ⟨l1, l2⟩ := inB_of y
  exact ⟨rfl, a1, a2, l1, l2⟩
theorem codeP_zero (g a : Int) : codeP g a 0 = codeG g (inB a 1 1000000) := by simp [codeP, inB]
theorem absI_facts {n B : Int} (h1 : -B ≤ n) (h2 : n ≤ B) : 0 ≤ absI n ∧ absI n ≤ B := by simp only [absI]; split <;> omega

theorem l00Size_any (n : Int) (w : World) (h1 : -1000000000000 ≤ n) (h2 : n ≤ 1000000000000) :
    Calls Tryd.prog 126 #[.int .i64 n] w fun e w' => e = .returned (.int .i64 (absI n)) ∧ w = w' := by
  by_cases h : n < 0
  · have k1 : IntKind.i64.wrap (-n) = -n := IntWalk.i64_in _ (by omega)
    go_enter Tryd.func126, Tryd.ntmps126
    go_wp2
    go_ret
    exact ⟨ret_int (by simp only [absI, if_pos h]), rfl⟩
  · go_enter Tryd.func126, Tryd.ntmps126
    go_wp2
    go_ret
    exact ⟨ret_int (by simp only [absI]; rw [if_neg (by omega)]), rfl⟩


set_option maxHeartbeats 400000 in
theorem l04Steps_no (g a d : Int) (w : World) (h : goreB g = false) :
    Calls Tryd.prog 75 #[.int .i64 g, .int .i64 a, .int .i64 d] w fun e w' => e = .returned (.int .i64 (1)) ∧ w = w' := by
  have e : codeP g a 0 = 1 := by rw [codeP_zero]; simp [codeG, h]
  go_enter Tryd.func75, Tryd.ntmps75
  go_wp2_with (first | (go_at_call 109; refine (l04Code_any _ _ _ _).mono ?_; rintro e w' ⟨rfl, rfl⟩; rw [e]) | (go_at_call 84; refine (l00In_any _ _ _ _).mono ?_; rintro e w' ⟨rfl, rfl⟩))
  go_ret
  exact ⟨rfl, rfl⟩
set_option maxHeartbeats 400000 in
theorem l04Steps_badA (g a d : Int) (w : World) (h : goreB g = true) (x : inB a 1 1000000 = false) :
    Calls Tryd.prog 75 #[.int .i64 g, .int .i64 a, .int .i64 d] w fun e w' => e = .returned (.int .i64 (2)) ∧ w = w' := by
  have e : codeP g a 0 = 2 := by rw [codeP_zero]; simp [codeG, h, x]
  go_enter Tryd.func75, Tryd.ntmps75
  go_wp2_with (first | (go_at_call 109; refine (l04Code_any _ _ _ _).mono ?_; rintro e w' ⟨rfl, rfl⟩; rw [e]) | (go_at_call 84; refine (l00In_any _ _ _ _).mono ?_; rintro e w' ⟨rfl, rfl⟩))
  go_ret
  exact ⟨rfl, rfl⟩
set_option maxHeartbeats 400000 in
theorem l04Steps_badD (g a d : Int) (w : World) (h : goreB g = true) (x : inB a 1 1000000 = true) (y : inB d 3240 324000 = false) :
    Calls Tryd.prog 75 #[.int .i64 g, .int .i64 a, .int .i64 d] w fun e w' => e = .returned (.int .i64 (2)) ∧ w = w' := by
  have e : codeP g a 0 = 0 := by rw [codeP_zero]; simp [codeG, h, x]
  go_enter Tryd.func75, Tryd.ntmps75
  go_wp2_with (first | (go_at_call 109; refine (l04Code_any _ _ _ _).mono ?_; rintro e w' ⟨rfl, rfl⟩; rw [e]) | (go_at_call 84; refine (l00In_any _ _ _ _).mono ?_; rintro e w' ⟨rfl, rfl⟩))
  go_ret
  exact ⟨rfl, rfl⟩
set_option maxHeartbeats 400000 in
theorem l04Steps_yes (g a d : Int) (w : World) (h : goreB g = true) (x : inB a 1 1000000 = true) (y : inB d 3240 324000 = true) :
    Calls Tryd.prog 75 #[.int .i64 g, .int .i64 a, .int .i64 d] w fun e w' => e = .returned (.int .i64 (0)) ∧ w = w' := by
  have e : codeP g a 0 = 0 := by rw [codeP_zero]; simp [codeG, h, x]
  go_enter Tryd.func75, Tryd.ntmps75
  go_wp2_with (first | (go_at_call 109; refine (l04Code_any _ _ _ _).mono ?_; rintro e w' ⟨rfl, rfl⟩; rw [e]) | (go_at_call 84; refine (l00In_any _ _ _ _).mono ?_; rintro e w' ⟨rfl, rfl⟩))
  go_ret
  exact ⟨rfl, rfl⟩
theorem l04Steps_any (g a d : Int) (w : World) :
    Calls Tryd.prog 75 #[.int .i64 g, .int .i64 a, .int .i64 d] w fun e w' => e = .returned (.int .i64 (codeT g a d)) ∧ w = w' := by
  cases h : goreB g with
  | false => refine (l04Steps_no _ _ _ _ h).mono ?_; rintro e w' ⟨rfl, hw⟩; exact ⟨ret_int (by simp [codeT, codeG, h]), hw⟩
  | true =>
    cases x : inB a 1 1000000 with
    | false => refine (l04Steps_badA _ _ _ _ h x).mono ?_; rintro e w' ⟨rfl, hw⟩; exact ⟨ret_int (by simp [codeT, codeG, h, x]), hw⟩
    | true =>
      cases y : inB d 3240 324000 with
      | false => refine (l04Steps_badD _ _ _ _ h x y).mono ?_; rintro e w' ⟨rfl, hw⟩; exact ⟨ret_int (by simp [codeT, codeG, h, x, y]), hw⟩
      | true => refine (l04Steps_yes _ _ _ _ h x y).mono ?_; rintro e w' ⟨rfl, hw⟩; exact ⟨ret_int (by simp [codeT, codeG, h, x, y]), hw⟩


theorem specGoreWidths_bad (g a d : Int) (w : World) (h : codeT g a d ≠ 0) :
    Calls Tryd.prog 25 #[.int .i64 g, .int .i64 a, .int .i64 d] w fun e w' => e = .returned (.tuple #[.slice none 0 0, .int .i64 (codeT g a d)]) ∧ w = w' := by
  obtain ⟨c, hc⟩ : ∃ c, codeT g a d = c := ⟨_, rfl⟩
  rw [hc] at h ⊢
  go_enter Tryd.func25, Tryd.ntmps25
  go_wp2_with (go_at_call 75; refine (l04Steps_any _ _ _ _).mono ?_; rintro e w' ⟨rfl, rfl⟩; rw [hc])
  exact bodyPost_ret (v := .tuple #[.slice none 0 0, .int .i64 c]) (by simp [results, Tryd.results25, go_sem]) rfl ⟨rfl, rfl⟩



theorem step_at {d : Int} {k : Nat} (h1 : 3240 ≤ d) (h2 : d ≤ 324000) (h : k ≤ stepsN d) : 0 ≤ (k : Int) * d ∧ (k : Int) * d ≤ 648000 := by
  refine ⟨Int.mul_nonneg (by omega) (by omega), ?_⟩
  cases k with
  | zero => simp
  | succ k =>
    have := (stepsN_iff (d := d) (k := k) (by omega)).2 (by omega)
    have e : ((k + 1 : Nat) : Int) * d = (k : Int) * d + d := by simp [Int.add_mul]
    omega

set_option maxRecDepth 100000 in
set_option maxHeartbeats 1000000 in
theorem specGoreWidths_ok (g a d : Int) (w : World) (h : codeT g a d = 0) :
    Calls Tryd.prog 25 #[.int .i64 g, .int .i64 a, .int .i64 d] w fun e w' => ∃ v : Value, e = .returned (.tuple #[v, .int .i64 0]) ∧ IRow w' w.heap.size v (widthsL g a d (stepsN d)) ∧ Below w.heap.size w w' := by
  obtain ⟨hg, a1, a2, d1, d2⟩ := codeT_yes h
  obtain ⟨g1, g2, _⟩ := goreB_facts hg
  have hN := stepsN_le d1
  obtain ⟨i0, hi, hz0, hz1, hz2⟩ := info_parts info_int
  go_enter Tryd.func25, Tryd.ntmps25
  go_wp2_with (go_at_call 75; refine (l04Steps_any _ _ _ _).mono ?_; rintro e w' ⟨rfl, rfl⟩; rw [h])
  go_loopw [9, 10] (fun v i wr => ∃ (k : Nat) (z : Int), k ≤ stepsN d ∧ z = (k : Int) * d ∧ i = .int .i64 z ∧ wr.ownsRow w.heap.size 2 1 v k (ints (widthsL g a d k)) ∧ Below w.heap.size w wr) (fun _ i _ => (700000 - intOf i).toNat)
  case atStart => exact ⟨0, 0, Nat.zero_le _, by simp, rfl, World.ownsRow_made w #[] 0 (Nat.le_refl _) (by decide) rfl, (Below.refl _ _).alloc (Nat.le_refl _) _⟩
  case round =>
    obtain ⟨k, z, hk, hz, rfl, hown, hbel⟩ := hrel
    have hsz := hbel.size
    obtain ⟨b1, b2⟩ := step_at d1 d2 hk
    have hit := @stepsN_iff d k (by omega)
    rw [← hz] at hit b1 b2
    have HZ := Lib.hid hz
    have HO := Lib.hid hown
    have HB := Lib.hid hbel
    clear hown hbel hz
    by_cases hlt : k < stepsN d
    · have hle := hit.2 hlt
      clear hit
      have k1 : IntKind.i64.wrap (z + d) = z + d := IntWalk.i64_in _ (by omega)
      go_wp2_with fail
      refine (l04Width_any g a z _ (by omega) g2 a1 a2 (by omega) hle).mono ?_
      rintro e w1 ⟨rfl, rfl⟩
      have TS := Lib.hid (show widthsL g a d (k + 1) = widthsL g a d k ++ [gpart g a z] by rw [widthsL_succ, ← HZ.out])
      generalize gpart g a z = s at TS
      have K2 := Lib.hid (show ∀ j u, ([.int .i64 s] : List Value)[j]? = some u → (wr.alloc (.cells #[.int .i64 s] 2)).cell? ((⟨wr.heap.size, 0, none⟩ : Addr).add j) = some u from fun j u hj => by
        match j, hj with
        | 0, hj => simp at hj; subst hj; simp [Addr.add])
      have K22 := Lib.hid (show ∀ u ∈ ([.int .i64 s] : List Value), u.oneCell' = true from fun u hu => by simp at hu; subst hu; rfl)
      have K3 := Lib.hid (show k + 1 ≤ maxLen by unfold maxLen; omega)
      have K4 := Lib.hid (show (k + 1) * 8 ≤ 140737488355328 by omega)
      have K5 := Lib.hid (show w.heap.size ≤ (wr.alloc (.cells #[.int .i64 s] 2)).heap.size from by simp; omega)
      go_wp2_with (at_builtin; refine wpList_append_own _ rfl _ _ 44 rfl w.heap.size 2 i0 (.int .i64 0) 1 8 Tryd.underlying44 hi hz0 hz1 hz2 rfl (by decide) _ k _ rfl (HO.out.alloc _) ⟨wr.heap.size, 0, none⟩ 1 1 [.int .i64 s] rfl rfl K2.out K22.out K3.out K4.out K5.out ?_; intro v1 w1 hown1 hg1 _)
      go_roundw
      case rel => exact ⟨k + 1, z + d, by omega, by rw [HZ.out]; simp [Int.add_mul], rfl, by rw [TS.out]; simpa [ints] using hown1, (HB.out.alloc hsz _).grown hg1 K5.out (fun j hj => (HO.out.lt j hj).1)⟩
      case measure => simp [intOf]; omega
    · obtain rfl : k = stepsN d := by omega
      have hgt : 324000 < z := by omega
      clear hit
      go_wp2
      exact bodyPost_ret (by simp [results, Tryd.results25, go_sem]; rfl) rfl ⟨_, rfl, by unfold IRow; rw [widthsL_len]; exact HO.out, HB.out⟩



end Go.Proofs.YtbnihalbepffoaaDoor.sines
