/- The worst step of a table: contracts of the program and of the model. -/
import Derived.Test.YtbnihalbepffoaaArr
import Derived.Laws.Cover1
namespace Go.Proofs.Ytbnihalbepffoaa.sines
open Go.ChangeShapes Go.WideShapes Go.ChangeAt Go.RowKit Go.Proofs.Ytbnihalbepffoaa.spots Go.Proofs.Ytbnihalbepffoaa.irows

/-- The size of a number. -/
def absI (n : Int) : Int := if n < 0 then -n else n
theorem absI_nonneg (n : Int) : 0 ≤ absI n := by unfold absI; split <;> omega
/-- The greatest difference of neighbours among the first k + 1 sines. -/
def worstN (d : Int) : Nat → Int
  | 0 => 0
  | k + 1 => if absI (sineL (((k + 1 : Nat) : Int) * d) - sineL ((k : Int) * d)) > worstN d k then absI (sineL (((k + 1 : Nat) : Int) * d) - sineL ((k : Int) * d)) else worstN d k
theorem worstN_bounds (d : Int) : ∀ k, 0 ≤ worstN d k ∧ worstN d k ≤ 2000000
  | 0 => by simp [worstN]
  | k + 1 => by
    have h := worstN_bounds d k
    have h1 := sineL_bounds (((k + 1 : Nat) : Int) * d)
    have h2 := sineL_bounds ((k : Int) * d)
    rw [worstN]
    unfold absI
    split
    · split <;> omega
    · omega

set_option maxRecDepth 100000 in
set_option maxHeartbeats 1000000 in
theorem implWorst_yes (d : Int) (m : Nat) (w : World) (h : inB d 1 324000 = true) (g : inB (m : Int) 1 100 = true) :
    Calls Try.prog 19 #[.int .i64 d, .int .i64 (m : Int)] w fun e w' => e = .returned (.tuple #[.int .i64 (worstN d (m - 1)), .int .i64 0]) ∧ Below w.heap.size w w' := by
  obtain ⟨d1, d2⟩ := inB_of h
  obtain ⟨m1, m2⟩ := inB_of g
  obtain ⟨Z, hZ⟩ : ∃ Z : Array Value, Hid (Array.replicate 100 (Value.int .i64 0) = Z) := ⟨_, Lib.hid rfl⟩
  obtain ⟨hz, hs⟩ := zero_of_info (P := Try.prog) (t := 51) (v := .agg Z) (n := 100) (by rw [← hZ.out]; kernel_rfl)
  have HS := Lib.hid hs
  clear hs
  go_enter Try.func19, Try.ntmps19
  go_wp2_with (first | (go_at_call 37; refine (isStep_any _ _).mono ?_; rintro e w' ⟨rfl, rfl⟩) | (go_at_call 38; refine (isTableSize_any _ _).mono ?_; rintro e w' ⟨rfl, rfl⟩))
  go_wp2_with fail
  refine (sinesOf_any d m w d1 d2 (by omega)).mono ?_
  rintro e w1 ⟨rfl, hb⟩
  obtain ⟨C, hC⟩ : ∃ C, Hid (rowA d m = C) := ⟨_, Lib.hid rfl⟩
  rw [hC.out]
  have hsz : C.size = 100 := by rw [← hC.out]; exact rowA_size d m (by omega)
  have hzs : Z.size = 100 := by rw [← hZ.out]; simp
  have hone : C.all (·.oneCell') = true := by rw [← hC.out]; exact rowA_one d m
  have HI := Lib.hid (show (Try.prog.info? 51).map (·.size) = some C.size by rw [HS.out, hsz])
  have HB := Lib.hid (hb.alloc hb.size (.cells C 51))
  clear hb
  obtain ⟨r, hr⟩ : ∃ r : Nat, m = r + 1 := ⟨m - 1, by omega⟩
  have hmr : (m : Int) - 1 = (r : Int) := by omega
  have hrw : IntKind.i64.wrap (r : Int) = (r : Int) := IntWalk.i64_in _ (by omega)
  have HR := Lib.hid hr
  have hr100 : r < 100 := by omega
  have HC := Lib.hid (show ∀ j, j ≤ r → (w1.alloc (.cells C 51)).cell? ⟨w1.heap.size, j, none⟩ = some (.int .i64 (sineL ((j : Int) * d))) from fun j hj => row_cell _ _ _ _ _ (by rw [← hC.out]; exact rowA_at d m j (by omega)))
  clear hr
  go_wp2_with (refine wpList_store_row rfl 51 _ _ rfl w1.heap.size C rfl rfl 51 Z (heap_alloc_last _ _) HI.out (by rw [hzs, hsz]) hone ?_; rw [World.setRow_alloc_new])
  obtain ⟨W, hW⟩ : ∃ W, Hid (w1.alloc (.cells C 51) = W) := ⟨_, Lib.hid rfl⟩
  rw [hW.out] at HB HC ⊢
  generalize w1.heap.size = b at HC ⊢
  go_loopw [7, 8, 9, 23] (fun v _ _ i wr => ∃ k q : Nat, k ≤ r ∧ i = .int .i64 (k : Int) ∧ v = .int .i64 (worstN d k) ∧ wr = W.drewN q) (fun _ _ _ i _ => r - (intOf i).toNat)
  case atStart => exact ⟨0, 0, by omega, rfl, rfl, rfl⟩
  case round =>
    obtain ⟨k, q, hk, rfl, rfl, rfl⟩ := hrel
    by_cases hlt : k < r
    · have hc1 := HC.out k (by omega)
      have hc2 := HC.out (k + 1) (by omega)
      obtain ⟨j, hj⟩ : ∃ j : Nat, j = k + 1 := ⟨_, rfl⟩
      have hji : (k : Int) + 1 = (j : Int) := by omega
      have hk0 : 0 ≤ (k : Int) := by omega
      have hk1 : (k : Int) < (r : Int) := by omega
      have hj0 : 0 ≤ (j : Int) := by omega
      have hj1 : (j : Int) < 100 := by omega
      have hjw : IntKind.i64.wrap (j : Int) = (j : Int) := IntWalk.i64_in _ (by omega)
      have b1 := sineL_bounds ((k : Int) * d)
      have b2 := sineL_bounds (((k + 1 : Nat) : Int) * d)
      have WN := Lib.hid (show worstN d (k + 1) = _ from worstN.eq_2 d k)
      have b3 := worstN_bounds d k
      generalize sineL ((k : Int) * d) = s1 at hc1 b1 WN
      generalize sineL (((k + 1 : Nat) : Int) * d) = s2 at hc2 b2 WN
      rw [← hj] at hc2
      obtain ⟨b11, b12⟩ := b1
      obtain ⟨b21, b22⟩ := b2
      have hks : IntKind.i64.wrap (s2 - s1) = s2 - s1 := IntWalk.i64_in _ (by omega)
      have hks2 : IntKind.i64.wrap (-(s2 - s1)) = -(s2 - s1) := IntWalk.i64_in _ (by omega)
      have HJ := Lib.hid hj
      clear hj
      generalize worstN d k = wk at WN b3 ⊢
      go_wp2
      go_quiet (fail)
      go_wp2
      go_roundw
      case rel => exact ⟨k + 1, _, by omega, by go_num, by rw [WN.out]; congr 1; unfold absI; split <;> split <;> (first | omega | (split <;> (first | omega | (split <;> (first | omega | (split <;> omega)))))), rfl⟩
      case measure => simp [intOf]; omega
    · obtain rfl : k = r := by omega
      have hlt' : ¬ (k : Int) < (k : Int) := by omega
      go_wp2
      exact bodyPost_ret (v := .tuple #[.int .i64 (worstN d k), .int .i64 0]) (by simp [results, Try.results19, go_sem]) rfl ⟨by rw [HR.out, Nat.add_sub_cancel], bdr HB.out q⟩
--END
end Go.Proofs.Ytbnihalbepffoaa.sines
