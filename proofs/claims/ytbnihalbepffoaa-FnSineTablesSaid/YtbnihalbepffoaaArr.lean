/- The program's array of sines; tables of sines; the worst step: contracts of the program and of the model. -/
import Derived.Test.YtbnihalbepffoaaTab
namespace Go.Proofs.Ytbnihalbepffoaa.sines
open Go.ChangeShapes Go.WideShapes Go.ChangeAt Go.RowKit Go.Proofs.Ytbnihalbepffoaa.spots Go.Proofs.Ytbnihalbepffoaa.irows
/-- The program's array: the first k sines, then zeros. -/
def rowA (d : Int) (k : Nat) : Array Value := (ints (tabL d k) ++ List.replicate (100 - k) (Value.int .i64 0)).toArray
theorem rowA_size (d : Int) (k : Nat) (h : k ≤ 100) : (rowA d k).size = 100 := by simp [rowA, ints_len, tabL_len]; omega
theorem rowA_zero (d : Int) : rowA d 0 = Array.replicate 100 (Value.int .i64 0) := by
  apply Array.toList_inj.1
  rw [Array.toList_replicate]
  rfl
theorem rowA_set (d : Int) (k : Nat) (h : k < 100) : (rowA d k).setIfInBounds k (.int .i64 (sineL ((k : Int) * d))) = rowA d (k + 1) := by
  have e : 100 - k = (100 - (k + 1)) + 1 := by omega
  have hl : (ints (tabL d k)).length = k := by rw [ints_len, tabL_len]
  simp only [rowA, List.setIfInBounds_toArray]
  rw [List.set_append_right _ _ (by omega), hl, e, List.replicate_succ, Nat.sub_self, List.set_cons_zero, tabL_succ]
  simp [ints]
theorem rowA_one (d : Int) (k : Nat) : (rowA d k).all (·.oneCell') = true := by
  rw [Array.all_eq_true_iff_forall_mem]
  intro x hx
  simp only [rowA, List.mem_toArray, List.mem_append] at hx
  rcases hx with hx | hx
  · exact ints_one _ x hx
  · rw [List.eq_of_mem_replicate hx]; rfl
theorem rowA_at (d : Int) (k j : Nat) (h : j < k) : (rowA d k)[j]? = some (.int .i64 (sineL ((j : Int) * d))) := by
  simp only [rowA, List.getElem?_toArray]
  rw [List.getElem?_append_left (by rw [ints_len, tabL_len]; exact h)]
  simp [ints, tabL, h]
theorem setRow_under (w : World) (Z C : Array Value) (t : TypeId) (o : Obj) : ((w.alloc (.cells Z t)).alloc o).setRow w.heap.size C = (w.alloc (.cells C t)).alloc o := by
  simp only [World.setRow, World.alloc]
  congr 1
  apply Array.ext_getElem?
  intro i
  rw [Array.getElem?_modify]
  by_cases h : w.heap.size = i
  · subst h
    simp [Array.getElem?_push]
  · have h' : ¬ i = w.heap.size := fun e => h e.symm
    simp [h, h', Array.getElem?_push]
theorem heap_under (w : World) (a o : Obj) : ((w.alloc a).alloc o).heap[w.heap.size]? = some a := by
  show ((w.heap.push a).push o)[w.heap.size]? = some a
  simp [Array.getElem?_push]
theorem heap_top (w : World) (a o : Obj) : ((w.alloc a).alloc o).heap[w.heap.size + 1]? = some o := by
  have h : w.heap.size + 1 = (w.heap.push a).size := by simp
  show ((w.heap.push a).push o)[w.heap.size + 1]? = some o
  rw [h]
  exact Array.getElem?_push_size
set_option maxHeartbeats 1000000 in
theorem sinesOf_any (d : Int) (m : Nat) (w : World) (h1 : 1 ≤ d) (h2 : d ≤ 324000) (hm : m ≤ 100) :
    Calls Try.prog 39 #[.int .i64 d, .int .i64 (m : Int)] w fun e w' => e = .returned (.agg (rowA d m)) ∧ Below w.heap.size w w' := by
  obtain ⟨Z, hZ⟩ : ∃ Z : Array Value, Hid (Array.replicate 100 (Value.int .i64 0) = Z) := ⟨_, Lib.hid rfl⟩
  obtain ⟨hz, hs⟩ := zero_of_info (P := Try.prog) (t := 51) (v := .agg Z) (n := 100) (by rw [← hZ.out]; kernel_rfl)
  have HS := Lib.hid hs
  clear hs
  go_enter Try.func39, Try.ntmps39
  go_wp2
  go_loopw [6, 8] (fun _ i wr => ∃ (k : Nat) (C : Array Value), k ≤ m ∧ i = .int .i64 (k : Int) ∧ C = rowA d k ∧ wr = (w.alloc (.cells Z 51)).alloc (.cells C 51)) (fun _ i _ => m - (intOf i).toNat)
  case atStart => exact ⟨0, Z, Nat.zero_le _, rfl, by rw [rowA_zero, hZ.out], rfl⟩
  case round =>
    obtain ⟨k, C, hk, rfl, hC, rfl⟩ := hrel
    have hsz : C.size = 100 := by rw [hC]; exact rowA_size d k (by omega)
    have HC := Lib.hid hC
    clear hC
    by_cases hlt : k < m
    · obtain ⟨s1, s2⟩ := step_bounds h1 h2 hlt hm
      have k1 : IntKind.i64.wrap ((k : Int) * d) = (k : Int) * d := IntWalk.i64_in _ (by omega)
      have hlt' : (k : Int) < (m : Int) := by omega
      have hk0 : 0 ≤ (k : Int) := by omega
      have hk1 : (k : Int) < 100 := by omega
      go_wp2_with fail
      refine (sineAt_any _ _ (by omega) (by omega)).mono ?_
      rintro e w1 ⟨rfl, rfl⟩
      have hget : ∃ u, C[k]? = some u := ⟨_, Array.getElem?_eq_getElem (by omega)⟩
      obtain ⟨u, hu⟩ := hget
      go_wp2
      go_roundw
      case rel => exact ⟨k + 1, _, by omega, by go_num, by rw [HC.out]; exact rowA_set d k (by omega), rfl⟩
      case measure => simp [intOf]; omega
    · obtain rfl : k = m := by omega
      have hone : C.all (·.oneCell') = true := by rw [HC.out]; exact rowA_one d k
      have hzs : Z.size = 100 := by rw [← hZ.out]; simp
      have hi : (Try.prog.info? 51).map (·.size) = some C.size := by rw [HS.out, hsz]
      have HI := Lib.hid hi
      clear hi
      go_wp2_with (first | (refine wpList_load_row rfl 51 _ rfl (w.heap.size + 1) rfl 51 C (0, 0) _ (heap_top _ _ _) Try.underlying51 rfl HI.out ?_) | (refine wpList_store_row rfl 51 _ _ rfl w.heap.size C rfl rfl 51 Z (heap_under _ _ _) HI.out (by rw [hzs, hsz]) hone ?_))
      rw [setRow_under]
      refine bodyPost_ret (v := .agg C) ?_ rfl ⟨by rw [HC.out], ((Below.refl _ _).alloc (Nat.le_refl _) _).alloc (by simp) _⟩
      exact results_cell_row rfl _ _ w.heap.size 51 C (0, 0) _ rfl (heap_under _ _ _) Try.underlying51 rfl HI.out
theorem implTable_bad (d n : Int) (w : World) (h : inB d 1 324000 = false) :
    Calls Try.prog 18 #[.int .i64 d, .int .i64 n] w fun e w' => e = .returned (.tuple #[.slice none 0 0, .int .i64 2]) ∧ w = w' := by
  go_enter Try.func18, Try.ntmps18
  go_wp2_with (first | (go_at_call 37; refine (isStep_any _ _).mono ?_; rintro e w' ⟨rfl, rfl⟩) | (go_at_call 38; refine (isTableSize_any _ _).mono ?_; rintro e w' ⟨rfl, rfl⟩))
  exact bodyPost_ret (v := .tuple #[.slice none 0 0, .int .i64 2]) (by simp [results, Try.results18, go_sem]) rfl ⟨rfl, rfl⟩
theorem implTable_badN (d n : Int) (w : World) (h : inB d 1 324000 = true) (g : inB n 1 100 = false) :
    Calls Try.prog 18 #[.int .i64 d, .int .i64 n] w fun e w' => e = .returned (.tuple #[.slice none 0 0, .int .i64 2]) ∧ w = w' := by
  go_enter Try.func18, Try.ntmps18
  go_wp2_with (first | (go_at_call 37; refine (isStep_any _ _).mono ?_; rintro e w' ⟨rfl, rfl⟩) | (go_at_call 38; refine (isTableSize_any _ _).mono ?_; rintro e w' ⟨rfl, rfl⟩))
  exact bodyPost_ret (v := .tuple #[.slice none 0 0, .int .i64 2]) (by simp [results, Try.results18, go_sem]) rfl ⟨rfl, rfl⟩
theorem implWorst_bad (d n : Int) (w : World) (h : inB d 1 324000 = false) :
    Calls Try.prog 19 #[.int .i64 d, .int .i64 n] w fun e w' => e = .returned (.tuple #[.int .i64 0, .int .i64 2]) ∧ w = w' := by
  go_enter Try.func19, Try.ntmps19
  go_wp2_with (first | (go_at_call 37; refine (isStep_any _ _).mono ?_; rintro e w' ⟨rfl, rfl⟩) | (go_at_call 38; refine (isTableSize_any _ _).mono ?_; rintro e w' ⟨rfl, rfl⟩))
  exact bodyPost_ret (v := .tuple #[.int .i64 0, .int .i64 2]) (by simp [results, Try.results19, go_sem]) rfl ⟨rfl, rfl⟩
theorem implWorst_badN (d n : Int) (w : World) (h : inB d 1 324000 = true) (g : inB n 1 100 = false) :
    Calls Try.prog 19 #[.int .i64 d, .int .i64 n] w fun e w' => e = .returned (.tuple #[.int .i64 0, .int .i64 2]) ∧ w = w' := by
  go_enter Try.func19, Try.ntmps19
  go_wp2_with (first | (go_at_call 37; refine (isStep_any _ _).mono ?_; rintro e w' ⟨rfl, rfl⟩) | (go_at_call 38; refine (isTableSize_any _ _).mono ?_; rintro e w' ⟨rfl, rfl⟩))
  exact bodyPost_ret (v := .tuple #[.int .i64 0, .int .i64 2]) (by simp [results, Try.results19, go_sem]) rfl ⟨rfl, rfl⟩

theorem row_cell (W : World) (C : Array Value) (t : TypeId) (j : Nat) (v : Value) (h : C[j]? = some v) : (W.alloc (.cells C t)).cell? ⟨W.heap.size, j, none⟩ = some v := by
  rw [cell_of_row _ _ j C t (0, 0) (heap_alloc_last W _)]
  exact h
/-- The program's array, as its caller holds it. -/
theorem rowA_ints (d : Int) (m j : Nat) (u : Value) (h : (ints (tabL d m))[j]? = some u) : (rowA d m)[j]? = some u := by
  have hj : j < m := by
    have := (List.getElem?_eq_some_iff.1 h).1
    rwa [ints_len, tabL_len] at this
  rw [rowA_at d m j hj, ← h]
  simp [ints, tabL, hj]

set_option maxHeartbeats 1000000 in
theorem implTable_yes (d : Int) (m : Nat) (w : World) (h : inB d 1 324000 = true) (g : inB (m : Int) 1 100 = true) :
    Calls Try.prog 18 #[.int .i64 d, .int .i64 (m : Int)] w fun e w' => ∃ v : Value, e = .returned (.tuple #[v, .int .i64 0]) ∧ IRow w' w.heap.size v (tabL d m) ∧ Below w.heap.size w w' := by
  obtain ⟨d1, d2⟩ := inB_of h
  obtain ⟨m1, m2⟩ := inB_of g
  obtain ⟨Z, hZ⟩ : ∃ Z : Array Value, Hid (Array.replicate 100 (Value.int .i64 0) = Z) := ⟨_, Lib.hid rfl⟩
  obtain ⟨hz, hs⟩ := zero_of_info (P := Try.prog) (t := 51) (v := .agg Z) (n := 100) (by rw [← hZ.out]; kernel_rfl)
  have HS := Lib.hid hs
  clear hs
  obtain ⟨i0, hi, hz0, hz1, hz2⟩ := info_parts info_int
  go_enter Try.func18, Try.ntmps18
  go_wp2_with (first | (go_at_call 37; refine (isStep_any _ _).mono ?_; rintro e w' ⟨rfl, rfl⟩) | (go_at_call 38; refine (isTableSize_any _ _).mono ?_; rintro e w' ⟨rfl, rfl⟩))
  go_wp2_with fail
  refine (sinesOf_any d m w d1 d2 (by omega)).mono ?_
  rintro e w1 ⟨rfl, hb⟩
  obtain ⟨C, hC⟩ : ∃ C, Hid (rowA d m = C) := ⟨_, Lib.hid rfl⟩
  rw [hC.out]
  have hsz : C.size = 100 := by rw [← hC.out]; exact rowA_size d m (by omega)
  have hzs : Z.size = 100 := by rw [← hZ.out]; simp
  have hone : C.all (·.oneCell') = true := by rw [← hC.out]; exact rowA_one d m
  have HI := Lib.hid (show (Try.prog.info? 51).map (·.size) = some C.size by rw [HS.out, hsz])
  have HB := Lib.hid hb
  clear hb
  have hm0 : 0 ≤ (m : Int) := by omega
  have hm1 : (m : Int) ≤ 100 := by omega
  go_wp2_with (refine wpList_store_row rfl 51 _ _ rfl w1.heap.size C rfl rfl 51 Z (heap_alloc_last _ _) HI.out (by rw [hzs, hsz]) hone ?_; rw [World.setRow_alloc_new])
  have HCl := Lib.hid (Try.slices_Clone i0 (.int .i64 0) 1 8 hi hz0 hz1 hz2 rfl (by decide) Try.sizeOf2 w1.heap.size 0 m 100 (ints (tabL d m)) (w1.alloc (.cells C 51)) (by rw [ints_len, tabL_len]; omega) (by unfold maxLen; omega) (by omega) (fun j u hj => by rw [Nat.zero_add]; exact row_cell _ _ _ _ _ (by rw [← hC.out]; exact rowA_ints d m j u hj)) (ints_one _))
  refine HCl.out.mono ?_
  rintro e w2 ⟨v, rfl, hown, _, hb2⟩
  have HO := Lib.hid hown
  have HB2 := Lib.hid hb2
  clear hown hb2
  go_wp2
  exact bodyPost_ret (v := .tuple #[v, .int .i64 0]) (by simp [results, Try.results18, go_sem]) rfl ⟨v, rfl, irow_up (by unfold IRow; rw [tabL_len]; exact HO.out) (by have := HB.out.size; simp; omega), (HB.out.alloc HB.out.size _).trans (HB2.out.mono (by have := HB.out.size; simp; omega))⟩
end Go.Proofs.Ytbnihalbepffoaa.sines
