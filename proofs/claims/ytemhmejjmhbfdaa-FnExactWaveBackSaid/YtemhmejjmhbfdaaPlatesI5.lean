/- The program's codes of maps, and its places drawn and read: contracts. -/
import Derived.OrdersHeld
import Derived.Test.YtemhmejjmhbfdaaPlatesI4
import Derived.Test.YtemhmejjmhbfdaaPlatesR
namespace Go.Proofs.Ytemhmejjmhbfdaa.sines
open Go.ChangeShapes Go.WideShapes Go.ChangeAt Go.RowKit Go.Proofs.Ytemhmejjmhbfdaa.spots Go.Proofs.Ytemhmejjmhbfdaa.pairs
set_option linter.unusedSimpArgs false
set_option linter.unusedVariables false


def projT (wave : Bool) : TypeId := if wave = true then 156 else 157
theorem draw_any (lat lon s : Int) (wave : Bool) (w : World) (h : okB lat lon = true) (s0 : 1 ≤ s) (s1 : s ≤ 100000) :
    Calls Try.prog 149 #[.agg #[.iface (projT wave) (.agg #[]), .int .i64 s], .agg #[.int .i64 lat, .int .i64 lon]] w fun e w' => e = .returned (.agg #[.int .i64 (drX lat lon s wave), .int .i64 (near lat s)]) ∧ Below w.heap.size w w' := by
  cases wave with
  | true => exact drawW_any lat lon s w h s0 s1
  | false => exact drawS_any lat lon s w h s0 s1
theorem read_any (x y s : Int) (wave : Bool) (w : World) (x0 : -2000000 ≤ x) (x1 : x ≤ 2000000) (y0 : -2000000 ≤ y) (y1 : y ≤ 2000000) (s0 : 1 ≤ s) (s1 : s ≤ 100000) :
    Calls Try.prog 104 #[.agg #[.iface (projT wave) (.agg #[]), .int .i64 s], .agg #[.int .i64 x, .int .i64 y]] w fun e w' => e = .returned (.tuple #[.agg #[.int .i64 (rdLat x y s wave), .int .i64 (rdLon x y s wave)], .bool (rdOk x y s wave)]) ∧ Below w.heap.size w w' := by
  cases wave with
  | true =>
    refine (readW_z x y s w x0 x1 y0 y1 s0 s1).mono ?_
    rintro e w' ⟨⟨z, hz, rfl⟩, hb⟩
    refine ⟨?_, hb⟩
    obtain ⟨k1, k2⟩ := readW_math s0 hz
    have e1 : rdOk x y s true = wbOk x y s := rfl
    simp only [rdLat, rdLon, e1, k1, if_true]
    cases hk : wbOk x y s with
    | true => obtain ⟨a, b⟩ := k2 hk; simp only [if_true]; rw [a, b]
    | false => simp
  | false =>
    refine (readS_z x y s w x0 x1 y0 y1 s0 s1).mono ?_
    rintro e w' ⟨⟨z, hz, rfl⟩, hb⟩
    refine ⟨?_, hb⟩
    obtain ⟨k1, k2⟩ := readS_math (y := y) hz
    have e1 : rdOk x y s false = okB (y * s) (x * s) := rfl
    simp only [rdLat, rdLon, e1, k1, Bool.false_eq_true, if_false]
    cases hk : okB (y * s) (x * s) with
    | true => rw [k2 (by rw [k1]; exact hk)]
    | false => simp
theorem mapOf_any (s : Int) (wave : Bool) (w : World) :
    Calls Try.prog 78 #[.int .i64 s, .bool wave] w fun e w' => e = .returned (.agg #[.iface (projT wave) (.agg #[]), .int .i64 s]) ∧ Below w.heap.size w w' := by
  have B0 := Lib.hid ((Below.refl w.heap.size w).alloc (Nat.le_refl _) (.cells #[.nilIface, .int .i64 0] 98))
  cases wave with
  | true =>
    obtain ⟨q0, q1, q2⟩ := stored2 (heap_alloc_new w (.cells #[.nilIface, .int .i64 0] 98)) (.iface 156 (.agg #[])) (.int .i64 s)
    go_enter Try.func78, Try.ntmps78
    go_wp2
    exact bodyPost_ret (v := .agg #[.iface 156 (.agg #[]), .int .i64 s]) (by simp [results, Try.results78, go_sem, q0, q1, q2]) rfl ⟨rfl, by repeat (first | assumption | exact Below.refl _ _ | refine Below.drew ?_ | refine bdQ ?_ _ | refine Below.setCell ?_ (by first | exact Nat.le_refl _ | omega | (simp; done) | (simp; omega)) _ | refine Below.alloc ?_ (by first | exact Nat.le_refl _ | omega | (simp; done) | (simp; omega)) _)⟩
  | false =>
    obtain ⟨q0, q1, q2⟩ := stored2 (heap_alloc_new w (.cells #[.nilIface, .int .i64 0] 98)) (.iface 157 (.agg #[])) (.int .i64 s)
    go_enter Try.func78, Try.ntmps78
    go_wp2
    exact bodyPost_ret (v := .agg #[.iface 157 (.agg #[]), .int .i64 s]) (by simp [results, Try.results78, go_sem, q0, q1, q2]) rfl ⟨rfl, by repeat (first | assumption | exact Below.refl _ _ | refine Below.drew ?_ | refine bdQ ?_ _ | refine Below.setCell ?_ (by first | exact Nat.le_refl _ | omega | (simp; done) | (simp; omega)) _ | refine Below.alloc ?_ (by first | exact Nat.le_refl _ | omega | (simp; done) | (simp; omega)) _)⟩
theorem isFlat_any (x y : Int) (w : World) :
    Calls Try.prog 103 #[.agg #[.int .i64 x, .int .i64 y]] w fun e w' => e = .returned (.bool (inB x (-2000000) 2000000 && inB y (-2000000) 2000000)) ∧ Below w.heap.size w w' := by
  generalize h2 : inB x (-2000000) 2000000 = b2
  generalize h3 : inB y (-2000000) 2000000 = b3
  cases b2 <;> cases b3
  all_goals
    go_enter Try.func103, Try.ntmps103
    go_wp2_with (go_at_call 107; refine (within_any _ _ _ _).mono ?_; (first | rw [h2] | rw [h3]); rintro e w' ⟨rfl, rfl⟩)
    go_ret
    exact ⟨rfl, by repeat (first | assumption | exact Below.refl _ _ | refine Below.drew ?_ | refine bdQ ?_ _ | refine Below.setCell ?_ (by first | exact Nat.le_refl _ | omega | (simp; done) | (simp; omega)) _ | refine Below.alloc ?_ (by first | exact Nat.le_refl _ | omega | (simp; done) | (simp; omega)) _)⟩
/-- The code of places, a scale, and what else is asked. -/
def codeP (ps : List (Int × Int)) (s : Int) (b : Bool) : Int := if okL ps = true then (if (inB s 1 100000 && b) = true then 0 else 2) else 1
set_option maxHeartbeats 1000000 in
theorem code_any (T : TypeId) (s : Int) (b : Bool) (v : Value) (ps : List (Int × Int)) (w : World) (hv : PAt w w.heap.size v ps) (hl : ps.length ≤ 1048576) :
    Calls Try.prog 94 #[.agg #[.iface T (.agg #[]), .int .i64 s], .bool b, v] w fun e w' => e = .returned (.int .i64 (codeP ps s b)) ∧ Below w.heap.size w w' := by
  have B0 := Lib.hid ((Below.refl w.heap.size w).alloc (Nat.le_refl _) (.cells #[.iface T (.agg #[]), .int .i64 s] 98))
  have hvW := pat_up (pat_keep hv B0.out) B0.out.size
  have HV := Lib.hid (fun U (h : Below (w.alloc (.cells #[.iface T (.agg #[]), .int .i64 s] 98)).heap.size (w.alloc (.cells #[.iface T (.agg #[]), .int .i64 s] 98)) U) => areSpots_any v ps U (pat_up (pat_keep hvW h) h.size) hl)
  clear hvW
  obtain ⟨a, c, rfl, _⟩ := hv
  have z := heap_alloc_new w (.cells #[.iface T (.agg #[]), .int .i64 s] 98)
  obtain ⟨_, c2, _, _⟩ := cel2_cells z
  have hlt : w.heap.size < (w.alloc (.cells #[.iface T (.agg #[]), .int .i64 s] 98)).heap.size := by simp
  have HP := Lib.hid (show codeP ps s b = if okL ps = true then (if (inB s 1 100000 && b) = true then 0 else 2) else 1 from rfl)
  rw [HP.out]
  clear HP z
  obtain ⟨g, hg⟩ : ∃ g, inB s 1 100000 = g := ⟨_, rfl⟩
  rw [hg]
  generalize okL ps = k at HV ⊢
  cases g <;> cases b
  · cases k
    all_goals
      go_enter Try.func94, Try.ntmps94
      go_wp2_with fail
      generalize (w.alloc (.cells #[.iface T (.agg #[]), .int .i64 s] 98)) = W at B0 c2 HV hlt ⊢
      have hmx : Try.prog.follows .mixedOrders = true := by kernel_rfl
      refine wp_region_held (S := fun U : World => U.cell? ⟨w.heap.size, 1, none⟩ = some (.int .i64 s)) hmx ?_
      change wpAnyH _ _ _ _ _ 10 #[false, false, false, false, false, false, false, false, false, false] _ (World.drew _)
      refine wpAnyH_take (i := 0) (v := .slice a ps.length c) rfl (by kernel_rfl) (by kernel_rfl) (by kernel_rfl) (fun _ _ _ h => h) (Or.inl ⟨by rfl, fun U hU => by have hU' : U.cell? ⟨w.heap.size, 1, none⟩ = some (.int .i64 s) := hU; go_simp⟩) c2 ?_
      simp only [Act.put, List.getElem_toArray, List.getElem_cons_zero, List.getElem_cons_succ, List.setIfInBounds_toArray, List.set_cons_zero, List.set_cons_succ]
      refine wpAnyH_take (i := 2) (v := .pointer (some ⟨w.heap.size, 1, none⟩)) rfl (by kernel_rfl) (by kernel_rfl) (by kernel_rfl) (fun _ _ _ h => h) (Or.inl ⟨by rfl, fun U hU => by have hU' : U.cell? ⟨w.heap.size, 1, none⟩ = some (.int .i64 s) := hU; go_simp⟩) c2 ?_
      simp only [Act.put, List.getElem_toArray, List.getElem_cons_zero, List.getElem_cons_succ, List.setIfInBounds_toArray, List.set_cons_zero, List.set_cons_succ]
      refine wpAnyH_take (i := 3) (v := .int .i64 s) rfl (by kernel_rfl) (by kernel_rfl) (by kernel_rfl) (fun _ _ _ h => h) (Or.inl ⟨by rfl, fun U hU => by have hU' : U.cell? ⟨w.heap.size, 1, none⟩ = some (.int .i64 s) := hU; go_simp⟩) c2 ?_
      simp only [Act.put, List.getElem_toArray, List.getElem_cons_zero, List.getElem_cons_succ, List.setIfInBounds_toArray, List.set_cons_zero, List.set_cons_succ]
      refine wpAnyH_all (rs := [1]) (by kernel_rfl) (by simp) (fun i hi => ?_)
      obtain rfl : i = 1 := by simpa using hi
      refine wpOp_step rfl (fun K' hK => ?_)
      go_simp
      refine (HV.out _ (Below.drew (Below.refl _ _))).mono ?_
      rintro e w1 ⟨rfl, hb⟩
      have n2 := (hb.cell (p := ⟨w.heap.size, 1, none⟩) hlt).trans c2
      have HB := Lib.hid (B0.out.trans ((Below.drew (Below.refl W.heap.size W)).trans hb |>.mono B0.out.size))
      refine hK _ _ ⟨n2, ?_⟩
      clear hK K' hb
      refine wpAnyH_all (rs := [4]) (by kernel_rfl) (by simp) (fun i hi => ?_)
      obtain rfl : i = 4 := by simpa using hi
      refine wpOp_step rfl (fun K' hK => ?_)
      go_simp
      refine (within_any _ _ _ _).mono ?_
      rw [hg]
      rintro e w2 ⟨rfl, rfl⟩
      refine hK _ _ ⟨n2, ?_⟩
      clear hK K'
      simp only [Act.put, List.getElem_toArray, List.getElem_cons_zero, List.getElem_cons_succ, List.setIfInBounds_toArray, List.set_cons_zero, List.set_cons_succ]
      refine wpAnyH_take (i := 5) (v := .bool false) rfl (by kernel_rfl) (by kernel_rfl) (by kernel_rfl) (fun _ _ _ h => h) (Or.inl ⟨by rfl, fun U hU => by go_simp⟩) n2 ?_
      simp only [Act.put, List.getElem_toArray, List.getElem_cons_zero, List.getElem_cons_succ, List.setIfInBounds_toArray, List.set_cons_zero, List.set_cons_succ]
      refine wpAnyH_take (i := 6) (v := undef) rfl (by kernel_rfl) (by kernel_rfl) (by kernel_rfl) (fun _ _ _ h => h) (Or.inr ⟨by rfl, rfl⟩) n2 ?_
      simp only [Act.put, List.getElem_toArray, List.getElem_cons_zero, List.getElem_cons_succ, List.setIfInBounds_toArray, List.set_cons_zero, List.set_cons_succ]
      refine wpAnyH_take (i := 7) (v := .bool false) rfl (by kernel_rfl) (by kernel_rfl) (by kernel_rfl) (fun _ _ _ h => h) (Or.inl ⟨by rfl, fun U hU => by go_simp⟩) n2 ?_
      simp only [Act.put, List.getElem_toArray, List.getElem_cons_zero, List.getElem_cons_succ, List.setIfInBounds_toArray, List.set_cons_zero, List.set_cons_succ]
      refine wpAnyH_all (rs := [8]) (by kernel_rfl) (by simp) (fun i hi => ?_)
      obtain rfl : i = 8 := by simpa using hi
      refine wpOp_step rfl (fun K' hK => ?_)
      go_simp
      refine (codeOf_any _ _ _).mono ?_
      rintro e w3 ⟨rfl, rfl⟩
      refine hK _ _ ⟨n2, ?_⟩
      clear hK K'
      simp only [Act.put, List.getElem_toArray, List.getElem_cons_zero, List.getElem_cons_succ, List.setIfInBounds_toArray, List.set_cons_zero, List.set_cons_succ]
      refine wpAnyH_all (rs := [9]) (by kernel_rfl) (by simp) (fun i hi => ?_)
      obtain rfl : i = 9 := by simpa using hi
      refine wpOp_step rfl (fun K' hK => ?_)
      go_simp
      refine hK _ _ ⟨n2, wpAnyH_done (by kernel_rfl) ?_ _⟩
      clear hK K'
      go_wp2
      go_ret
      exact ⟨rfl, HB.out⟩
  · cases k
    all_goals
      go_enter Try.func94, Try.ntmps94
      go_wp2_with fail
      generalize (w.alloc (.cells #[.iface T (.agg #[]), .int .i64 s] 98)) = W at B0 c2 HV hlt ⊢
      have hmx : Try.prog.follows .mixedOrders = true := by kernel_rfl
      refine wp_region_held (S := fun U : World => U.cell? ⟨w.heap.size, 1, none⟩ = some (.int .i64 s)) hmx ?_
      change wpAnyH _ _ _ _ _ 10 #[false, false, false, false, false, false, false, false, false, false] _ (World.drew _)
      refine wpAnyH_take (i := 0) (v := .slice a ps.length c) rfl (by kernel_rfl) (by kernel_rfl) (by kernel_rfl) (fun _ _ _ h => h) (Or.inl ⟨by rfl, fun U hU => by have hU' : U.cell? ⟨w.heap.size, 1, none⟩ = some (.int .i64 s) := hU; go_simp⟩) c2 ?_
      simp only [Act.put, List.getElem_toArray, List.getElem_cons_zero, List.getElem_cons_succ, List.setIfInBounds_toArray, List.set_cons_zero, List.set_cons_succ]
      refine wpAnyH_take (i := 2) (v := .pointer (some ⟨w.heap.size, 1, none⟩)) rfl (by kernel_rfl) (by kernel_rfl) (by kernel_rfl) (fun _ _ _ h => h) (Or.inl ⟨by rfl, fun U hU => by have hU' : U.cell? ⟨w.heap.size, 1, none⟩ = some (.int .i64 s) := hU; go_simp⟩) c2 ?_
      simp only [Act.put, List.getElem_toArray, List.getElem_cons_zero, List.getElem_cons_succ, List.setIfInBounds_toArray, List.set_cons_zero, List.set_cons_succ]
      refine wpAnyH_take (i := 3) (v := .int .i64 s) rfl (by kernel_rfl) (by kernel_rfl) (by kernel_rfl) (fun _ _ _ h => h) (Or.inl ⟨by rfl, fun U hU => by have hU' : U.cell? ⟨w.heap.size, 1, none⟩ = some (.int .i64 s) := hU; go_simp⟩) c2 ?_
      simp only [Act.put, List.getElem_toArray, List.getElem_cons_zero, List.getElem_cons_succ, List.setIfInBounds_toArray, List.set_cons_zero, List.set_cons_succ]
      refine wpAnyH_all (rs := [1]) (by kernel_rfl) (by simp) (fun i hi => ?_)
      obtain rfl : i = 1 := by simpa using hi
      refine wpOp_step rfl (fun K' hK => ?_)
      go_simp
      refine (HV.out _ (Below.drew (Below.refl _ _))).mono ?_
      rintro e w1 ⟨rfl, hb⟩
      have n2 := (hb.cell (p := ⟨w.heap.size, 1, none⟩) hlt).trans c2
      have HB := Lib.hid (B0.out.trans ((Below.drew (Below.refl W.heap.size W)).trans hb |>.mono B0.out.size))
      refine hK _ _ ⟨n2, ?_⟩
      clear hK K' hb
      refine wpAnyH_all (rs := [4]) (by kernel_rfl) (by simp) (fun i hi => ?_)
      obtain rfl : i = 4 := by simpa using hi
      refine wpOp_step rfl (fun K' hK => ?_)
      go_simp
      refine (within_any _ _ _ _).mono ?_
      rw [hg]
      rintro e w2 ⟨rfl, rfl⟩
      refine hK _ _ ⟨n2, ?_⟩
      clear hK K'
      simp only [Act.put, List.getElem_toArray, List.getElem_cons_zero, List.getElem_cons_succ, List.setIfInBounds_toArray, List.set_cons_zero, List.set_cons_succ]
      refine wpAnyH_take (i := 5) (v := .bool false) rfl (by kernel_rfl) (by kernel_rfl) (by kernel_rfl) (fun _ _ _ h => h) (Or.inl ⟨by rfl, fun U hU => by go_simp⟩) n2 ?_
      simp only [Act.put, List.getElem_toArray, List.getElem_cons_zero, List.getElem_cons_succ, List.setIfInBounds_toArray, List.set_cons_zero, List.set_cons_succ]
      refine wpAnyH_take (i := 6) (v := undef) rfl (by kernel_rfl) (by kernel_rfl) (by kernel_rfl) (fun _ _ _ h => h) (Or.inr ⟨by rfl, rfl⟩) n2 ?_
      simp only [Act.put, List.getElem_toArray, List.getElem_cons_zero, List.getElem_cons_succ, List.setIfInBounds_toArray, List.set_cons_zero, List.set_cons_succ]
      refine wpAnyH_take (i := 7) (v := .bool false) rfl (by kernel_rfl) (by kernel_rfl) (by kernel_rfl) (fun _ _ _ h => h) (Or.inl ⟨by rfl, fun U hU => by go_simp⟩) n2 ?_
      simp only [Act.put, List.getElem_toArray, List.getElem_cons_zero, List.getElem_cons_succ, List.setIfInBounds_toArray, List.set_cons_zero, List.set_cons_succ]
      refine wpAnyH_all (rs := [8]) (by kernel_rfl) (by simp) (fun i hi => ?_)
      obtain rfl : i = 8 := by simpa using hi
      refine wpOp_step rfl (fun K' hK => ?_)
      go_simp
      refine (codeOf_any _ _ _).mono ?_
      rintro e w3 ⟨rfl, rfl⟩
      refine hK _ _ ⟨n2, ?_⟩
      clear hK K'
      simp only [Act.put, List.getElem_toArray, List.getElem_cons_zero, List.getElem_cons_succ, List.setIfInBounds_toArray, List.set_cons_zero, List.set_cons_succ]
      refine wpAnyH_all (rs := [9]) (by kernel_rfl) (by simp) (fun i hi => ?_)
      obtain rfl : i = 9 := by simpa using hi
      refine wpOp_step rfl (fun K' hK => ?_)
      go_simp
      refine hK _ _ ⟨n2, wpAnyH_done (by kernel_rfl) ?_ _⟩
      clear hK K'
      go_wp2
      go_ret
      exact ⟨rfl, HB.out⟩
  · cases k
    all_goals
      go_enter Try.func94, Try.ntmps94
      go_wp2_with fail
      generalize (w.alloc (.cells #[.iface T (.agg #[]), .int .i64 s] 98)) = W at B0 c2 HV hlt ⊢
      have hmx : Try.prog.follows .mixedOrders = true := by kernel_rfl
      refine wp_region_held (S := fun U : World => U.cell? ⟨w.heap.size, 1, none⟩ = some (.int .i64 s)) hmx ?_
      change wpAnyH _ _ _ _ _ 10 #[false, false, false, false, false, false, false, false, false, false] _ (World.drew _)
      refine wpAnyH_take (i := 0) (v := .slice a ps.length c) rfl (by kernel_rfl) (by kernel_rfl) (by kernel_rfl) (fun _ _ _ h => h) (Or.inl ⟨by rfl, fun U hU => by have hU' : U.cell? ⟨w.heap.size, 1, none⟩ = some (.int .i64 s) := hU; go_simp⟩) c2 ?_
      simp only [Act.put, List.getElem_toArray, List.getElem_cons_zero, List.getElem_cons_succ, List.setIfInBounds_toArray, List.set_cons_zero, List.set_cons_succ]
      refine wpAnyH_take (i := 2) (v := .pointer (some ⟨w.heap.size, 1, none⟩)) rfl (by kernel_rfl) (by kernel_rfl) (by kernel_rfl) (fun _ _ _ h => h) (Or.inl ⟨by rfl, fun U hU => by have hU' : U.cell? ⟨w.heap.size, 1, none⟩ = some (.int .i64 s) := hU; go_simp⟩) c2 ?_
      simp only [Act.put, List.getElem_toArray, List.getElem_cons_zero, List.getElem_cons_succ, List.setIfInBounds_toArray, List.set_cons_zero, List.set_cons_succ]
      refine wpAnyH_take (i := 3) (v := .int .i64 s) rfl (by kernel_rfl) (by kernel_rfl) (by kernel_rfl) (fun _ _ _ h => h) (Or.inl ⟨by rfl, fun U hU => by have hU' : U.cell? ⟨w.heap.size, 1, none⟩ = some (.int .i64 s) := hU; go_simp⟩) c2 ?_
      simp only [Act.put, List.getElem_toArray, List.getElem_cons_zero, List.getElem_cons_succ, List.setIfInBounds_toArray, List.set_cons_zero, List.set_cons_succ]
      refine wpAnyH_all (rs := [1]) (by kernel_rfl) (by simp) (fun i hi => ?_)
      obtain rfl : i = 1 := by simpa using hi
      refine wpOp_step rfl (fun K' hK => ?_)
      go_simp
      refine (HV.out _ (Below.drew (Below.refl _ _))).mono ?_
      rintro e w1 ⟨rfl, hb⟩
      have n2 := (hb.cell (p := ⟨w.heap.size, 1, none⟩) hlt).trans c2
      have HB := Lib.hid (B0.out.trans ((Below.drew (Below.refl W.heap.size W)).trans hb |>.mono B0.out.size))
      refine hK _ _ ⟨n2, ?_⟩
      clear hK K' hb
      refine wpAnyH_all (rs := [4]) (by kernel_rfl) (by simp) (fun i hi => ?_)
      obtain rfl : i = 4 := by simpa using hi
      refine wpOp_step rfl (fun K' hK => ?_)
      go_simp
      refine (within_any _ _ _ _).mono ?_
      rw [hg]
      rintro e w2 ⟨rfl, rfl⟩
      refine hK _ _ ⟨n2, ?_⟩
      clear hK K'
      simp only [Act.put, List.getElem_toArray, List.getElem_cons_zero, List.getElem_cons_succ, List.setIfInBounds_toArray, List.set_cons_zero, List.set_cons_succ]
      refine wpAnyH_take (i := 5) (v := .bool true) rfl (by kernel_rfl) (by kernel_rfl) (by kernel_rfl) (fun _ _ _ h => h) (Or.inl ⟨by rfl, fun U hU => by go_simp⟩) n2 ?_
      simp only [Act.put, List.getElem_toArray, List.getElem_cons_zero, List.getElem_cons_succ, List.setIfInBounds_toArray, List.set_cons_zero, List.set_cons_succ]
      refine wpAnyH_take (i := 6) (v := .bool false) rfl (by kernel_rfl) (by kernel_rfl) (by kernel_rfl) (fun _ _ _ h => h) (Or.inl ⟨by rfl, fun U hU => by go_simp⟩) n2 ?_
      simp only [Act.put, List.getElem_toArray, List.getElem_cons_zero, List.getElem_cons_succ, List.setIfInBounds_toArray, List.set_cons_zero, List.set_cons_succ]
      refine wpAnyH_take (i := 7) (v := .bool false) rfl (by kernel_rfl) (by kernel_rfl) (by kernel_rfl) (fun _ _ _ h => h) (Or.inl ⟨by rfl, fun U hU => by go_simp⟩) n2 ?_
      simp only [Act.put, List.getElem_toArray, List.getElem_cons_zero, List.getElem_cons_succ, List.setIfInBounds_toArray, List.set_cons_zero, List.set_cons_succ]
      refine wpAnyH_all (rs := [8]) (by kernel_rfl) (by simp) (fun i hi => ?_)
      obtain rfl : i = 8 := by simpa using hi
      refine wpOp_step rfl (fun K' hK => ?_)
      go_simp
      refine (codeOf_any _ _ _).mono ?_
      rintro e w3 ⟨rfl, rfl⟩
      refine hK _ _ ⟨n2, ?_⟩
      clear hK K'
      simp only [Act.put, List.getElem_toArray, List.getElem_cons_zero, List.getElem_cons_succ, List.setIfInBounds_toArray, List.set_cons_zero, List.set_cons_succ]
      refine wpAnyH_all (rs := [9]) (by kernel_rfl) (by simp) (fun i hi => ?_)
      obtain rfl : i = 9 := by simpa using hi
      refine wpOp_step rfl (fun K' hK => ?_)
      go_simp
      refine hK _ _ ⟨n2, wpAnyH_done (by kernel_rfl) ?_ _⟩
      clear hK K'
      go_wp2
      go_ret
      exact ⟨rfl, HB.out⟩
  · cases k
    all_goals
      go_enter Try.func94, Try.ntmps94
      go_wp2_with fail
      generalize (w.alloc (.cells #[.iface T (.agg #[]), .int .i64 s] 98)) = W at B0 c2 HV hlt ⊢
      have hmx : Try.prog.follows .mixedOrders = true := by kernel_rfl
      refine wp_region_held (S := fun U : World => U.cell? ⟨w.heap.size, 1, none⟩ = some (.int .i64 s)) hmx ?_
      change wpAnyH _ _ _ _ _ 10 #[false, false, false, false, false, false, false, false, false, false] _ (World.drew _)
      refine wpAnyH_take (i := 0) (v := .slice a ps.length c) rfl (by kernel_rfl) (by kernel_rfl) (by kernel_rfl) (fun _ _ _ h => h) (Or.inl ⟨by rfl, fun U hU => by have hU' : U.cell? ⟨w.heap.size, 1, none⟩ = some (.int .i64 s) := hU; go_simp⟩) c2 ?_
      simp only [Act.put, List.getElem_toArray, List.getElem_cons_zero, List.getElem_cons_succ, List.setIfInBounds_toArray, List.set_cons_zero, List.set_cons_succ]
      refine wpAnyH_take (i := 2) (v := .pointer (some ⟨w.heap.size, 1, none⟩)) rfl (by kernel_rfl) (by kernel_rfl) (by kernel_rfl) (fun _ _ _ h => h) (Or.inl ⟨by rfl, fun U hU => by have hU' : U.cell? ⟨w.heap.size, 1, none⟩ = some (.int .i64 s) := hU; go_simp⟩) c2 ?_
      simp only [Act.put, List.getElem_toArray, List.getElem_cons_zero, List.getElem_cons_succ, List.setIfInBounds_toArray, List.set_cons_zero, List.set_cons_succ]
      refine wpAnyH_take (i := 3) (v := .int .i64 s) rfl (by kernel_rfl) (by kernel_rfl) (by kernel_rfl) (fun _ _ _ h => h) (Or.inl ⟨by rfl, fun U hU => by have hU' : U.cell? ⟨w.heap.size, 1, none⟩ = some (.int .i64 s) := hU; go_simp⟩) c2 ?_
      simp only [Act.put, List.getElem_toArray, List.getElem_cons_zero, List.getElem_cons_succ, List.setIfInBounds_toArray, List.set_cons_zero, List.set_cons_succ]
      refine wpAnyH_all (rs := [1]) (by kernel_rfl) (by simp) (fun i hi => ?_)
      obtain rfl : i = 1 := by simpa using hi
      refine wpOp_step rfl (fun K' hK => ?_)
      go_simp
      refine (HV.out _ (Below.drew (Below.refl _ _))).mono ?_
      rintro e w1 ⟨rfl, hb⟩
      have n2 := (hb.cell (p := ⟨w.heap.size, 1, none⟩) hlt).trans c2
      have HB := Lib.hid (B0.out.trans ((Below.drew (Below.refl W.heap.size W)).trans hb |>.mono B0.out.size))
      refine hK _ _ ⟨n2, ?_⟩
      clear hK K' hb
      refine wpAnyH_all (rs := [4]) (by kernel_rfl) (by simp) (fun i hi => ?_)
      obtain rfl : i = 4 := by simpa using hi
      refine wpOp_step rfl (fun K' hK => ?_)
      go_simp
      refine (within_any _ _ _ _).mono ?_
      rw [hg]
      rintro e w2 ⟨rfl, rfl⟩
      refine hK _ _ ⟨n2, ?_⟩
      clear hK K'
      simp only [Act.put, List.getElem_toArray, List.getElem_cons_zero, List.getElem_cons_succ, List.setIfInBounds_toArray, List.set_cons_zero, List.set_cons_succ]
      refine wpAnyH_take (i := 5) (v := .bool true) rfl (by kernel_rfl) (by kernel_rfl) (by kernel_rfl) (fun _ _ _ h => h) (Or.inl ⟨by rfl, fun U hU => by go_simp⟩) n2 ?_
      simp only [Act.put, List.getElem_toArray, List.getElem_cons_zero, List.getElem_cons_succ, List.setIfInBounds_toArray, List.set_cons_zero, List.set_cons_succ]
      refine wpAnyH_take (i := 6) (v := .bool true) rfl (by kernel_rfl) (by kernel_rfl) (by kernel_rfl) (fun _ _ _ h => h) (Or.inl ⟨by rfl, fun U hU => by go_simp⟩) n2 ?_
      simp only [Act.put, List.getElem_toArray, List.getElem_cons_zero, List.getElem_cons_succ, List.setIfInBounds_toArray, List.set_cons_zero, List.set_cons_succ]
      refine wpAnyH_take (i := 7) (v := .bool true) rfl (by kernel_rfl) (by kernel_rfl) (by kernel_rfl) (fun _ _ _ h => h) (Or.inl ⟨by rfl, fun U hU => by go_simp⟩) n2 ?_
      simp only [Act.put, List.getElem_toArray, List.getElem_cons_zero, List.getElem_cons_succ, List.setIfInBounds_toArray, List.set_cons_zero, List.set_cons_succ]
      refine wpAnyH_all (rs := [8]) (by kernel_rfl) (by simp) (fun i hi => ?_)
      obtain rfl : i = 8 := by simpa using hi
      refine wpOp_step rfl (fun K' hK => ?_)
      go_simp
      refine (codeOf_any _ _ _).mono ?_
      rintro e w3 ⟨rfl, rfl⟩
      refine hK _ _ ⟨n2, ?_⟩
      clear hK K'
      simp only [Act.put, List.getElem_toArray, List.getElem_cons_zero, List.getElem_cons_succ, List.setIfInBounds_toArray, List.set_cons_zero, List.set_cons_succ]
      refine wpAnyH_all (rs := [9]) (by kernel_rfl) (by simp) (fun i hi => ?_)
      obtain rfl : i = 9 := by simpa using hi
      refine wpOp_step rfl (fun K' hK => ?_)
      go_simp
      refine hK _ _ ⟨n2, wpAnyH_done (by kernel_rfl) ?_ _⟩
      clear hK K'
      go_wp2
      go_ret
      exact ⟨rfl, HB.out⟩
theorem pat_one {W : World} {n : Nat} {a b : Int} {T : TypeId} (h : W.heap[n]? = some (.cells #[.int .i64 a, .int .i64 b] T (0, 0))) : PAt W W.heap.size (.slice (some ⟨n, 0, none⟩) 1 1) [(a, b)] := by
  refine ⟨_, 1, rfl, fun k hk => ?_⟩
  obtain rfl : k = 0 := by simp at hk; omega
  obtain ⟨c1, c2, _, _⟩ := cel2_cells h
  exact ⟨n, 0, rfl, lt_of h, by simpa using c1, by simpa using c2⟩
theorem pat_none (W : World) : PAt W W.heap.size (.slice none 0 0) [] := ⟨none, 0, rfl, fun k hk => by simp at hk⟩
theorem codeP_one (lat lon s : Int) : codeP [(lat, lon)] s true = codeS8 lat lon s := by simp [codeP, codeS8, okL]
theorem codeP_none (x y s : Int) : codeP [] s (inB x (-2000000) 2000000 && inB y (-2000000) 2000000) = codeF8 x y s := by simp [codeP, codeF8, okL, Bool.and_assoc]
end Go.Proofs.Ytemhmejjmhbfdaa.sines
