/- The program's codes of maps, and its places drawn and read: contracts. -/
import Derived.Test.YtjgnaodhihaemaaPlatesI4
import Derived.Test.YtjgnaodhihaemaaPlatesR
namespace Go.Proofs.Ytjgnaodhihaemaa.sines
open Go.ChangeShapes Go.WideShapes Go.ChangeAt Go.RowKit Go.Proofs.Ytjgnaodhihaemaa.spots Go.Proofs.Ytjgnaodhihaemaa.pairs
set_option linter.unusedSimpArgs false
set_option linter.unusedVariables false


def projT (wave : Bool) : TypeId := if wave = true then 107 else 108
theorem draw_any (lat lon s : Int) (wave : Bool) (w : World) (h : okB lat lon = true) (s0 : 1 ≤ s) (s1 : s ≤ 100000) :
    Calls Try.prog 91 #[.agg #[.iface (projT wave) (.agg #[]), .int .i64 s], .agg #[.int .i64 lat, .int .i64 lon]] w fun e w' => e = .returned (.agg #[.int .i64 (drX lat lon s wave), .int .i64 (near lat s)]) ∧ Below w.heap.size w w' := by
  cases wave with
  | true => exact drawW_any lat lon s w h s0 s1
  | false => exact drawS_any lat lon s w h s0 s1
theorem read_any (x y s : Int) (wave : Bool) (w : World) (x0 : -2000000 ≤ x) (x1 : x ≤ 2000000) (y0 : -2000000 ≤ y) (y1 : y ≤ 2000000) (s0 : 1 ≤ s) (s1 : s ≤ 100000) :
    Calls Try.prog 75 #[.agg #[.iface (projT wave) (.agg #[]), .int .i64 s], .agg #[.int .i64 x, .int .i64 y]] w fun e w' => e = .returned (.tuple #[.agg #[.int .i64 (rdLat x y s wave), .int .i64 (rdLon x y s wave)], .bool (rdOk x y s wave)]) ∧ Below w.heap.size w w' := by
  cases wave with
  | true =>
    refine (readW_z x y s w x0 x1 y0 y1 s0 s1).mono ?_
    rintro e w' ⟨⟨z, hz, rfl⟩, hb⟩
    refine ⟨?_, hb⟩
    obtain ⟨k1, k2⟩ := readW_math s0 hz
    have e1 : rdOk x y s true = wbOk x y s := rfl
    simp only [rdLat, rdLon, e1, k1, if_true]
    cases hk : wbOk x y s with
    | true => obtain ⟨a, b⟩ := k2 hk; simp only [if_true]; rw [a, b]
    | false => simp
  | false =>
    refine (readS_z x y s w x0 x1 y0 y1 s0 s1).mono ?_
    rintro e w' ⟨⟨z, hz, rfl⟩, hb⟩
    refine ⟨?_, hb⟩
    obtain ⟨k1, k2⟩ := readS_math (y := y) hz
    have e1 : rdOk x y s false = okB (y * s) (x * s) := rfl
    simp only [rdLat, rdLon, e1, k1, Bool.false_eq_true, if_false]
    cases hk : okB (y * s) (x * s) with
    | true => rw [k2 (by rw [k1]; exact hk)]
    | false => simp
theorem mapOf_any (s : Int) (wave : Bool) (w : World) :
    Calls Try.prog 49 #[.int .i64 s, .bool wave] w fun e w' => e = .returned (.agg #[.iface (projT wave) (.agg #[]), .int .i64 s]) ∧ Below w.heap.size w w' := by
  have B0 := Lib.hid ((Below.refl w.heap.size w).alloc (Nat.le_refl _) (.cells #[.nilIface, .int .i64 0] 71))
  cases wave with
  | true =>
    obtain ⟨q0, q1, q2⟩ := stored2 (heap_alloc_new w (.cells #[.nilIface, .int .i64 0] 71)) (.iface 107 (.agg #[])) (.int .i64 s)
    go_enter Try.func49, Try.ntmps49
    go_wp2
    exact bodyPost_ret (v := .agg #[.iface 107 (.agg #[]), .int .i64 s]) (by simp [results, Try.results49, go_sem, q0, q1, q2]) rfl ⟨rfl, by repeat (first | assumption | exact Below.refl _ _ | refine Below.drew ?_ | refine bdQ ?_ _ | refine Below.setCell ?_ (by first | exact Nat.le_refl _ | omega | (simp; done) | (simp; omega)) _ | refine Below.alloc ?_ (by first | exact Nat.le_refl _ | omega | (simp; done) | (simp; omega)) _)⟩
  | false =>
    obtain ⟨q0, q1, q2⟩ := stored2 (heap_alloc_new w (.cells #[.nilIface, .int .i64 0] 71)) (.iface 108 (.agg #[])) (.int .i64 s)
    go_enter Try.func49, Try.ntmps49
    go_wp2
    exact bodyPost_ret (v := .agg #[.iface 108 (.agg #[]), .int .i64 s]) (by simp [results, Try.results49, go_sem, q0, q1, q2]) rfl ⟨rfl, by repeat (first | assumption | exact Below.refl _ _ | refine Below.drew ?_ | refine bdQ ?_ _ | refine Below.setCell ?_ (by first | exact Nat.le_refl _ | omega | (simp; done) | (simp; omega)) _ | refine Below.alloc ?_ (by first | exact Nat.le_refl _ | omega | (simp; done) | (simp; omega)) _)⟩
theorem isFlat_any (x y : Int) (w : World) :
    Calls Try.prog 74 #[.agg #[.int .i64 x, .int .i64 y]] w fun e w' => e = .returned (.bool (inB x (-2000000) 2000000 && inB y (-2000000) 2000000)) ∧ Below w.heap.size w w' := by
  generalize h2 : inB x (-2000000) 2000000 = b2
  generalize h3 : inB y (-2000000) 2000000 = b3
  cases b2 <;> cases b3
  all_goals
    go_enter Try.func74, Try.ntmps74
    go_wp2_with (go_at_call 78; refine (within_any _ _ _ _).mono ?_; (first | rw [h2] | rw [h3]); rintro e w' ⟨rfl, rfl⟩)
    go_ret
    exact ⟨rfl, by repeat (first | assumption | exact Below.refl _ _ | refine Below.drew ?_ | refine bdQ ?_ _ | refine Below.setCell ?_ (by first | exact Nat.le_refl _ | omega | (simp; done) | (simp; omega)) _ | refine Below.alloc ?_ (by first | exact Nat.le_refl _ | omega | (simp; done) | (simp; omega)) _)⟩
/-- The code of places, a scale, and what else is asked. -/
def codeP (ps : List (Int × Int)) (s : Int) (b : Bool) : Int := if okL ps = true then (if (inB s 1 100000 && b) = true then 0 else 2) else 1
set_option maxHeartbeats 1000000 in
theorem code_any (T : TypeId) (s : Int) (b : Bool) (v : Value) (ps : List (Int × Int)) (w : World) (hv : PAt w w.heap.size v ps) (hl : ps.length ≤ 1048576) :
    Calls Try.prog 65 #[.agg #[.iface T (.agg #[]), .int .i64 s], .bool b, v] w fun e w' => e = .returned (.int .i64 (codeP ps s b)) ∧ Below w.heap.size w w' := by
  have B0 := Lib.hid ((Below.refl w.heap.size w).alloc (Nat.le_refl _) (.cells #[.iface T (.agg #[]), .int .i64 s] 71))
  have HV := Lib.hid (pat_up (pat_keep hv B0.out) B0.out.size)
  obtain ⟨a, c, rfl, _⟩ := hv
  have z := heap_alloc_new w (.cells #[.iface T (.agg #[]), .int .i64 s] 71)
  have AR := Lib.hid (areSpots_any _ ps _ HV.out hl)
  have HP := Lib.hid (show codeP ps s b = if okL ps = true then (if (inB s 1 100000 && b) = true then 0 else 2) else 1 from rfl)
  rw [HP.out]
  clear HP HV
  obtain ⟨g, hg⟩ : ∃ g, inB s 1 100000 = g := ⟨_, rfl⟩
  rw [hg]
  generalize okL ps = k at AR ⊢
  cases k <;> cases g <;> cases b
  all_goals
    go_enter Try.func65, Try.ntmps65
    go_wp2_with fail
    refine AR.out.mono ?_
    rintro e w1 ⟨rfl, hb⟩
    obtain ⟨c1, c2, _, _⟩ := cel2_cells ((hb.block _ (lt_of z)).trans z)
    have HB := Lib.hid (B0.out.trans (hb.mono B0.out.size))
    clear hb z
    go_wp2_with (go_at_call 78; refine (within_any _ _ _ _).mono ?_; rw [hg]; rintro e w' ⟨rfl, rfl⟩)
    go_ret
    exact ⟨rfl, HB.out⟩
theorem pat_one {W : World} {n : Nat} {a b : Int} {T : TypeId} (h : W.heap[n]? = some (.cells #[.int .i64 a, .int .i64 b] T (0, 0))) : PAt W W.heap.size (.slice (some ⟨n, 0, none⟩) 1 1) [(a, b)] := by
  refine ⟨_, 1, rfl, fun k hk => ?_⟩
  obtain rfl : k = 0 := by simp at hk; omega
  obtain ⟨c1, c2, _, _⟩ := cel2_cells h
  exact ⟨n, 0, rfl, lt_of h, by simpa using c1, by simpa using c2⟩
theorem pat_none (W : World) : PAt W W.heap.size (.slice none 0 0) [] := ⟨none, 0, rfl, fun k hk => by simp at hk⟩
theorem codeP_one (lat lon s : Int) : codeP [(lat, lon)] s true = codeS8 lat lon s := by simp [codeP, codeS8, okL]
theorem codeP_none (x y s : Int) : codeP [] s (inB x (-2000000) 2000000 && inB y (-2000000) 2000000) = codeF8 x y s := by simp [codeP, codeF8, okL, Bool.and_assoc]
end Go.Proofs.Ytjgnaodhihaemaa.sines
