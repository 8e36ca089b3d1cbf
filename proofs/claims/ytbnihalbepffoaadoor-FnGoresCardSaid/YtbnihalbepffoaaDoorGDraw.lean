/- Drawn gores, circumferences, parallels, steps and papers: contracts of the model's functions. -/
import Derived.Test.YtbnihalbepffoaaDoorDraw
namespace Go.Proofs.YtbnihalbepffoaaDoor.src
open Go.ChangeShapes Go.WideShapes Go.ChangeAt Go.RowKit

set_option maxRecDepth 100000 in
set_option maxHeartbeats 400000 in
theorem l04Gores_any (W0 w : World) (B : Nat) (a : Option Addr) (len cap : Nat) (m : Int) (h : St W0 w B a len cap m) (hm : m ≤ 1000000) :
    Calls Tryd.prog 64 #[.pointer (some ⟨B, 0, none⟩)] w fun e w' => ∃ v, e = .returned (.int .i64 v) ∧ St W0 w' B a len cap (m + 4) := by
  have S0 := Lib.hid h
  clear h
  go_enter Tryd.func64, Tryd.ntmps64
  go_wp2_with fail
  refine (one_st 8 S0.out (by omega) (by decide) (by decide)).mono ?_
  rintro e w2 ⟨b4, rfl, s3⟩
  have S1 := Lib.hid s3
  clear s3
  cases b4 with
  | true =>
    go_wp2_with fail
    refine (among_st (n := 8) (fun z => True) (st_alloc S1.out _) (by omega) (by decide) (by decide) (list_of rfl (by intro i hi; rcases i with _ | _ | _ | _ | _ | _ | _ | _ | i <;> first | exact ⟨_, rfl, trivial⟩ | omega)) (by have := (S1.out).2.1.size; have := (S1.out).2.2.2; omega)).mono ?_
    rintro e w6 ⟨v, rfl, pv, s7⟩
    have S5 := Lib.hid s7
    clear s7
    clear pv
    go_wp2
    go_ret
    exact ⟨_, rfl, st_le S5.out (by omega)⟩
  | false =>
    go_wp2_with fail
    refine (among_st (n := 12) (fun z => True) (st_alloc S1.out _) (by omega) (by decide) (by decide) (list_of rfl (by intro i hi; rcases i with _ | _ | _ | _ | _ | _ | _ | _ | _ | _ | _ | _ | i <;> first | exact ⟨_, rfl, trivial⟩ | omega)) (by have := (S1.out).2.1.size; have := (S1.out).2.2.2; omega)).mono ?_
    rintro e w9 ⟨v, rfl, pv, s10⟩
    have S8 := Lib.hid s10
    clear s10
    clear pv
    go_wp2
    go_ret
    exact ⟨_, rfl, st_le S8.out (by omega)⟩

set_option maxRecDepth 100000 in
set_option maxHeartbeats 400000 in
theorem l04Around_any (W0 w : World) (B : Nat) (a : Option Addr) (len cap : Nat) (m : Int) (h : St W0 w B a len cap m) (hm : m ≤ 1000000) :
    Calls Tryd.prog 105 #[.pointer (some ⟨B, 0, none⟩)] w fun e w' => ∃ v, e = .returned (.int .i64 v) ∧ St W0 w' B a len cap (m + 4) := by
  have S0 := Lib.hid h
  clear h
  go_enter Tryd.func105, Tryd.ntmps105
  go_wp2_with fail
  refine (one_st 10 S0.out (by omega) (by decide) (by decide)).mono ?_
  rintro e w2 ⟨b4, rfl, s3⟩
  have S1 := Lib.hid s3
  clear s3
  cases b4 with
  | true =>
    go_wp2_with fail
    refine (among_st (n := 5) (fun z => True) (st_alloc S1.out _) (by omega) (by decide) (by decide) (list_of rfl (by intro i hi; rcases i with _ | _ | _ | _ | _ | i <;> first | exact ⟨_, rfl, trivial⟩ | omega)) (by have := (S1.out).2.1.size; have := (S1.out).2.2.2; omega)).mono ?_
    rintro e w6 ⟨v, rfl, pv, s7⟩
    have S5 := Lib.hid s7
    clear s7
    clear pv
    go_wp2
    go_ret
    exact ⟨_, rfl, st_le S5.out (by omega)⟩
  | false =>
    go_wp2_with fail
    refine (pick_st 900 S1.out (by omega) (by decide) (by decide)).mono ?_
    rintro e w9 ⟨v, rfl, v0, v1, s10⟩
    have S8 := Lib.hid s10
    clear s10
    go_wp2
    go_ret
    exact ⟨_, rfl, st_le S8.out (by omega)⟩




set_option maxRecDepth 100000 in
set_option maxHeartbeats 400000 in
theorem l04DrawSteps_any (w : World) (a : Option Addr) (len cap : Nat) (hb : Bytes w a len w.heap.size) :
    Calls Tryd.prog 69 #[.slice a len cap] w fun e w' => ∃ x0 x1 x2, e = .returned (.tuple #[.int .i64 x0, .int .i64 x1, .int .i64 x2]) ∧ Below w.heap.size w w' := by
  have HB := Lib.hid hb
  clear hb
  go_enter Tryd.func69, Tryd.ntmps69
  go_wp2_with fail
  refine (l00From_any _ a len cap).mono ?_
  rintro e w' ⟨rfl, rfl⟩
  have S0 := Lib.hid (show St (w.alloc (.cells #[.slice a len cap, .int .i64 0, .int .u64 0] 99)) (w.alloc (.cells #[.slice a len cap, .int .i64 0, .int .u64 0] 99)) w.heap.size a len cap 0 from ⟨src_start w a len cap, ⟨rfl, rfl, rfl, Nat.le_refl _, fun _ _ _ => rfl⟩, bytes_start HB.out _, by simp⟩)
  go_wp2_with fail
  refine (l04Gores_any _ _ w.heap.size a len cap _ S0.out (by omega)).mono ?_
  rintro e w2 ⟨x, rfl, s3⟩
  have S1 := Lib.hid s3
  clear s3
  go_wp2_with fail
  refine (l04Around_any _ _ w.heap.size a len cap _ S1.out (by omega)).mono ?_
  rintro e w5 ⟨y, rfl, s6⟩
  have S4 := Lib.hid s6
  clear s6
  go_wp2_with fail
  refine (one_st 8 S4.out (by omega) (by decide) (by decide)).mono ?_
  rintro e w8 ⟨b10, rfl, s9⟩
  have S7 := Lib.hid s9
  clear s9
  cases b10 with
  | true =>
    go_wp2_with fail
    refine (among_st (n := 6) (fun z => True) (st_alloc S7.out _) (by omega) (by decide) (by decide) (list_of rfl (by intro i hi; rcases i with _ | _ | _ | _ | _ | _ | i <;> first | exact ⟨_, rfl, trivial⟩ | omega)) (by have := (S7.out).2.1.size; have := (S7.out).2.2.2; omega)).mono ?_
    rintro e w12 ⟨z, rfl, pz, s13⟩
    have S11 := Lib.hid s13
    clear s13
    clear pz
    go_wp2
    exact bodyPost_ret (v := .tuple #[.int .i64 (x), .int .i64 (y), .int .i64 (z)]) (by simp [results, Tryd.results69, go_sem]) rfl ⟨_, _, _, rfl, below_src S11.out.2.1⟩
  | false =>
    go_wp2_with fail
    refine (pick_st 30 S7.out (by omega) (by decide) (by decide)).mono ?_
    rintro e w15 ⟨z, rfl, z0, z1, s16⟩
    have S14 := Lib.hid s16
    clear s16
    go_wp2
    exact bodyPost_ret (v := .tuple #[.int .i64 (x), .int .i64 (y), .int .i64 (3600 * (1 + z))]) (by simp [results, Tryd.results69, go_sem]) rfl ⟨_, _, _, rfl, below_src S14.out.2.1⟩



theorem DrawGoreWidths_any (w : World) (a : Option Addr) (len cap : Nat) (hb : Bytes w a len w.heap.size) :
    Calls Tryd.prog 23 #[.slice a len cap] w fun e w' => ∃ x0 x1 x2, e = .returned (.tuple #[.int .i64 x0, .int .i64 x1, .int .i64 x2]) ∧ Below w.heap.size w w' := by
  go_enter Tryd.func23, Tryd.ntmps23
  go_wp2_with fail
  refine (l04DrawSteps_any w a len cap hb).mono ?_
  rintro e w1 ⟨x0, x1, x2, rfl, hw⟩
  have HW := Lib.hid hw
  clear hw
  go_wp2
  exact bodyPost_ret (v := .tuple #[.int .i64 x0, .int .i64 x1, .int .i64 x2]) (by simp [results, Tryd.results23, go_sem]) rfl ⟨x0, x1, x2, rfl, HW.out⟩




set_option maxRecDepth 100000 in
set_option maxHeartbeats 400000 in
theorem DrawGoreMiddle_any (w : World) (a : Option Addr) (len cap : Nat) (hb : Bytes w a len w.heap.size) :
    Calls Tryd.prog 29 #[.slice a len cap] w fun e w' => ∃ x0 x1, e = .returned (.tuple #[.int .i64 x0, .int .i64 x1]) ∧ Below w.heap.size w w' := by
  have HB := Lib.hid hb
  clear hb
  go_enter Tryd.func29, Tryd.ntmps29
  go_wp2_with fail
  refine (l00From_any _ a len cap).mono ?_
  rintro e w' ⟨rfl, rfl⟩
  have S0 := Lib.hid (show St (w.alloc (.cells #[.slice a len cap, .int .i64 0, .int .u64 0] 99)) (w.alloc (.cells #[.slice a len cap, .int .i64 0, .int .u64 0] 99)) w.heap.size a len cap 0 from ⟨src_start w a len cap, ⟨rfl, rfl, rfl, Nat.le_refl _, fun _ _ _ => rfl⟩, bytes_start HB.out _, by simp⟩)
  go_wp2_with fail
  refine (l04Gores_any _ _ w.heap.size a len cap _ S0.out (by omega)).mono ?_
  rintro e w2 ⟨x, rfl, s3⟩
  have S1 := Lib.hid s3
  clear s3
  go_wp2_with fail
  refine (pick_st 50 S1.out (by omega) (by decide) (by decide)).mono ?_
  rintro e w5 ⟨y, rfl, y0, y1, s6⟩
  have S4 := Lib.hid s6
  clear s6
  go_wp2_with fail
  refine (pick_st 16 S4.out (by omega) (by decide) (by decide)).mono ?_
  rintro e w8 ⟨z, rfl, z0, z1, s9⟩
  have S7 := Lib.hid s9
  clear s9
  go_wp2
  exact bodyPost_ret (v := .tuple #[.int .i64 (x), .int .i64 (y - z / 15)]) (by simp [results, Tryd.results29, go_sem]) rfl ⟨_, _, rfl, below_src S7.out.2.1⟩

end Go.Proofs.YtbnihalbepffoaaDoor.src
