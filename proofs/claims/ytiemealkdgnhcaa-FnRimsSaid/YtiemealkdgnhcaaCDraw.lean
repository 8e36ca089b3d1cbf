/- Drawn circumferences, parallels, radii and widths: contracts of the model's functions. -/
import Derived.Test.YtiemealkdgnhcaaGDraw
namespace Go.Proofs.Ytiemealkdgnhcaa.src
open Go.ChangeShapes Go.WideShapes Go.ChangeAt Go.RowKit

set_option maxRecDepth 100000 in
set_option maxHeartbeats 400000 in
theorem l06Lat_any (W0 w : World) (B : Nat) (a : Option Addr) (len cap : Nat) (m : Int) (h : St W0 w B a len cap m) (hm : m ≤ 1000000) :
    Calls Try.prog 88 #[.pointer (some ⟨B, 0, none⟩)] w fun e w' => ∃ v, e = .returned (.int .i64 v) ∧ St W0 w' B a len cap (m + 8) := by
  have S0 := Lib.hid h
  clear h
  go_enter Try.func88, Try.ntmps88
  go_wp2_with fail
  refine (one_st 10 S0.out (by omega) (by decide) (by decide)).mono ?_
  rintro e w2 ⟨b4, rfl, s3⟩
  have S1 := Lib.hid s3
  clear s3
  cases b4 with
  | true =>
    go_wp2_with fail
    refine (among_st (n := 5) (fun z => True) (st_alloc S1.out _) (by omega) (by decide) (by decide) (list_of rfl (by intro i hi; rcases i with _ | _ | _ | _ | _ | i <;> first | exact ⟨_, rfl, trivial⟩ | omega)) (by have := (S1.out).2.1.size; have := (S1.out).2.2.2; omega)).mono ?_
    rintro e w6 ⟨v, rfl, pv, s7⟩
    have S5 := Lib.hid s7
    clear s7
    clear pv
    go_wp2
    go_ret
    exact ⟨_, rfl, st_le S5.out (by omega)⟩
  | false =>
    go_wp2_with fail
    refine (pick_st 91 S1.out (by omega) (by decide) (by decide)).mono ?_
    rintro e w9 ⟨v, rfl, v0, v1, s10⟩
    have S8 := Lib.hid s10
    clear s10
    go_wp2_with fail
    refine (pick_st 2 S8.out (by omega) (by decide) (by decide)).mono ?_
    rintro e w12 ⟨u, rfl, u0, u1, s13⟩
    have S11 := Lib.hid s13
    clear s13
    go_wp2_with fail
    refine (pick_st 100 S11.out (by omega) (by decide) (by decide)).mono ?_
    rintro e w15 ⟨t, rfl, t0, t1, s16⟩
    have S14 := Lib.hid s16
    clear s16
    go_wp2
    go_ret
    exact ⟨_, rfl, st_le S14.out (by omega)⟩

set_option maxRecDepth 100000 in
set_option maxHeartbeats 400000 in
theorem l06Some_any (n : Int) (n0 : 1 ≤ n) (n1 : n ≤ 65536) (W0 w : World) (B : Nat) (a : Option Addr) (len cap : Nat) (m : Int) (h : St W0 w B a len cap m) (hm : m ≤ 1000000) :
    Calls Try.prog 58 #[.pointer (some ⟨B, 0, none⟩), .int .i64 n] w fun e w' => ∃ v, e = .returned (.int .i64 v) ∧ St W0 w' B a len cap (m + 4) := by
  have S0 := Lib.hid h
  clear h
  go_enter Try.func58, Try.ntmps58
  go_wp2_with fail
  refine (one_st 10 S0.out (by omega) (by decide) (by decide)).mono ?_
  rintro e w2 ⟨b4, rfl, s3⟩
  have S1 := Lib.hid s3
  clear s3
  cases b4 with
  | true =>
    go_wp2_with fail
    refine (among_st (n := 5) (fun z => True) (st_alloc S1.out _) (by omega) (by decide) (by decide) (list_of rfl (by intro i hi; rcases i with _ | _ | _ | _ | _ | i <;> first | exact ⟨_, rfl, trivial⟩ | omega)) (by have := (S1.out).2.1.size; have := (S1.out).2.2.2; omega)).mono ?_
    rintro e w6 ⟨v, rfl, pv, s7⟩
    have S5 := Lib.hid s7
    clear s7
    clear pv
    go_wp2
    go_ret
    exact ⟨_, rfl, st_le S5.out (by omega)⟩
  | false =>
    go_wp2_with fail
    refine (pick_st n S1.out (by omega) n0 n1).mono ?_
    rintro e w9 ⟨v, rfl, v0, v1, s10⟩
    have S8 := Lib.hid s10
    clear s10
    go_wp2
    go_ret
    exact ⟨_, rfl, st_le S8.out (by omega)⟩

set_option maxRecDepth 100000 in
set_option maxHeartbeats 400000 in
theorem l06Both_any (w : World) (a : Option Addr) (len cap : Nat) (hb : Bytes w a len w.heap.size) :
    Calls Try.prog 63 #[.slice a len cap] w fun e w' => ∃ x0 x1, e = .returned (.tuple #[.int .i64 x0, .int .i64 x1]) ∧ Below w.heap.size w w' := by
  have HB := Lib.hid hb
  clear hb
  go_enter Try.func63, Try.ntmps63
  go_wp2_with fail
  refine (l00From_any _ a len cap).mono ?_
  rintro e w' ⟨rfl, rfl⟩
  have S0 := Lib.hid (show St (w.alloc (.cells #[.slice a len cap, .int .i64 0, .int .u64 0] 81)) (w.alloc (.cells #[.slice a len cap, .int .i64 0, .int .u64 0] 81)) w.heap.size a len cap 0 from ⟨src_start w a len cap, ⟨rfl, rfl, rfl, Nat.le_refl _, fun _ _ _ => rfl⟩, bytes_start HB.out _, by simp⟩)
  go_wp2_with fail
  refine (l04Around_any _ _ w.heap.size a len cap _ S0.out (by omega)).mono ?_
  rintro e w2 ⟨x, rfl, s3⟩
  have S1 := Lib.hid s3
  clear s3
  go_wp2_with fail
  refine (l06Lat_any _ _ w.heap.size a len cap _ S1.out (by omega)).mono ?_
  rintro e w5 ⟨y, rfl, s6⟩
  have S4 := Lib.hid s6
  clear s6
  go_wp2
  exact bodyPost_ret (v := .tuple #[.int .i64 (x), .int .i64 (y)]) (by simp [results, Try.results63, go_sem]) rfl ⟨_, _, rfl, below_src S4.out.2.1⟩

set_option maxRecDepth 100000 in
set_option maxHeartbeats 400000 in
theorem DrawArcLength_any (w : World) (a : Option Addr) (len cap : Nat) (hb : Bytes w a len w.heap.size) :
    Calls Try.prog 28 #[.slice a len cap] w fun e w' => ∃ x0 x1, e = .returned (.tuple #[.int .i64 x0, .int .i64 x1]) ∧ Below w.heap.size w w' := by
  have HB := Lib.hid hb
  clear hb
  go_enter Try.func28, Try.ntmps28
  go_wp2_with fail
  refine (l00From_any _ a len cap).mono ?_
  rintro e w' ⟨rfl, rfl⟩
  have S0 := Lib.hid (show St (w.alloc (.cells #[.slice a len cap, .int .i64 0, .int .u64 0] 81)) (w.alloc (.cells #[.slice a len cap, .int .i64 0, .int .u64 0] 81)) w.heap.size a len cap 0 from ⟨src_start w a len cap, ⟨rfl, rfl, rfl, Nat.le_refl _, fun _ _ _ => rfl⟩, bytes_start HB.out _, by simp⟩)
  go_wp2_with fail
  refine (l04Around_any _ _ w.heap.size a len cap _ S0.out (by omega)).mono ?_
  rintro e w2 ⟨x, rfl, s3⟩
  have S1 := Lib.hid s3
  clear s3
  go_wp2_with fail
  refine (one_st 8 S1.out (by omega) (by decide) (by decide)).mono ?_
  rintro e w5 ⟨b7, rfl, s6⟩
  have S4 := Lib.hid s6
  clear s6
  cases b7 with
  | true =>
    go_wp2_with fail
    refine (among_st (n := 4) (fun z => True) (st_alloc S4.out _) (by omega) (by decide) (by decide) (list_of rfl (by intro i hi; rcases i with _ | _ | _ | _ | i <;> first | exact ⟨_, rfl, trivial⟩ | omega)) (by have := (S4.out).2.1.size; have := (S4.out).2.2.2; omega)).mono ?_
    rintro e w9 ⟨y, rfl, py, s10⟩
    have S8 := Lib.hid s10
    clear s10
    clear py
    go_wp2
    exact bodyPost_ret (v := .tuple #[.int .i64 (x), .int .i64 (y)]) (by simp [results, Try.results28, go_sem]) rfl ⟨_, _, rfl, below_src S8.out.2.1⟩
  | false =>
    go_wp2_with fail
    refine (pick_st 721 S4.out (by omega) (by decide) (by decide)).mono ?_
    rintro e w12 ⟨y, rfl, y0, y1, s13⟩
    have S11 := Lib.hid s13
    clear s13
    go_wp2
    exact bodyPost_ret (v := .tuple #[.int .i64 (x), .int .i64 (1800 * y)]) (by simp [results, Try.results28, go_sem]) rfl ⟨_, _, rfl, below_src S11.out.2.1⟩

theorem DrawCapRadius_any (w : World) (a : Option Addr) (len cap : Nat) (hb : Bytes w a len w.heap.size) :
    Calls Try.prog 19 #[.slice a len cap] w fun e w' => ∃ x0 x1, e = .returned (.tuple #[.int .i64 x0, .int .i64 x1]) ∧ Below w.heap.size w w' := by
  go_enter Try.func19, Try.ntmps19
  go_wp2_with fail
  refine (l06Both_any w a len cap hb).mono ?_
  rintro e w1 ⟨x0, x1, rfl, hw⟩
  have HW := Lib.hid hw
  clear hw
  go_wp2
  exact bodyPost_ret (v := .tuple #[.int .i64 x0, .int .i64 x1]) (by simp [results, Try.results19, go_sem]) rfl ⟨x0, x1, rfl, HW.out⟩

theorem DrawRimExcess_any (w : World) (a : Option Addr) (len cap : Nat) (hb : Bytes w a len w.heap.size) :
    Calls Try.prog 45 #[.slice a len cap] w fun e w' => ∃ x0 x1, e = .returned (.tuple #[.int .i64 x0, .int .i64 x1]) ∧ Below w.heap.size w w' := by
  go_enter Try.func45, Try.ntmps45
  go_wp2_with fail
  refine (l06Both_any w a len cap hb).mono ?_
  rintro e w1 ⟨x0, x1, rfl, hw⟩
  have HW := Lib.hid hw
  clear hw
  go_wp2
  exact bodyPost_ret (v := .tuple #[.int .i64 x0, .int .i64 x1]) (by simp [results, Try.results45, go_sem]) rfl ⟨x0, x1, rfl, HW.out⟩

set_option maxRecDepth 100000 in
set_option maxHeartbeats 400000 in
theorem DrawCapEdge_any (w : World) (a : Option Addr) (len cap : Nat) (hb : Bytes w a len w.heap.size) :
    Calls Try.prog 16 #[.slice a len cap] w fun e w' => ∃ x0 x1, e = .returned (.tuple #[.int .i64 x0, .int .i64 x1]) ∧ Below w.heap.size w w' := by
  have HB := Lib.hid hb
  clear hb
  go_enter Try.func16, Try.ntmps16
  go_wp2_with fail
  refine (l00From_any _ a len cap).mono ?_
  rintro e w' ⟨rfl, rfl⟩
  have S0 := Lib.hid (show St (w.alloc (.cells #[.slice a len cap, .int .i64 0, .int .u64 0] 81)) (w.alloc (.cells #[.slice a len cap, .int .i64 0, .int .u64 0] 81)) w.heap.size a len cap 0 from ⟨src_start w a len cap, ⟨rfl, rfl, rfl, Nat.le_refl _, fun _ _ _ => rfl⟩, bytes_start HB.out _, by simp⟩)
  go_wp2_with fail
  refine (l04Around_any _ _ w.heap.size a len cap _ S0.out (by omega)).mono ?_
  rintro e w2 ⟨x, rfl, s3⟩
  have S1 := Lib.hid s3
  clear s3
  go_wp2_with fail
  refine (l06Some_any 400 (by decide) (by decide) _ _ w.heap.size a len cap _ S1.out (by omega)).mono ?_
  rintro e w5 ⟨y, rfl, s6⟩
  have S4 := Lib.hid s6
  clear s6
  go_wp2
  exact bodyPost_ret (v := .tuple #[.int .i64 (x), .int .i64 (y)]) (by simp [results, Try.results16, go_sem]) rfl ⟨_, _, rfl, below_src S4.out.2.1⟩

set_option maxRecDepth 100000 in
set_option maxHeartbeats 400000 in
theorem DrawSlitsFor_any (w : World) (a : Option Addr) (len cap : Nat) (hb : Bytes w a len w.heap.size) :
    Calls Try.prog 36 #[.slice a len cap] w fun e w' => ∃ x0 x1 x2, e = .returned (.tuple #[.int .i64 x0, .int .i64 x1, .int .i64 x2]) ∧ Below w.heap.size w w' := by
  have HB := Lib.hid hb
  clear hb
  go_enter Try.func36, Try.ntmps36
  go_wp2_with fail
  refine (l00From_any _ a len cap).mono ?_
  rintro e w' ⟨rfl, rfl⟩
  have S0 := Lib.hid (show St (w.alloc (.cells #[.slice a len cap, .int .i64 0, .int .u64 0] 81)) (w.alloc (.cells #[.slice a len cap, .int .i64 0, .int .u64 0] 81)) w.heap.size a len cap 0 from ⟨src_start w a len cap, ⟨rfl, rfl, rfl, Nat.le_refl _, fun _ _ _ => rfl⟩, bytes_start HB.out _, by simp⟩)
  go_wp2_with fail
  refine (l04Around_any _ _ w.heap.size a len cap _ S0.out (by omega)).mono ?_
  rintro e w2 ⟨x, rfl, s3⟩
  have S1 := Lib.hid s3
  clear s3
  go_wp2_with fail
  refine (l06Lat_any _ _ w.heap.size a len cap _ S1.out (by omega)).mono ?_
  rintro e w5 ⟨y, rfl, s6⟩
  have S4 := Lib.hid s6
  clear s6
  go_wp2_with fail
  refine (l06Some_any 60 (by decide) (by decide) _ _ w.heap.size a len cap _ S4.out (by omega)).mono ?_
  rintro e w8 ⟨z, rfl, s9⟩
  have S7 := Lib.hid s9
  clear s9
  go_wp2
  exact bodyPost_ret (v := .tuple #[.int .i64 (x), .int .i64 (y), .int .i64 (z)]) (by simp [results, Try.results36, go_sem]) rfl ⟨_, _, _, rfl, below_src S7.out.2.1⟩

set_option maxRecDepth 100000 in
set_option maxHeartbeats 400000 in
theorem DrawRingsOf_any (w : World) (a : Option Addr) (len cap : Nat) (hb : Bytes w a len w.heap.size) :
    Calls Try.prog 22 #[.slice a len cap] w fun e w' => ∃ x0 x1, e = .returned (.tuple #[.int .i64 x0, .int .i64 x1]) ∧ Below w.heap.size w w' := by
  have HB := Lib.hid hb
  clear hb
  go_enter Try.func22, Try.ntmps22
  go_wp2_with fail
  refine (l00From_any _ a len cap).mono ?_
  rintro e w' ⟨rfl, rfl⟩
  have S0 := Lib.hid (show St (w.alloc (.cells #[.slice a len cap, .int .i64 0, .int .u64 0] 81)) (w.alloc (.cells #[.slice a len cap, .int .i64 0, .int .u64 0] 81)) w.heap.size a len cap 0 from ⟨src_start w a len cap, ⟨rfl, rfl, rfl, Nat.le_refl _, fun _ _ _ => rfl⟩, bytes_start HB.out _, by simp⟩)
  go_wp2_with fail
  refine (l06Some_any 600 (by decide) (by decide) _ _ w.heap.size a len cap _ S0.out (by omega)).mono ?_
  rintro e w2 ⟨x, rfl, s3⟩
  have S1 := Lib.hid s3
  clear s3
  go_wp2_with fail
  refine (l06Some_any 60 (by decide) (by decide) _ _ w.heap.size a len cap _ S1.out (by omega)).mono ?_
  rintro e w5 ⟨y, rfl, s6⟩
  have S4 := Lib.hid s6
  clear s6
  go_wp2
  exact bodyPost_ret (v := .tuple #[.int .i64 (x), .int .i64 (y)]) (by simp [results, Try.results22, go_sem]) rfl ⟨_, _, rfl, below_src S4.out.2.1⟩

set_option maxRecDepth 100000 in
set_option maxHeartbeats 400000 in
theorem DrawCapOverlap_any (w : World) (a : Option Addr) (len cap : Nat) (hb : Bytes w a len w.heap.size) :
    Calls Try.prog 42 #[.slice a len cap] w fun e w' => ∃ x0 x1 x2, e = .returned (.tuple #[.int .i64 x0, .int .i64 x1, .int .i64 x2]) ∧ Below w.heap.size w w' := by
  have HB := Lib.hid hb
  clear hb
  go_enter Try.func42, Try.ntmps42
  go_wp2_with fail
  refine (l00From_any _ a len cap).mono ?_
  rintro e w' ⟨rfl, rfl⟩
  have S0 := Lib.hid (show St (w.alloc (.cells #[.slice a len cap, .int .i64 0, .int .u64 0] 81)) (w.alloc (.cells #[.slice a len cap, .int .i64 0, .int .u64 0] 81)) w.heap.size a len cap 0 from ⟨src_start w a len cap, ⟨rfl, rfl, rfl, Nat.le_refl _, fun _ _ _ => rfl⟩, bytes_start HB.out _, by simp⟩)
  go_wp2_with fail
  refine (l04Around_any _ _ w.heap.size a len cap _ S0.out (by omega)).mono ?_
  rintro e w2 ⟨x, rfl, s3⟩
  have S1 := Lib.hid s3
  clear s3
  go_wp2_with fail
  refine (l06Some_any 400 (by decide) (by decide) _ _ w.heap.size a len cap _ S1.out (by omega)).mono ?_
  rintro e w5 ⟨y, rfl, s6⟩
  have S4 := Lib.hid s6
  clear s6
  go_wp2_with fail
  refine (l06Lat_any _ _ w.heap.size a len cap _ S4.out (by omega)).mono ?_
  rintro e w8 ⟨z, rfl, s9⟩
  have S7 := Lib.hid s9
  clear s9
  go_wp2
  exact bodyPost_ret (v := .tuple #[.int .i64 (x), .int .i64 (y), .int .i64 (z)]) (by simp [results, Try.results42, go_sem]) rfl ⟨_, _, _, rfl, below_src S7.out.2.1⟩

set_option maxRecDepth 100000 in
set_option maxHeartbeats 400000 in
theorem DrawSmallestCap_any (w : World) (a : Option Addr) (len cap : Nat) (hb : Bytes w a len w.heap.size) :
    Calls Try.prog 39 #[.slice a len cap] w fun e w' => ∃ x0 x1 x2, e = .returned (.tuple #[.int .i64 x0, .int .i64 x1, .int .i64 x2]) ∧ Below w.heap.size w w' := by
  have HB := Lib.hid hb
  clear hb
  go_enter Try.func39, Try.ntmps39
  go_wp2_with fail
  refine (l00From_any _ a len cap).mono ?_
  rintro e w' ⟨rfl, rfl⟩
  have S0 := Lib.hid (show St (w.alloc (.cells #[.slice a len cap, .int .i64 0, .int .u64 0] 81)) (w.alloc (.cells #[.slice a len cap, .int .i64 0, .int .u64 0] 81)) w.heap.size a len cap 0 from ⟨src_start w a len cap, ⟨rfl, rfl, rfl, Nat.le_refl _, fun _ _ _ => rfl⟩, bytes_start HB.out _, by simp⟩)
  go_wp2_with fail
  refine (l04Around_any _ _ w.heap.size a len cap _ S0.out (by omega)).mono ?_
  rintro e w2 ⟨x, rfl, s3⟩
  have S1 := Lib.hid s3
  clear s3
  go_wp2_with fail
  refine (l06Lat_any _ _ w.heap.size a len cap _ S1.out (by omega)).mono ?_
  rintro e w5 ⟨y, rfl, s6⟩
  have S4 := Lib.hid s6
  clear s6
  go_wp2_with fail
  refine (l06Some_any 40 (by decide) (by decide) _ _ w.heap.size a len cap _ S4.out (by omega)).mono ?_
  rintro e w8 ⟨z, rfl, s9⟩
  have S7 := Lib.hid s9
  clear s9
  go_wp2
  exact bodyPost_ret (v := .tuple #[.int .i64 (x), .int .i64 (y), .int .i64 (z)]) (by simp [results, Try.results39, go_sem]) rfl ⟨_, _, _, rfl, below_src S7.out.2.1⟩

end Go.Proofs.Ytiemealkdgnhcaa.src
