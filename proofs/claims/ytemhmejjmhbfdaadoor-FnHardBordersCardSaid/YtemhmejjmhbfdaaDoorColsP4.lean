/- Sets of lands as bits, paintings: contracts of the program. -/
import Derived.Test.YtemhmejjmhbfdaaDoorColsP3
import Derived.Test.YtemhmejjmhbfdaaDoorColsJ
import Derived.Laws.Cover1
import Derived.Laws.MakeOwn
import Derived.Deep.RegionHeld3
namespace Go.Proofs.YtemhmejjmhbfdaaDoor.sines
open Go.ChangeShapes Go.WideShapes Go.ChangeAt Go.RowKit Go.Proofs.YtemhmejjmhbfdaaDoor.spots Go.Proofs.YtemhmejjmhbfdaaDoor.irows Go.Proofs.YtemhmejjmhbfdaaDoor.pairsBorder
set_option linter.unusedSimpArgs false
set_option linter.unusedVariables false

theorem bits_or_u64n (a b : Nat) (ha : a < 18446744073709551616) (hb : b < 18446744073709551616) : bits .or .u64 (a : Int) (b : Int) = ((a ||| b : Nat) : Int) := by
  have hx : a ||| b < 2 ^ 64 := Nat.or_lt_two_pow (by omega) (by omega)
  have h1 : (BitVec.ofInt 64 (a : Int)).toNat = a := by
    rw [BitVec.ofInt_natCast, BitVec.toNat_ofNat]; exact Nat.mod_eq_of_lt (by omega)
  have h2 : (BitVec.ofInt 64 (b : Int)).toNat = b := by
    rw [BitVec.ofInt_natCast, BitVec.toNat_ofNat]; exact Nat.mod_eq_of_lt (by omega)
  show IntKind.u64.wrap ((BitVec.ofInt 64 (a : Int) ||| BitVec.ofInt 64 (b : Int)).toNat : Int) = _
  rw [BitVec.toNat_or, h1, h2, IntKind.wrap_u64]
  omega
theorem bits_and_u64n (a b : Nat) (ha : a < 18446744073709551616) (hb : b < 18446744073709551616) : bits .and .u64 (a : Int) (b : Int) = ((a &&& b : Nat) : Int) := by
  have hx : a &&& b < 2 ^ 64 := Nat.and_lt_two_pow _ (by omega)
  have h1 : (BitVec.ofInt 64 (a : Int)).toNat = a := by
    rw [BitVec.ofInt_natCast, BitVec.toNat_ofNat]; exact Nat.mod_eq_of_lt (by omega)
  have h2 : (BitVec.ofInt 64 (b : Int)).toNat = b := by
    rw [BitVec.ofInt_natCast, BitVec.toNat_ofNat]; exact Nat.mod_eq_of_lt (by omega)
  show IntKind.u64.wrap ((BitVec.ofInt 64 (a : Int) &&& BitVec.ofInt 64 (b : Int)).toNat : Int) = _
  rw [BitVec.toNat_and, h1, h2, IntKind.wrap_u64]
  omega
theorem pow2_10 {i : Nat} (h : i < 10) : 2 ^ i < 1024 := Nat.pow_lt_pow_right (by omega) h
theorem or_10 {a b : Nat} (h : a < 1024) (hb : b < 1024) : a ||| b < 1024 := Nat.or_lt_two_pow (n := 10) h hb
theorem or_10i {a i : Nat} (h : a < 1024) (hi : i < 10) : a ||| 2 ^ i < 1024 := or_10 h (pow2_10 hi)
theorem with_u64 {v i : Nat} (hv : v < 1024) (hi : i < 10) : bits BinOp.or IntKind.u64 (v : Int) (IntKind.u64.wrap (2 ^ i)) = ((v ||| 2 ^ i : Nat) : Int) := by
  have h := pow2_10 hi
  have e : IntKind.u64.wrap ((2 : Int) ^ i) = ((2 ^ i : Nat) : Int) := by
    rw [show ((2 : Int) ^ i) = ((2 ^ i : Nat) : Int) by simp, IntKind.wrap_u64]
    generalize 2 ^ i = z at h
    omega
  rw [e, bits_or_u64n v (2 ^ i) (by omega) (by omega)]
theorem retU9 {a b : Int} (h : a = b) : Ending.returned (.int .u64 a) = .returned (.int .u64 b) := by rw [h]

set_option maxHeartbeats 1000000 in
theorem bitWith_any (v i : Nat) (w : World) (hv : v < 1024) (hi : i < 10) :
    Calls Tryd.prog 24 #[.int .u64 (v : Int), .int .i64 (i : Int)] w fun e w' => e = .returned (.int .u64 ((v ||| 2 ^ i : Nat) : Int)) ∧ w = w' := by
  have h0 : 0 ≤ (i : Int) := by omega
  have h1 : (i : Int) < 10 := by omega
  have v0 : 0 ≤ (v : Int) := by omega
  have v1 : (v : Int) < 1024 := by omega
  go_enter Tryd.func24, Tryd.ntmps24
  go_wp2
  go_ret
  exact ⟨retU9 (with_u64 hv hi), rfl⟩
/-- A painting's cells. -/
def rowP (u : Nat) (f : Nat → Nat) : Array Value := #[.int .i64 (u : Int), .int .u64 (f 0 : Int), .int .u64 (f 1 : Int), .int .u64 (f 2 : Int), .int .u64 (f 3 : Int), .int .u64 (f 4 : Int), .int .u64 (f 5 : Int), .int .u64 (f 6 : Int), .int .u64 (f 7 : Int), .int .u64 (f 8 : Int), .int .u64 (f 9 : Int)]
def encP (u : Nat) (f : Nat → Nat) : Value := .agg (rowP u f)
def updS (f : Nat → Nat) (c x : Nat) : Nat → Nat := fun j => if j = c then f c ||| 2 ^ x else f j
set_option maxRecDepth 100000 in
set_option maxHeartbeats 4000000 in
theorem paintWith_any (u : Nat) (f : Nat → Nat) (x c : Nat) (w : World) (hu : u ≤ 10) (hf : ∀ j, f j < 1024) (hx : x < 10) (hc : c < 10) :
    Calls Tryd.prog 35 #[encP u f, .int .i64 (x : Int), .int .i64 (c : Int)] w fun e w' => e = .returned (encP (max u (c + 1)) (updS f c x)) ∧ Below w.heap.size w w' := by
  have hu2 : (u : Int) ≤ 10 := by omega
  have BW := Lib.hid (fun v (hv : v < 1024) W => bitWith_any v x W hv hx)
  have HF := Lib.hid hf
  clear hf hx
  have hm : c + 1 ≤ u ∨ u < c + 1 := by omega
  obtain rfl | rfl | rfl | rfl | rfl | rfl | rfl | rfl | rfl | rfl : c = 0 ∨ c = 1 ∨ c = 2 ∨ c = 3 ∨ c = 4 ∨ c = 5 ∨ c = 6 ∨ c = 7 ∨ c = 8 ∨ c = 9 := by omega
  all_goals
    rcases hm with hm | hm
    all_goals
      first | rw [show max u _ = u from Nat.max_eq_left hm] | rw [show max u _ = _ from Nat.max_eq_right (Nat.le_of_lt hm)]
      unfold encP rowP
      simp only [updS, Nat.reduceEqDiff, if_true, if_false, reduceIte]
      go_enter Tryd.func35, Tryd.ntmps35
      go_wp2_with fail
      refine (BW.out _ (HF.out _) _).mono ?_
      rintro e w' ⟨rfl, rfl⟩
      go_wp2
      refine bodyPost_ret (results_cell_row rfl _ _ (w.heap.size + 1) 70 _ (0, 0) _ rfl (heap_alloc2_new _ _ _) Tryd.underlying70 rfl (by kernel_rfl)) rfl ⟨rfl, ((Below.refl _ _).alloc (Nat.le_refl _) _).alloc (by simp) _⟩
end Go.Proofs.YtemhmejjmhbfdaaDoor.sines
