/- Tables of sines: contracts of the program and of the model. -/
import Derived.Test.YtkgjncgfdoifbaaSineF
import Derived.Test.YtkgjncgfdoifbaaIRows
import Derived.Test.YtkgjncgfdoifbaaShelf
import Derived.Deep.WholeRow
namespace Go.Proofs.Ytkgjncgfdoifbaa.sines
open Go.ChangeShapes Go.WideShapes Go.ChangeAt Go.RowKit Go.Proofs.Ytkgjncgfdoifbaa.spots Go.Proofs.Ytkgjncgfdoifbaa.irows

/-- The sines of equal steps. -/
def tabL (d : Int) (n : Nat) : List Int := (List.range n).map fun i : Nat => sineL ((i : Int) * d)
theorem tabL_len (d : Int) (n : Nat) : (tabL d n).length = n := by simp [tabL]
theorem tabL_succ (d : Int) (n : Nat) : tabL d (n + 1) = tabL d n ++ [sineL ((n : Int) * d)] := by simp [tabL, List.range_succ]
theorem tabL_at (d : Int) (n i : Nat) (h : i < n) : (tabL d n)[i]'(by rw [tabL_len]; exact h) = sineL ((i : Int) * d) := by simp [tabL]
theorem step_bounds {d : Int} {k m : Nat} (h1 : 1 ≤ d) (h2 : d ≤ 324000) (hk : k < m) (hm : m ≤ 100) : 0 ≤ (k : Int) * d ∧ (k : Int) * d ≤ 32400000 := by
  have e1 : (k : Int) * d ≤ 100 * d := Int.mul_le_mul_of_nonneg_right (by omega) (by omega)
  exact ⟨Int.mul_nonneg (by omega) (by omega), by omega⟩

set_option maxRecDepth 100000 in
set_option maxHeartbeats 1000000 in
theorem l03Table_any (d : Int) (m : Nat) (w : World) (h1 : 1 ≤ d) (h2 : d ≤ 324000) (hm : m ≤ 100) :
    Calls Try.prog 56 #[.int .i64 d, .int .i64 (m : Int)] w fun e w' => ∃ v : Value, e = .returned v ∧ IRow w' w.heap.size v (tabL d m) ∧ Below w.heap.size w w' := by
  obtain ⟨i0, hi, hz0, hz1, hz2⟩ := info_parts info_int
  go_enter Try.func56, Try.ntmps56
  go_wp2
  go_loopw [5, 6] (fun v i wr => ∃ k : Nat, k ≤ m ∧ i = .int .i64 (k : Int) ∧ wr.ownsRow w.heap.size 2 1 v k (ints (tabL d k)) ∧ Below w.heap.size w wr) (fun _ i _ => m - (intOf i).toNat)
  case atStart => exact ⟨0, Nat.zero_le _, rfl, World.ownsRow_made w #[] 0 (Nat.le_refl _) (by decide) rfl, (Below.refl _ _).alloc (Nat.le_refl _) _⟩
  case round =>
    obtain ⟨k, hk, rfl, hown, hbel⟩ := hrel
    have hsz := hbel.size
    have HO := Lib.hid hown
    have HB := Lib.hid hbel
    clear hown hbel
    by_cases hlt : k < m
    · obtain ⟨s1, s2⟩ := step_bounds h1 h2 hlt hm
      have k1 : IntKind.i64.wrap ((k : Int) * d) = (k : Int) * d := IntWalk.i64_in _ (by omega)
      have hlt' : (k : Int) < (m : Int) := by omega
      go_wp2_with fail
      refine (l03Sine_any _ _).mono ?_
      rintro e w1 ⟨rfl, rfl⟩
      have TS := Lib.hid (tabL_succ d k)
      generalize sineL ((k : Int) * d) = s at TS
      have K2 := Lib.hid (show ∀ j u, ([.int .i64 s] : List Value)[j]? = some u → (wr.alloc (.cells #[.int .i64 s] 2)).cell? ((⟨wr.heap.size, 0, none⟩ : Addr).add j) = some u from fun j u hj => by
        match j, hj with
        | 0, hj => simp at hj; subst hj; simp [Addr.add])
      have K22 := Lib.hid (show ∀ u ∈ ([.int .i64 s] : List Value), u.oneCell' = true from fun u hu => by simp at hu; subst hu; rfl)
      have K3 := Lib.hid (show k + 1 ≤ maxLen by unfold maxLen; omega)
      have K4 := Lib.hid (show (k + 1) * 8 ≤ 140737488355328 by omega)
      have K5 := Lib.hid (show w.heap.size ≤ (wr.alloc (.cells #[.int .i64 s] 2)).heap.size from by simp; omega)
      go_wp2_with (at_builtin; refine wpList_append_own _ rfl _ _ 25 rfl w.heap.size 2 i0 (.int .i64 0) 1 8 Try.underlying25 hi hz0 hz1 hz2 rfl (by decide) _ k _ rfl (HO.out.alloc _) ⟨wr.heap.size, 0, none⟩ 1 1 [.int .i64 s] rfl rfl K2.out K22.out K3.out K4.out K5.out ?_; intro v1 w1 hown1 hg1 _)
      go_roundw
      case rel => exact ⟨k + 1, by omega, by go_num, by rw [TS.out]; simpa [ints] using hown1, (HB.out.alloc hsz _).grown hg1 K5.out (fun j hj => (HO.out.lt j hj).1)⟩
      case measure => simp [intOf]; omega
    · obtain rfl : k = m := by omega
      go_wp2
      go_ret
      exact ⟨_, rfl, by unfold IRow; rw [tabL_len]; exact HO.out, HB.out⟩

theorem inB_nat {n a b : Int} (h : inB n a b = true) (ha : 0 ≤ a) : ∃ m : Nat, n = (m : Int) ∧ a ≤ (m : Int) ∧ (m : Int) ≤ b := by
  obtain ⟨h1, h2⟩ := inB_of h
  obtain ⟨m, rfl⟩ := Int.eq_ofNat_of_zero_le (show 0 ≤ n by omega)
  exact ⟨m, rfl, h1, h2⟩

theorem specTable_bad (d n : Int) (w : World) (h : inB d 1 324000 = false) :
    Calls Try.prog 29 #[.int .i64 d, .int .i64 n] w fun e w' => e = .returned (.tuple #[.slice none 0 0, .int .i64 2]) ∧ w = w' := by
  go_enter Try.func29, Try.ntmps29
  go_wp2_with (first | (go_at_call 55; refine (l03Step_any _ _).mono ?_; rintro e w' ⟨rfl, rfl⟩) | (go_at_call 50; refine (l00In_any _ _ _ _).mono ?_; rintro e w' ⟨rfl, rfl⟩))
  exact bodyPost_ret (v := .tuple #[.slice none 0 0, .int .i64 2]) (by simp [results, Try.results29, go_sem]) rfl ⟨rfl, rfl⟩
theorem specTable_badN (d n : Int) (w : World) (h : inB d 1 324000 = true) (g : inB n 1 100 = false) :
    Calls Try.prog 29 #[.int .i64 d, .int .i64 n] w fun e w' => e = .returned (.tuple #[.slice none 0 0, .int .i64 2]) ∧ w = w' := by
  go_enter Try.func29, Try.ntmps29
  go_wp2_with (first | (go_at_call 55; refine (l03Step_any _ _).mono ?_; rintro e w' ⟨rfl, rfl⟩) | (go_at_call 50; refine (l00In_any _ _ _ _).mono ?_; rintro e w' ⟨rfl, rfl⟩))
  exact bodyPost_ret (v := .tuple #[.slice none 0 0, .int .i64 2]) (by simp [results, Try.results29, go_sem]) rfl ⟨rfl, rfl⟩
set_option maxHeartbeats 1000000 in
theorem specTable_yes (d : Int) (m : Nat) (w : World) (h : inB d 1 324000 = true) (g : inB (m : Int) 1 100 = true) :
    Calls Try.prog 29 #[.int .i64 d, .int .i64 (m : Int)] w fun e w' => ∃ v : Value, e = .returned (.tuple #[v, .int .i64 0]) ∧ IRow w' w.heap.size v (tabL d m) ∧ Below w.heap.size w w' := by
  obtain ⟨d1, d2⟩ := inB_of h
  obtain ⟨m1, m2⟩ := inB_of g
  go_enter Try.func29, Try.ntmps29
  go_wp2_with (first | (go_at_call 55; refine (l03Step_any _ _).mono ?_; rintro e w' ⟨rfl, rfl⟩) | (go_at_call 50; refine (l00In_any _ _ _ _).mono ?_; rintro e w' ⟨rfl, rfl⟩))
  go_wp2_with fail
  refine (l03Table_any d m w d1 d2 (by omega)).mono ?_
  rintro e w' ⟨v, rfl, hr, hb⟩
  have HR := Lib.hid hr
  have HB := Lib.hid hb
  clear hr hb
  go_wp2
  exact bodyPost_ret (v := .tuple #[v, .int .i64 0]) (by simp [results, Try.results29, go_sem]) rfl ⟨v, rfl, HR.out, HB.out⟩
--SPECEND
end Go.Proofs.Ytkgjncgfdoifbaa.sines
