/- The model's first colours: contract. -/
import Derived.Test.YtphcpfiddbokgaaColsS
namespace Go.Proofs.Ytphcpfiddbokgaa.sines
open Go.ChangeShapes Go.WideShapes Go.ChangeAt Go.RowKit Go.Proofs.Ytphcpfiddbokgaa.spots Go.Proofs.Ytphcpfiddbokgaa.irows Go.Proofs.Ytphcpfiddbokgaa.pairsBorder
set_option linter.unusedSimpArgs false
set_option linter.unusedVariables false

set_option maxRecDepth 100000 in
set_option maxHeartbeats 4000000 in
theorem l09First_any (n m : Int) (v : Value) (ps : List (Int × Int)) (w : World) (hv : PAt w w.heap.size v ps) (hok : validC n ps = true) (m0 : 0 ≤ m) (m1 : m ≤ 10) :
    Calls Try.prog 49 #[.int .i64 n, v, .int .i64 m] w fun e w' => ∃ u, e = .returned (.tuple #[u, .bool (firstC n ps m).isSome]) ∧ IRow w' w.heap.size u ((firstC n ps m).getD []) ∧ Below w.heap.size w w' := by
  obtain ⟨n0, n1, hl30, hf⟩ := validC_facts hok
  have SF := search_first hok m
  obtain ⟨N, rfl⟩ : ∃ N : Nat, n = (N : Int) := ⟨n.toNat, by omega⟩
  obtain ⟨M, rfl⟩ : ∃ M : Nat, m = (M : Int) := ⟨m.toNat, by omega⟩
  rw [Int.toNat_natCast, Int.toNat_natCast] at SF
  have HV := Lib.hid hv
  have HP := Lib.hid (show ∀ i, i < ps.length → 0 ≤ (bAt ps i).1 ∧ (bAt ps i).1 < (bAt ps i).2 from fun i hi => ⟨(hf i hi).1, (hf i hi).2.1⟩)
  obtain ⟨R, hR⟩ : ∃ R, Hid (firstC (N : Int) ps (M : Int) = R) := ⟨_, Lib.hid rfl⟩
  rw [hR.out] at SF ⊢
  have SF2 := Lib.hid SF
  obtain ⟨av, cv, rfl, _⟩ := hv
  clear hok hf SF
  go_enter Try.func49, Try.ntmps49
  go_wp2_with fail
  have B2 := Lib.hid (show Below w.heap.size w ((w.alloc (.cells #[.int .i64 N, .slice av ps.length cv, .int .i64 M, .slice none 0 0, .bool false] 81)).alloc (.cells #[] 2)) from (((Below.refl _ _).alloc (Nat.le_refl _) _).alloc (by simp) _))
  have C2 := Lib.hid (show CSt ((w.alloc (.cells #[.int .i64 N, .slice av ps.length cv, .int .i64 M, .slice none 0 0, .bool false] 81)).alloc (.cells #[] 2)) w.heap.size N (.slice av ps.length cv) M (.slice none 0 0) false by
    unfold CSt
    rw [heap_alloc_old _ _ (by simp)]
    exact heap_alloc_new w _)
  have Z2 := Lib.hid (show ((w.alloc (.cells #[.int .i64 N, .slice av ps.length cv, .int .i64 M, .slice none 0 0, .bool false] 81)).alloc (.cells #[] 2)).heap.size = w.heap.size + 2 by simp)
  have I2 := Lib.hid (irow_made (w.alloc (.cells #[.int .i64 N, .slice av ps.length cv, .int .i64 M, .slice none 0 0, .bool false] 81)) (w.heap.size + 1) (by simp))
  rw [show (w.alloc (.cells #[.int .i64 N, .slice av ps.length cv, .int .i64 M, .slice none 0 0, .bool false] 81)).heap.size = w.heap.size + 1 by simp] at I2
  have P2 := Lib.hid (pat_keep HV.out B2.out)
  generalize ((w.alloc (.cells #[.int .i64 N, .slice av ps.length cv, .int .i64 M, .slice none 0 0, .bool false] 81)).alloc (.cells #[] 2)) = V2 at *
  have WK := Lib.hid (walk9_any w.heap.size N M (.slice av ps.length cv) ps (by omega) (by omega) (by omega) hl30 HP.out N [] (.slice (some ⟨w.heap.size + 1, 0, none⟩) 0 0) V2 C2.out I2.out P2.out (by simp))
  rw [SF2.out] at WK
  refine WK.out.mono ?_
  rintro e w3 ⟨⟨x, rfl⟩, q1, q2, q3, q4⟩
  have HB := Lib.hid (B2.out.trans (off_below q2 (by have := Z2.out; omega) (fun b h => by simp [Value.ownBlock] at h; omega)))
  clear q1 q2
  cases R with
  | none =>
    obtain ⟨_, _, _, _, d3, d4, _⟩ := cst_cells (q3 rfl)
    have FR := fun q : Nat => Lib.hid (irow_nil (w3.drewN q) w.heap.size)
    clear q3 q4
    go_wp2
    go_quiet (fail)
    go_wp2
    exact bodyPost_ret (v := .tuple #[.slice none 0 0, .bool false]) (by simp [results, Try.results49, go_sem]) rfl ⟨_, rfl, irow_nil _ _, bdQ9 HB.out _⟩
  | some zs =>
    obtain ⟨fv, hst, hfr⟩ := q4 zs rfl
    obtain ⟨_, _, _, _, d3, d4, _⟩ := cst_cells hst
    obtain ⟨⟨af, cf, rfl⟩, _⟩ := irow_shape hfr
    have FR := Lib.hid (irow_up hfr (Nat.le_succ _))
    clear q3 q4 hst hfr
    go_wp2
    go_quiet (fail)
    go_wp2
    exact bodyPost_ret (v := .tuple #[.slice af zs.length cf, .bool true]) (by simp [results, Try.results49, go_sem]) rfl ⟨_, rfl, FR.out, bdQ9 HB.out _⟩
end Go.Proofs.Ytphcpfiddbokgaa.sines
