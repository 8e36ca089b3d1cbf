/- What the rows of this seat list: the table of powers of ten, and the two errors of strconv; the decimal form by the program's function. -/
import Derived.Test.YtbnihalbepffoaaDoorDec
import Derived.Test.YtbnihalbepffoaaDoorShelf
import Derived.WalkSmall
import Derived.Lib.AppendIntMem
import Derived.Stop.LaidErr
namespace Go.Proofs.YtbnihalbepffoaaDoor.dec
open Go.ChangeShapes Go.WideShapes Go.ChangeAt Go.RowKit

theorem gPow : Tryd.prog.globalNamed "internal/strconv.uint64pow10" = some 2 := by kernel_rfl
theorem tPow : (Tryd.prog.globals[2]?).map (·.type) = some 163 := by kernel_rfl
theorem cPow : Tryd.prog.cellsOf 163 = 20 := by kernel_rfl
theorem cU64 : Tryd.prog.cellsOf 97 = 1 := by kernel_rfl
/-- The table's fact out of a list that it heads. -/
theorem pow_of {W : World} {rest : List (String × DataW Unit)} (h : laidMet Tryd.prog (("internal/strconv.uint64pow10", Rows.laid_internal_strconv_uint64pow10) :: rest) W) : Lib.TabIs Tryd.prog W "internal/strconv.uint64pow10" .u64 Lib.pow10Tab :=
  Lib.tabIs_of_head gPow tPow Tryd.underlying163 Tryd.underlying97 cU64 cPow h
/-- The table is as it was where nothing below has turned. -/
theorem pow_below {W W' : World} (h : Lib.TabIs Tryd.prog W "internal/strconv.uint64pow10" .u64 Lib.pow10Tab) (hb : Below W.heap.size W W') : Lib.TabIs Tryd.prog W' "internal/strconv.uint64pow10" .u64 Lib.pow10Tab :=
  var?_below hb gPow (lt_of_cell (h.cell gPow 0 (by decide))) h

theorem Decimal_any (n : Int) (w : World) (h1 : -9223372036854775808 ≤ n) (h2 : n ≤ 9223372036854775807) (ht : Lib.TabIs Tryd.prog w "internal/strconv.uint64pow10" .u64 Lib.pow10Tab) :
    Calls Tryd.prog 57 #[.int .i64 n] w fun e w' => e = .returned (.string ⟨(Lib.itoa n).toArray⟩) ∧ Below w.heap.size w w' := by
  have h1' := Lib.hid h1
  have h2' := Lib.hid h2
  have ht' := Lib.hid ht
  clear h1 h2 ht
  go_enter Tryd.func57, Tryd.ntmps57
  go_wp2_with (go_at_call 100; refine (Tryd.strconv_FormatInt_10 n h1'.out h2'.out _ ht'.out).mono ?_; rintro e w' ⟨rfl, k, os, rfl⟩)
  go_ret
  exact ⟨rfl, Lib.below_grow _ _ (Nat.le_refl _) _ _⟩


end Go.Proofs.YtbnihalbepffoaaDoor.dec
