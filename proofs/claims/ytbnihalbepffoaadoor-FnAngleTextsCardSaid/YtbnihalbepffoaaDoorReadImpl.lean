/- The program's reading of numbers. -/
import Derived.Test.YtbnihalbepffoaaDoorRead
import Derived.Lib.SmallJoins
import Derived.Lib.AtoiErrMem
namespace Go.Proofs.YtbnihalbepffoaaDoor.dec
open Go.ChangeShapes Go.WideShapes Go.ChangeAt Go.RowKit Go.Proofs.YtbnihalbepffoaaDoor.num

theorem star : "*" ++ "errors.errorString" = "*errors.errorString" := by decide
theorem rowErr (u : TypeId) (h : Tryd.prog.typeName? 3 u = some "*errors.errorString") : u = 177 :=
  typeName_ptr_named (nm := "errors.errorString") (by rw [star]; kernel_rfl) (by kernel_rfl) (by decide) u (by rw [star]; exact h)
theorem cErr : Tryd.prog.cellsOf 179 = 1 := by kernel_rfl
theorem cStr : Tryd.prog.cellsOf 9 = 1 := by kernel_rfl
theorem gSyn : Tryd.prog.globalNamed "strconv.ErrSyntax" = some 3 := by kernel_rfl
theorem tSyn : (Tryd.prog.globals[3]?).map (·.type) = some 107 := by kernel_rfl
theorem gRng : Tryd.prog.globalNamed "strconv.ErrRange" = some 4 := by kernel_rfl
theorem tRng : (Tryd.prog.globals[4]?).map (·.type) = some 107 := by kernel_rfl
/-- A variable that holds an error. -/
def ErrVar (w : World) (n : String) : Prop := ∃ tp p, w.var? Tryd.prog n = some #[.iface tp p]
theorem syn_of {W : World} {rest : List (String × DataW Unit)} (h : laidMet Tryd.prog (("strconv.ErrSyntax", Rows.laid_strconv_ErrSyntax) :: rest) W) : ErrVar W "strconv.ErrSyntax" := by
  obtain ⟨a, s, hv, _⟩ := laid_sentinel h gSyn tSyn Tryd.underlying107 rowErr Tryd.underlying177 Tryd.underlying179 rfl rfl Tryd.underlying9 cErr cStr
  exact ⟨_, _, hv⟩
theorem rng_of {W : World} {rest : List (String × DataW Unit)} (h : laidMet Tryd.prog (("strconv.ErrRange", Rows.laid_strconv_ErrRange) :: rest) W) : ErrVar W "strconv.ErrRange" := by
  obtain ⟨a, s, hv, _⟩ := laid_sentinel h gRng tRng Tryd.underlying107 rowErr Tryd.underlying177 Tryd.underlying179 rfl rfl Tryd.underlying9 cErr cStr
  exact ⟨_, _, hv⟩
/-- What the rows list, for whoever reads or writes numbers; it stays where nothing below has turned. -/
def Lists (w : World) : Prop := Lib.TabIs Tryd.prog w "internal/strconv.uint64pow10" .u64 Lib.pow10Tab ∧ ErrVar w "strconv.ErrSyntax" ∧ ErrVar w "strconv.ErrRange"
theorem var_lt {w : World} {n : String} {g : Nat} {cs : Array Value} (hg : Tryd.prog.globalNamed n = some g) (h : w.var? Tryd.prog n = some cs) : g < w.heap.size := by
  simp only [World.var?, hg, Option.bind_some] at h
  cases hh : w.heap[g]? with
  | none => simp [hh] at h
  | some x => exact (Array.getElem?_eq_some_iff.1 hh).1
theorem lists_below {W W' : World} (h : Lists W) (hb : Below W.heap.size W W') : Lists W' := by
  obtain ⟨h1, ⟨tp, p, h2⟩, ⟨tq, q, h3⟩⟩ := h
  exact ⟨pow_below h1 hb, ⟨tp, p, var?_below hb gSyn (var_lt gSyn h2) h2⟩, ⟨tq, q, var?_below hb gRng (var_lt gRng h3) h3⟩⟩
theorem lists_of {W : World} {rest : List (String × DataW Unit)} (h : laidMet Tryd.prog (("internal/strconv.uint64pow10", Rows.laid_internal_strconv_uint64pow10) :: ("strconv.ErrRange", Rows.laid_strconv_ErrRange) :: ("strconv.ErrSyntax", Rows.laid_strconv_ErrSyntax) :: rest) W) : Lists W :=
  ⟨pow_of h, syn_of (laidMet.tail (laidMet.tail h)), rng_of (laidMet.tail h)⟩
theorem below_bytes {w w' : World} (h : w' = w ∨ ∃ t, w' = Lib.bytesWorld w 5 t) : Below w.heap.size w w' := by
  rcases h with rfl | ⟨t, rfl⟩
  · exact Below.refl _ _
  · exact Lib.bytesWorld_below w _ t

def inB (n a b : Int) : Bool := decide (a ≤ n ∧ n ≤ b)
theorem inB_of {n a b : Int} (h : inB n a b = true) : a ≤ n ∧ n ≤ b := by simpa [inB] using h
theorem within_any (n a b : Int) (w : World) :
    Calls Tryd.prog 56 #[.int .i64 n, .int .i64 a, .int .i64 b] w fun e w' => e = .returned (.bool (inB n a b)) ∧ w = w' := by
  by_cases h1 : a ≤ n
  · by_cases h2 : n ≤ b
    · go_enter Tryd.func56, Tryd.ntmps56
      go_wp2
      all_goals (go_ret; exact ⟨ret_bool (by rw [Bool.eq_iff_iff]; simp [inB]; omega), rfl⟩)
    · go_enter Tryd.func56, Tryd.ntmps56
      go_wp2
      all_goals (go_ret; exact ⟨ret_bool (by rw [Bool.eq_iff_iff]; simp [inB]; omega), rfl⟩)
  · have h1' : decide (a ≤ n) = false := by simpa using h1
    go_enter Tryd.func56, Tryd.ntmps56
    go_wp2
    all_goals (go_ret; exact ⟨ret_bool (by rw [Bool.eq_iff_iff]; simp [inB]; omega), rfl⟩)
set_option maxHeartbeats 1000000 in
theorem ReadDecimal_any (s : ByteArray) (w : World) (hs : s.size ≤ 281474976710656) (hl : Lists w) :
    Calls Tryd.prog 59 #[.string s] w fun e w' => e = .returned (.tuple #[.int .i64 (readV s.data.toList), .bool (readB s.data.toList)]) ∧ Below w.heap.size w w' := by
  have HS := Lib.hid hs
  have HM := Lib.hid (show s.size ≤ 9223372036854775806 by omega)
  clear hs
  cases hp : Lib.parseIntB 64 s.data.toList with
  | range =>
    obtain ⟨tp, q, hv⟩ := hl.2.2
    have HV := Lib.hid hv
    have HP := Lib.hid hp
    clear hv hp
    go_enter Tryd.func59, Tryd.ntmps59
    go_wp2_with (go_at_call 101; refine (Tryd.strconv_ParseInt_10_at64_range_var s HS.out HP.out tp q _ HV.out).mono ?_; rintro e w1 ⟨N, rfl, _, _, hb1⟩)
    go_ret2
    exact ⟨ret_read (read_no fun n g => by have := parse_form g; rw [HP.out] at this; cases this), hb1⟩
  | ok v =>
    have HP := Lib.hid hp
    clear hp
    have HL := Lib.hid hl
    clear hl
    cases hb : inB v (-999999999999999999) 999999999999999999 with
    | false =>
      have HB := Lib.hid hb
      go_enter Tryd.func59, Tryd.ntmps59
      go_wp2_with (first | (go_at_call 101; refine (Tryd.strconv_ParseInt_10_at64_ok s HM.out v HP.out _).mono ?_; rintro e w1 ⟨rfl, hw1⟩; have hb1 := Lib.hid (below_bytes hw1); clear hw1) | (go_at_call 56; refine (within_any _ _ _ _).mono ?_; rintro e w' ⟨rfl, rfl⟩))
      go_ret2
      exact ⟨ret_read (read_no fun n g => by have h2 := parse_form g; rw [HP.out] at h2; obtain rfl : v = n := (by injection h2); have h3 := HB.out; have h4 := g.1; have h5 := g.2.1; simp [inB] at h3; omega), hb1.out⟩
    | true =>
      have HB := Lib.hid (inB_of hb)
      go_enter Tryd.func59, Tryd.ntmps59
      go_wp2_with (first | (go_at_call 101; refine (Tryd.strconv_ParseInt_10_at64_ok s HM.out v HP.out _).mono ?_; rintro e w1 ⟨rfl, hw1⟩; have hb1 := Lib.hid (below_bytes hw1); clear hw1) | (go_at_call 56; refine (within_any _ _ _ _).mono ?_; rintro e w' ⟨rfl, rfl⟩) | (go_at_call 57; refine (Decimal_any _ _ (by have := HB.out; omega) (by have := HB.out; omega) (pow_below HL.out.1 hb1.out)).mono ?_; rintro e w2 ⟨rfl, hb2⟩))
      · have h : (!(Lib.itoa v == s.toList)) = true := by assumption
        go_ret2
        exact ⟨ret_read (read_no fun n g => by have h2 := parse_form g; rw [HP.out] at h2; obtain rfl : v = n := (by injection h2); have h3 := g.2.2; rw [h3, ByteArray.toList_eq] at h; simp at h), hb1.out.trans (hb2.mono hb1.out.size)⟩
      · have h : (!(Lib.itoa v == s.toList)) = false := by assumption
        go_ret2
        exact ⟨ret_read (read_yes ⟨HB.out.1, HB.out.2, by rw [ByteArray.toList_eq] at h; simpa using h⟩), hb1.out.trans (hb2.mono hb1.out.size)⟩
  | _ =>
    obtain ⟨tp, q, hv⟩ := hl.2.1
    have HV := Lib.hid hv
    have HN := Lib.hid (show ∀ v, Lib.parseIntB 64 s.data.toList ≠ .ok v from fun v h => by rw [hp] at h; cases h)
    have HR := Lib.hid (show Lib.parseIntB 64 s.data.toList ≠ .range from fun h => by rw [hp] at h; cases h)
    clear hv hp
    go_enter Tryd.func59, Tryd.ntmps59
    go_wp2_with (go_at_call 101; refine (Tryd.strconv_ParseInt_10_at64_syn_var s HS.out HN.out HR.out tp q _ HV.out).mono ?_; rintro e w1 ⟨N, rfl, _, _, hb1⟩)
    go_ret2
    exact ⟨ret_read (read_no fun n g => HN.out n (parse_form g)), hb1⟩

end Go.Proofs.YtbnihalbepffoaaDoor.dec
