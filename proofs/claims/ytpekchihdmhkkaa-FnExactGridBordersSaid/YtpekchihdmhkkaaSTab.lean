/- Lists of texts that are handed in: opened, measured, copied. -/
import Derived.Test.YtpekchihdmhkkaaHeld
import Derived.SliceStrings
import Derived.Deep.RegionWith
import Derived.Lib.BufferOwn
import Derived.Deep.WholeRow
import Derived.Maps.AppendAt
import Derived.BigQuiet
namespace Go.Proofs.Ytpekchihdmhkkaa.stab
open Go.ChangeShapes Go.WideShapes Go.ChangeAt Go.RowKit Go.Proofs.Ytpekchihdmhkkaa.split
set_option linter.unusedSimpArgs false
set_option linter.unusedVariables false

theorem bdr {B : Nat} {a w : World} (h : Below B a w) (q : Nat) : Below B a (w.drewN q) := ⟨h.os, h.tape, h.output, h.size, h.block⟩
theorem below_drawn (w : World) (q : Nat) : Below w.heap.size w (w.drewN q) := bdr (Below.refl _ _) q
theorem add_plain' (b off i : Nat) : (⟨b, off, none⟩ : Addr).add i = ⟨b, off + i, none⟩ := by
  by_cases h : i = 0 <;> simp [Addr.add, h]
theorem retI {a b : Int} (h : a = b) : Ending.returned (.int .i64 a) = .returned (.int .i64 b) := by rw [h]
def sAt (ps : List ByteArray) (i : Nat) : ByteArray := ps.getD i ByteArray.empty
theorem sAt_eq {ps : List ByteArray} {i : Nat} (h : i < ps.length) : sAt ps i = ps[i] := by simp [sAt, h]
def rowS (n : Nat) (f : Nat → ByteArray) : List ByteArray := (List.range n).map f
theorem rowS_len (n : Nat) (f : Nat → ByteArray) : (rowS n f).length = n := by simp [rowS]
theorem rowS_congr {n : Nat} {f g : Nat → ByteArray} (h : ∀ j, j < n → f j = g j) : rowS n f = rowS n g := by
  unfold rowS
  exact List.map_congr_left fun j hj => h j (List.mem_range.1 hj)
theorem rowS_set {n : Nat} {f : Nat → ByteArray} {i : Nat} (x : ByteArray) (hi : i < n) : (split.strs (rowS n f)).set i (.string x) = split.strs (rowS n fun j => if j = i then x else f j) := by
  apply List.ext_getElem?
  intro j
  unfold split.strs rowS
  rw [List.getElem?_set]
  by_cases hj : j < n
  · by_cases e : i = j
    · subst e; simp [hj]
    · have e' : ¬ j = i := fun k => e k.symm
      simp [hj, e, e']
  · by_cases e : i = j
    · omega
    · simp [hj, e]
theorem made_rowS (n : Nat) : (madeCells (Value.string ByteArray.empty).cells (n * 1)).toList = split.strs (rowS n fun _ => ByteArray.empty) := by
  apply List.ext_getElem?
  intro j
  by_cases hj : j < n
  · simp [madeCells, split.strs, rowS, hj, Value.cells, Nat.mod_one]
  · simp [madeCells, split.strs, rowS, hj]
theorem rowS_sAt (ps : List ByteArray) : rowS ps.length (sAt ps) = ps := by
  apply List.ext_getElem
  · simp [rowS]
  · intro i h1 h2; simp [rowS, sAt_eq h2]
theorem info_str : (Try.prog.info? 9).map (fun i => (i.zero, i.size, i.bytes)) = some (some (.string ByteArray.empty), 1, 16) := by kernel_rfl
theorem info_partsT {z : Value} {t : TypeId} {b : Nat} (h : (Try.prog.info? t).map (fun i => (i.zero, i.size, i.bytes)) = some (some z, 1, b)) :
    ∃ i0, Try.prog.info? t = some i0 ∧ i0.zero = some z ∧ i0.size = 1 ∧ i0.bytes = b := by
  cases hi : Try.prog.info? t with
  | none => rw [hi] at h; simp at h
  | some i0 => rw [hi] at h; simp at h; exact ⟨i0, rfl, h.1, h.2.1, h.2.2⟩
/-- A made row of n texts in a block of its own. -/
def RowT (w : World) (B g n : Nat) (f : Nat → ByteArray) : Prop := SRow w B (.slice (some ⟨g, 0, none⟩) n n) (rowS n f)
theorem rowT_start {w : World} {B g n : Nat} (h : w.ownsRow B 9 1 (.slice (some ⟨g, 0, none⟩) n n) n (madeCells (Value.string ByteArray.empty).cells (n * 1)).toList) : RowT w B g n (fun _ => ByteArray.empty) := by
  rw [made_rowS] at h
  unfold RowT SRow
  rw [rowS_len]
  exact h
theorem rowT_cell {w : World} {B g n : Nat} {f : Nat → ByteArray} (h : RowT w B g n f) {k : Nat} (hk : k < n) : w.cell? ⟨g, k, none⟩ = some (.string (f k)) ∧ w.frozen? ⟨g, k, none⟩ = false := by
  have h2 : SRow w B (.slice (some ⟨g, 0, none⟩) (rowS n f).length n) (rowS n f) := by rw [rowS_len]; exact h
  refine ⟨?_, World.ownsRow.frozenAt h2 k⟩
  rw [srow_cell h2 k (by rw [rowS_len]; exact hk)]
  simp [rowS]
theorem rowT_store {w : World} {B g n : Nat} {f : Nat → ByteArray} (h : RowT w B g n f) {k : Nat} (hk : k < n) (x : ByteArray) : RowT (w.setCell ⟨g, k, none⟩ (.string x)) B g n (fun j => if j = k then x else f j) :=
  srow_store h (rowS_len n f) (rowS_set x hk) (rowS_len n _)
theorem rowT_congr {w : World} {B g n : Nat} {f f' : Nat → ByteArray} (h : RowT w B g n f) (he : ∀ j, j < n → f j = f' j) : RowT w B g n f' := by
  unfold RowT at h ⊢
  rw [← rowS_congr he]; exact h
theorem rowT_keep {w w' : World} {B g n : Nat} {f : Nat → ByteArray} (h : RowT w B g n f) (hb : Below w.heap.size w w') : RowT w' B g n f := srow_keep h hb
theorem rowT_lt {w : World} {B g n : Nat} {f : Nat → ByteArray} (h : RowT w B g n f) (hn : 0 < n) : g < w.heap.size := World.block_lt_of_cell? _ _ (rowT_cell h hn).1
/-- What is read of a list of texts. -/
def SAt (w : World) (B : Nat) (v : Value) (ps : List ByteArray) : Prop := ∃ a c, v = .slice a ps.length c ∧ ps.length ≤ c ∧ ∀ k, k < ps.length → ∃ b off, a = some ⟨b, off, none⟩ ∧ b < B ∧ w.cell? ⟨b, off + k, none⟩ = some (.string (sAt ps k))
theorem sat_keep {w w' : World} {B : Nat} {v : Value} {ps : List ByteArray} (h : SAt w B v ps) (hb : Below B w w') : SAt w' B v ps := by
  obtain ⟨a, c, rfl, h0, hc⟩ := h
  refine ⟨a, c, rfl, h0, fun k hk => ?_⟩
  obtain ⟨b, off, e1, e2, e3⟩ := hc k hk
  exact ⟨b, off, e1, e2, (hb.cell (p := ⟨b, off + k, none⟩) e2).trans e3⟩
theorem sat_up {w : World} {B B' : Nat} {v : Value} {ps : List ByteArray} (h : SAt w B v ps) (hB : B ≤ B') : SAt w B' v ps := by
  obtain ⟨a, c, rfl, h0, hc⟩ := h
  refine ⟨a, c, rfl, h0, fun k hk => ?_⟩
  obtain ⟨b, off, e1, e2, e3⟩ := hc k hk
  exact ⟨b, off, e1, by omega, e3⟩
theorem srow_up {w : World} {B B' : Nat} {v : Value} {ps : List ByteArray} (h : SRow w B v ps) (hB : B' ≤ B) : SRow w B' v ps := by
  refine ⟨h.1, ?_⟩
  rcases h.2 with hn | ⟨g, cap, cur, hv, hg1, hr⟩
  · exact .inl hn
  · exact .inr ⟨g, cap, cur, hv, Nat.le_trans hB hg1, hr⟩
theorem srow_lt {w : World} {B : Nat} {v : Value} {ps : List ByteArray} (h : SRow w B v ps) : ∀ k, v.ownBlock = some k → k < w.heap.size := fun k hk => (World.ownsRow.lt h k hk).2
/-- A row whose block lies below another one's is not touched by what is done to that. -/
theorem srow_other {w w' : World} {B C : Nat} {v u : Value} {ps qs : List ByteArray} (h : SRow w B v ps) (hv : ∀ k, v.ownBlock = some k → k < C) (hu : SRow w C u qs) (hg : w.grownBy w' u.ownBlock) : SRow w' B v ps := by
  refine World.ownsRow.kept h hg ?_
  cases hk : v.ownBlock with
  | none => exact .inl rfl
  | some k =>
    refine .inr fun e => ?_
    have h1 := hv k hk
    have h2 := (World.ownsRow.lt hu k e.symm).1
    omega
/-- The same, the other one lying below. -/
theorem srow_other' {w w' : World} {B C : Nat} {v u : Value} {ps qs : List ByteArray} (h : SRow w C v ps) (hv : ∀ k, u.ownBlock = some k → k < C) (hu : SRow w B u qs) (hg : w.grownBy w' u.ownBlock) : SRow w' C v ps := by
  refine World.ownsRow.kept h hg ?_
  cases hk : v.ownBlock with
  | none => exact .inl rfl
  | some k =>
    refine .inr fun e => ?_
    have h1 := hv k e.symm
    have h2 := (World.ownsRow.lt h k hk).1
    omega
theorem sat_of_row {w : World} {B : Nat} {v : Value} {ps : List ByteArray} (h : SRow w B v ps) : SAt w w.heap.size v ps := by
  have hs := srow_shape h
  obtain ⟨⟨a, c, e⟩, h1⟩ := hs
  subst e
  refine ⟨a, c, rfl, ?_, fun k hk => ?_⟩
  · rcases h.2 with ⟨hv, h0⟩ | ⟨g, cap, cur, hv, hB, _, hc, _⟩
    · rw [h0]; exact Nat.zero_le _
    · cases hv; exact hc
  · obtain ⟨g, c2, e, _⟩ := h1 (by omega)
    simp at e
    obtain ⟨rfl, rfl⟩ := e
    have hc := srow_cell h k hk
    exact ⟨g, 0, rfl, World.block_lt_of_cell? _ _ hc, by rw [sAt_eq hk, Nat.zero_add]; exact hc⟩
/-- An argument is such a list. -/
theorem open_slist {H : Type} {enc : TypeId × Value → H} {W : World} {base : Nat} {spare : Nat → Bool} {held : Bool} {fuel : Nat} {v : Value} {x : DataW H × List MemPlace} (h : DataW.trod enc Try.prog W base spare held fuel 22 v.cells.toList = some x) (hv : ∃ a l c, v = .slice a l c) :
    ∃ ps, SAt W W.heap.size v ps ∧ ps.length ≤ maxLen ∧ ∀ i, i < ps.length → (sAt ps i).size ≤ maxLen := by
  obtain ⟨a0, l0, c0, rfl⟩ := hv
  rcases open_strings Try.underlying22 Try.underlying9 (by kernel_rfl) h with ⟨hcs, _⟩ | ⟨a, l, c, zs, hcs, _, hl, hm, hz, _, hcell, hwz⟩
  · simp [Value.cells] at hcs
    obtain ⟨rfl, rfl, rfl⟩ := hcs
    exact ⟨[], ⟨none, 0, rfl, Nat.le_refl _, fun k hk => by simp at hk⟩, Nat.zero_le _, fun i hi => by simp at hi⟩
  · simp [Value.cells] at hcs
    obtain ⟨rfl, rfl, rfl⟩ := hcs
    obtain ⟨b, off, spot⟩ := a
    have hll : l0 ≤ zs.length := by rw [hz]; split <;> omega
    have e : (zs.take l0).length = l0 := by simp; omega
    have hza : ∀ k, k < l0 → sAt (zs.take l0) k = zs.getD k ByteArray.empty := fun k hk => by simp [sAt, hk, List.getElem?_take]
    refine ⟨zs.take l0, ⟨some ⟨b, off, spot⟩, c0, by rw [e], by rw [e]; exact hl, fun k hk => ?_⟩, by rw [e]; omega, fun i hi => ?_⟩
    · rw [e] at hk
      have hspot : spot = none := by simpa [Addr.add] using World.cell?_spot (hcell 0 (by omega))
      subst hspot
      have h1 := hcell k (by omega)
      rw [add_plain', ← hza k hk] at h1
      exact ⟨b, off, rfl, World.block_lt_of_cell? _ _ h1, h1⟩
    · rw [e] at hi
      rw [hza i hi]
      have : zs.getD i ByteArray.empty = zs[i]'(by omega) := by simp [show i < zs.length by omega]
      rw [this]
      exact hwz _ (List.getElem_mem _)
/-- The bytes of the first texts. -/
def totS (ps : List ByteArray) : Nat → Nat
  | 0 => 0
  | k + 1 => totS ps k + (sAt ps k).size
theorem totS_mono (ps : List ByteArray) (i : Nat) : ∀ k, totS ps i ≤ totS ps (i + k)
  | 0 => Nat.le_refl _
  | k + 1 => by have := totS_mono ps i k; rw [show i + (k + 1) = (i + k) + 1 by omega, totS]; omega
theorem totS_le (ps : List ByteArray) {i j : Nat} (h : i ≤ j) : totS ps i ≤ totS ps j := by
  have := totS_mono ps i (j - i)
  rwa [show i + (j - i) = j by omega] at this
theorem totS_row {ps : List ByteArray} {i : Nat} (h : i < ps.length) : (sAt ps i).size ≤ totS ps ps.length := by
  have h1 := totS_le ps (show i + 1 ≤ ps.length by omega)
  rw [totS] at h1
  omega
def fitS (ps : List ByteArray) : Bool := decide (ps.length + totS ps ps.length ≤ 1048576)
theorem fitS_of {ps : List ByteArray} (h : fitS ps = true) : ps.length ≤ 1048576 ∧ ∀ i, i < ps.length → (sAt ps i).size ≤ 1048576 := by
  simp [fitS] at h
  exact ⟨by omega, fun i hi => by have := totS_row hi; omega⟩
set_option maxRecDepth 100000 in
set_option maxHeartbeats 1000000 in
theorem szS_any (v : Value) (ps : List ByteArray) (w : World) (h : SAt w w.heap.size v ps) (hm : ps.length ≤ maxLen) (hr : ∀ i, i < ps.length → (sAt ps i).size ≤ maxLen) :
    Calls Try.prog 13 #[v, .int .i64 1048576] w fun e w' => e = .returned (.int .i64 (if fitS ps = true then 1048576 - (ps.length : Int) - (totS ps ps.length : Int) else -1)) ∧ w = w' := by
  obtain ⟨a, c, rfl, _, hc⟩ := h
  have HC := Lib.hid hc
  have HM := Lib.hid hr
  unfold maxLen at hm
  by_cases hbig : 1048576 < ps.length
  · have hf : fitS ps = false := by simp [fitS]; omega
    have h1 : 1048576 < (ps.length : Int) := by omega
    have h2 : (ps.length : Int) ≤ 9223372036854775807 := by omega
    rw [hf]
    simp only [Bool.false_eq_true, if_false]
    clear hc hr
    go_enter Try.func13, Try.ntmps13
    go_wp2
    go_ret
    exact ⟨rfl, rfl⟩
  · have h1 : (ps.length : Int) ≤ 1048576 := by omega
    have k1 : IntKind.i64.wrap (1048576 - (ps.length : Int)) = 1048576 - (ps.length : Int) := IntWalk.i64_in _ (by omega)
    have h3 : decide (1048576 - (ps.length : Int) < 0) = false := by simp; omega
    obtain ⟨R, hR⟩ : ∃ R, Hid ((if fitS ps = true then 1048576 - (ps.length : Int) - (totS ps ps.length : Int) else -1) = R) := ⟨_, Lib.hid rfl⟩
    rw [hR.out]
    clear hc hr hbig
    go_enter Try.func13, Try.ntmps13
    go_wp2
    go_loopw [1, 5] (fun l i wr => ∃ k : Nat, k ≤ ps.length ∧ i = .int .i64 (k : Int) ∧ (ps.length : Int) + (totS ps k : Int) ≤ 1048576 ∧ l = .int .i64 (1048576 - (ps.length : Int) - (totS ps k : Int)) ∧ w = wr) (fun _ i _ => ps.length - (intOf i).toNat)
    case atStart => exact ⟨0, Nat.zero_le _, rfl, by simp [totS]; omega, by simp [totS], rfl⟩
    case round =>
      obtain ⟨k, hk, rfl, hle, rfl, hw⟩ := hrel
      by_cases hlt : k < ps.length
      · obtain ⟨b, off, rfl, hbs, c1⟩ := HC.out k hlt
        rw [hw] at c1
        have hml := HM.out k hlt
        unfold maxLen at hml
        have hk0 : 0 ≤ (k : Int) := by omega
        have hk1 : (k : Int) < (ps.length : Int) := by omega
        have ET := Lib.hid (show totS ps (k + 1) = totS ps k + (sAt ps k).size from rfl)
        have LE := Lib.hid (totS_le ps (show k + 1 ≤ ps.length by omega))
        have HLE := Lib.hid hle
        have HW := Lib.hid hw
        clear hw
        generalize sAt ps k = x at c1 ET hml
        have kw : IntKind.i64.wrap (1048576 - (ps.length : Int) - (totS ps k : Int) - (x.size : Int)) = 1048576 - (ps.length : Int) - (totS ps k : Int) - (x.size : Int) := IntWalk.i64_in _ (by omega)
        by_cases hb2 : (x.size : Int) ≤ 1048576 - (ps.length : Int) - (totS ps k : Int)
        · have NL := Lib.hid (show (ps.length : Int) + (totS ps (k + 1) : Int) ≤ 1048576 by rw [ET.out]; omega)
          have NE := Lib.hid (show 1048576 - (ps.length : Int) - (totS ps k : Int) - (x.size : Int) = 1048576 - (ps.length : Int) - (totS ps (k + 1) : Int) by rw [ET.out]; omega)
          have dn : decide (1048576 - (ps.length : Int) - (totS ps k : Int) - (x.size : Int) < 0) = false := by simp; omega
          clear hle hb2 hml
          go_wp2
          go_roundw
          case rel => exact ⟨k + 1, by omega, by go_num, NL.out, by rw [NE.out], HW.out⟩
          case measure => simp [intOf]; omega
        · have RR := Lib.hid (show R = -1 by
            rw [← hR.out, if_neg]
            simp [fitS]
            have := ET.out; have := LE.out
            omega)
          obtain rfl := RR.out
          have dn : decide (1048576 - (ps.length : Int) - (totS ps k : Int) - (x.size : Int) < 0) = true := by simp; omega
          clear hle hb2 hml
          go_wp2
          go_ret
          exact ⟨rfl, HW.out⟩
      · obtain rfl : k = ps.length := by omega
        have RR := Lib.hid (show 1048576 - (ps.length : Int) - (totS ps ps.length : Int) = R by
          rw [← hR.out, if_pos]
          simp [fitS]
          omega)
        have HW := Lib.hid hw
        clear hle hw
        go_wp2
        go_ret
        exact ⟨retI RR.out, HW.out⟩
set_option maxRecDepth 100000 in
set_option maxHeartbeats 1000000 in
theorem toS_any (v : Value) (ps : List ByteArray) (w : World) (hv : SAt w w.heap.size v ps) (hl : ps.length ≤ 1048576) :
    Calls Try.prog 15 #[v] w fun e w' => ∃ u, e = .returned u ∧ SRow w' w.heap.size u ps ∧ Below w.heap.size w w' := by
  obtain ⟨ar, c, rfl, _, hcl⟩ := hv
  have HCL := Lib.hid hcl
  clear hcl
  obtain ⟨i0, hi, hz0, hz1, hz2⟩ := info_partsT info_str
  obtain ⟨w1, hmk1, hown1, hg1⟩ := run_make_full (P := Try.prog) (w := w) w.heap.size 22 9 i0 (.string ByteArray.empty) 1 Try.underlying22 hi hz0 hz1 .i64 .i64 ps.length (by rw [hz2]; omega) (by unfold maxLen; omega) (by simp)
  have R1 := Lib.hid (rowT_start hown1)
  have B1 := Lib.hid (show Below w.heap.size w w1 from (Below.refl _ _).grown hg1 (by simp) (by simp))
  clear hown1 hg1
  have hl2 : (ps.length : Int) ≤ 1048576 := by omega
  go_enter Try.func15, Try.ntmps15
  go_wp2
  clear hmk1
  go_loopw [4] (fun i wr => ∃ k : Nat, k ≤ ps.length ∧ i = .int .i64 (k : Int) ∧ RowT wr w.heap.size w.heap.size ps.length (fun j => if j < k then sAt ps j else ByteArray.empty) ∧ Below w.heap.size w wr) (fun i _ => ps.length - (intOf i).toNat)
  case atStart => exact ⟨0, Nat.zero_le _, rfl, rowT_congr R1.out (fun j _ => by simp), B1.out⟩
  case round =>
    obtain ⟨k, hk, rfl, hr, hb⟩ := hrel
    have HR := Lib.hid hr
    have HB := Lib.hid hb
    by_cases hlt : k < ps.length
    · obtain ⟨b, off, rfl, hbs, c1⟩ := HCL.out k hlt
      have u1 := (hb.cell (p := ⟨b, off + k, none⟩) hbs).trans c1
      obtain ⟨ck, fk⟩ := rowT_cell HR.out (k := k) hlt
      rw [if_neg (by omega)] at ck
      have hk0 : 0 ≤ (k : Int) := by omega
      have hk1 : (k : Int) < (ps.length : Int) := by omega
      have ST := Lib.hid (rowT_congr (f' := fun j => if j < k + 1 then sAt ps j else ByteArray.empty) (rowT_store HR.out (k := k) hlt (sAt ps k)) (fun j _ => by
        by_cases e : j = k
        · subst e; simp
        · by_cases e2 : j < k
          · simp [e, e2, show j < k + 1 by omega]
          · simp [e, e2, show ¬ j < k + 1 by omega]))
      clear hr hb c1
      generalize sAt ps k = x at u1 ST
      go_wp2
      go_roundw
      case rel => exact ⟨k + 1, by omega, by go_num, ST.out, HB.out.setCell (p := ⟨w.heap.size, k, none⟩) (Nat.le_refl _) _⟩
      case measure => simp [intOf]; omega
    · obtain rfl : k = ps.length := by omega
      have HE := Lib.hid (show SRow wr w.heap.size (.slice (some ⟨w.heap.size, 0, none⟩) ps.length ps.length) ps from by
        have := rowT_congr (f' := sAt ps) hr (fun j hj => by simp [hj])
        unfold RowT at this
        rwa [rowS_sAt] at this)
      clear hr hb
      go_wp2
      go_ret
      exact ⟨_, rfl, HE.out, HB.out⟩
end Go.Proofs.Ytpekchihdmhkkaa.stab
