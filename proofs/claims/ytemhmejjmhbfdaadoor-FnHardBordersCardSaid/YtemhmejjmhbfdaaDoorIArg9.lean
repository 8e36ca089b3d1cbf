/- Lists of numbers that are handed in: read, copied, marked from any number on. -/
import Derived.Test.YtemhmejjmhbfdaaDoorPairsBorder
import Derived.Test.YtemhmejjmhbfdaaDoorSines
import Derived.Deep.WholeRow
import Derived.Maps.AppendAt
import Derived.BigQuiet
namespace Go.Proofs.YtemhmejjmhbfdaaDoor.sines
open Go.ChangeShapes Go.WideShapes Go.ChangeAt Go.RowKit Go.Proofs.YtemhmejjmhbfdaaDoor.spots Go.Proofs.YtemhmejjmhbfdaaDoor.irows Go.Proofs.YtemhmejjmhbfdaaDoor.pairsBorder
set_option linter.unusedSimpArgs false
set_option linter.unusedVariables false
def zAt (zs : List Int) (i : Nat) : Int := zs.getD i 0
theorem zAt_eq {zs : List Int} {i : Nat} (h : i < zs.length) : zAt zs i = zs[i] := by simp [zAt, h]
def rowF (n : Nat) (f : Nat → Int) : List Int := (List.range n).map f
theorem rowF_len (n : Nat) (f : Nat → Int) : (rowF n f).length = n := by simp [rowF]
theorem rowF_congr {n : Nat} {f g : Nat → Int} (h : ∀ j, j < n → f j = g j) : rowF n f = rowF n g := by
  unfold rowF
  exact List.map_congr_left fun j hj => h j (List.mem_range.1 hj)
theorem rowF_set {n : Nat} {f : Nat → Int} {i : Nat} (x : Int) (hi : i < n) : (ints (rowF n f)).set i (.int .i64 x) = ints (rowF n fun j => if j = i then x else f j) := by
  apply List.ext_getElem?
  intro j
  unfold ints rowF
  rw [List.getElem?_set]
  by_cases hj : j < n
  · by_cases e : i = j
    · subst e; simp [hj]
    · have e' : ¬ j = i := fun k => e k.symm
      simp [hj, e, e']
  · by_cases e : i = j
    · omega
    · simp [hj, e]
theorem made_rowF (n : Nat) : (madeCells (Value.int IntKind.i64 0).cells (n * 1)).toList = ints (rowF n fun _ => 0) := by
  apply List.ext_getElem?
  intro j
  by_cases hj : j < n
  · simp [madeCells, ints, rowF, hj, Value.cells, Nat.mod_one]
  · simp [madeCells, ints, rowF, hj]
/-- A made row of n numbers in a block of its own. -/
def RowG (w : World) (B g n : Nat) (f : Nat → Int) : Prop := IRow w B (.slice (some ⟨g, 0, none⟩) n n) (rowF n f)
theorem rowG_start {w : World} {B g n : Nat} (h : w.ownsRow B 2 1 (.slice (some ⟨g, 0, none⟩) n n) n (madeCells (Value.int IntKind.i64 0).cells (n * 1)).toList) : RowG w B g n (fun _ => 0) := by
  rw [made_rowF] at h
  unfold RowG IRow
  rw [rowF_len]
  exact h
theorem rowG_cell {w : World} {B g n : Nat} {f : Nat → Int} (h : RowG w B g n f) {k : Nat} (hk : k < n) : w.cell? ⟨g, k, none⟩ = some (.int .i64 (f k)) ∧ w.frozen? ⟨g, k, none⟩ = false := by
  have h2 : IRow w B (.slice (some ⟨g, 0, none⟩) (rowF n f).length n) (rowF n f) := by rw [rowF_len]; exact h
  refine ⟨?_, World.ownsRow.frozenAt h2 k⟩
  rw [irow_cell h2 k (by rw [rowF_len]; exact hk)]
  simp [rowF]
theorem rowG_lt {w : World} {B g n : Nat} {f : Nat → Int} (h : RowG w B g n f) (hn : 0 < n) : g < w.heap.size ∧ B ≤ g := by
  refine ⟨World.block_lt_of_cell? _ _ (rowG_cell h hn).1, ?_⟩
  have h2 : IRow w B (.slice (some ⟨g, 0, none⟩) (rowF n f).length n) (rowF n f) := by rw [rowF_len]; exact h
  obtain ⟨g', e, hB, _⟩ := irow_at h2 0 (by rw [rowF_len]; exact hn)
  cases e; exact hB
theorem rowG_store {w : World} {B g n : Nat} {f : Nat → Int} (h : RowG w B g n f) {k : Nat} (hk : k < n) (x : Int) : RowG (w.setCell ⟨g, k, none⟩ (.int .i64 x)) B g n (fun j => if j = k then x else f j) :=
  irow_store h (rowF_len n f) (rowF_set x hk) (rowF_len n _)
theorem rowG_other {w : World} {B g g' n k : Nat} {f : Nat → Int} {x : Value} (h : RowG w B g n f) (hne : g ≠ g') : RowG (w.setCell ⟨g', k, none⟩ x) B g n f :=
  World.ownsRow.kept h (Lib.grownBy_setB (b := g') (World.grownBy.refl _ _) _ _) (.inr (fun e => hne (by simpa [Value.ownBlock] using e)))
theorem rowG_keep {w w' : World} {B g n : Nat} {f : Nat → Int} (h : RowG w B g n f) (hb : Below w.heap.size w w') : RowG w' B g n f := irow_keep h hb
theorem rowG_congr {w : World} {B g n : Nat} {f f' : Nat → Int} (h : RowG w B g n f) (he : ∀ j, j < n → f j = f' j) : RowG w B g n f' := by
  unfold RowG at h ⊢
  rw [← rowF_congr he]; exact h
/-- What is read of a list of numbers. -/
def IAt (w : World) (B : Nat) (v : Value) (zs : List Int) : Prop := ∃ a c, v = .slice a zs.length c ∧ ∀ k, k < zs.length → ∃ b off, a = some ⟨b, off, none⟩ ∧ b < B ∧ w.cell? ⟨b, off + k, none⟩ = some (.int .i64 (zAt zs k))
theorem iat_keep {w w' : World} {B : Nat} {v : Value} {zs : List Int} (h : IAt w B v zs) (hb : Below B w w') : IAt w' B v zs := by
  obtain ⟨a, c, rfl, hc⟩ := h
  refine ⟨a, c, rfl, fun k hk => ?_⟩
  obtain ⟨b, off, e1, e2, e3⟩ := hc k hk
  exact ⟨b, off, e1, e2, (hb.cell (p := ⟨b, off + k, none⟩) e2).trans e3⟩
theorem iat_up {w : World} {B B' : Nat} {v : Value} {zs : List Int} (h : IAt w B v zs) (hB : B ≤ B') : IAt w B' v zs := by
  obtain ⟨a, c, rfl, hc⟩ := h
  refine ⟨a, c, rfl, fun k hk => ?_⟩
  obtain ⟨b, off, e1, e2, e3⟩ := hc k hk
  exact ⟨b, off, e1, by omega, e3⟩
/-- An argument is such a list. -/
theorem open_ilist {H : Type} {enc : TypeId × Value → H} {W : World} {base : Nat} {spare : Nat → Bool} {held : Bool} {fuel : Nat} {v : Value} {x : DataW H × List MemPlace} (h : DataW.trod enc Tryd.prog W base spare held fuel 27 v.cells.toList = some x) (hv : ∃ a l c, v = .slice a l c) :
    ∃ zs, IAt W W.heap.size v zs ∧ zs.length ≤ maxLen := by
  obtain ⟨a0, l0, c0, rfl⟩ := hv
  rcases open_ints Tryd.underlying27 Tryd.underlying2 (by kernel_rfl) h with ⟨hcs, _⟩ | ⟨a, l, c, zs, hcs, _, hl, hm, hz, _, hcell, hwz⟩
  · simp [Value.cells] at hcs
    obtain ⟨rfl, rfl, rfl⟩ := hcs
    exact ⟨[], ⟨none, 0, rfl, fun k hk => by simp at hk⟩, Nat.zero_le _⟩
  · simp [Value.cells] at hcs
    obtain ⟨rfl, rfl, rfl⟩ := hcs
    obtain ⟨b, off, spot⟩ := a
    have hll : l0 ≤ zs.length := by rw [hz]; split <;> omega
    have e : (zs.take l0).length = l0 := by simp; omega
    have hza : ∀ k, k < l0 → zAt (zs.take l0) k = zs.getD k 0 := fun k hk => by simp [zAt, hk, List.getElem?_take]
    refine ⟨zs.take l0, ⟨some ⟨b, off, spot⟩, c0, by rw [e], fun k hk => ?_⟩, by rw [e]; omega⟩
    rw [e] at hk
    have hspot : spot = none := by simpa [Addr.add] using World.cell?_spot (hcell 0 (by omega))
    subst hspot
    have h1 := hcell k (by omega)
    rw [add_plain', ← hza k hk] at h1
    exact ⟨b, off, rfl, World.block_lt_of_cell? _ _ h1, h1⟩
theorem rowF_zAt (zs : List Int) : rowF zs.length (zAt zs) = zs := by
  apply List.ext_getElem
  · simp [rowF]
  · intro i h1 h2; simp [rowF, zAt_eq h2]
end Go.Proofs.YtemhmejjmhbfdaaDoor.sines
