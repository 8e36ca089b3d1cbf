/- The model's fewest points: tables of numbers, the told way. -/
import Derived.Test.YtemhmejjmhbfdabChainS2
import Derived.Maps.AppendAt
import Derived.BigQuiet
namespace Go.Proofs.Ytemhmejjmhbfdab.sines
open Go.ChangeShapes Go.WideShapes Go.ChangeAt Go.RowKit Go.Proofs.Ytemhmejjmhbfdab.spots Go.Proofs.Ytemhmejjmhbfdab.irows Go.Proofs.Ytemhmejjmhbfdab.pairsPlace
set_option linter.unusedSimpArgs false
set_option linter.unusedVariables false

/-- A row of numbers, told by a function of the index. -/
def rowF (n : Nat) (f : Nat → Int) : List Int := (List.range n).map f
theorem rowF_len (n : Nat) (f : Nat → Int) : (rowF n f).length = n := by simp [rowF]
theorem rowF_congr {n : Nat} {f g : Nat → Int} (h : ∀ j, j < n → f j = g j) : rowF n f = rowF n g := by
  unfold rowF
  exact List.map_congr_left fun j hj => h j (List.mem_range.1 hj)
theorem rowF_set {n : Nat} {f : Nat → Int} {i : Nat} (x : Int) (hi : i < n) : (ints (rowF n f)).set i (.int .i64 x) = ints (rowF n fun j => if j = i then x else f j) := by
  apply List.ext_getElem?
  intro j
  unfold ints rowF
  rw [List.getElem?_set]
  by_cases hj : j < n
  · by_cases e : i = j
    · subst e; simp [hj]
    · have e' : ¬ j = i := fun k => e k.symm
      simp [hj, e, e']
  · by_cases e : i = j
    · omega
    · simp [hj, e]
theorem made_rowF (n : Nat) : (madeCells (Value.int IntKind.i64 0).cells (n * 1)).toList = ints (rowF n fun _ => 0) := by
  apply List.ext_getElem?
  intro j
  by_cases hj : j < n
  · simp [madeCells, ints, rowF, hj, Value.cells, Nat.mod_one]
  · simp [madeCells, ints, rowF, hj]
/-- A made row of n numbers in a block of its own. -/
def RowG (w : World) (B g n : Nat) (f : Nat → Int) : Prop := IRow w B (.slice (some ⟨g, 0, none⟩) n n) (rowF n f)
theorem rowG_start {w : World} {B g n : Nat} (h : w.ownsRow B 2 1 (.slice (some ⟨g, 0, none⟩) n n) n (madeCells (Value.int IntKind.i64 0).cells (n * 1)).toList) : RowG w B g n (fun _ => 0) := by
  rw [made_rowF] at h
  unfold RowG IRow
  rw [rowF_len]
  exact h
theorem rowG_cell {w : World} {B g n : Nat} {f : Nat → Int} (h : RowG w B g n f) {k : Nat} (hk : k < n) : w.cell? ⟨g, k, none⟩ = some (.int .i64 (f k)) ∧ w.frozen? ⟨g, k, none⟩ = false := by
  have h2 : IRow w B (.slice (some ⟨g, 0, none⟩) (rowF n f).length n) (rowF n f) := by rw [rowF_len]; exact h
  refine ⟨?_, World.ownsRow.frozenAt h2 k⟩
  rw [irow_cell h2 k (by rw [rowF_len]; exact hk)]
  simp [rowF]
theorem rowG_lt {w : World} {B g n : Nat} {f : Nat → Int} (h : RowG w B g n f) (hn : 0 < n) : g < w.heap.size ∧ B ≤ g := by
  refine ⟨World.block_lt_of_cell? _ _ (rowG_cell h hn).1, ?_⟩
  have h2 : IRow w B (.slice (some ⟨g, 0, none⟩) (rowF n f).length n) (rowF n f) := by rw [rowF_len]; exact h
  obtain ⟨g', e, hB, _⟩ := irow_at h2 0 (by rw [rowF_len]; exact hn)
  cases e; exact hB
theorem rowG_store {w : World} {B g n : Nat} {f : Nat → Int} (h : RowG w B g n f) {k : Nat} (hk : k < n) (x : Int) : RowG (w.setCell ⟨g, k, none⟩ (.int .i64 x)) B g n (fun j => if j = k then x else f j) :=
  irow_store h (rowF_len n f) (rowF_set x hk) (rowF_len n _)
theorem rowG_other {w : World} {B g g' n k : Nat} {f : Nat → Int} {x : Value} (h : RowG w B g n f) (hne : g ≠ g') : RowG (w.setCell ⟨g', k, none⟩ x) B g n f :=
  World.ownsRow.kept h (Lib.grownBy_setB (b := g') (World.grownBy.refl _ _) _ _) (.inr (fun e => hne (by simpa [Value.ownBlock] using e)))
theorem rowG_keep {w w' : World} {B g n : Nat} {f : Nat → Int} (h : RowG w B g n f) (hb : Below w.heap.size w w') : RowG w' B g n f := irow_keep h hb
theorem rowG_congr {w : World} {B g n : Nat} {f f' : Nat → Int} (h : RowG w B g n f) (he : ∀ j, j < n → f j = f' j) : RowG w B g n f' := by
  unfold RowG at h ⊢
  rw [← rowF_congr he]; exact h
theorem irow_snocC {w : World} {B : Nat} {v : Value} {o : List Int} {x : Int} (h : w.ownsRow B 2 1 v (o.length + 1) (ints o ++ [.int .i64 x])) : IRow w B v (o ++ [x]) := by
  unfold IRow
  rw [List.length_append, show [x].length = 1 from rfl, show ints (o ++ [x]) = ints o ++ [.int .i64 x] by simp [ints]]
  exact h
theorem newC (w : World) (s : Int) (n : Nat) (h : w.heap.size = n) : ∀ j u, ([.int .i64 s] : List Value)[j]? = some u → (w.alloc (.cells #[.int .i64 s] 2)).cell? ((⟨n, 0, none⟩ : Addr).add j) = some u := by
  subst h
  intro j u hj
  match j, hj with
  | 0, hj => simp at hj; subst hj; simp [Addr.add]
theorem cellC (s : Int) : ∀ u ∈ ([.int .i64 s] : List Value), u.oneCell' = true := fun u hu => by simp at hu; subst hu; rfl
def nzL (l : List Nat) : List Int := l.map fun k : Nat => (k : Int)
theorem irow_one (w : World) (B : Nat) (h : B ≤ w.heap.size) : IRow (w.alloc (.cells #[.int .i64 0] 2)) B (.slice (some ⟨w.heap.size, 0, none⟩) 1 1) (nzL [0]) :=
  ⟨rfl, .inr ⟨w.heap.size, 1, #[.int .i64 0], rfl, h, heap_alloc_new w _, Nat.le_refl _, by decide, rfl, rfl⟩⟩
theorem nzL_snoc (l : List Nat) (k : Nat) : nzL (l ++ [k]) = nzL l ++ [(k : Int)] := by simp [nzL]
def fewV (ps : List Pl) (d : Int) : List Int := if codeC ps d = 0 then nzL (fewL ps d) else []
theorem fewV_len (ps : List Pl) (d : Int) : (fewV ps d).length ≤ 24 := by
  unfold fewV
  split
  · rename_i h
    obtain ⟨h1, _, _⟩ := codeC_of h
    obtain ⟨h2, h3, _⟩ := okC_of h1
    have := fewL_len_le (ps := ps) (d := d) h2
    simp [nzL]; omega
  · simp
end Go.Proofs.Ytemhmejjmhbfdab.sines
