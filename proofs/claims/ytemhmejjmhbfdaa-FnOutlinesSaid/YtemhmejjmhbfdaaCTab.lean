/- Lists of chains of the call's own: copied, compared, marked and looked at again. -/
import Derived.Test.YtemhmejjmhbfdaaPairsPlace
import Derived.Test.YtemhmejjmhbfdaaIArgs
import Derived.Test.YtemhmejjmhbfdaaJoinI5
import Derived.Maps.AppendAt
import Derived.Deep.RegionHeld3
namespace Go.Proofs.Ytemhmejjmhbfdaa.ctab
open Go.ChangeShapes Go.WideShapes Go.ChangeAt Go.RowKit Go.Proofs.Ytemhmejjmhbfdaa.irows Go.Proofs.Ytemhmejjmhbfdaa.pairsPlace Go.Proofs.Ytemhmejjmhbfdaa.sines
set_option linter.unusedSimpArgs false
set_option linter.unusedVariables false

theorem info_rowC : (Try.prog.info? 52).map (fun i => (i.zero, i.size, i.bytes)) = some (some (.slice none 0 0), 1, 24) := by kernel_rfl
/-- Rows in blocks of their own, from B to C, none of them the block vb. -/
def CF (w : World) (B C : Nat) (vb : Option Nat) (vs : List Value) (rows : List (List Pl)) : Prop :=
  (∀ (k : Nat) (x : Value) (zs : List Pl), vs[k]? = some x → rows[k]? = some zs → PRow w B x zs) ∧
  (∀ (k : Nat) (x : Value), vs[k]? = some x → (∀ b, x.ownBlock = some b → b < C) ∧ (x.ownBlock = none ∨ x.ownBlock ≠ vb)) ∧
  (∀ (i j : Nat) (x y : Value), i < j → vs[i]? = some x → vs[j]? = some y → x.ownBlock = none ∨ x.ownBlock ≠ y.ownBlock)
/-- A list of rows of the call's own, in blocks from B to C. -/
def CV (w : World) (B C : Nat) (v : Value) (vs : List Value) (rows : List (List Pl)) : Prop :=
  w.ownsRow B 52 1 v rows.length vs ∧ vs.length = rows.length ∧ (∀ b, v.ownBlock = some b → b < C) ∧ CF w B C v.ownBlock vs rows
def CRow (w : World) (B C : Nat) (v : Value) (rows : List (List Pl)) : Prop := ∃ vs, CV w B C v vs rows
theorem ownC_below {w w' : World} {B C : Nat} {e : TypeId} {s n : Nat} {v : Value} {xs : List Value} (h : w.ownsRow B e s v n xs) (hC : ∀ b, v.ownBlock = some b → b < C) (hb : Below C w w') : w'.ownsRow B e s v n xs := by
  refine ⟨h.1, ?_⟩
  rcases h.2 with hn | ⟨g, cap, cur, rfl, hg1, hg2, hg3⟩
  · exact .inl hn
  · exact .inr ⟨g, cap, cur, rfl, hg1, by rw [hb.block g (hC g rfl)]; exact hg2, hg3⟩
theorem cv_keep {w w' : World} {B C : Nat} {v : Value} {vs : List Value} {rows : List (List Pl)} (h : CV w B C v vs rows) (hb : Below C w w') : CV w' B C v vs rows := by
  obtain ⟨h1, h2, h3, h4, h5, h6⟩ := h
  exact ⟨ownC_below h1 h3 hb, h2, h3, ⟨fun k x zs hx hz => ownC_below (h4 k x zs hx hz) (h5 k x hx).1 hb, h5, h6⟩⟩
theorem crow_keep {w w' : World} {B C : Nat} {v : Value} {rows : List (List Pl)} (h : CRow w B C v rows) (hb : Below C w w') : CRow w' B C v rows := by
  obtain ⟨vs, h⟩ := h
  exact ⟨vs, cv_keep h hb⟩
theorem crow_up {w : World} {B B' C C' : Nat} {v : Value} {rows : List (List Pl)} (h : CRow w B C v rows) (hB : B' ≤ B) (hC : C ≤ C') : CRow w B' C' v rows := by
  obtain ⟨vs, h1, h2, h3, h4, h5, h6⟩ := h
  have up : ∀ {e : TypeId} {s n : Nat} {x : Value} {xs : List Value}, w.ownsRow B e s x n xs → w.ownsRow B' e s x n xs := by
    intro e s n x xs h
    refine ⟨h.1, ?_⟩
    rcases h.2 with hn | ⟨g, cap, cur, hv, hg1, hr⟩
    · exact .inl hn
    · exact .inr ⟨g, cap, cur, hv, Nat.le_trans hB hg1, hr⟩
  exact ⟨vs, up h1, h2, fun b hb => Nat.lt_of_lt_of_le (h3 b hb) hC, ⟨fun k x zs hx hz => up (h4 k x zs hx hz), fun k x hx => ⟨fun b hb => Nat.lt_of_lt_of_le ((h5 k x hx).1 b hb) hC, (h5 k x hx).2⟩, h6⟩⟩
theorem crow_nil (w : World) (B C : Nat) : CRow w B C (.slice none 0 0) [] :=
  ⟨[], World.ownsRow_nil w B _ 1, rfl, fun b hb => by simp [Value.ownBlock] at hb, ⟨fun k x zs hx _ => by simp at hx, fun k x hx => by simp at hx, fun i j x y _ hx _ => by simp at hx⟩⟩
theorem crow_shape {w : World} {B C : Nat} {v : Value} {rows : List (List Pl)} (h : CRow w B C v rows) : ∃ a c, v = .slice a rows.length c := by
  obtain ⟨vs, h1, _⟩ := h
  rcases h1.2 with ⟨hv, h0⟩ | ⟨g, cap, cur, hv, _⟩
  · exact ⟨none, 0, by rw [hv, h0]⟩
  · exact ⟨_, _, hv⟩
/-- Row i: its value and where it lies. -/
theorem cv_at {w : World} {B C : Nat} {a : Option Addr} {c : Nat} {vs : List Value} {rows : List (List Pl)} (h : CV w B C (.slice a rows.length c) vs rows) (i : Nat) (hi : i < rows.length) :
    ∃ b x, a = some ⟨b, 0, none⟩ ∧ B ≤ b ∧ b < C ∧ b < w.heap.size ∧ w.cell? ⟨b, i, none⟩ = some x ∧ vs[i]? = some x ∧ PRow w B x rows[i] := by
  obtain ⟨h1, h2, h3, h4, h5, h6⟩ := h
  have hv : i < vs.length := by omega
  have h0 := h1
  rcases h1.2 with ⟨_, h0⟩ | ⟨g, cap, cur, hs, hg1, hg2, _⟩
  · omega
  · simp at hs
    obtain ⟨rfl, rfl⟩ := hs
    have hx : vs[i]? = some vs[i] := List.getElem?_eq_getElem hv
    refine ⟨g, vs[i], rfl, hg1, h3 g rfl, (Array.getElem?_eq_some_iff.1 hg2).1, ?_, hx, h4 i _ _ hx (List.getElem?_eq_getElem hi)⟩
    rw [World.ownsRow.cellAt h0 i (by omega), hx]
/-- It can be read. -/
theorem crow_at {w : World} {B C : Nat} {v : Value} {rows : List (List Pl)} (h : CRow w B C v rows) : CAt w w.heap.size v rows := by
  obtain ⟨a, c, rfl⟩ := crow_shape h
  obtain ⟨vs, h⟩ := h
  refine ⟨a, c, rfl, fun i hi => ?_⟩
  obtain ⟨b, x, e1, _, _, e2, e3, _, e5⟩ := cv_at h i hi
  exact ⟨b, 0, x, e1, e2, by rw [Nat.zero_add]; exact e3, prow_at e5, prow_capOk e5⟩
theorem crow_C {w : World} {B C : Nat} {v : Value} {rows : List (List Pl)} (h : CRow w B C v rows) : CRow w B w.heap.size v rows := by
  obtain ⟨vs, h1, h2, h3, h4, h5, h6⟩ := h
  exact ⟨vs, h1, h2, fun b hb => (World.ownsRow.lt h1 b hb).2, ⟨h4, fun k x hx => ⟨fun b hb => by
    obtain ⟨hk, _⟩ := List.getElem?_eq_some_iff.1 hx
    exact (World.ownsRow.lt (h4 k x _ hx (List.getElem?_eq_getElem (by omega))) b hb).2, (h5 k x hx).2⟩, h6⟩⟩
/-- One more row behind the others. -/
theorem cf_snoc {w w' : World} {B C : Nat} {vb vb' : Option Nat} {x : Value} {vs : List Value} {rows : List (List Pl)} {zs : List Pl} (h : CF w B C vb vs rows) (h2 : vs.length = rows.length) (h3 : ∀ b, vb = some b → b < C) (hx : PRow w B x zs) (hxb : ∀ b, x.ownBlock = some b → C ≤ b)
    (hg : w.grownBy w' vb) (hv : vb' = vb ∨ vb' = some w.heap.size) : CF w' B w'.heap.size vb' (vs ++ [x]) (rows ++ [zs]) := by
  obtain ⟨h4, h5, h6⟩ := h
  have hxv : x.ownBlock = none ∨ x.ownBlock ≠ vb := by
    cases e : x.ownBlock with
    | none => exact .inl rfl
    | some b => exact .inr fun e2 => by have := hxb b e; have := h3 b e2.symm; omega
  have hx' : PRow w' B x zs := World.ownsRow.kept hx hg hxv
  have ltx : ∀ b, x.ownBlock = some b → b < w.heap.size := fun b hb => (World.ownsRow.lt hx b hb).2
  have at_ : ∀ k y, (vs ++ [x])[k]? = some y → vs[k]? = some y ∨ (k = vs.length ∧ y = x) := fun k y hy => by
    by_cases hk : k < vs.length
    · rw [List.getElem?_append_left hk] at hy; exact .inl hy
    · rw [List.getElem?_append_right (by omega)] at hy
      have hk2 : k - vs.length = 0 := by
        by_cases e : k - vs.length = 0
        · exact e
        · rw [List.getElem?_eq_none (by simp; omega)] at hy; cases hy
      rw [hk2] at hy
      exact .inr ⟨by omega, by simpa using hy.symm⟩
  have rat : ∀ k ys, (rows ++ [zs])[k]? = some ys → rows[k]? = some ys ∨ (k = rows.length ∧ ys = zs) := fun k y hy => by
    by_cases hk : k < rows.length
    · rw [List.getElem?_append_left hk] at hy; exact .inl hy
    · rw [List.getElem?_append_right (by omega)] at hy
      have hk2 : k - rows.length = 0 := by
        by_cases e : k - rows.length = 0
        · exact e
        · rw [List.getElem?_eq_none (by simp; omega)] at hy; cases hy
      rw [hk2] at hy
      exact .inr ⟨by omega, by simpa using hy.symm⟩
  have lt4 : ∀ (k : Nat) (y : Value), vs[k]? = some y → ∀ b, y.ownBlock = some b → b < w.heap.size := fun k y hy b hb => by
    obtain ⟨hk, _⟩ := List.getElem?_eq_some_iff.1 hy
    exact (World.ownsRow.lt (h4 k y _ hy (List.getElem?_eq_getElem (by omega))) b hb).2
  have hsz := hg.size
  refine ⟨fun k y ys hy hz => ?_, fun k y hy => ?_, fun i j y z hij hy hz => ?_⟩
  · rcases at_ k y hy with hy | ⟨e1, rfl⟩
    · rcases rat k ys hz with hz | ⟨e2, rfl⟩
      · exact World.ownsRow.kept (h4 k y ys hy hz) hg (h5 k y hy).2
      · obtain ⟨hk, _⟩ := List.getElem?_eq_some_iff.1 hy
        omega
    · rcases rat k ys hz with hz | ⟨e2, rfl⟩
      · obtain ⟨hk, _⟩ := List.getElem?_eq_some_iff.1 hz
        omega
      · exact hx'
  · rcases at_ k y hy with hy | ⟨e1, rfl⟩
    · refine ⟨fun b hb => by have := lt4 k y hy b hb; omega, ?_⟩
      rcases hv with hv | hv
      · rw [hv]; exact (h5 k y hy).2
      · rw [hv]
        cases e : y.ownBlock with
        | none => exact .inl rfl
        | some b => exact .inr fun e2 => by have := lt4 k y hy b e; cases e2; omega
    · refine ⟨fun b hb => by have := ltx b hb; omega, ?_⟩
      rcases hv with hv | hv
      · rw [hv]; exact hxv
      · rw [hv]
        cases e : y.ownBlock with
        | none => exact .inl rfl
        | some b => exact .inr fun e2 => by have := ltx b e; cases e2; omega
  · rcases at_ i y hy with hy' | ⟨e1, rfl⟩
    · rcases at_ j z hz with hz' | ⟨e2, rfl⟩
      · exact h6 i j y z hij hy' hz'
      · cases e : y.ownBlock with
        | none => exact .inl rfl
        | some b => exact .inr fun e2 => by have := (h5 i y hy').1 b e; have := hxb b e2.symm; omega
    · rcases at_ j z hz with hz' | ⟨e2, rfl⟩
      · obtain ⟨hk, _⟩ := List.getElem?_eq_some_iff.1 hz'
        omega
      · omega
theorem cv_snoc {w w' : World} {B C : Nat} {v v' x : Value} {vs : List Value} {rows : List (List Pl)} {zs : List Pl} (h : CV w B C v vs rows) (hx : PRow w B x zs) (hxb : ∀ b, x.ownBlock = some b → C ≤ b)
    (hown : w'.ownsRow B 52 1 v' (rows.length + 1) (vs ++ [x])) (hg : w.grownBy w' v.ownBlock) (hv : v'.ownBlock = v.ownBlock ∨ v'.ownBlock = some w.heap.size) : CV w' B w'.heap.size v' (vs ++ [x]) (rows ++ [zs]) := by
  obtain ⟨h1, h2, h3, hf⟩ := h
  exact ⟨by simpa using hown, by simp [h2], fun b hb => (World.ownsRow.lt hown b hb).2, cf_snoc hf h2 h3 hx hxb hg hv⟩
def nilsC (n : Nat) : List Value := List.replicate n (.slice none 0 0)
/-- A table of n rows of which the first ones are filled. -/
def CM (w : World) (B C g n : Nat) (vs : List Value) (rows : List (List Pl)) : Prop :=
  w.ownsRow B 52 1 (.slice (some ⟨g, 0, none⟩) n n) n (vs ++ nilsC (n - rows.length)) ∧ vs.length = rows.length ∧ g < C ∧ CF w B C (some g) vs rows
theorem madeC_rows (n : Nat) : (madeCells (Value.slice none 0 0).cells (n * 1)).toList = nilsC n := by
  apply List.ext_getElem?
  intro j
  by_cases hj : j < n
  · simp [madeCells, nilsC, hj, Value.cells, Nat.mod_one]
  · simp [madeCells, nilsC, hj]
theorem cm_start {w : World} {B g n : Nat} (h : w.ownsRow B 52 1 (.slice (some ⟨g, 0, none⟩) n n) n (madeCells (Value.slice none 0 0).cells (n * 1)).toList) (hg : g < w.heap.size) : CM w B w.heap.size g n [] [] := by
  rw [madeC_rows] at h
  exact ⟨by simpa using h, rfl, hg, ⟨fun k x zs hx _ => by simp at hx, fun k x hx => by simp at hx, fun i j x y _ hx _ => by simp at hx⟩⟩
theorem cm_cell {w : World} {B C g n : Nat} {vs : List Value} {rows : List (List Pl)} (h : CM w B C g n vs rows) (hk : rows.length < n) : w.cell? ⟨g, rows.length, none⟩ = some (.slice none 0 0) ∧ w.frozen? ⟨g, rows.length, none⟩ = false := by
  refine ⟨?_, World.ownsRow.frozenAt h.1 _⟩
  rw [World.ownsRow.cellAt h.1 _ (by omega), List.getElem?_append_right (by rw [h.2.1]; exact Nat.le_refl _), h.2.1, Nat.sub_self]
  show (List.replicate (n - rows.length) (Value.slice none 0 0))[0]? = _
  rw [List.getElem?_replicate, if_pos (by omega)]
theorem cm_keep {w w' : World} {B C g n : Nat} {vs : List Value} {rows : List (List Pl)} (h : CM w B C g n vs rows) (hb : Below C w w') : CM w' B C g n vs rows := by
  obtain ⟨h1, h2, h3, h4, h5, h6⟩ := h
  exact ⟨ownC_below h1 (fun b hb => by simp [Value.ownBlock] at hb; omega) hb, h2, h3, ⟨fun k x zs hx hz => ownC_below (h4 k x zs hx hz) (h5 k x hx).1 hb, h5, h6⟩⟩
theorem cm_store {w : World} {B C g n : Nat} {vs : List Value} {rows : List (List Pl)} {x : Value} {zs : List Pl} (h : CM w B C g n vs rows) (hk : rows.length < n) (hx : PRow w B x zs) (hxb : ∀ b, x.ownBlock = some b → C ≤ b) :
    CM (w.setCell ⟨g, rows.length, none⟩ x) B (w.setCell ⟨g, rows.length, none⟩ x).heap.size g n (vs ++ [x]) (rows ++ [zs]) := by
  obtain ⟨h1, h2, h3, hf⟩ := h
  obtain ⟨s1, s2⟩ := World.ownsRow.stored h1 rows.length x
  have e : (vs ++ nilsC (n - rows.length)).set rows.length x = (vs ++ [x]) ++ nilsC (n - (rows ++ [zs]).length) := by
    rw [List.set_append_right _ _ (by omega), h2, Nat.sub_self, List.append_assoc]
    have e2 : n - rows.length = (n - (rows.length + 1)) + 1 := by omega
    simp [nilsC, e2, List.replicate_succ]
  rw [e] at s1
  refine ⟨s1, by simp [h2], ?_, cf_snoc hf h2 (fun b hb => by cases hb; exact h3) hx hxb s2 (.inl rfl)⟩
  have := (World.ownsRow.lt h1 g rfl).2
  simp; exact this
theorem cm_end {w : World} {B C g n : Nat} {vs : List Value} {rows : List (List Pl)} (h : CM w B C g n vs rows) (hk : rows.length = n) : CRow w B C (.slice (some ⟨g, 0, none⟩) n n) rows := by
  obtain ⟨h1, h2, h3, hf⟩ := h
  subst hk
  exact ⟨vs, by simpa [nilsC] using h1, h2, fun b hb => by simp [Value.ownBlock] at hb; omega, hf⟩
theorem cm_lt {w : World} {B C g n : Nat} {vs : List Value} {rows : List (List Pl)} (h : CM w B C g n vs rows) : g < w.heap.size := (World.ownsRow.lt h.1 g rfl).2
/-- The places in the first rows. -/
def totP (rows : List (List Pl)) : Nat → Nat
  | 0 => 0
  | k + 1 => totP rows k + (rows.getD k []).length
theorem totP_mono (rows : List (List Pl)) (i : Nat) : ∀ k, totP rows i ≤ totP rows (i + k)
  | 0 => Nat.le_refl _
  | k + 1 => by have := totP_mono rows i k; rw [show i + (k + 1) = (i + k) + 1 by omega, totP]; omega
theorem totP_le (rows : List (List Pl)) {i j : Nat} (h : i ≤ j) : totP rows i ≤ totP rows j := by
  have := totP_mono rows i (j - i)
  rwa [show i + (j - i) = j by omega] at this
theorem totP_row {rows : List (List Pl)} {i : Nat} (h : i < rows.length) : rows[i].length ≤ totP rows rows.length := by
  have h1 := totP_le rows (show i + 1 ≤ rows.length by omega)
  rw [totP, List.getD_eq_getElem?_getD, List.getElem?_eq_getElem h] at h1
  simp only [Option.getD_some] at h1
  omega
/-- Cells in all: a list and its chains fit. -/
def fitC (rows : List (List Pl)) : Bool := decide (rows.length + totP rows rows.length ≤ 1048576)
theorem fitC_of {rows : List (List Pl)} (h : fitC rows = true) : rows.length ≤ 1048576 ∧ ∀ i, (hi : i < rows.length) → rows[i].length ≤ 1048576 := by
  simp [fitC] at h
  exact ⟨by omega, fun i hi => by have := totP_row hi; omega⟩
end Go.Proofs.Ytemhmejjmhbfdaa.ctab
