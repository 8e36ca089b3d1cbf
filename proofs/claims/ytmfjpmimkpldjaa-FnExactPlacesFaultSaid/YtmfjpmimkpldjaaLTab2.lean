/- Lists of labels of the call's own: copied, compared, marked. -/
import Derived.Test.YtmfjpmimkpldjaaLTab
namespace Go.Proofs.Ytmfjpmimkpldjaa.ltab
open Go.ChangeShapes Go.WideShapes Go.ChangeAt Go.RowKit Go.Proofs.Ytmfjpmimkpldjaa.irows Go.Proofs.Ytmfjpmimkpldjaa.sines
set_option linter.unusedSimpArgs false
set_option linter.unusedVariables false

theorem info_lab : (Try.prog.info? 36).map (fun i => (i.zero, i.size, i.bytes)) = some (some (.agg #[.int .i64 0, .int .i64 0, .slice none 0 0, .int .i64 0]), 4, 48) := by kernel_rfl
/-- Only blocks from B to C are changed. -/
def Mid (B C : Nat) (w w' : World) : Prop := w'.os = w.os ∧ w'.tape = w.tape ∧ w'.output = w.output ∧ w.heap.size ≤ w'.heap.size ∧ ∀ b, b < B ∨ C ≤ b → b < w.heap.size → w'.heap[b]? = w.heap[b]?
theorem mid_refl (B C : Nat) (w : World) : Mid B C w w := ⟨rfl, rfl, rfl, Nat.le_refl _, fun _ _ _ => rfl⟩
theorem mid_trans {B C : Nat} {a b c : World} (h : Mid B C a b) (k : Mid B C b c) : Mid B C a c :=
  ⟨k.1.trans h.1, k.2.1.trans h.2.1, k.2.2.1.trans h.2.2.1, Nat.le_trans h.2.2.2.1 k.2.2.2.1, fun i hi hl => (k.2.2.2.2 i hi (Nat.lt_of_lt_of_le hl h.2.2.2.1)).trans (h.2.2.2.2 i hi hl)⟩
theorem mid_grown {B C : Nat} {w w' : World} {row : Option Nat} (h : w.grownBy w' row) (hr : ∀ b, row = some b → B ≤ b ∧ b < C) : Mid B C w w' :=
  ⟨h.os, h.tape, h.output, h.size, fun b hb hl => h.block b hl (fun e => by have := hr b e.symm; omega)⟩
theorem mid_below {B C : Nat} {w w' : World} (h : Mid B C w w') (hB : B ≤ w.heap.size) : Below B w w' :=
  ⟨h.1, h.2.1, h.2.2.1, h.2.2.2.1, fun k hk => h.2.2.2.2 k (.inl hk) (by omega)⟩
theorem mid_set {B C : Nat} {w : World} {g i : Nat} (v : Value) (hB : B ≤ g) (hC : g < C) : Mid B C w (w.setCell ⟨g, i, none⟩ v) :=
  mid_grown (row := some g) (Lib.grownBy_setB (World.grownBy.refl w (some g)) i v) (fun b hb => by cases hb; exact ⟨hB, hC⟩)
theorem own_mid {w w' : World} {B C B' : Nat} {e : TypeId} {s n : Nat} {v : Value} {xs : List Value} (h : w.ownsRow B' e s v n xs) (hm : Mid B C w w') (hB : C ≤ B') : w'.ownsRow B' e s v n xs := by
  refine ⟨h.1, ?_⟩
  rcases h.2 with hn | ⟨g, cap, cur, hv, hg1, hg2, hg3⟩
  · exact .inl hn
  · exact .inr ⟨g, cap, cur, hv, hg1, by rw [hm.2.2.2.2 g (.inr (by omega)) (Array.getElem?_eq_some_iff.1 hg2).1]; exact hg2, hg3⟩
theorem ownL_below {w w' : World} {B C : Nat} {e : TypeId} {s n : Nat} {v : Value} {xs : List Value} (h : w.ownsRow B e s v n xs) (hC : ∀ b, v.ownBlock = some b → b < C) (hb : Below C w w') : w'.ownsRow B e s v n xs := by
  refine ⟨h.1, ?_⟩
  rcases h.2 with hn | ⟨g, cap, cur, rfl, hg1, hg2, hg3⟩
  · exact .inl hn
  · exact .inr ⟨g, cap, cur, rfl, hg1, by rw [hb.block g (hC g rfl)]; exact hg2, hg3⟩
/-- Cells i of a row are those of the label p, whose starts lie in a block of their own. -/
def LC (w : World) (B C g : Nat) (cs : List Value) (i : Nat) (p : Lb) : Prop :=
  ∃ x, cs[i * 4]? = some (.int .i64 p.1) ∧ cs[i * 4 + 1]? = some (.int .i64 p.2.1) ∧ cs[i * 4 + 2]? = some x ∧ cs[i * 4 + 3]? = some (.int .i64 p.2.2.2) ∧ IRow w B x p.2.2.1 ∧ (∀ b, x.ownBlock = some b → b < C) ∧ (x.ownBlock = none ∨ x.ownBlock ≠ some g)
/-- The first labels of a made row of n. -/
def LV (w : World) (B C g n : Nat) (cs : List Value) (ps : List Lb) : Prop :=
  w.ownsRow B 36 4 (.slice (some ⟨g, 0, none⟩) n n) n cs ∧ g < C ∧ ps.length ≤ n ∧ (∀ i, (h : i < ps.length) → LC w B C g cs i ps[i]) ∧
  (∀ i, ps.length ≤ i → i < n → cs[i * 4]? = some (.int .i64 0) ∧ cs[i * 4 + 1]? = some (.int .i64 0) ∧ cs[i * 4 + 2]? = some (.slice none 0 0) ∧ cs[i * 4 + 3]? = some (.int .i64 0)) ∧
  (∀ i j x y, i < j → j < ps.length → cs[i * 4 + 2]? = some x → cs[j * 4 + 2]? = some y → x.ownBlock = none ∨ x.ownBlock ≠ y.ownBlock)
theorem lc_keep {w w' : World} {B C g : Nat} {cs : List Value} {i : Nat} {p : Lb} (h : LC w B C g cs i p) (hb : Below C w w') : LC w' B C g cs i p := by
  obtain ⟨x, e1, e2, e3, e4, e5, e6, e7⟩ := h
  exact ⟨x, e1, e2, e3, e4, ownL_below e5 e6 hb, e6, e7⟩
theorem lv_keep {w w' : World} {B C g n : Nat} {cs : List Value} {ps : List Lb} (h : LV w B C g n cs ps) (hb : Below C w w') : LV w' B C g n cs ps := by
  obtain ⟨h1, h2, h3, h4, h5, h6⟩ := h
  exact ⟨ownL_below h1 (fun b hb => by simp [Value.ownBlock] at hb; omega) hb, h2, h3, fun i hi => lc_keep (h4 i hi) hb, h5, h6⟩
theorem lv_len {w : World} {B C g n : Nat} {cs : List Value} {ps : List Lb} (h : LV w B C g n cs ps) : cs.length = n * 4 := h.1.1
theorem lv_lt {w : World} {B C g n : Nat} {cs : List Value} {ps : List Lb} (h : LV w B C g n cs ps) : B ≤ g ∧ g < w.heap.size := World.ownsRow.lt h.1 g rfl
theorem madeL_cells (n : Nat) (i : Nat) (h : i < n) : let cs := (madeCells (Value.agg #[.int .i64 0, .int .i64 0, .slice none 0 0, .int .i64 0]).cells (n * 4)).toList
    cs[i * 4]? = some (.int .i64 0) ∧ cs[i * 4 + 1]? = some (.int .i64 0) ∧ cs[i * 4 + 2]? = some (.slice none 0 0) ∧ cs[i * 4 + 3]? = some (.int .i64 0) := by
  intro cs
  have a0 : i * 4 < n * 4 := by omega
  have a1 : i * 4 + 1 < n * 4 := by omega
  have a2 : i * 4 + 2 < n * 4 := by omega
  have a3 : i * 4 + 3 < n * 4 := by omega
  have b0 : (i * 4) % 4 = 0 := by omega
  have b1 : (i * 4 + 1) % 4 = 1 := by omega
  have b2 : (i * 4 + 2) % 4 = 2 := by omega
  have b3 : (i * 4 + 3) % 4 = 3 := by omega
  refine ⟨?_, ?_, ?_, ?_⟩ <;> simp [cs, madeCells, Value.cells, a0, a1, a2, a3, b0, b1, b2, b3]
theorem lv_start {w : World} {B g n : Nat} (h : w.ownsRow B 36 4 (.slice (some ⟨g, 0, none⟩) n n) n (madeCells (Value.agg #[.int .i64 0, .int .i64 0, .slice none 0 0, .int .i64 0]).cells (n * 4)).toList) (hg : g < w.heap.size) : ∃ cs, LV w B w.heap.size g n cs [] :=
  ⟨_, h, hg, Nat.zero_le _, fun i hi => by simp at hi, fun i _ hi => madeL_cells n i hi, fun i j x y _ hj => by simp at hj⟩
def set4 (cs : List Value) (o : Nat) (a b c d : Value) : List Value := (((cs.set o a).set (o + 1) b).set (o + 2) c).set (o + 3) d
theorem set4_other {cs : List Value} {o m : Nat} {a b c d : Value} (h : m < o ∨ o + 4 ≤ m) : (set4 cs o a b c d)[m]? = cs[m]? := by
  unfold set4
  rw [List.getElem?_set_ne (by omega), List.getElem?_set_ne (by omega), List.getElem?_set_ne (by omega), List.getElem?_set_ne (by omega)]
theorem set4_at {cs : List Value} {o : Nat} {a b c d : Value} (h : o + 3 < cs.length) : (set4 cs o a b c d)[o]? = some a ∧ (set4 cs o a b c d)[o + 1]? = some b ∧ (set4 cs o a b c d)[o + 2]? = some c ∧ (set4 cs o a b c d)[o + 3]? = some d := by
  unfold set4
  refine ⟨?_, ?_, ?_, ?_⟩
  · rw [List.getElem?_set_ne (by omega), List.getElem?_set_ne (by omega), List.getElem?_set_ne (by omega), List.getElem?_set_self (by omega)]
  · rw [List.getElem?_set_ne (by omega), List.getElem?_set_ne (by omega), List.getElem?_set_self (by simp; omega)]
  · rw [List.getElem?_set_ne (by omega), List.getElem?_set_self (by simp; omega)]
  · rw [List.getElem?_set_self (by simp; omega)]
/-- One more label is stored. -/
theorem lv_store {w : World} {B C g n : Nat} {cs : List Value} {ps : List Lb} {y : Value} {p : Lb} (h : LV w B C g n cs ps) (hk : ps.length < n) (hy : IRow w B y p.2.2.1) (hyb : ∀ b, y.ownBlock = some b → C ≤ b) :
    ∃ cs', LV ((((w.setCell ⟨g, ps.length * 4, none⟩ (.int .i64 p.1)).setCell ⟨g, ps.length * 4 + 1, none⟩ (.int .i64 p.2.1)).setCell ⟨g, ps.length * 4 + 2, none⟩ y).setCell ⟨g, ps.length * 4 + 3, none⟩ (.int .i64 p.2.2.2)) B w.heap.size g n cs' (ps ++ [p]) := by
  have hl := lv_len h
  obtain ⟨h1, h2, h3, h4, h5, h6⟩ := h
  have s1 := (World.ownsRow.stored h1 (ps.length * 4) (.int .i64 p.1)).1
  have s2 := (World.ownsRow.stored s1 (ps.length * 4 + 1) (.int .i64 p.2.1)).1
  have s3 := (World.ownsRow.stored s2 (ps.length * 4 + 2) y).1
  have s4 := (World.ownsRow.stored s3 (ps.length * 4 + 3) (.int .i64 p.2.2.2)).1
  have hg := Lib.grownBy_setB (Lib.grownBy_setB (Lib.grownBy_setB (Lib.grownBy_setB (World.grownBy.refl w (some g)) (ps.length * 4) (.int .i64 p.1)) (ps.length * 4 + 1) (.int .i64 p.2.1)) (ps.length * 4 + 2) y) (ps.length * 4 + 3) (.int .i64 p.2.2.2)
  have hgw : g < w.heap.size := (World.ownsRow.lt h1 g rfl).2
  have hyg : y.ownBlock = none ∨ y.ownBlock ≠ some g := by
    cases e : y.ownBlock with
    | none => exact .inl rfl
    | some b => exact .inr fun e2 => by cases e2; have := hyb g e; omega
  have e4 : (set4 cs (ps.length * 4) (.int .i64 p.1) (.int .i64 p.2.1) y (.int .i64 p.2.2.2)).length = n * 4 := by unfold set4; simp [hl]
  have at4 := set4_at (cs := cs) (o := ps.length * 4) (a := .int .i64 p.1) (b := .int .i64 p.2.1) (c := y) (d := .int .i64 p.2.2.2) (by omega)
  have xlt : ∀ i, (hi : i < ps.length) → ∀ x, cs[i * 4 + 2]? = some x → ∀ b, x.ownBlock = some b → b < C := fun i hi x hx b hb => by
    obtain ⟨x', _, _, e3, _, _, e6, _⟩ := h4 i hi
    rw [e3] at hx; cases hx
    exact e6 b hb
  refine ⟨set4 cs (ps.length * 4) (.int .i64 p.1) (.int .i64 p.2.1) y (.int .i64 p.2.2.2), s4, hgw, by simp; omega, fun i hi => ?_, fun i hi hin => ?_, fun i j x z hij hj hx hz => ?_⟩
  · by_cases e : i = ps.length
    · subst e
      refine ⟨y, ?_⟩
      rw [List.getElem_append_right (Nat.le_refl _)]
      simp only [Nat.sub_self, List.getElem_cons_zero]
      exact ⟨at4.1, at4.2.1, at4.2.2.1, at4.2.2.2, World.ownsRow.kept hy hg hyg, fun b hb => (World.ownsRow.lt hy b hb).2, hyg⟩
    · have hi2 : i < ps.length := by simp at hi; omega
      rw [List.getElem_append_left hi2]
      obtain ⟨x, e1, e2, e3, e5, e6, e7, e8⟩ := h4 i hi2
      exact ⟨x, (set4_other (by omega)).trans e1, (set4_other (by omega)).trans e2, (set4_other (by omega)).trans e3, (set4_other (by omega)).trans e5, World.ownsRow.kept e6 hg e8, fun b hb => (World.ownsRow.lt e6 b hb).2, e8⟩
  · simp at hi
    obtain ⟨z1, z2, z3, z4⟩ := h5 i (by omega) hin
    exact ⟨(set4_other (by omega)).trans z1, (set4_other (by omega)).trans z2, (set4_other (by omega)).trans z3, (set4_other (by omega)).trans z4⟩
  · simp at hj
    have hi2 : i < ps.length := by omega
    rw [set4_other (by omega)] at hx
    by_cases e : j = ps.length
    · subst e
      rw [at4.2.2.1] at hz
      cases hz
      cases ex : x.ownBlock with
      | none => exact .inl rfl
      | some b => exact .inr fun e2 => by have := xlt i hi2 x hx b ex; have := hyb b e2.symm; omega
    · rw [set4_other (by omega)] at hz
      exact h6 i j x z hij (by omega) hx hz
theorem lv_cells {w : World} {B C g n : Nat} {cs : List Value} {ps : List Lb} (h : LV w B C g n cs ps) (i : Nat) (hi : i < n) {y0 y1 y2 y3 : Value} (e : cs[i * 4]? = some y0 ∧ cs[i * 4 + 1]? = some y1 ∧ cs[i * 4 + 2]? = some y2 ∧ cs[i * 4 + 3]? = some y3) :
    w.cell? ⟨g, i * 4, none⟩ = some y0 ∧ w.cell? ⟨g, i * 4 + 1, none⟩ = some y1 ∧ w.cell? ⟨g, i * 4 + 2, none⟩ = some y2 ∧ w.cell? ⟨g, i * 4 + 3, none⟩ = some y3 ∧
    w.frozen? ⟨g, i * 4, none⟩ = false ∧ w.frozen? ⟨g, i * 4 + 1, none⟩ = false ∧ w.frozen? ⟨g, i * 4 + 2, none⟩ = false ∧ w.frozen? ⟨g, i * 4 + 3, none⟩ = false := by
  obtain ⟨e0, e1, e2, e3⟩ := e
  exact ⟨(World.ownsRow.cellAt h.1 _ (by omega)).trans e0, (World.ownsRow.cellAt h.1 _ (by omega)).trans e1, (World.ownsRow.cellAt h.1 _ (by omega)).trans e2, (World.ownsRow.cellAt h.1 _ (by omega)).trans e3,
    World.ownsRow.frozenAt h.1 _, World.ownsRow.frozenAt h.1 _, World.ownsRow.frozenAt h.1 _, World.ownsRow.frozenAt h.1 _⟩
/-- It can be read. -/
theorem lv_at {w : World} {B C g : Nat} {cs : List Value} {ps : List Lb} (h : LV w B C g ps.length cs ps) : LAt w w.heap.size (.slice (some ⟨g, 0, none⟩) ps.length ps.length) ps := by
  refine ⟨_, _, rfl, Nat.le_refl _, fun k hk => ⟨g, 0, rfl, (lv_lt h).2, ?_⟩⟩
  obtain ⟨x, e1, e2, e3, e4, e5, e6, e7⟩ := h.2.2.2.1 k hk
  obtain ⟨c0, c1, c2, c3, _⟩ := lv_cells h k hk ⟨e1, e2, e3, e4⟩
  rw [Nat.zero_add]
  exact ⟨x, c0, c1, c2, c3, iatL_of_row e5, cap_iat e5⟩
set_option maxHeartbeats 400000 in
theorem toL1_any (r wd : Int) (v : Value) (zs : List Int) (t : Int) (w : World) (h : IAt w w.heap.size v zs) (hl : zs.length ≤ 1048576) :
    Calls Try.prog 53 #[.agg #[.int .i64 r, .int .i64 wd, v, .int .i64 t]] w fun e w' => ∃ y, e = .returned (.agg #[.int .i64 r, .int .i64 wd, y, .int .i64 t]) ∧ IRow w' w.heap.size y zs ∧ Below w.heap.size w w' := by
  have TO := Lib.hid (fun W (hb : Below w.heap.size w W) => toI_any v zs W (iat_up (iat_keep h hb) hb.size) hl)
  obtain ⟨a, c, rfl, _⟩ := h
  obtain ⟨L, hL⟩ : ∃ L, Hid (zs.length = L) := ⟨_, Lib.hid rfl⟩
  rw [hL.out] at TO ⊢
  go_enter Try.func53, Try.ntmps53
  go_wp2_with fail
  refine (TO.out _ (by repeat (first | exact Below.refl _ _ | refine Below.alloc ?_ (by simp; try omega) _ | refine Below.setCell ?_ (by simp) _))).mono ?_
  rintro e w1 ⟨y, rfl, hr, hb⟩
  obtain ⟨⟨ay, cy, rfl⟩, _⟩ := irow_shape hr
  have HR := Lib.hid hr
  have HB := Lib.hid hb
  have b3 : w1.cell? ⟨w.heap.size, 3, none⟩ = some (.int .i64 t) := by rw [hb.cell (p := ⟨w.heap.size, 3, none⟩) (by simp <;> omega)]; first | rfl | simp [go_sem] | (simp [World.cell?, World.frozen?])
  have o0 : w1.cell? ⟨w.heap.size + 2, 0, none⟩ = some (.int .i64 r) := by rw [hb.cell (p := ⟨w.heap.size + 2, 0, none⟩) (by simp <;> omega)]; first | rfl | simp [go_sem] | (simp [World.cell?, World.frozen?])
  have o1 : w1.cell? ⟨w.heap.size + 2, 1, none⟩ = some (.int .i64 wd) := by rw [hb.cell (p := ⟨w.heap.size + 2, 1, none⟩) (by simp <;> omega)]; first | rfl | simp [go_sem] | (simp [World.cell?, World.frozen?])
  have o2 : w1.cell? ⟨w.heap.size + 2, 2, none⟩ = some (.slice none 0 0) := by rw [hb.cell (p := ⟨w.heap.size + 2, 2, none⟩) (by simp <;> omega)]; first | rfl | simp [go_sem] | (simp [World.cell?, World.frozen?])
  have o3 : w1.cell? ⟨w.heap.size + 2, 3, none⟩ = some (.int .i64 0) := by rw [hb.cell (p := ⟨w.heap.size + 2, 3, none⟩) (by simp <;> omega)]; first | rfl | simp [go_sem] | (simp [World.cell?, World.frozen?])
  have r0 : w1.cell? ⟨w.heap.size + 1, 0, none⟩ = some (.int .i64 0) := by rw [hb.cell (p := ⟨w.heap.size + 1, 0, none⟩) (by simp <;> omega)]; first | rfl | simp [go_sem] | (simp [World.cell?, World.frozen?])
  have r1 : w1.cell? ⟨w.heap.size + 1, 1, none⟩ = some (.int .i64 0) := by rw [hb.cell (p := ⟨w.heap.size + 1, 1, none⟩) (by simp <;> omega)]; first | rfl | simp [go_sem] | (simp [World.cell?, World.frozen?])
  have r2 : w1.cell? ⟨w.heap.size + 1, 2, none⟩ = some (.slice none 0 0) := by rw [hb.cell (p := ⟨w.heap.size + 1, 2, none⟩) (by simp <;> omega)]; first | rfl | simp [go_sem] | (simp [World.cell?, World.frozen?])
  have r3 : w1.cell? ⟨w.heap.size + 1, 3, none⟩ = some (.int .i64 0) := by rw [hb.cell (p := ⟨w.heap.size + 1, 3, none⟩) (by simp <;> omega)]; first | rfl | simp [go_sem] | (simp [World.cell?, World.frozen?])
  have f2 : w1.frozen? ⟨w.heap.size + 2, 2, none⟩ = false := by rw [hb.frozen (p := ⟨w.heap.size + 2, 2, none⟩) (by simp <;> omega)]; first | rfl | simp [go_sem] | (simp [World.cell?, World.frozen?])
  have f3 : w1.frozen? ⟨w.heap.size + 2, 3, none⟩ = false := by rw [hb.frozen (p := ⟨w.heap.size + 2, 3, none⟩) (by simp <;> omega)]; first | rfl | simp [go_sem] | (simp [World.cell?, World.frozen?])
  have g0 : w1.frozen? ⟨w.heap.size + 1, 0, none⟩ = false := by rw [hb.frozen (p := ⟨w.heap.size + 1, 0, none⟩) (by simp <;> omega)]; first | rfl | simp [go_sem] | (simp [World.cell?, World.frozen?])
  have g1 : w1.frozen? ⟨w.heap.size + 1, 1, none⟩ = false := by rw [hb.frozen (p := ⟨w.heap.size + 1, 1, none⟩) (by simp <;> omega)]; first | rfl | simp [go_sem] | (simp [World.cell?, World.frozen?])
  have g2 : w1.frozen? ⟨w.heap.size + 1, 2, none⟩ = false := by rw [hb.frozen (p := ⟨w.heap.size + 1, 2, none⟩) (by simp <;> omega)]; first | rfl | simp [go_sem] | (simp [World.cell?, World.frozen?])
  have g3 : w1.frozen? ⟨w.heap.size + 1, 3, none⟩ = false := by rw [hb.frozen (p := ⟨w.heap.size + 1, 3, none⟩) (by simp <;> omega)]; first | rfl | simp [go_sem] | (simp [World.cell?, World.frozen?])
  clear hr hb
  go_wp2
  refine bodyPost_ret (v := .agg #[.int .i64 r, .int .i64 wd, .slice ay zs.length cy, .int .i64 t]) (by simp [results, Try.results53, go_sem, r0, r1, r2, r3]) rfl ?_
  have MD : Mid w.heap.size (w.heap.size + 3) w1 _ := mid_trans (mid_trans (mid_trans (mid_trans (mid_trans (mid_set (w := w1) (g := w.heap.size + 1 + 1) (i := 2) (.slice ay zs.length cy) (by omega) (by omega)) (mid_set (g := w.heap.size + 1 + 1) (i := 3) (.int .i64 t) (by omega) (by omega))) (mid_set (g := w.heap.size + 1) (i := 0) (.int .i64 r) (by omega) (by omega))) (mid_set (g := w.heap.size + 1) (i := 1) (.int .i64 wd) (by omega) (by omega))) (mid_set (g := w.heap.size + 1) (i := 2) (.slice ay zs.length cy) (by omega) (by omega))) (mid_set (g := w.heap.size + 1) (i := 3) (.int .i64 t) (by omega) (by omega))
  have BW : Below w.heap.size w w1 := (show Below w.heap.size w _ from by repeat (first | exact Below.refl _ _ | refine Below.alloc ?_ (by simp <;> omega) _)).trans (HB.out.mono (by simp <;> omega))
  exact ⟨_, rfl, irow_up (own_mid HR.out MD (by simp <;> omega)) (by simp <;> omega), BW.trans (mid_below MD BW.size)⟩
set_option maxRecDepth 100000 in
set_option maxHeartbeats 1000000 in
theorem toLS_any (v : Value) (ps : List Lb) (w : World) (h : LAt w w.heap.size v ps) (hl : ps.length ≤ 1048576) (hr : ∀ i, (hi : i < ps.length) → ps[i].2.2.1.length ≤ 1048576) :
    Calls Try.prog 48 #[v] w fun e w' => ∃ g cs, e = .returned (.slice (some ⟨g, 0, none⟩) ps.length ps.length) ∧ LV w' w.heap.size w'.heap.size g ps.length cs ps ∧ Below w.heap.size w w' := by
  obtain ⟨a, c, rfl, _, hc⟩ := h
  obtain ⟨i0, hi, hz0, hz1, hz2⟩ := info_parts info_lab
  obtain ⟨w1, hmk, hown0, hg0⟩ := run_make_full (P := Try.prog) (w := w) w.heap.size 24 36 i0 (.agg #[.int .i64 0, .int .i64 0, .slice none 0 0, .int .i64 0]) 4 Try.underlying24 hi hz0 hz1 .i64 .i64 ps.length (by rw [hz2]; omega) (by unfold maxLen; omega) (Nat.le_refl _)
  have HC := Lib.hid hc
  have HRL := Lib.hid hr
  have HB1 := Lib.hid (show Below w.heap.size w w1 from (Below.refl _ _).grown hg0 (Nat.le_refl _) (by simp))
  have H0 := Lib.hid (lv_start hown0 (World.ownsRow.lt hown0 _ rfl).2)
  clear hc hr hown0 hg0
  have hl2 : (ps.length : Int) ≤ 1048576 := by omega
  go_enter Try.func48, Try.ntmps48
  go_wp2
  clear hmk
  go_loopw [4] (fun i wr => ∃ k : Nat, k ≤ ps.length ∧ i = .int .i64 (k : Int) ∧ (∃ cs, LV wr w.heap.size wr.heap.size w.heap.size ps.length cs (ps.take k)) ∧ Below w.heap.size w wr) (fun i _ => ps.length - (intOf i).toNat)
  case atStart => exact ⟨0, Nat.zero_le _, rfl, by simpa using H0.out, HB1.out⟩
  case round =>
    obtain ⟨k, hk, rfl, ⟨cs, hr⟩, hb⟩ := hrel
    have HR := Lib.hid hr
    have HB := Lib.hid hb
    have ek : (ps.take k).length = k := by simp; omega
    by_cases hlt : k < ps.length
    · obtain ⟨b, off, rfl, hbs, x, c1, c2, c3, c4, hx, _⟩ := HC.out k hlt
      have u1 := (hb.cell (p := ⟨b, off + k * 4, none⟩) hbs).trans c1
      have u2 := (hb.cell (p := ⟨b, off + k * 4 + 1, none⟩) hbs).trans c2
      have u3 := (hb.cell (p := ⟨b, off + k * 4 + 2, none⟩) hbs).trans c3
      have u4 := (hb.cell (p := ⟨b, off + k * 4 + 3, none⟩) hbs).trans c4
      obtain ⟨q0, q1, q2, q3, f0, f1, f2, f3⟩ := lv_cells hr k hlt (hr.2.2.2.2.1 k (by omega) hlt)
      have hws := (lv_lt hr).2
      have HX := Lib.hid (iat_up (iat_keep hx hb) hb.size)
      have ML := HRL.out k hlt
      have hk0 : 0 ≤ (k : Int) := by omega
      have hk1 : (k : Int) < (ps.length : Int) := by omega
      have ET := Lib.hid (show ps.take (k + 1) = ps.take k ++ [ps[k]] by rw [List.take_add_one, List.getElem?_eq_getElem hlt]; rfl)
      clear hr hb c1 c2 c3 c4
      have TO := Lib.hid (toL1_any ps[k].1 ps[k].2.1 x ps[k].2.2.1 ps[k].2.2.2 wr HX.out ML)
      generalize ps[k] = p at u1 u2 u4 TO ET HX ML
      obtain ⟨ax, cx, rfl, _⟩ := hx
      go_wp2_with fail
      refine TO.out.mono ?_
      rintro e w2 ⟨y, rfl, hy, hb2⟩
      have HY := Lib.hid hy
      have HB2 := Lib.hid hb2
      obtain ⟨⟨ay, cy, rfl⟩, _⟩ := irow_shape hy
      have q0' := (hb2.cell (p := ⟨w.heap.size, k * 4, none⟩) hws).trans q0
      have q1' := (hb2.cell (p := ⟨w.heap.size, k * 4 + 1, none⟩) hws).trans q1
      have q2' := (hb2.cell (p := ⟨w.heap.size, k * 4 + 2, none⟩) hws).trans q2
      have q3' := (hb2.cell (p := ⟨w.heap.size, k * 4 + 3, none⟩) hws).trans q3
      have f0' := (hb2.frozen (p := ⟨w.heap.size, k * 4, none⟩) hws).trans f0
      have f1' := (hb2.frozen (p := ⟨w.heap.size, k * 4 + 1, none⟩) hws).trans f1
      have f2' := (hb2.frozen (p := ⟨w.heap.size, k * 4 + 2, none⟩) hws).trans f2
      have f3' := (hb2.frozen (p := ⟨w.heap.size, k * 4 + 3, none⟩) hws).trans f3
      clear q0 q1 q2 q3 f0 f1 f2 f3 hb2 hy
      go_wp2
      go_roundw
      case rel =>
        refine ⟨k + 1, by omega, by go_num, ?_, ((((HB.out.trans (HB2.out.mono HB.out.size)).setCell (Nat.le_refl _) _).setCell (Nat.le_refl _) _).setCell (Nat.le_refl _) _).setCell (Nat.le_refl _) _⟩
        have L2 := lv_keep HR.out HB2.out
        obtain ⟨cs', h⟩ := lv_store (p := p) L2 (by rw [ek]; exact hlt) (irow_up HY.out HB.out.size) (fun b hb => (World.ownsRow.lt HY.out b hb).1)
        rw [ek, ← ET.out] at h
        exact ⟨cs', by simpa using h⟩
      case measure => simp [intOf]; omega
    · obtain rfl : k = ps.length := by omega
      have HE := Lib.hid (show ∃ cs, LV wr w.heap.size wr.heap.size w.heap.size ps.length cs ps from ⟨cs, by simpa using hr⟩)
      clear hr hb
      go_wp2
      go_ret
      obtain ⟨cs2, h2⟩ := HE.out
      exact ⟨_, cs2, rfl, h2, HB.out⟩
set_option maxRecDepth 100000 in
set_option maxHeartbeats 1000000 in
theorem eqIat_same (va vb : Value) (zs : List Int) (w : World) (ha : IAt w w.heap.size va zs) (hb : IAt w w.heap.size vb zs) (hn : zs.length ≤ 1048576) :
    Calls Try.prog 57 #[va, vb] w fun e w' => e = .returned (.bool true) ∧ ∃ q, w' = w.drewN q := by
  obtain ⟨aa, ca, rfl, hca⟩ := ha
  obtain ⟨ab, cb, rfl, hcb⟩ := hb
  have HA := Lib.hid hca
  have HB := Lib.hid hcb
  have hn2 : (zs.length : Int) ≤ 1048576 := by omega
  clear hca hcb
  go_enter Try.func57, Try.ntmps57
  go_wp2
  go_loopw [5] (fun i wr => ∃ k q : Nat, k ≤ zs.length ∧ i = .int .i64 (k : Int) ∧ wr = w.drewN q) (fun i _ => zs.length - (intOf i).toNat)
  case atStart => exact ⟨0, 0, Nat.zero_le _, rfl, rfl⟩
  case round =>
    obtain ⟨k, q, hk, rfl, rfl⟩ := hrel
    by_cases hlt : k < zs.length
    · obtain ⟨ga, oa, rfl, _, hca⟩ := HA.out k hlt
      obtain ⟨gb, ob, rfl, _, hcb⟩ := HB.out k hlt
      have hk0 : 0 ≤ (k : Int) := by omega
      have hk1 : (k : Int) < (zs.length : Int) := by omega
      generalize zAt zs k = x at hca hcb
      go_wp2
      go_quiet (fail)
      go_wp2
      go_roundw
      case rel => exact ⟨k + 1, _, by omega, by go_num, rfl⟩
      case measure => simp [intOf]; omega
    · obtain rfl : k = zs.length := by omega
      go_wp2
      go_ret
      exact ⟨rfl, q, rfl⟩
set_option maxRecDepth 100000 in
set_option maxHeartbeats 1000000 in
theorem eqL1_same (p : Lb) (x y : Value) (w : World) (hx : IAt w w.heap.size x p.2.2.1) (hy : IAt w w.heap.size y p.2.2.1) (hl : p.2.2.1.length ≤ 1048576) :
    Calls Try.prog 54 #[.agg #[.int .i64 p.1, .int .i64 p.2.1, x, .int .i64 p.2.2.2], .agg #[.int .i64 p.1, .int .i64 p.2.1, y, .int .i64 p.2.2.2]] w fun e w' => e = .returned (.bool true) ∧ Below w.heap.size w w' := by
  have EQ := Lib.hid (fun W (hb : Below w.heap.size w W) => eqIat_same x y p.2.2.1 W (iat_up (iat_keep hx hb) hb.size) (iat_up (iat_keep hy hb) hb.size) hl)
  obtain ⟨ax, cx, rfl, _⟩ := hx
  obtain ⟨ay, cy, rfl, _⟩ := hy
  obtain ⟨r, wd, zs, t⟩ := p
  simp only at EQ hl ⊢
  obtain ⟨L, hL⟩ : ∃ L, Hid (zs.length = L) := ⟨_, Lib.hid rfl⟩
  rw [hL.out] at EQ ⊢
  clear hl
  go_enter Try.func54, Try.ntmps54
  go_wp2_with fail
  refine (EQ.out _ (by repeat (first | exact Below.refl _ _ | refine Below.drew ?_ | refine bdr ?_ _ | refine Below.alloc ?_ (by simp <;> omega) _))).mono ?_
  rintro e w1 ⟨rfl, q, rfl⟩
  go_wp2
  go_ret
  exact ⟨rfl, by repeat (first | exact Below.refl _ _ | refine Below.drew ?_ | refine bdr ?_ _ | refine Below.alloc ?_ (by simp <;> omega) _)⟩
set_option maxRecDepth 100000 in
set_option maxHeartbeats 1000000 in
theorem eqLS_same (va vb : Value) (ps : List Lb) (w : World) (ha : LAt w w.heap.size va ps) (hb : LAt w w.heap.size vb ps) (hn : ps.length ≤ 1048576) (hm : ∀ i, (hi : i < ps.length) → ps[i].2.2.1.length ≤ 1048576) :
    Calls Try.prog 50 #[va, vb] w fun e w' => e = .returned (.bool true) ∧ Below w.heap.size w w' := by
  obtain ⟨aa, ca, rfl, _, hca⟩ := ha
  obtain ⟨ab, cb, rfl, _, hcb⟩ := hb
  have HA := Lib.hid hca
  have HB := Lib.hid hcb
  have HM := Lib.hid hm
  have hn2 : (ps.length : Int) ≤ 1048576 := by omega
  clear hca hcb hm
  go_enter Try.func50, Try.ntmps50
  go_wp2
  go_loopw [5] (fun i wr => ∃ k : Nat, k ≤ ps.length ∧ i = .int .i64 (k : Int) ∧ Below w.heap.size w wr) (fun i _ => ps.length - (intOf i).toNat)
  case atStart => exact ⟨0, Nat.zero_le _, rfl, Below.refl _ _⟩
  case round =>
    obtain ⟨k, hk, rfl, hbw⟩ := hrel
    have hsz := hbw.size
    by_cases hlt : k < ps.length
    · obtain ⟨b1, off1, rfl, hs1, x, c1, c2, c3, c4, hx, _⟩ := HA.out k hlt
      obtain ⟨b2, off2, rfl, hs2, y, d1, d2, d3, d4, hy, _⟩ := HB.out k hlt
      have c1' := (hbw.cell (p := ⟨b1, off1 + k * 4, none⟩) hs1).trans c1
      have c2' := (hbw.cell (p := ⟨b1, off1 + k * 4 + 1, none⟩) hs1).trans c2
      have c3' := (hbw.cell (p := ⟨b1, off1 + k * 4 + 2, none⟩) hs1).trans c3
      have c4' := (hbw.cell (p := ⟨b1, off1 + k * 4 + 3, none⟩) hs1).trans c4
      have d1' := (hbw.cell (p := ⟨b2, off2 + k * 4, none⟩) hs2).trans d1
      have d2' := (hbw.cell (p := ⟨b2, off2 + k * 4 + 1, none⟩) hs2).trans d2
      have d3' := (hbw.cell (p := ⟨b2, off2 + k * 4 + 2, none⟩) hs2).trans d3
      have d4' := (hbw.cell (p := ⟨b2, off2 + k * 4 + 3, none⟩) hs2).trans d4
      have HX := Lib.hid (iat_up (iat_keep hx hbw) hsz)
      have HY := Lib.hid (iat_up (iat_keep hy hbw) hsz)
      have ML := HM.out k hlt
      have HW := Lib.hid hbw
      have hk0 : 0 ≤ (k : Int) := by omega
      have hk1 : (k : Int) < (ps.length : Int) := by omega
      have t1 : b1 < wr.heap.size := by omega
      have t2 : b2 < wr.heap.size := by omega
      have EQ := Lib.hid (fun W' (h : Below wr.heap.size wr W') => eqL1_same ps[k] x y W' (iat_up (iat_keep HX.out h) h.size) (iat_up (iat_keep HY.out h) h.size) ML)
      clear hbw c1 c2 c3 c4 d1 d2 d3 d4 ML
      generalize ps[k] = p at c1' c2' c4' d1' d2' d4' EQ HX HY hx hy
      obtain ⟨ax, cx, rfl, _⟩ := hx
      obtain ⟨ay, cy, rfl, _⟩ := hy
      obtain ⟨r, wd, zs, t⟩ := p
      simp only at c1' c2' c4' d1' d2' d4' EQ HX HY ⊢
      obtain ⟨L, hL⟩ : ∃ L, Hid (zs.length = L) := ⟨_, Lib.hid rfl⟩
      rw [hL.out] at c3' d3' EQ
      go_wp2_with fail
      go_region_with (go_at_call 54; refine (EQ.out _ (by repeat (first | exact Below.refl _ _ | refine Below.drew ?_ | refine bdr ?_ _))).mono ?_; rintro e w2 ⟨rfl, hb2⟩; have HW2 := Lib.hid hb2; clear hb2)
      all_goals go_wp2
      all_goals go_roundw
      all_goals first
        | exact ⟨k + 1, by omega, by go_num, HW.out.trans ((show Below wr.heap.size wr _ from (by repeat (first | exact Below.refl _ _ | refine Below.drew ?_ | refine bdr ?_ _))).trans HW2.out |>.mono hsz)⟩
        | (simp [intOf]; omega)
    · obtain rfl : k = ps.length := by omega
      go_wp2
      go_ret
      exact ⟨rfl, hbw⟩
end Go.Proofs.Ytmfjpmimkpldjaa.ltab
