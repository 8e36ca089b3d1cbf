/- Lists of labels: opened, copied, compared. -/
import Derived.Test.YtmfjpmimkpldjaaIArgL
import Derived.Lib.SmallJoins
import Derived.Deep.SlicePairs
import Derived.Deep.RegionHeld3
import Derived.Deep.RegionWith
import Derived.Maps.AppendAt
import Derived.BigQuiet
namespace Go.Proofs.Ytmfjpmimkpldjaa.ltab
open Go.ChangeShapes Go.WideShapes Go.ChangeAt Go.RowKit Go.Proofs.Ytmfjpmimkpldjaa.irows Go.Proofs.Ytmfjpmimkpldjaa.sines
set_option linter.unusedSimpArgs false
set_option linter.unusedVariables false

theorem retIL {a b : Int} (h : a = b) : Ending.returned (.int .i64 a) = .returned (.int .i64 b) := by rw [h]
/-- A label: row, width, starts, weight. -/
abbrev Lb := Int × Int × List Int × Int
def CapL (v : Value) : Prop := ∀ a n c, v = .slice a n c → n ≤ c
/-- What is read of a label whose cells lie from o on. -/
def LCell (w : World) (B b o : Nat) (p : Lb) : Prop :=
  ∃ x, w.cell? ⟨b, o, none⟩ = some (.int .i64 p.1) ∧ w.cell? ⟨b, o + 1, none⟩ = some (.int .i64 p.2.1) ∧ w.cell? ⟨b, o + 2, none⟩ = some x ∧ w.cell? ⟨b, o + 3, none⟩ = some (.int .i64 p.2.2.2) ∧ IAt w B x p.2.2.1 ∧ CapL x
/-- What is read of a list of labels. -/
def LAt (w : World) (B : Nat) (v : Value) (ps : List Lb) : Prop :=
  ∃ a c, v = .slice a ps.length c ∧ ps.length ≤ c ∧ ∀ k, (h : k < ps.length) → ∃ b off, a = some ⟨b, off, none⟩ ∧ b < B ∧ LCell w B b (off + k * 4) ps[k]
theorem lcell_keep {w w' : World} {B b o : Nat} {p : Lb} (h : LCell w B b o p) (hb : Below B w w') (hB : b < B) : LCell w' B b o p := by
  obtain ⟨x, e1, e2, e3, e4, e5, e6⟩ := h
  exact ⟨x, (hb.cell (p := ⟨b, o, none⟩) hB).trans e1, (hb.cell (p := ⟨b, o + 1, none⟩) hB).trans e2, (hb.cell (p := ⟨b, o + 2, none⟩) hB).trans e3, (hb.cell (p := ⟨b, o + 3, none⟩) hB).trans e4, iat_keep e5 hb, e6⟩
theorem lcell_up {w : World} {B B' b o : Nat} {p : Lb} (h : LCell w B b o p) (hB : B ≤ B') : LCell w B' b o p := by
  obtain ⟨x, e1, e2, e3, e4, e5, e6⟩ := h
  exact ⟨x, e1, e2, e3, e4, iat_up e5 hB, e6⟩
theorem lat_keep {w w' : World} {B : Nat} {v : Value} {ps : List Lb} (h : LAt w B v ps) (hb : Below B w w') : LAt w' B v ps := by
  obtain ⟨a, c, e, h0, h⟩ := h
  refine ⟨a, c, e, h0, fun k hk => ?_⟩
  obtain ⟨b, off, e1, e2, e3⟩ := h k hk
  exact ⟨b, off, e1, e2, lcell_keep e3 hb e2⟩
theorem lat_up {w : World} {B B' : Nat} {v : Value} {ps : List Lb} (h : LAt w B v ps) (hB : B ≤ B') : LAt w B' v ps := by
  obtain ⟨a, c, e, h0, h⟩ := h
  refine ⟨a, c, e, h0, fun k hk => ?_⟩
  obtain ⟨b, off, e1, e2, e3⟩ := h k hk
  exact ⟨b, off, e1, by omega, lcell_up e3 hB⟩
theorem cap_iat {w : World} {B : Nat} {zs : List Int} {v : Value} (h : IRow w B v zs) : CapL v := by
  intro a n c e
  rcases h.2 with ⟨hn, h0⟩ | ⟨g, cap, cur, hv, _, _, h1, _⟩
  · rw [hn] at e; cases e; omega
  · rw [hv] at e; cases e; exact h1
theorem iatL_of_row {w : World} {B : Nat} {v : Value} {zs : List Int} (h : IRow w B v zs) : IAt w w.heap.size v zs := by
  obtain ⟨⟨a, c, e⟩, _⟩ := irow_shape h
  subst e
  refine ⟨a, c, rfl, fun k hk => ?_⟩
  obtain ⟨g, e1, _, e4⟩ := irow_at h k hk
  exact ⟨g, 0, e1, World.block_lt_of_cell? _ _ e4, by rw [zAt_eq hk, Nat.zero_add]; exact e4⟩

/-- Four one-cell fields a struct, a list of them: opened at every index. -/
theorem open_quads {H : Type} {enc : TypeId × Value → H} {P : Program} {W : World} {base : Nat} {spare : Nat → Bool} {held : Bool} {t e : TypeId} {f0 f1 f2 f3 : Field} {fuel : Nat} {cs : List Value} {x : DataW H × List MemPlace} (ht : P.underlying t = some (.slice e)) (he : P.underlying e = some (.struct #[f0, f1, f2, f3])) (ce : P.cellsOf e = 4) (hone : Go.Deep.oneCellFields P #[f0, f1, f2, f3] = true) (h : DataW.trod enc P W base spare held fuel t cs = some x) :
    cs = [.slice none 0 0] ∨ ∃ (a : Addr) (len cap : Nat), cs = [.slice (some a) len cap] ∧ len ≤ cap ∧ cap ≤ maxLen ∧ ∀ i, i < len → ∃ (v0 v1 v2 v3 : Value) (n : Nat) (y0 y1 y2 y3 : DataW H × List MemPlace),
      W.cell? (a.add (i * 4)) = some v0 ∧ W.cell? (a.add (i * 4 + 1)) = some v1 ∧ W.cell? (a.add (i * 4 + 2)) = some v2 ∧ W.cell? (a.add (i * 4 + 3)) = some v3 ∧
      DataW.trod enc P W base spare held n f0.type [v0] = some y0 ∧ DataW.trod enc P W base spare held n f1.type [v1] = some y1 ∧ DataW.trod enc P W base spare held n f2.type [v2] = some y2 ∧ DataW.trod enc P W base spare held n f3.type [v3] = some y3 := by
  rcases Go.Deep.open_slice ht h with ⟨h0, _⟩ | ⟨a, len, cap, m, n, D, Pl, rfl, hb, hl, hm, hmm, rfl, hx⟩
  · exact Or.inl h0
  right
  have hlm : len ≤ m := by rw [hmm]; split <;> omega
  refine ⟨a, len, cap, rfl, hl, hm, fun i hi => ?_⟩
  obtain ⟨cs', h1, h2⟩ := hx i (by omega)
  rw [ce] at h1
  obtain ⟨_, hlen, hcell⟩ := World.cells?_some h1
  obtain ⟨y0, y1, y2, y3, k, _, _, g0, g1, g2, g3⟩ := Go.Joins.trod_struct4 he h2
  obtain ⟨o0, k0⟩ := Go.Deep.hone_of hone 0 f0 rfl
  obtain ⟨o1, k1⟩ := Go.Deep.hone_of hone 1 f1 rfl
  obtain ⟨o2, k2⟩ := Go.Deep.hone_of hone 2 f2 rfl
  obtain ⟨o3, k3⟩ := Go.Deep.hone_of hone 3 f3 rfl
  match cs', hlen with
  | [v0, v1, v2, v3], _ =>
    simp [o0, k0] at g0
    simp [o1, k1] at g1
    simp [o2, k2] at g2
    simp [o3, k3] at g3
    have e0 := hcell 0 (by omega)
    have e1 := hcell 1 (by omega)
    have e2 := hcell 2 (by omega)
    have e3 := hcell 3 (by omega)
    rw [Go.Deep.add_add] at e0 e1 e2 e3
    exact ⟨v0, v1, v2, v3, k, y0, y1, y2, y3, by simpa using e0, by simpa using e1, by simpa using e2, by simpa using e3, g0, g1, g2, g3⟩
/-- The four fields of a label. -/
theorem open_fields {H : Type} {enc : TypeId × Value → H} {W : World} {base : Nat} {spare : Nat → Bool} {held : Bool} {n : Nat} {v0 v1 v2 v3 : Value} {y0 y1 y2 y3 : DataW H × List MemPlace}
    (t0 : DataW.trod enc Try.prog W base spare held n 2 [v0] = some y0) (t1 : DataW.trod enc Try.prog W base spare held n 2 [v1] = some y1) (t2 : DataW.trod enc Try.prog W base spare held n 26 [v2] = some y2) (t3 : DataW.trod enc Try.prog W base spare held n 2 [v3] = some y3) :
    ∃ p : Lb, v0 = .int .i64 p.1 ∧ v1 = .int .i64 p.2.1 ∧ v3 = .int .i64 p.2.2.2 ∧ IAt W W.heap.size v2 p.2.2.1 ∧ CapL v2 ∧ p.2.2.1.length ≤ maxLen := by
  obtain ⟨z0, e0, _, _⟩ := DataW.trod_int Try.underlying2 t0
  obtain ⟨z1, e1, _, _⟩ := DataW.trod_int Try.underlying2 t1
  obtain ⟨z3, e3, _, _⟩ := DataW.trod_int Try.underlying2 t3
  simp at e0 e1 e3
  have hsl : ∃ a l c, v2 = .slice a l c ∧ l ≤ c := by
    rcases Go.Deep.open_slice (t := 26) Try.underlying26 t2 with ⟨e, _⟩ | ⟨a', l', c', _, _, _, _, e, _, hlc, _⟩
    · exact ⟨none, 0, 0, by simpa using e, Nat.le_refl _⟩
    · exact ⟨_, _, _, by simpa using e, hlc⟩
  obtain ⟨a', l', c', e, hlc⟩ := hsl
  have t2' : DataW.trod enc Try.prog W base spare held n 26 v2.cells.toList = some y2 := by rw [e] at t2 ⊢; exact t2
  obtain ⟨zs, hz, hzl⟩ := open_ilist t2' ⟨a', l', c', e⟩
  exact ⟨(z0, z1, zs, z3), e0, e1, e3, hz, (fun a n c e2 => by rw [e] at e2; cases e2; exact hlc), hzl⟩
/-- An argument is such a list. -/
theorem open_llist {H : Type} {enc : TypeId × Value → H} {W : World} {base : Nat} {spare : Nat → Bool} {held : Bool} {fuel : Nat} {v : Value} {x : DataW H × List MemPlace} (h : DataW.trod enc Try.prog W base spare held fuel 60 v.cells.toList = some x) (hv : ∃ a l c, v = .slice a l c) :
    ∃ ps, LAt W W.heap.size v ps ∧ ps.length ≤ maxLen ∧ ∀ i, (hi : i < ps.length) → ps[i].2.2.1.length ≤ maxLen := by
  obtain ⟨a0, l0, c0, rfl⟩ := hv
  rcases open_quads (f0 := _) (f1 := _) (f2 := _) (f3 := _) Try.underlying60 Try.underlying66 (by kernel_rfl) (by kernel_rfl) h with hcs | ⟨a, len, cap, hcs, hl, hm, hx⟩
  · simp [Value.cells] at hcs
    obtain ⟨rfl, rfl, rfl⟩ := hcs
    exact ⟨[], ⟨none, 0, rfl, Nat.le_refl _, fun k hk => by simp at hk⟩, Nat.zero_le _, fun i hi => by simp at hi⟩
  · simp [Value.cells] at hcs
    obtain ⟨rfl, rfl, rfl⟩ := hcs
    have each : ∀ i, i < l0 → ∃ q : Lb × Value, W.cell? (a.add (i * 4)) = some (.int .i64 q.1.1) ∧ W.cell? (a.add (i * 4 + 1)) = some (.int .i64 q.1.2.1) ∧ W.cell? (a.add (i * 4 + 2)) = some q.2 ∧ W.cell? (a.add (i * 4 + 3)) = some (.int .i64 q.1.2.2.2) ∧ IAt W W.heap.size q.2 q.1.2.2.1 ∧ CapL q.2 ∧ q.1.2.2.1.length ≤ maxLen := fun i hi => by
      obtain ⟨v0, v1, v2, v3, n, y0, y1, y2, y3, c1, c2, c3, c4, t0, t1, t2, t3⟩ := hx i hi
      obtain ⟨p, rfl, rfl, rfl, h1, h2, h3⟩ := open_fields t0 t1 t2 t3
      exact ⟨(p, v2), c1, c2, c3, c4, h1, h2, h3⟩
    obtain ⟨q, hq⟩ := Go.Deep.choose_lt each
    obtain ⟨b, off, spot⟩ := a
    refine ⟨(List.range l0).map fun i => (q i).1, ⟨some ⟨b, off, spot⟩, c0, by simp, by simpa using hl, fun k hk => ?_⟩, by simp; omega, fun i hi => ?_⟩
    · have hk' : k < l0 := by simpa using hk
      obtain ⟨c1, c2, c3, c4, h1, h2, _⟩ := hq k hk'
      have hspot : spot = none := by simpa [Addr.add] using World.cell?_spot (hq 0 (by omega)).1
      subst hspot
      have a1 : (⟨b, off, none⟩ : Addr).add (k * 4) = ⟨b, off + k * 4, none⟩ := add_plain' _ _ _
      have a2 : (⟨b, off, none⟩ : Addr).add (k * 4 + 1) = ⟨b, off + k * 4 + 1, none⟩ := add_plain' _ _ _
      have a3 : (⟨b, off, none⟩ : Addr).add (k * 4 + 2) = ⟨b, off + k * 4 + 2, none⟩ := add_plain' _ _ _
      have a4 : (⟨b, off, none⟩ : Addr).add (k * 4 + 3) = ⟨b, off + k * 4 + 3, none⟩ := add_plain' _ _ _
      rw [a1] at c1
      rw [a2] at c2
      rw [a3] at c3
      rw [a4] at c4
      exact ⟨b, off, rfl, World.block_lt_of_cell? _ _ c1, (q k).2, by simpa using c1, by simpa using c2, c3, by simpa using c4, by simpa using h1, h2⟩
    · have hi' : i < l0 := by simpa using hi
      simpa using (hq i hi').2.2.2.2.2.2
/-- The starts in the first labels. -/
def totL (ps : List Lb) : Nat → Nat
  | 0 => 0
  | k + 1 => totL ps k + (ps.getD k (0, 0, [], 0)).2.2.1.length
theorem totL_mono (ps : List Lb) (i : Nat) : ∀ k, totL ps i ≤ totL ps (i + k)
  | 0 => Nat.le_refl _
  | k + 1 => by have := totL_mono ps i k; rw [show i + (k + 1) = (i + k) + 1 by omega, totL]; omega
theorem totL_le (ps : List Lb) {i j : Nat} (h : i ≤ j) : totL ps i ≤ totL ps j := by
  have := totL_mono ps i (j - i)
  rwa [show i + (j - i) = j by omega] at this
theorem totL_succ {ps : List Lb} {i : Nat} (h : i < ps.length) : totL ps (i + 1) = totL ps i + ps[i].2.2.1.length := by
  rw [totL, List.getD_eq_getElem?_getD, List.getElem?_eq_getElem h]; rfl
theorem totL_row {ps : List Lb} {i : Nat} (h : i < ps.length) : ps[i].2.2.1.length ≤ totL ps ps.length := by
  have h1 := totL_le ps (show i + 1 ≤ ps.length by omega)
  rw [totL_succ h] at h1
  omega
def fitL (ps : List Lb) : Bool := decide (ps.length + totL ps ps.length ≤ 1048576)
theorem fitL_of {ps : List Lb} (h : fitL ps = true) : ps.length ≤ 1048576 ∧ ∀ i, (hi : i < ps.length) → ps[i].2.2.1.length ≤ 1048576 := by
  simp [fitL] at h
  exact ⟨by omega, fun i hi => by have := totL_row hi; omega⟩
theorem szI_any (v : Value) (zs : List Int) (w : World) (B : Nat) (l : Int) (h : IAt w B v zs) (hm : zs.length ≤ maxLen) (l0 : 0 ≤ l) (l1 : l ≤ 1048576) :
    Calls Try.prog 106 #[v, .int .i64 l] w fun e w' => e = .returned (.int .i64 (if (zs.length : Int) ≤ l then l - (zs.length : Int) else -1)) ∧ w = w' := by
  obtain ⟨a, c, rfl, _⟩ := h
  unfold maxLen at hm
  have h2 : (zs.length : Int) ≤ 9223372036854775807 := by omega
  have kw : IntKind.i64.wrap (l - (zs.length : Int)) = l - (zs.length : Int) := IntWalk.i64_in _ (by omega)
  by_cases hl : (zs.length : Int) ≤ l
  · have kd : decide (l - (zs.length : Int) < 0) = false := by simp; omega
    rw [if_pos hl]
    go_enter Try.func106, Try.ntmps106
    go_wp2
    go_ret
    exact ⟨rfl, rfl⟩
  · have kd : decide (l - (zs.length : Int) < 0) = true := by simp; omega
    rw [if_neg hl]
    go_enter Try.func106, Try.ntmps106
    go_wp2
    go_ret
    exact ⟨rfl, rfl⟩
set_option maxHeartbeats 400000 in
theorem szL1_any (r wd : Int) (v : Value) (zs : List Int) (t : Int) (w : World) (B : Nat) (l : Int) (h : IAt w w.heap.size v zs) (hm : zs.length ≤ maxLen) (l0 : 0 ≤ l) (l1 : l ≤ 1048576) :
    Calls Try.prog 51 #[.agg #[.int .i64 r, .int .i64 wd, v, .int .i64 t], .int .i64 l] w fun e w' => e = .returned (.int .i64 (if (zs.length : Int) ≤ l then l - (zs.length : Int) else -1)) ∧ Below w.heap.size w w' := by
  have HV := Lib.hid h
  obtain ⟨a, c, rfl, _⟩ := h
  have SZ := Lib.hid (fun W (hb : Below w.heap.size w W) => szI_any _ zs W _ l (iat_keep HV.out hb) hm l0 l1)
  by_cases hl : (zs.length : Int) ≤ l
  · have kd : decide (l - (zs.length : Int) < 0) = false := by simp; omega
    rw [if_pos hl] at SZ ⊢
    obtain ⟨L, hL⟩ : ∃ L, Hid (l - (zs.length : Int) = L) := ⟨_, Lib.hid rfl⟩
    rw [hL.out] at SZ kd ⊢
    go_enter Try.func51, Try.ntmps51
    go_wp2_with fail
    refine (SZ.out _ ((Below.refl _ _).alloc (Nat.le_refl _) _)).mono ?_
    rintro e w' ⟨rfl, rfl⟩
    go_wp2
    go_ret
    exact ⟨rfl, (Below.refl _ _).alloc (Nat.le_refl _) _⟩
  · rw [if_neg hl] at SZ ⊢
    go_enter Try.func51, Try.ntmps51
    go_wp2_with fail
    refine (SZ.out _ ((Below.refl _ _).alloc (Nat.le_refl _) _)).mono ?_
    rintro e w' ⟨rfl, rfl⟩
    go_wp2
    go_ret
    exact ⟨rfl, (Below.refl _ _).alloc (Nat.le_refl _) _⟩
set_option maxRecDepth 100000 in
set_option maxHeartbeats 1000000 in
theorem szL_any (v : Value) (ps : List Lb) (w : World) (h : LAt w w.heap.size v ps) (hm : ps.length ≤ maxLen) (hr : ∀ i, (hi : i < ps.length) → ps[i].2.2.1.length ≤ maxLen) :
    Calls Try.prog 46 #[v, .int .i64 1048576] w fun e w' => e = .returned (.int .i64 (if fitL ps = true then 1048576 - (ps.length : Int) - (totL ps ps.length : Int) else -1)) ∧ Below w.heap.size w w' := by
  obtain ⟨a, c, rfl, _, hc⟩ := h
  have HC := Lib.hid hc
  have HM := Lib.hid hr
  unfold maxLen at hm
  by_cases hbig : 1048576 < ps.length
  · have hf : fitL ps = false := by simp [fitL]; omega
    have h1 : 1048576 < (ps.length : Int) := by omega
    have h2 : (ps.length : Int) ≤ 9223372036854775807 := by omega
    rw [hf]
    simp only [Bool.false_eq_true, if_false]
    clear hc hr
    go_enter Try.func46, Try.ntmps46
    go_wp2
    go_ret
    exact ⟨rfl, Below.refl _ _⟩
  · have h1 : (ps.length : Int) ≤ 1048576 := by omega
    have k1 : IntKind.i64.wrap (1048576 - (ps.length : Int)) = 1048576 - (ps.length : Int) := IntWalk.i64_in _ (by omega)
    have h3 : decide (1048576 - (ps.length : Int) < 0) = false := by simp; omega
    obtain ⟨R, hR⟩ : ∃ R, Hid ((if fitL ps = true then 1048576 - (ps.length : Int) - (totL ps ps.length : Int) else -1) = R) := ⟨_, Lib.hid rfl⟩
    rw [hR.out]
    clear hc hr hbig
    go_enter Try.func46, Try.ntmps46
    go_wp2
    go_loopw [1, 5] (fun l i wr => ∃ k : Nat, k ≤ ps.length ∧ i = .int .i64 (k : Int) ∧ (ps.length : Int) + (totL ps k : Int) ≤ 1048576 ∧ l = .int .i64 (1048576 - (ps.length : Int) - (totL ps k : Int)) ∧ Below w.heap.size w wr) (fun _ i _ => ps.length - (intOf i).toNat)
    case atStart => exact ⟨0, Nat.zero_le _, rfl, by simp [totL]; omega, by simp [totL], Below.refl _ _⟩
    case round =>
      obtain ⟨k, hk, rfl, hle, rfl, hb⟩ := hrel
      have HB := Lib.hid hb
      by_cases hlt : k < ps.length
      · obtain ⟨b, off, rfl, hbs, x, c1, c2, c3, c4, hx, _⟩ := HC.out k hlt
        have u1 := (hb.cell (p := ⟨b, off + k * 4, none⟩) hbs).trans c1
        have u2 := (hb.cell (p := ⟨b, off + k * 4 + 1, none⟩) hbs).trans c2
        have u3 := (hb.cell (p := ⟨b, off + k * 4 + 2, none⟩) hbs).trans c3
        have u4 := (hb.cell (p := ⟨b, off + k * 4 + 3, none⟩) hbs).trans c4
        have hml := HM.out k hlt
        have hk0 : 0 ≤ (k : Int) := by omega
        have hk1 : (k : Int) < (ps.length : Int) := by omega
        have ET := Lib.hid (totL_succ hlt)
        have LE := Lib.hid (totL_le ps (show k + 1 ≤ ps.length by omega))
        have SZ := Lib.hid (szL1_any ps[k].1 ps[k].2.1 x ps[k].2.2.1 ps[k].2.2.2 wr 0 (1048576 - (ps.length : Int) - (totL ps k : Int)) (iat_up (iat_keep hx hb) hb.size) hml (by omega) (by omega))
        have HLE := Lib.hid hle
        clear hb c1 c2 c3 c4 hx
        generalize ps[k] = p at u1 u2 u4 SZ ET hml
        by_cases hb2 : ((p.2.2.1.length : Nat) : Int) ≤ 1048576 - (ps.length : Int) - (totL ps k : Int)
        · rw [if_pos hb2] at SZ
          have NL := Lib.hid (show (ps.length : Int) + (totL ps (k + 1) : Int) ≤ 1048576 by rw [ET.out]; omega)
          have NE := Lib.hid (show 1048576 - (ps.length : Int) - (totL ps k : Int) - ((p.2.2.1.length : Nat) : Int) = 1048576 - (ps.length : Int) - (totL ps (k + 1) : Int) by rw [ET.out]; omega)
          rw [NE.out] at SZ
          have dn : decide (1048576 - (ps.length : Int) - (totL ps (k + 1) : Int) < 0) = false := by have := NL.out; simp; omega
          clear hle hb2 hml
          go_wp2_with fail
          refine SZ.out.mono ?_
          rintro e w' ⟨rfl, hb2⟩
          have HB2 := Lib.hid (HB.out.trans (hb2.mono HB.out.size))
          clear hb2
          go_wp2
          go_roundw
          case rel => exact ⟨k + 1, by omega, by go_num, NL.out, rfl, HB2.out⟩
          case measure => simp [intOf]; omega
        · rw [if_neg hb2] at SZ
          have RR := Lib.hid (show R = -1 by
            rw [← hR.out, if_neg]
            simp [fitL]
            have := ET.out; have := LE.out
            omega)
          obtain rfl := RR.out
          clear hle hb2 hml
          go_wp2_with fail
          refine SZ.out.mono ?_
          rintro e w' ⟨rfl, hb2⟩
          have HB2 := Lib.hid (HB.out.trans (hb2.mono HB.out.size))
          clear hb2
          go_wp2
          go_ret
          exact ⟨rfl, HB2.out⟩
      · obtain rfl : k = ps.length := by omega
        have RR := Lib.hid (show 1048576 - (ps.length : Int) - (totL ps ps.length : Int) = R by
          rw [← hR.out, if_pos]
          simp [fitL]
          omega)
        clear hle hb
        go_wp2
        go_ret
        exact ⟨retIL RR.out, HB.out⟩
end Go.Proofs.Ytmfjpmimkpldjaa.ltab
