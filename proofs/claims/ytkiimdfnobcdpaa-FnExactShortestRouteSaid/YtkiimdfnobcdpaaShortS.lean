/- The model's walk through all orders. -/
import Derived.Test.YtkiimdfnobcdpaaShortI
import Derived.Deep.AppendLies
namespace Go.Proofs.Ytkiimdfnobcdpaa.sines
open Go.ChangeShapes Go.WideShapes Go.ChangeAt Go.RowKit Go.Proofs.Ytkiimdfnobcdpaa.spots Go.Proofs.Ytkiimdfnobcdpaa.irows Go.Proofs.Ytkiimdfnobcdpaa.pairs Go.Proofs.Ytkiimdfnobcdpaa.trows
theorem nz_mem {os : List Nat} {i : Nat} : (i : Int) ∈ nz os ↔ i ∈ os := by
  simp only [nz, List.mem_map]
  constructor
  · rintro ⟨x, h1, h2⟩
    obtain rfl : x = i := by omega
    exact h1
  · intro h
    exact ⟨i, h, rfl⟩

set_option maxRecDepth 100000 in
set_option maxHeartbeats 1000000 in
theorem l00Has_any (v : Value) (B : Nat) (zs : List Int) (n : Int) (w : World) (h : IRow w B v zs) (hl : zs.length ≤ 1048576) :
    Calls Try.prog 62 #[v, .int .i64 n] w fun e w' => e = .returned (.bool (decide (n ∈ zs))) ∧ w = w' := by
  obtain ⟨⟨a, c, rfl⟩, _⟩ := irow_shape h
  have HR := Lib.hid (fun k hk => irow_at h k hk)
  have hl2 : (zs.length : Int) ≤ 1048576 := by omega
  clear h
  go_enter Try.func62, Try.ntmps62
  go_wp2
  go_loopw [5] (fun i wr => ∃ k : Nat, k ≤ zs.length ∧ i = .int .i64 (k : Int) ∧ (∀ j, (hj : j < zs.length) → j < k → zs[j] ≠ n) ∧ w = wr) (fun i _ => zs.length - (intOf i).toNat)
  case atStart => exact ⟨0, Nat.zero_le _, rfl, fun j _ h => by omega, rfl⟩
  case round =>
    obtain ⟨k, hk, rfl, hno, rfl⟩ := hrel
    have HN := Lib.hid hno
    clear hno
    by_cases hlt : k < zs.length
    · obtain ⟨g, rfl, _, ck⟩ := HR.out k hlt
      have k0 : 0 ≤ (k : Int) := by omega
      have k1 : (k : Int) < (zs.length : Int) := by omega
      have ME := Lib.hid (show zs[k] = n → n ∈ zs from fun e => e ▸ List.getElem_mem _)
      have NX := Lib.hid (show zs[k] ≠ n → ∀ j, (hj : j < zs.length) → j < k + 1 → zs[j] ≠ n from fun h j hj hjk => by
        by_cases e : j = k
        · subst e; exact h
        · exact HN.out j hj (by omega))
      generalize zs[k] = z at ck ME NX
      by_cases he : z = n
      · have e1 : (z == n) = true := by simpa using he
        have MM := Lib.hid (ME.out he)
        clear he
        go_wp2
        go_ret
        exact ⟨ret_bool (decide_eq_true MM.out).symm, rfl⟩
      · have e1 : (z == n) = false := by simpa using he
        have NN := Lib.hid (NX.out he)
        clear he
        go_wp2
        go_roundw
        case rel => exact ⟨k + 1, by omega, by go_num, NN.out, by first | rfl | trivial⟩
        case measure => simp [intOf]; omega
    · obtain rfl : k = zs.length := by omega
      go_wp2
      go_ret
      exact ⟨ret_bool (decide_eq_false fun e => by
        obtain ⟨j, hj, e2⟩ := List.mem_iff_getElem.1 e
        exact HN.out j hj hj e2).symm, rfl⟩

set_option maxRecDepth 100000 in
set_option maxHeartbeats 1000000 in
theorem l00Own_any (v : Value) (B : Nat) (zs : List Int) (w : World) (h : IRow w B v zs) (h0 : 0 < zs.length) (hl : zs.length ≤ 100000) :
    Calls Try.prog 63 #[v] w fun e w' => ∃ u, e = .returned u ∧ IRow w' w.heap.size u zs ∧ Below w.heap.size w w' := by
  obtain ⟨i0, hi, hz0, hz1, hz2⟩ := info_parts info_int
  obtain ⟨a, c, rfl, hc⟩ := irow_at' h
  obtain ⟨g, rfl, _, hg, _⟩ := hc 0 h0
  have NEWS := Lib.hid (show ∀ j u, (ints zs)[j]? = some u → (w.alloc (.cells #[] 2)).cell? ((⟨g, 0, none⟩ : Addr).add j) = some u from fun j u hj => by
    obtain ⟨hj1, hj2⟩ := List.getElem?_eq_some_iff.1 hj
    have hj3 : j < zs.length := by rwa [ints_len] at hj1
    obtain ⟨g2, e, _, g3, cc⟩ := hc j hj3
    simp at e
    subst e
    rw [add_plain', Nat.zero_add, World.cell?_alloc_past _ _ _ g3, cc, ← hj2]
    simp [ints])
  have m1 : 0 + zs.length ≤ maxLen := by unfold maxLen; omega
  have m2 : (0 + zs.length) * 8 ≤ 140737488355328 := by omega
  clear hc h
  go_enter Try.func63, Try.ntmps63
  go_wp2_with (at_builtin; refine wpList_append_own _ rfl _ _ 29 rfl (w.heap.size) 2 i0 (.int .i64 0) 1 8 Try.underlying29 hi hz0 hz1 hz2 rfl (by decide) _ 0 _ rfl (irow_made w w.heap.size (Nat.le_refl _)) ⟨g, 0, none⟩ zs.length c (ints zs) rfl (by simp [ints]) NEWS.out (ints_one zs) m1 m2 (by simp) ?_; intro v1 w1 hown1 hg1 _)
  go_ret
  exact ⟨_, rfl, by have h2 := hown1; rw [show ints [] ++ ints zs = ints zs from rfl, Nat.zero_add] at h2; exact h2, ((Below.refl _ _).alloc (Nat.le_refl _) _).grown hg1 (by simp) (fun k hk => (World.ownsRow.lt (irow_made w w.heap.size (Nat.le_refl _)) k hk).1)⟩

/-- The walk's own block: its table, the best order, and its length. -/
def WSt (w : World) (g : Nat) (tb vb : Value) (bs : List Nat) (ls : Int) : Prop := w.heap[g]? = some (.cells #[tb, vb, .int .i64 ls] 73 (0, 0)) ∧ IRow w (g + 1) vb (nz bs)
theorem wst_cells {w : World} {g : Nat} {tb vb : Value} {bs : List Nat} {ls : Int} (h : WSt w g tb vb bs ls) : g < w.heap.size ∧ w.cell? ⟨g, 0, none⟩ = some tb ∧ w.cell? ⟨g, 1, none⟩ = some vb ∧ w.cell? ⟨g, 2, none⟩ = some (.int .i64 ls) ∧ (∀ j, w.frozen? ⟨g, j, none⟩ = false) :=
  ⟨(Array.getElem?_eq_some_iff.1 h.1).1, by rw [cell_of_row w g 0 _ 73 (0, 0) h.1]; rfl, by rw [cell_of_row w g 1 _ 73 (0, 0) h.1]; rfl, by rw [cell_of_row w g 2 _ 73 (0, 0) h.1]; rfl, fun j => frozen_of_row w g j _ 73 h.1⟩
theorem wst_keep {w w' : World} {g : Nat} {tb vb : Value} {bs : List Nat} {ls : Int} (h : WSt w g tb vb bs ls) (hb : Below w.heap.size w w') : WSt w' g tb vb bs ls :=
  ⟨by rw [hb.block g (Array.getElem?_eq_some_iff.1 h.1).1]; exact h.1, irow_keep h.2 hb⟩
theorem wst_store {w : World} {g : Nat} {tb vb vo : Value} {bs os : List Nat} {ls len : Int} (h : WSt w g tb vb bs ls) (ho : IRow w (g + 1) vo (nz os)) : WSt ((w.setCell ⟨g, 1, none⟩ vo).setCell ⟨g, 2, none⟩ (.int .i64 len)) g tb vo os len ∧ w.grownBy ((w.setCell ⟨g, 1, none⟩ vo).setCell ⟨g, 2, none⟩ (.int .i64 len)) (some g) := by
  have e1 := heap_setCell_same w g 1 _ 73 vo h.1
  have e2 := heap_setCell_same (w.setCell ⟨g, 1, none⟩ vo) g 2 _ 73 (.int .i64 len) e1
  have hg : w.grownBy ((w.setCell ⟨g, 1, none⟩ vo).setCell ⟨g, 2, none⟩ (.int .i64 len)) (some g) := Lib.grownBy_setB (Lib.grownBy_setB (World.grownBy.refl w (some g)) _ _) _ _
  exact ⟨⟨e2, World.ownsRow.kept ho hg (by
    cases hb : vo.ownBlock with
    | none => exact .inl rfl
    | some b => exact .inr fun e => by have := (World.ownsRow.lt ho b hb).1; cases e; omega)⟩, hg⟩
theorem row_off {w w' : World} {g : Nat} {v : Value} {zs : List Int} (h : IRow w (g + 1) v zs) (hg : w.grownBy w' (some g)) : IRow w' (g + 1) v zs := World.ownsRow.kept h hg (by
    cases hb : v.ownBlock with
    | none => exact .inl rfl
    | some b => exact .inr fun e => by have := (World.ownsRow.lt h b hb).1; cases e; omega)
theorem dat_off {w w' : World} {g : Nat} {v : Value} {ps : List (Int × Int)} (h : DAt w g v ps) (hg : w.grownBy w' (some g)) (hs : g ≤ w.heap.size) : DAt w' g v ps := by
  refine dat_keep h (Below.grown (Below.refl g w) hg hs (fun k hk => by cases hk; exact Nat.le_refl _))

end Go.Proofs.Ytkiimdfnobcdpaa.sines
