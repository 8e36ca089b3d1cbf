/- Paintings as an iterator; whether colours are enough; the fewest colours: contracts of the program. -/
import Derived.Test.YtemhmejjmhbfdaaDoorColsP7
import Derived.Test.YtemhmejjmhbfdaaDoorColsF
namespace Go.Proofs.YtemhmejjmhbfdaaDoor.sines
open Go.ChangeShapes Go.WideShapes Go.ChangeAt Go.RowKit Go.Shelf Go.Proofs.YtemhmejjmhbfdaaDoor.spots Go.Proofs.YtemhmejjmhbfdaaDoor.irows Go.Proofs.YtemhmejjmhbfdaaDoor.pairsBorder
attribute [local go_sem] Oper.semAt_some
set_option linter.unusedSimpArgs false
set_option linter.unusedVariables false
/-- The neighbours of all lands, in a block. -/
def MB (w : World) (v : Value) (n : Nat) (M : Nat → Nat) : Prop := ∃ gm, v = .slice (some ⟨gm, 0, none⟩) n n ∧ ∃ cs t, w.heap[gm]? = some (.cells cs t (0, 0)) ∧ ∀ k, k < n → cs[k]? = some (.int .u64 (M k : Int))
theorem mown_mb {w : World} {B : Nat} {v : Value} {n : Nat} {M : Nat → Nat} (h : MOwn w B v n M) : MB w v n M := by
  obtain ⟨gm, h1, _, h2⟩ := h
  exact ⟨gm, h1, h2⟩
theorem mb_keep {w w' : World} {v : Value} {n : Nat} {M : Nat → Nat} (h : MB w v n M) (hb : Below w.heap.size w w') : MB w' v n M := by
  obtain ⟨gm, rfl, cs, t, h2, h3⟩ := h
  exact ⟨gm, rfl, cs, t, by rw [hb.block _ (Array.getElem?_eq_some_iff.1 h2).1]; exact h2, h3⟩
theorem mb_mbl {w w' : World} {v : Value} {n g : Nat} {M : Nat → Nat} (h : MB w v n M) (hb : Below w.heap.size w w') (hg : w.heap.size ≤ g) : MBl w' g v n M := by
  obtain ⟨gm, rfl, cs, t, h2, h3⟩ := h
  have hl := (Array.getElem?_eq_some_iff.1 h2).1
  exact ⟨gm, rfl, by omega, cs, t, by rw [hb.block _ hl]; exact h2, h3⟩
/-- The iterator's boxes. -/
def PBox (w : World) (b : Nat) (mv : Value) (cs : List Int) (E m : Nat) : Prop :=
  b + 4 < w.heap.size ∧ w.cell? ⟨b, 0, none⟩ = some mv ∧ w.heap[b + 1]? = some (.cells (rowP (usedL cs) (setsL cs)) 70 (0, 0)) ∧ w.cell? ⟨b + 2, 0, none⟩ = some (.int .i64 (cs.length : Int)) ∧ w.cell? ⟨b + 3, 0, none⟩ = some (.int .i64 (E : Int)) ∧ w.cell? ⟨b + 4, 0, none⟩ = some (.int .i64 (m : Int))
theorem pbox_keep {w w' : World} {b : Nat} {mv : Value} {cs : List Int} {E m : Nat} (h : PBox w b mv cs E m) (hb : Below w.heap.size w w') : PBox w' b mv cs E m := by
  obtain ⟨h0, h1, h2, h3, h4, h5⟩ := h
  exact ⟨Nat.lt_of_lt_of_le h0 hb.size, (hb.cell (p := ⟨b, 0, none⟩) (by simp; omega)).trans h1, (hb.block _ (by omega)).trans h2, (hb.cell (p := ⟨b + 2, 0, none⟩) (by simp; omega)).trans h3, (hb.cell (p := ⟨b + 3, 0, none⟩) (by simp; omega)).trans h4, (hb.cell (p := ⟨b + 4, 0, none⟩) (by simp; omega)).trans h5⟩
/-- What the iterator's value is. -/
def itP (b : Nat) : Array Value := #[.pointer (some ⟨b, 0, none⟩), .pointer (some ⟨b + 1, 0, none⟩), .pointer (some ⟨b + 2, 0, none⟩), .pointer (some ⟨b + 3, 0, none⟩), .pointer (some ⟨b + 4, 0, none⟩)]
set_option maxRecDepth 100000 in
set_option maxHeartbeats 4000000 in
theorem paints1_in (l n b gg E L m r : Nat) (mv : Value) (cs : List Int) (ps : List (Int × Int)) (J Jx : List (List Int) → World → Prop) (habs : ∀ s W W', J s W → Below W.heap.size W W' → J s W') (ho : okPs ps) (hE : E ≤ L) (hL : L ≤ 10) (hm : m ≤ 10) (hr : cs.length + r = E) (h0 : ∀ d ∈ cs, 0 ≤ d) (hu : usedL cs ≤ m)
    (hY : ∀ pre x W, usedL x ≤ m → J pre W → pre.length < (canon ps m r cs).length → YieldAt Fence.wide (n - 1) Tryd.prog l #[encL x] W fun e W' =>
      (e = .returned (.bool true) ∧ J (pre ++ [x]) W' ∧ KpX gg W W') ∨ (e = .returned (.bool false) ∧ Jx (pre ++ [x]) W'))
    (W : World) (hP : PBox W b mv cs E m) (hM : MBl W gg mv L (maskN ps)) (hg : gg < W.heap.size) (hJ : J [] W) :
    CallsIn Fence.wide n Tryd.prog 32 (#[.func (.yield l) #[] #[]] ++ itP b) W fun e W' => (∃ v, e = .returned v) ∧
      ((∃ ys, ys = canon ps m r cs ∧ J ys W') ∨ (∃ pre, pre <+: canon ps m r cs ∧ Jx pre W')) := by
  have hdd : ∀ k : Nat, (Fence.wide.depth.isSome = true → 1 ≤ k) := fun k h => by cases h
  have HP := Lib.hid (paint_in l gg _ E L m mv ps J Jx habs ho hE hL hm (fun mm pre x W hx hj hl => YieldAt.anyDepth9 mm (hY pre x W hx hj hl)) r (n - 1) cs [] W hr h0 hu hM hg hJ (by simp))
  obtain ⟨h1, c0, hb1, c2, c3, c4⟩ := hP
  obtain ⟨gm, rfl, _⟩ := hM
  clear hY habs hJ
  unfold encL encP at HP
  unfold rowP at HP hb1
  unfold itP
  have k0 := cell_heap9 hb1 0
  have k1 := cell_heap9 hb1 1
  have k2 := cell_heap9 hb1 2
  have k3 := cell_heap9 hb1 3
  have k4 := cell_heap9 hb1 4
  have k5 := cell_heap9 hb1 5
  have k6 := cell_heap9 hb1 6
  have k7 := cell_heap9 hb1 7
  have k8 := cell_heap9 hb1 8
  have k9 := cell_heap9 hb1 9
  have k10 := cell_heap9 hb1 10
  clear hb1
  refine callsIn_of_wp Tryd.func32 rfl trivial ?_ rfl
  simp only [Tryd.ntmps32, List.size_toArray, List.length_cons, List.length_nil, Nat.reduceAdd, Nat.reduceSub, Array.replicate_succ, Array.replicate_zero, List.push_toArray, List.append_toArray, List.nil_append, List.cons_append]
  gi_wp2_with fail
  refine ⟨trivial, hdd _, HP.out.mono ?_⟩
  rintro e W1 (⟨rfl, hj, _⟩ | ⟨rfl, q, hq, hx⟩)
  · gi_wp2
    go_end0
    exact ⟨⟨_, rfl⟩, .inl ⟨_, rfl, by simpa using hj⟩⟩
  · gi_wp2
    go_end0
    exact ⟨⟨_, rfl⟩, .inr ⟨q, hq, by simpa using hx⟩⟩
theorem paints_stops (n b gg E L m r : Nat) (mv : Value) (cs : List Int) (ps : List (Int × Int)) (ho : okPs ps) (hE : E ≤ L) (hL : L ≤ 10) (hm : m ≤ 10) (hr : cs.length + r = E) (h0 : ∀ d ∈ cs, 0 ≤ d) (hu : usedL cs ≤ m) (w : World) (hP : PBox w b mv cs E m) (hM : MBl w gg mv L (maskN ps)) (hg : gg < w.heap.size) :
    SeqStopsK Fence.wide n Tryd.prog 32 (itP b) (fun x => #[encL x]) (KpX gg) (fun ys => ys = canon ps m r cs) (fun pre => pre <+: canon ps m r cs) (canon ps m r cs).length w := fun l J Jx W hW hJ _ hY hj =>
  paints1_in l n b gg E L m r mv cs ps J Jx (fun s A C hs hb => hJ s A C none hs (grown_of hb) (fun r e => by cases e)) ho hE hL hm hr h0 hu (fun pre x W1 _ hj hl => hY pre x W1 hj hl) W (pbox_keep hP hW) (mbl_keep hM (kpX_of hW)) (Nat.lt_of_lt_of_le hg hW.size) hj
/-- .. of which it is known that they have no more colours. -/
theorem paints_stopsU (n b gg E L m r : Nat) (mv : Value) (cs : List Int) (ps : List (Int × Int)) (ho : okPs ps) (hE : E ≤ L) (hL : L ≤ 10) (hm : m ≤ 10) (hr : cs.length + r = E) (h0 : ∀ d ∈ cs, 0 ≤ d) (hu : usedL cs ≤ m) (w : World) (hP : PBox w b mv cs E m) (hM : MBl w gg mv L (maskN ps)) (hg : gg < w.heap.size) :
    SeqStopsK (α := { x : List Int // usedL x ≤ m }) Fence.wide n Tryd.prog 32 (itP b) (fun x => #[encL x.1]) (KpX gg) (fun ys => ys.map Subtype.val = canon ps m r cs) (fun pre => pre.map Subtype.val <+: canon ps m r cs) (canon ps m r cs).length w := fun l J Jx W hW hJ _ hY hj => by
  refine (paints1_in l n b gg E L m r mv cs ps (fun s W => ∃ s' : List { x : List Int // usedL x ≤ m }, s'.map Subtype.val = s ∧ J s' W) (fun s W => ∃ s' : List { x : List Int // usedL x ≤ m }, s'.map Subtype.val = s ∧ Jx s' W) (fun s A C hs hb => ?_) ho hE hL hm hr h0 hu (fun pre x W1 hx hj hl => ?_) W (pbox_keep hP hW) (mbl_keep hM (kpX_of hW)) (Nat.lt_of_lt_of_le hg hW.size) ⟨[], rfl, hj⟩).mono ?_
  · obtain ⟨s', e, h⟩ := hs
    exact ⟨s', e, hJ s' A C none h (grown_of hb) (fun r e => by cases e)⟩
  · obtain ⟨p', e, h⟩ := hj
    refine YieldAt.mono (hY p' ⟨x, hx⟩ W1 h (by rw [← e, List.length_map] at hl; exact hl)) fun e' W2 h2 => ?_
    rcases h2 with ⟨h3, h4, h5⟩ | ⟨h3, h4⟩
    · exact .inl ⟨h3, ⟨_, by rw [List.map_append, e]; rfl, h4⟩, h5⟩
    · exact .inr ⟨h3, ⟨_, by rw [List.map_append, e]; rfl, h4⟩⟩
  · rintro e W' ⟨h1, h2⟩
    refine ⟨h1, ?_⟩
    rcases h2 with ⟨ys, rfl, s', e1, h3⟩ | ⟨pre, hp, s', e1, h3⟩
    · exact .inl ⟨s', e1, h3⟩
    · exact .inr ⟨s', by show List.map Subtype.val s' <+: _; rw [e1]; exact hp, h3⟩
theorem alloc5 (w : World) (o0 o1 o2 o3 o4 : Obj) : (((((w.alloc o0).alloc o1).alloc o2).alloc o3).alloc o4).heap.size = w.heap.size + 5 ∧ (((((w.alloc o0).alloc o1).alloc o2).alloc o3).alloc o4).heap[w.heap.size]? = some o0 ∧ (((((w.alloc o0).alloc o1).alloc o2).alloc o3).alloc o4).heap[w.heap.size + 1]? = some o1 ∧ (((((w.alloc o0).alloc o1).alloc o2).alloc o3).alloc o4).heap[w.heap.size + 2]? = some o2 ∧ (((((w.alloc o0).alloc o1).alloc o2).alloc o3).alloc o4).heap[w.heap.size + 3]? = some o3 ∧ (((((w.alloc o0).alloc o1).alloc o2).alloc o3).alloc o4).heap[w.heap.size + 4]? = some o4 := by
  have e : (((((w.alloc o0).alloc o1).alloc o2).alloc o3).alloc o4).heap = ((((w.heap.push o0).push o1).push o2).push o3).push o4 := rfl
  rw [e]
  refine ⟨by simp, ?_, ?_, ?_, ?_, ?_⟩
  · rw [Array.getElem?_push, if_neg (by simp only [Array.size_push]; omega)]; rw [Array.getElem?_push, if_neg (by simp only [Array.size_push]; omega)]; rw [Array.getElem?_push, if_neg (by simp only [Array.size_push]; omega)]; rw [Array.getElem?_push, if_neg (by simp only [Array.size_push]; omega)]; rw [Array.getElem?_push, if_pos (by simp only [Array.size_push])]
  · rw [Array.getElem?_push, if_neg (by simp only [Array.size_push]; omega)]; rw [Array.getElem?_push, if_neg (by simp only [Array.size_push]; omega)]; rw [Array.getElem?_push, if_neg (by simp only [Array.size_push]; omega)]; rw [Array.getElem?_push, if_pos (by simp only [Array.size_push])]
  · rw [Array.getElem?_push, if_neg (by simp only [Array.size_push]; omega)]; rw [Array.getElem?_push, if_neg (by simp only [Array.size_push]; omega)]; rw [Array.getElem?_push, if_pos (by simp only [Array.size_push])]
  · rw [Array.getElem?_push, if_neg (by simp only [Array.size_push]; omega)]; rw [Array.getElem?_push, if_pos (by simp only [Array.size_push])]
  · rw [Array.getElem?_push, if_pos (by simp only [Array.size_push])]
set_option maxRecDepth 100000 in
set_option maxHeartbeats 2000000 in
theorem paintingsFrom_any (gm L : Nat) (cs : List Int) (E m : Nat) (w : World) :
    Calls Tryd.prog 29 #[.slice (some ⟨gm, 0, none⟩) L L, encL cs, .int .i64 (cs.length : Int), .int .i64 (E : Int), .int .i64 (m : Int)] w fun e w' => e = .returned (.func (.func 32) #[] (itP w.heap.size)) ∧ PBox w' w.heap.size (.slice (some ⟨gm, 0, none⟩) L L) cs E m ∧ Below w.heap.size w w' := by
  obtain ⟨a0, a1, a2, a3, a4, a5⟩ := alloc5 w (.cells #[.slice (some ⟨gm, 0, none⟩) L L] 41) (.cells (rowP (usedL cs) (setsL cs)) 70) (.cells #[.int .i64 (cs.length : Int)] 3) (.cells #[.int .i64 (E : Int)] 3) (.cells #[.int .i64 (m : Int)] 3)
  have PB := Lib.hid (show PBox _ w.heap.size (.slice (some ⟨gm, 0, none⟩) L L) cs E m from ⟨by rw [a0]; omega, (cell_heap9 a1 0).trans rfl, a2, (cell_heap9 a3 0).trans rfl, (cell_heap9 a4 0).trans rfl, (cell_heap9 a5 0).trans rfl⟩)
  have BB := Lib.hid (show Below w.heap.size w (((((w.alloc (.cells #[.slice (some ⟨gm, 0, none⟩) L L] 41)).alloc (.cells (rowP (usedL cs) (setsL cs)) 70)).alloc (.cells #[.int .i64 (cs.length : Int)] 3)).alloc (.cells #[.int .i64 (E : Int)] 3)).alloc (.cells #[.int .i64 (m : Int)] 3)) from (((((Below.refl _ _).alloc (Nat.le_refl _) _).alloc (by simp) _).alloc (by simp; omega) _).alloc (by simp; omega) _).alloc (by simp; omega) _)
  clear a0 a1 a2 a3 a4 a5
  unfold encL encP itP
  unfold rowP at PB BB ⊢
  go_enter Tryd.func29, Tryd.ntmps29
  go_wp2
  go_ret
  exact ⟨rfl, PB.out, BB.out⟩
theorem encL_nil : encL [] = .agg #[.int .i64 0, .int .u64 0, .int .u64 0, .int .u64 0, .int .u64 0, .int .u64 0, .int .u64 0, .int .u64 0, .int .u64 0, .int .u64 0, .int .u64 0] := rfl
set_option maxHeartbeats 1000000 in
theorem paintings_any (gm L E m : Nat) (w : World) :
    Calls Tryd.prog 25 #[.slice (some ⟨gm, 0, none⟩) L L, .int .i64 (E : Int), .int .i64 (m : Int)] w fun e w' => e = .returned (.func (.func 32) #[] (itP w.heap.size)) ∧ PBox w' w.heap.size (.slice (some ⟨gm, 0, none⟩) L L) [] E m ∧ Below w.heap.size w w' := by
  have HP := Lib.hid (paintingsFrom_any gm L [] E m w)
  rw [encL_nil] at HP
  go_enter Tryd.func25, Tryd.ntmps25
  go_wp2_with fail
  refine HP.out.mono ?_
  rintro e w1 ⟨rfl, hp, hb⟩
  have HPB := Lib.hid hp
  have HB := Lib.hid hb
  clear hp hb
  go_wp2
  go_ret
  exact ⟨rfl, HPB.out, HB.out⟩
end Go.Proofs.YtemhmejjmhbfdaaDoor.sines
