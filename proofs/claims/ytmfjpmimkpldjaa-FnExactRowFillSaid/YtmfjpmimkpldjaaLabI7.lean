/- The first label that overlaps with one in front of it: contract of the program. -/
import Derived.Test.YtmfjpmimkpldjaaLabI4
import Derived.Test.YtmfjpmimkpldjaaLabI5
import Derived.Test.YtmfjpmimkpldjaaLabI6
namespace Go.Proofs.Ytmfjpmimkpldjaa.ltab
open Go.ChangeShapes Go.WideShapes Go.ChangeAt Go.RowKit Go.Shelf Go.Proofs.Ytmfjpmimkpldjaa.irows Go.Proofs.Ytmfjpmimkpldjaa.sines
attribute [local go_sem] Oper.semAt_some
set_option linter.unusedSimpArgs false
set_option linter.unusedVariables false

theorem meetL_symm (p q : Lb) (x y : Int) : meetL p q x y = meetL q p y x := by
  unfold meetL
  rw [show decide (p.1 = q.1) = decide (q.1 = p.1) by rw [Bool.eq_iff_iff]; simp [eq_comm], Bool.and_comm (decide (x < y + q.2.1))]
def spl (ps : List Lb) (zs : List Int) (i : Nat) : Sp := spanL (lbAt ps i) (sAt ps zs i)
theorem room_free (ps : List Lb) (zs : List Int) (k : Nat) : roomB ((onL zs k).map (spl ps zs)) (spl ps zs k) = freeK ps zs k (sAt ps zs k) := by
  unfold roomB freeK onL
  rw [List.all_map, List.all_filter]
  congr 1
  funext i
  simp only [Function.comp]
  rw [show meetS (spl ps zs k) (spl ps zs i) = meetL (lbAt ps i) (lbAt ps k) (sAt ps zs i) (sAt ps zs k) from meetL_symm _ _ _ _]
  cases onB zs i <;> cases meetL (lbAt ps i) (lbAt ps k) (sAt ps zs i) (sAt ps zs k) <;> rfl
def okSeq (ps : List Lb) (zs : List Int) (l : List Nat) : Prop := ∀ p x, p ++ [x] <+: l → roomB (p.map (spl ps zs)) (spl ps zs x) = true
theorem okSeq_snoc {ps : List Lb} {zs : List Int} {l : List Nat} {x : Nat} (h : okSeq ps zs l) (hx : roomB (l.map (spl ps zs)) (spl ps zs x) = true) : okSeq ps zs (l ++ [x]) := fun p y hp => by
  rcases List.prefix_concat_iff.1 hp with e | e
  · obtain ⟨rfl, e2⟩ := List.append_inj' e rfl
    cases e2
    exact hx
  · exact h p y e
theorem onL_split {zs : List Int} {p : List Nat} {x : Nat} : ∀ n, p ++ [x] <+: onL zs n → p = onL zs x ∧ x < n ∧ onB zs x = true
  | 0, h => by
    have := h.length_le
    simp [onL] at this
  | n + 1, h => by
    cases hb : onB zs n with
    | false =>
      rw [onL_no hb] at h
      obtain ⟨h1, h2, h3⟩ := onL_split n h
      exact ⟨h1, by omega, h3⟩
    | true =>
      rw [onL_yes hb] at h
      rcases List.prefix_concat_iff.1 h with e | e
      · obtain ⟨rfl, e2⟩ := List.append_inj' e rfl
        cases e2
        exact ⟨rfl, by omega, hb⟩
      · obtain ⟨h1, h2, h3⟩ := onL_split n e
        exact ⟨h1, by omega, h3⟩
theorem good_front {ps : List Lb} {zs : List Int} {n : Nat} (h : okSeq ps zs (onL zs n)) : ∀ j, j < n → badK ps zs j = false := fun j hj => by
  unfold badK
  cases hb : onB zs j with
  | false => rfl
  | true =>
    have h1 := h (onL zs j) j (by rw [← onL_yes hb]; exact onL_prefix (by omega))
    rw [room_free] at h1
    rw [h1]; rfl
theorem fault_done {ps : List Lb} {zs : List Int} (h : okSeq ps zs (onL zs ps.length)) : faultK ps zs = -1 := faultK_none (good_front h)
theorem fault_stop {ps : List Lb} {zs : List Int} {p : List Nat} {x : Nat} (hp : p ++ [x] <+: onL zs ps.length) (h : okSeq ps zs p) (hr : roomB (p.map (spl ps zs)) (spl ps zs x) = false) : faultK ps zs = (x : Int) := by
  obtain ⟨rfl, hx, hb⟩ := onL_split _ hp
  rw [room_free] at hr
  exact faultK_at hx (by unfold badK; rw [hb, hr]; rfl) (good_front h)
def flatS (cs : List Sp) : List Int := cs.flatMap fun s => [s.1, s.2.1, s.2.2]
theorem flatS_at (cs : List Sp) : ∀ k, (h : k < cs.length) → (flatS cs)[k * 3]? = some cs[k].1 ∧ (flatS cs)[k * 3 + 1]? = some cs[k].2.1 ∧ (flatS cs)[k * 3 + 2]? = some cs[k].2.2 := by
  induction cs with
  | nil => intro k h; simp at h
  | cons p cs ih =>
    intro k h
    match k with
    | 0 => exact ⟨rfl, rfl, rfl⟩
    | k + 1 =>
      obtain ⟨h1, h2, h3⟩ := ih k (by simpa using h)
      have e : flatS (p :: cs) = p.1 :: p.2.1 :: p.2.2 :: flatS cs := rfl
      rw [e, show (k + 1) * 3 = k * 3 + 1 + 1 + 1 by omega]
      exact ⟨by simpa using h1, by simpa using h2, by simpa using h3⟩
theorem flatS_snoc (cs : List Sp) (s : Sp) : ints (flatS (cs ++ [s])) = ints (flatS cs) ++ [.int .i64 s.1, .int .i64 s.2.1, .int .i64 s.2.2] := by simp [flatS, ints]
theorem info_span : (Try.prog.info? 90).map (fun i => (i.zero, i.size, i.bytes)) = some (some (.agg #[.int .i64 0, .int .i64 0, .int .i64 0]), 3, 24) := by kernel_rfl
theorem spat_row {w : World} {B : Nat} {v : Value} {cs : List Sp} (h : w.ownsRow B 90 3 v cs.length (ints (flatS cs))) : SpAt w w.heap.size v cs := by
  have h0 := h
  rcases h.2 with ⟨hv, h1⟩ | ⟨g, cap, cur, hv, hB, hc, _⟩
  · exact ⟨none, 0, by rw [hv, h1], fun k hk => by omega⟩
  · subst hv
    refine ⟨_, _, rfl, fun k hk => ⟨g, 0, rfl, (Array.getElem?_eq_some_iff.1 hc).1, ?_, ?_, ?_⟩⟩
    · rw [World.ownsRow.cellAt h0 (0 + k * 3) (by omega)]; simp [ints, (flatS_at cs k hk).1]
    · rw [World.ownsRow.cellAt h0 (0 + k * 3 + 1) (by omega)]; simp [ints, (flatS_at cs k hk).2.1]
    · rw [World.ownsRow.cellAt h0 (0 + k * 3 + 2) (by omega)]; simp [ints, (flatS_at cs k hk).2.2]
theorem new3 (w : World) (a b c : Int) : ∀ j u, ([.int .i64 a, .int .i64 b, .int .i64 c] : List Value)[j]? = some u → (w.alloc (.cells #[.int .i64 a, .int .i64 b, .int .i64 c] 90)).cell? ((⟨w.heap.size, 0, none⟩ : Addr).add j) = some u := by
  intro j u hj
  match j, hj with
  | 0, hj => simp at hj; subst hj; simp [Addr.add]
  | 1, hj => simp at hj; subst hj; simp [Addr.add]
  | 2, hj => simp at hj; subst hj; simp [Addr.add]
/-- An append behind a box, and the store: the iterator's own blocks stay. -/
theorem kpD_app {n0 B base gn k size : Nat} {W w1 : World} {tmp : Obj} {v v' : Value} {e : TypeId} {xs : List Value} (hrow : W.ownsRow base e size v k xs) (hg : (W.alloc tmp).grownBy w1 v.ownBlock) (h0 : n0 ≤ base) (h1 : B + 1 < base) (h2 : n0 ≤ gn) (h3 : gn < B) (hs : base ≤ W.heap.size) :
    KpD n0 B (B + 1) W (w1.setCell ⟨gn, 0, none⟩ v') := by
  have hsz := hg.size
  refine ⟨by simp at hsz ⊢; omega, fun i cs t fr hi hc => ?_⟩
  have hil : i < W.heap.size := (Array.getElem?_eq_some_iff.1 hc).1
  rw [heap_setCell_other w1 ⟨gn, 0, none⟩ i v' (by show i ≠ gn; omega), hg.block i (by simp; omega) (fun e => by have := (World.ownsRow.lt hrow i e.symm).1; omega), ← hc]
  exact Below.heap_alloc _ _ _ hil
theorem cells_keptL {A C : World} {row : Option Nat} {B b0 : Nat} {cs : Array Value} {t : TypeId} (h : A.heap[B]? = some (.cells cs t (0, 0))) (hg : A.grownBy C row) (hr : ∀ r, row = some r → b0 ≤ r ∧ ∃ o : Obj, A.heap[r]? = some o ∧ o.isCells = false) : C.heap[B]? = some (.cells cs t (0, 0)) := by
  refine (hg.block B (Array.getElem?_eq_some_iff.1 h).1 (fun e => ?_)).trans h
  obtain ⟨_, o, h1, h2⟩ := hr B e.symm
  rw [h] at h1; cases h1; simp [Obj.isCells] at h2
theorem cell_heapL {W : World} {n : Nat} {cs : Array Value} {T : TypeId} (h : W.heap[n]? = some (.cells cs T (0, 0))) (i : Nat) : W.cell? ⟨n, i, none⟩ = cs[i]? := by simp [World.cell?, h]
theorem row_keepL {w w' : World} {B e s n : Nat} {v : Value} {xs : List Value} (h : w.ownsRow B e s v n xs) (hb : Below w.heap.size w w') : w'.ownsRow B e s v n xs := by
  refine ⟨h.1, ?_⟩
  rcases h.2 with hn | ⟨g, cap, cur, hv, hg1, hg2, hg3⟩
  · exact .inl hn
  · exact .inr ⟨g, cap, cur, hv, hg1, by rw [hb.block g (Array.getElem?_eq_some_iff.1 hg2).1]; exact hg2, hg3⟩
theorem row_upL {w : World} {B B' e s n : Nat} {v : Value} {xs : List Value} (h : w.ownsRow B e s v n xs) (hB : B' ≤ B) : w.ownsRow B' e s v n xs := by
  refine ⟨h.1, ?_⟩
  rcases h.2 with hn | ⟨g, cap, cur, hv, hg1, hr⟩
  · exact .inl hn
  · exact .inr ⟨g, cap, cur, hv, Nat.le_trans hB hg1, hr⟩
set_option maxRecDepth 100000 in
set_option maxHeartbeats 4000000 in
theorem firstFault_any (v u : Value) (ps : List Lb) (zs : List Int) (w : World) (hv : LAt w w.heap.size v ps) (hu : IAt w w.heap.size u zs) (h1 : okL ps = true) (h2 : placesOk ps zs = true) :
    Calls Try.prog 76 #[v, u] w fun e w' => e = .returned (.int .i64 (faultK ps zs)) ∧ Below w.heap.size w w' := by
  obtain ⟨hp, hzl, hf⟩ := places_facts h1 h2
  obtain ⟨i0, hi, hz0, hz1, hz2⟩ := info_parts info_span
  have HF := Lib.hid hf
  have HZL := Lib.hid hzl
  have HV := Lib.hid hv
  have HU := Lib.hid hu
  obtain ⟨a, c, rfl, _⟩ := hv
  obtain ⟨au, cu, rfl, _⟩ := hu
  clear h1 h2 hzl hf
  obtain ⟨R, hR⟩ : ∃ R, Hid (faultK ps zs = R) := ⟨_, Lib.hid rfl⟩
  rw [hR.out]
  have FD := Lib.hid (fun h => (fault_done (ps := ps) (zs := zs) h).symm.trans hR.out)
  have FS := Lib.hid (fun p x hp h hr => (fault_stop (ps := ps) (zs := zs) (p := p) (x := x) hp h hr).symm.trans hR.out)
  have HRM := Lib.hid (fun v cs s W h hl => haveRoom_any v cs s W h hl)
  refine (callsIn_wide (n := 5)).1 ?_
  refine callsIn_of_wp_marks Try.func76 rfl trivial ?_ rfl
  simp only [Try.ntmps76, List.size_toArray, List.length_cons, List.length_nil, Nat.reduceAdd, Nat.reduceSub, Array.replicate_succ, Array.replicate_zero, List.push_toArray, List.append_toArray, List.nil_append, List.cons_append]
  refine wpIn_wide.2 ?_
  have bR := Lib.hid ((Boxed.new w 2 (.int .i64 0)).alloc (.cells #[.slice none 0 0] 81))
  have bC := Lib.hid (Boxed.new (w.alloc (.cells #[.int .i64 0] 2)) 81 (.slice none 0 0))
  have B2 := Lib.hid (show Below w.heap.size w ((w.alloc (.cells #[.int .i64 0] 2)).alloc (.cells #[.slice none 0 0] 81)) from ((Below.refl _ _).alloc (Nat.le_refl _) _).alloc (by simp) _)
  have sz2 : ((w.alloc (.cells #[.int .i64 0] 2)).alloc (.cells #[.slice none 0 0] 81)).heap.size = w.heap.size + 2 := by simp
  have bC' := Lib.hid (show Boxed ((w.alloc (.cells #[.int .i64 0] 2)).alloc (.cells #[.slice none 0 0] 81)) (w.heap.size + 1) 81 (.slice none 0 0) by have := bC.out; simpa using this)
  clear bC
  go_wp2_with fail
  generalize hW1 : (w.alloc (.cells #[.int .i64 0] 2)).alloc (.cells #[.slice none 0 0] 81) = W1 at *
  refine (placedSpans_any _ _ _ _ _ _ W1).mono ?_
  rintro e w4 ⟨rfl, hc1, hc2, hb4, hsz4⟩
  have b4R := Lib.hid (show Boxed w4 w.heap.size 2 (.int .i64 0) from bR.out.kept (grown_ofL hb4) (by simp))
  have b4C := Lib.hid (show Boxed w4 (w.heap.size + 1) 81 (.slice none 0 0) from bC'.out.kept (grown_ofL hb4) (by simp))
  have B4 := Lib.hid (B2.out.trans (hb4.mono B2.out.size))
  have LV := Lib.hid (lat_keep HV.out B4.out)
  have IV := Lib.hid (iat_keep HU.out B4.out)
  rw [sz2] at hsz4 hc1 hc2
  have HC1 := Lib.hid hc1
  have HC2 := Lib.hid hc2
  have HS4 := Lib.hid hsz4
  rw [sz2]
  clear hb4 hc1 hc2 bR bC' B2 hW1 sz2 hsz4
  go_wp2
  refine (wpIn_wide (n := 5)).1 ?_
  have sz := HS4.out
  refine' wpIn_rangeFunc_ownH (F := Fence.wide) (n := 5) rfl (by omega) (gf := 121) (lb := #[.pointer (some ⟨w.heap.size + 2, 0, none⟩), .pointer (some ⟨w.heap.size + 2 + 1, 0, none⟩)]) rfl trivial (enters_of Try.func121 (by kernel_rfl) rfl)
    (placed_stops (5 - 1) w.heap.size (w.heap.size + 2) (w.heap.size + 2 + 1) _ _ ps zs hp HZL.out HF.out w4 HC1.out HC2.out LV.out IV.out B4.out.size) kpD_t kpD_b (Below.refl _ _) (fun _ => rfl)
    (fun pre W => (Boxed W w.heap.size 2 (.int .i64 0) ∧ (∃ v, Boxed W (w.heap.size + 1) 81 v ∧ W.ownsRow (w.heap.size + 4) 90 3 v pre.length (ints (flatS ((pre).map fun x => spl ps zs x.1))) ∧ True) ∧ okSeq ps zs (pre.map Subtype.val)) ∧ Below w.heap.size w W)
    (fun c pre W => (c = .ret ∧ (∃ p x, pre.map Subtype.val = p ++ [x] ∧ okSeq ps zs p ∧ roomB (p.map (spl ps zs)) (spl ps zs x) = false ∧ Boxed W w.heap.size 2 (.int .i64 (x : Int)))) ∧ Below w.heap.size w W)
    (OwnFrom.and (Own.from (fun s X Y row hs hg hr => ⟨boxed_own w.heap.size 2 (fun _ : List (Plc ps zs) => Value.int .i64 0) s X Y row hs.1 hg hr, holdsRow_own (w.heap.size + 4) (w.heap.size + 1) 81 90 3 (fun pre : List (Plc ps zs) => pre.length) (fun pre : List (Plc ps zs) => ints (flatS (pre.map fun x => spl ps zs x.1))) (fun _ _ => True) s X Y row hs.2.1 hg hr, hs.2.2⟩) _) (ownFrom_below (Nat.le_refl _) B4.out.size))
    (fun c => OwnFrom.and (Own.from (fun s X Y row hs hg hr => ⟨hs.1, by
      obtain ⟨p, x, e1, e2, e3, e4⟩ := hs.2
      exact ⟨p, x, e1, e2, e3, boxed_own w.heap.size 2 (fun _ : List (Plc ps zs) => Value.int .i64 (x : Int)) s X Y row e4 hg hr⟩⟩) _) (ownFrom_below (Nat.le_refl _) B4.out.size))
    ⟨⟨b4R.out, ⟨_, b4C.out, World.ownsRow_nil _ _ _ _, trivial⟩, fun p x h => by have := h.length_le; simp at this⟩, B4.out⟩
    (fun x a' W => ∃ b1 : Nat, w.heap.size + 1 < b1 ∧ W.heap[b1]? = some (.cells #[.int .i64 (spl ps zs x.1).1, .int .i64 (spl ps zs x.1).2.1, .int .i64 (spl ps zs x.1).2.2] 90 (0, 0)) ∧ a' = { tmps := #[.slice a ps.length c, .slice au zs.length cu, undef, undef, .pointer (some ⟨w.heap.size, 0, none⟩), .pointer (some ⟨w.heap.size + 1, 0, none⟩), .int .i64 (x.1 : Int), .pointer (some ⟨b1, 0, none⟩), .slice a ps.length c, .slice au zs.length cu, .func (.func 121) #[] #[.pointer (some ⟨w.heap.size + 2, 0, none⟩), .pointer (some ⟨w.heap.size + 2 + 1, 0, none⟩)], .int .i64 (x.1 : Int), .agg #[.int .i64 (spl ps zs x.1).1, .int .i64 (spl ps zs x.1).2.1, .int .i64 (spl ps zs x.1).2.2], undef, undef, undef, undef, undef, undef, undef, undef, undef], defers := [] })
    (fun x a' s A B row hs hg hr => by
      obtain ⟨b1, h1, h3, h5⟩ := hs
      exact ⟨b1, h1, cells_keptL h3 hg hr, h5⟩)
    ?assign ?body ?done ?stop
  case assign =>
    rintro l pre x W K ⟨⟨hr0, ⟨v, hv, hrow, -⟩, hok⟩, hB⟩ hK
    have hs := hB.size
    have hlt := hv.lt
    have hK' := hK _ _ ((KeepsOthers.alloc W (.cells #[.int .i64 (spl ps zs x.1).1, .int .i64 (spl ps zs x.1).2.1, .int .i64 (spl ps zs x.1).2.2] 90)).from _) (kpD_of ((Below.refl _ _).alloc (Nat.le_refl _) _)) ⟨⟨hr0.alloc _, ⟨v, hv.alloc _, hrow.alloc _, trivial⟩, hok⟩, hB.alloc hs _⟩ ⟨W.heap.size, hlt, World.alloc_heap_new W _, rfl⟩
    clear hK
    unfold encP sv
    change K _ _ at hK'
    gi_wp2
    exact hK'
  case body =>
    rintro l pre x a' W hl hlr ⟨⟨hr0, ⟨v, hv, hrow, -⟩, hok⟩, hB⟩ ⟨b1, g1, g2, rfl⟩ hlt
    have hsz := hB.size
    have hbase : w.heap.size + 4 ≤ W.heap.size := by
      have h5 := hl
      obtain ⟨r, hr9⟩ := hlr
      have := (Array.getElem?_eq_some_iff.1 hr9).1
      omega
    have F2 := Lib.hid g2
    have ER := Lib.hid (show roomB ((pre.map Subtype.val).map (spl ps zs)) (spl ps zs x.1) = roomB (pre.map fun x => spl ps zs x.1) (spl ps zs x.1) by rw [List.map_map]; rfl)
    have SR : W.ownsRow (w.heap.size + 4) 90 3 v (pre.map fun x => spl ps zs x.1).length (ints (flatS (pre.map fun x => spl ps zs x.1))) := by rw [List.length_map]; exact hrow
    have HRx := Lib.hid (HRM.out v (pre.map fun x => spl ps zs x.1) (spl ps zs x.1) W (spat_row SR) (by rw [List.length_map]; omega))
    have ESN := Lib.hid (show ints (flatS ((pre ++ [x]).map fun x => spl ps zs x.1)) = ints (flatS (pre.map fun x => spl ps zs x.1)) ++ [.int .i64 (spl ps zs x.1).1, .int .i64 (spl ps zs x.1).2.1, .int .i64 (spl ps zs x.1).2.2] by rw [List.map_append]; exact flatS_snoc _ _)
    have OKS := Lib.hid (fun h => okSeq_snoc (ps := ps) (zs := zs) (x := x.1) hok h)
    have OKP := Lib.hid hok
    have k0 := cell_heapL g2 0
    have k1 := cell_heapL g2 1
    have k2 := cell_heapL g2 2
    have hcv := hv.cell
    have hc0 := hr0.cell
    have hf0 := hr0.frozen
    rw [ER.out] at OKS
    have EFL := Lib.hid (fun (h : roomB (pre.map fun x => spl ps zs x.1) (spl ps zs x.1) = false) => (show roomB ((pre.map Subtype.val).map (spl ps zs)) (spl ps zs x.1) = false from ER.out.trans h))
    have lb1 : b1 < W.heap.size := (Array.getElem?_eq_some_iff.1 g2).1
    obtain ⟨av, cv, rfl⟩ : ∃ a c, v = .slice a pre.length c := by
      rcases hrow.2 with ⟨h5, h6⟩ | ⟨g, cap, cur, h5, _⟩
      · exact ⟨none, 0, by rw [h5, h6]⟩
      · exact ⟨_, _, h5⟩
    have hmL : pre.length + 1 ≤ maxLen := by unfold maxLen; omega
    unfold sv at HRx
    generalize ints (flatS (pre.map fun x => spl ps zs x.1)) = XS at *
    obtain ⟨rm, hrm⟩ : ∃ r, roomB (pre.map fun x => spl ps zs x.1) (spl ps zs x.1) = r := ⟨_, rfl⟩
    rw [hrm] at HRx OKS EFL
    clear g2 SR ER hok hrm
    generalize (spl ps zs x.1).1 = s1 at *
    generalize (spl ps zs x.1).2.1 = s2 at *
    generalize (spl ps zs x.1).2.2 = s3 at *
    cases rm with
    | false =>
      have EF := Lib.hid (EFL.out rfl)
      gi_wp2_with (first | (gi_at_call 72; refine (CallsIn.inRound l (callsIn_wide.2 HRx.out)).mono ?_; rintro e U ⟨rfl, hb1⟩; have r0 := Boxed.kept hr0 (grown_ofL hb1) (by simp); have d0 := r0.cell; have e0 := r0.frozen) | (refine ⟨trivial, ?_⟩; gi_at_call 72; refine (CallsIn.inRound l (callsIn_wide.2 HRx.out)).mono ?_; rintro e U ⟨rfl, hb1⟩; have r0 := Boxed.kept hr0 (grown_ofL hb1) (by simp); have d0 := r0.cell; have e0 := r0.frozen))
      exact ⟨((KeepsOthers.of_grownBy (grown_ofL hb1) (by simp)).trans (KeepsOthers.setCell _ _ _)).from _, ⟨rfl, _, _, (by rw [List.map_append]; rfl), OKP.out, EF.out, r0.set _⟩, (hB.trans (hb1.mono hsz)).setCell (p := ⟨w.heap.size, 0, none⟩) (by simp) _⟩
    | true =>
      have OKT := Lib.hid (OKS.out rfl)
      have UP := Lib.hid (show ∀ U, Below W.heap.size W U → (U.cell? ⟨b1, 0, none⟩ = some (.int .i64 s1) ∧ U.cell? ⟨b1, 1, none⟩ = some (.int .i64 s2) ∧ U.cell? ⟨b1, 2, none⟩ = some (.int .i64 s3)) from fun U h => ⟨(h.cell (p := ⟨b1, 0, none⟩) lb1).trans k0, (h.cell (p := ⟨b1, 1, none⟩) lb1).trans k1, (h.cell (p := ⟨b1, 2, none⟩) lb1).trans k2⟩)
      have ZC := Lib.hid (show ∀ U, Below W.heap.size W U → U.cell? ⟨w.heap.size + 1, 0, none⟩ = some (.slice av pre.length cv) from fun U h => (h.cell (p := ⟨w.heap.size + 1, 0, none⟩) hv.lt).trans hcv)
      gi_wp2_with (first
        | (refine ⟨trivial, ?_⟩; gi_at_call 72; refine (CallsIn.inRound l (callsIn_wide.2 HRx.out)).mono ?_; rintro e U ⟨rfl, hb1⟩; obtain ⟨d1, d2, d3⟩ := UP.out U hb1; have d4 := ZC.out U hb1; have rU := row_keepL hrow hb1; have rC := Boxed.kept hv (grown_ofL hb1) (by simp); have r0 := Boxed.kept hr0 (grown_ofL hb1) (by simp); have hszU := hb1.size)
        | (gi_at_builtin; refine wpListIn_append_own _ rfl _ _ 81 rfl (w.heap.size + 4) 90 i0 (.agg #[.int .i64 0, .int .i64 0, .int .i64 0]) 3 24 Try.underlying81 hi hz0 hz1 hz2 rfl (by decide) _ _ _ rfl (rU.alloc _) ⟨U.heap.size, 0, none⟩ 1 1 [.int .i64 s1, .int .i64 s2, .int .i64 s3] rfl rfl (new3 _ _ _ _) (by simp [Value.oneCell']) (by omega) (by omega) (by simp; omega) ?_; intro v' w1 hown' hgrow _; obtain ⟨g', cap', rfl⟩ := ownsRow_succ hown'; obtain ⟨hv1, hv2, hr2, hk2, hb2⟩ := Boxed.appended (n₀ := w.heap.size) rC (by decide) (row_upL rU (by omega)) (by omega) (by omega) (row_upL hown' (by omega)) hgrow; have hc1 := hv1.cell; have hf1 := hv1.frozen))
      have r1 := (Boxed.kept (Boxed.alloc r0 _) hgrow (fun e => by have := (World.ownsRow.lt rU _ e.symm).1; omega)).other (B' := w.heap.size + 1) (by omega) (.slice (some ⟨g', 0, none⟩) (pre.length + 1) cap')
      have r4 := hown'.kept (grownBy_setCell' w1 (w.heap.size + 1) (.slice (some ⟨g', 0, none⟩) (pre.length + 1) cap')) (.inr (hv1.not_row (by decide) hown').symm)
      refine ⟨((KeepsOthers.of_grownBy (grown_ofL hb1) (by simp)).trans hk2).from _, kpD_t (kpD_of hb1) (kpD_app rU hgrow (by omega) (by omega) (by omega) (by omega) (by omega)), ⟨⟨r1, ⟨_, hv2, ?_, trivial⟩, by rw [List.map_append]; exact OKT.out⟩, (hB.trans (hb1.mono hsz)).trans hb2⟩⟩
      rw [ESN.out, List.length_append]
      exact r4
  case done =>
    rintro D ys W hD hys ⟨⟨hr0, ⟨v, hv, hrow, -⟩, hok⟩, hB⟩ hK
    have hc := hr0.cell
    have hf := hr0.frozen
    have HDF := Lib.hid (FD.out (by rw [← show ys.map Subtype.val = onL zs ps.length from hys]; exact hok))
    clear hrow hok
    go_wp2
    have hK' := (KeepsOthers.setCell W ⟨w.heap.size, 0, none⟩ (.int .i64 (-1))).same D _ hK rfl
    refine ⟨by simp, .inl ⟨_, _, rfl, run_takeDeferred hK', ?_⟩⟩
    have hc5 := ((hr0.set (.int .i64 (-1))).kept (grownBy_putObj' _ D (.deferred none)) (by simp; omega)).cell
    refine ⟨.int .i64 (-1), ?_, by rw [HDF.out], (hB.setCell (p := ⟨w.heap.size, 0, none⟩) (by simp) _).trans (belowK_b (w := w4) B4.out.size _ D _ _ hD hK' rfl rfl)⟩
    simp [results, Try.results76, go_sem, hc5]
  case stop =>
    rintro D c pre W hD hpre ⟨⟨rfl, p, x, e1, e2, e3, hv⟩, hB⟩ hK
    have HDF := Lib.hid (FS.out p x (by rw [← e1]; exact hpre) e2 e3)
    gi_wp2
    refine ⟨by simp, .inl ⟨_, _, rfl, run_takeDeferred hK, ?_⟩⟩
    have hc5 := (hv.kept (grownBy_putObj' _ D (.deferred none)) (by simp; omega)).cell
    refine ⟨.int .i64 (x : Int), ?_, by rw [HDF.out], hB.trans (belowK_b (w := w4) B4.out.size W D _ _ hD hK rfl rfl)⟩
    simp [results, Try.results76, go_sem, hc5]
end Go.Proofs.Ytmfjpmimkpldjaa.ltab
