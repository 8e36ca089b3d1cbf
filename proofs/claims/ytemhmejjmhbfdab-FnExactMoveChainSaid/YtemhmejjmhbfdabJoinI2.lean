/- The edges of a chain: the iterator. -/
import Derived.Test.YtemhmejjmhbfdabJoinI1
import Derived.StillTailTactics
namespace Go.Proofs.Ytemhmejjmhbfdab.sines
open Go.ChangeShapes Go.WideShapes Go.ChangeAt Go.RowKit Go.Shelf Go.Proofs.Ytemhmejjmhbfdab.spots Go.Proofs.Ytemhmejjmhbfdab.irows Go.Proofs.Ytemhmejjmhbfdab.pairsPlace
attribute [local go_sem] Oper.semAt_some
set_option linter.unusedSimpArgs false
set_option linter.unusedVariables false

/-- No cells have turned but those of block g. -/
def KpX (g : Nat) (A C : World) : Prop := A.heap.size ≤ C.heap.size ∧ ∀ i cs t fr, i ≠ g → A.heap[i]? = some (.cells cs t fr) → C.heap[i]? = some (.cells cs t fr)
theorem kpX_t {g : Nat} {A C D : World} (h : KpX g A C) (k : KpX g C D) : KpX g A D := ⟨Nat.le_trans h.1 k.1, fun i cs t fr hi hc => k.2 i cs t fr hi (h.2 i cs t fr hi hc)⟩
theorem kpX_b {g : Nat} {w : World} (W : World) (l : Nat) (o o' : Obj) (hl : w.heap.size ≤ l) (h : W.heap[l]? = some o) (ho : o.isCells = false) (_ : o.isWalk = false) : KpX g W (W.putObj l o') :=
  ⟨by simp, fun i cs t fr hi hc => by
    have : i ≠ l := fun e => by subst e; rw [h] at hc; cases hc; simp [Obj.isCells] at ho
    rw [World.putObj_heap_other this]; exact hc⟩
theorem kpX_of {g : Nat} {A C : World} (h : Below A.heap.size A C) : KpX g A C :=
  ⟨h.size, fun i cs t fr _ hc => by rw [h.block i (Array.getElem?_eq_some_iff.1 hc).1]; exact hc⟩
theorem grown_of {A C : World} (h : Below A.heap.size A C) : A.grownBy C none := ⟨h.os, h.tape, h.output, h.size, fun i hi _ => h.block i hi⟩
/-- A cell of another block than g. -/
theorem kpX_cell {g : Nat} {A C : World} (h : KpX g A C) {p : Addr} {v : Value} (hp : p.block ≠ g) (hc : A.cell? p = some v) : C.cell? p = some v := by
  unfold World.cell? at hc ⊢
  cases e : A.heap[p.block]? with
  | none => rw [e] at hc; simp at hc
  | some o =>
    cases o with
    | cells cs t fr => rw [h.2 p.block cs t fr hp e]; rw [e] at hc; exact hc
    | _ => rw [e] at hc; simp at hc
/-- A list that is read, in another block than g. -/
def PAtX (w : World) (g : Nat) (v : Value) (ps : List Pl) : Prop := ∃ b off c, v = .slice (some ⟨b, off, none⟩) ps.length c ∧ b ≠ g ∧ ∀ k, k < ps.length → w.cell? ⟨b, off + k * 2, none⟩ = some (.int .i64 (pAt ps k).1) ∧ w.cell? ⟨b, off + k * 2 + 1, none⟩ = some (.int .i64 (pAt ps k).2)
theorem patx_keep {w w' : World} {g : Nat} {v : Value} {ps : List Pl} (h : PAtX w g v ps) (k : KpX g w w') : PAtX w' g v ps := by
  obtain ⟨b, off, c, e, hb, h⟩ := h
  exact ⟨b, off, c, e, hb, fun i hi => ⟨kpX_cell k (p := ⟨b, off + i * 2, none⟩) hb (h i hi).1, kpX_cell k (p := ⟨b, off + i * 2 + 1, none⟩) hb (h i hi).2⟩⟩
theorem pat_x {w : World} {B g : Nat} {v : Value} {ps : List Pl} (h : PAt w B v ps) (h0 : 0 < ps.length) (hg : B ≤ g) : PAtX w g v ps := by
  obtain ⟨a, c, rfl, h⟩ := h
  obtain ⟨b, off, rfl, hb, _, _⟩ := h 0 h0
  refine ⟨b, off, c, rfl, by omega, fun k hk => ?_⟩
  obtain ⟨b', off', e, _, c1, c2⟩ := h k hk
  simp only [Option.some.injEq, Addr.mk.injEq, and_true] at e
  obtain ⟨rfl, rfl⟩ := e
  rw [pat_of hk] at c1 c2
  exact ⟨c1, c2⟩
/-- Both ends of an edge. -/
def encE (ps : List Pl) (k : Nat) : Array Value := #[.agg #[.int .i64 (pAt ps k).1, .int .i64 (pAt ps k).2], .agg #[.int .i64 (pAt ps (k + 1)).1, .int .i64 (pAt ps (k + 1)).2]]
abbrev Edge (ps : List Pl) := { k : Nat // k + 1 < ps.length }
theorem yield_bool {e : Ending} {P Q : Prop} (h : (e = .returned (.bool true) ∧ P) ∨ (e = .returned (.bool false) ∧ Q)) : ∃ b : Bool, e = .returned (.bool b) ∧ (b = true → P) ∧ (b = false → Q) := by
  rcases h with ⟨h, p⟩ | ⟨h, q⟩
  · exact ⟨true, h, (fun _ => p), (fun k => nomatch k)⟩
  · exact ⟨false, h, (fun k => nomatch k), (fun _ => q)⟩
theorem range_prefix {k N : Nat} (h : k + 1 ≤ N) : List.range (k + 1) <+: List.range N := by
  have e : List.range N = List.range (k + 1) ++ (List.range' (k + 1) (N - (k + 1))) := by
    rw [List.range_eq_range', List.range_eq_range']
    have := List.range'_append_1 (s := 0) (m := k + 1) (n := N - (k + 1))
    rw [Nat.zero_add] at this
    rw [this, show k + 1 + (N - (k + 1)) = N by omega]
  exact ⟨_, e.symm⟩
set_option maxRecDepth 100000 in
set_option maxHeartbeats 2000000 in
theorem edges1_in (l n B gw : Nat) (v : Value) (ps : List Pl) (J Jx : List Nat → World → Prop) (habs : ∀ s W W', J s W → Below W.heap.size W W' → J s W') (hn2 : 2 ≤ ps.length) (hn : ps.length ≤ 1048576) (hBg : B ≠ gw)
    (hY : ∀ pre x W, x + 1 < ps.length → J pre W → pre.length < ps.length - 1 → YieldAt Fence.wide (n - 1) Try.prog l (encE ps x) W fun e W' =>
      (e = .returned (.bool true) ∧ J (pre ++ [x]) W' ∧ KpX gw W W') ∨ (e = .returned (.bool false) ∧ Jx (pre ++ [x]) W'))
    (W : World) (hB : W.cell? ⟨B, 0, none⟩ = some v) (hv : PAtX W gw v ps) (hJ : J [] W) :
    CallsIn Fence.wide n Try.prog 122 #[.func (.yield l) #[] #[], .pointer (some ⟨B, 0, none⟩)] W fun e W' => (∃ r, e = .returned r) ∧
      ((∃ ys, ys = List.range (ps.length - 1) ∧ J ys W') ∨ (∃ pre, pre <+: List.range (ps.length - 1) ∧ Jx pre W')) := by
  obtain ⟨b, off, c, rfl, hbg, hc⟩ := hv
  obtain ⟨N, hN⟩ : ∃ N : Nat, Hid (ps.length = N + 1) := ⟨ps.length - 1, Lib.hid (by omega)⟩
  have HV := Lib.hid (show PAtX W gw (.slice (some ⟨b, off, none⟩) (N + 1) c) ps from ⟨b, off, c, by rw [hN.out], hbg, hc⟩)
  rw [hN.out] at hB hn2 hn hY ⊢
  clear hc
  simp only [Nat.add_sub_cancel] at hY ⊢
  have e1 : (((N + 1 : Nat)) : Int) - 1 = (N : Int) := by omega
  have e2 : ((N : Int) + 1) - 1 = (N : Int) := by omega
  have kN : IntKind.i64.wrap (N : Int) = (N : Int) := IntWalk.i64_in _ (by omega)
  have HY := Lib.hid hY
  have HA := Lib.hid habs
  clear hY habs
  unfold encE at HY
  refine callsIn_of_wp Try.func122 rfl trivial ?_ rfl
  simp only [Try.ntmps122, List.size_toArray, List.length_cons, List.length_nil, Nat.reduceAdd, Nat.reduceSub, Array.replicate_succ, Array.replicate_zero, List.push_toArray, List.append_toArray, List.nil_append, List.cons_append]
  gi_wp2
  gi_loopw [7] (fun p wr => ∃ k : Nat, p = .int .i64 (k : Int) ∧ k ≤ N ∧ wr.cell? ⟨B, 0, none⟩ = some (.slice (some ⟨b, off, none⟩) (N + 1) c) ∧ PAtX wr gw (.slice (some ⟨b, off, none⟩) (N + 1) c) ps ∧ J (List.range k) wr) (fun p _ => N - (intOf p).toNat)
  case atStart => exact ⟨0, rfl, Nat.zero_le _, hB, HV.out, hJ⟩
  case round =>
    obtain ⟨k, rfl, hk, hB, hv, hJ⟩ := hrel
    have HVk := Lib.hid hv
    obtain ⟨b', off', c', e, _, hc⟩ := hv
    injection e with e1' e2' e3'
    simp only [Option.some.injEq, Addr.mk.injEq, and_true] at e1'
    obtain ⟨rfl, rfl⟩ := e1'
    have HJ := Lib.hid hJ
    clear hJ e2' e3'
    by_cases hlt : k < N
    · have hk0 : 0 ≤ (k : Int) := by omega
      have hk1 : (k : Int) < (N : Int) := by omega
      have hk2 : (k : Int) < (N : Int) + 1 := by omega
      have hk3 : (k : Int) + 1 < (N : Int) + 1 := by omega
      have hk4 : 0 ≤ (k : Int) + 1 := by omega
      have tn : ((k : Int) + 1).toNat = k + 1 := by omega
      have kp : IntKind.i64.wrap ((k : Int) + 1) = (k : Int) + 1 := IntWalk.i64_in _ (by omega)
      have hlen := hN.out
      obtain ⟨c1, c2⟩ := hc k (by omega)
      obtain ⟨d1, d2⟩ := hc (k + 1) (by omega)
      have YY := Lib.hid (HY.out (List.range k) k wr.drew (by omega) (HA.out _ _ _ HJ.out (Below.drew (Below.refl _ _))) (by simp; omega))
      have RS := Lib.hid (show List.range k ++ [k] = List.range (k + 1) from (List.range_succ).symm)
      rw [RS.out] at YY
      clear hc hlen
      generalize (pAt ps k).1 = x1 at c1 YY
      generalize (pAt ps k).2 = x2 at c2 YY
      generalize (pAt ps (k + 1)).1 = y1 at d1 YY
      generalize (pAt ps (k + 1)).2 = y2 at d2 YY
      have hmx : Try.prog.follows .mixedOrders = true := by kernel_rfl
      obtain ⟨fn, tmps, assign, body, hy, hR⟩ := YY.out
      gi_wp2
      -- REGION
      refine wpIn_region_any hmx ?_
      change wpAnyIn _ _ _ _ _ _ 12 #[false, false, false, false, false, false, false, false, false, false, false, false] _ (World.drew _)
      refine wpAnyIn_take (i := 0) (v := .func (.yield l) #[] #[]) rfl rfl (by kernel_rfl) (by kernel_rfl) (by kernel_rfl) (fun _ _ _ h => h) ⟨Or.inl ⟨by rfl, (by intro U; go_simp)⟩, fun _ => rfl⟩ ?_
      simp only [Act.put, List.getElem_toArray, List.getElem_cons_zero, List.getElem_cons_succ, List.setIfInBounds_toArray, List.set_cons_zero, List.set_cons_succ]
      refine wpAnyIn_take (i := 2) (v := .int .i64 (k : Int)) rfl rfl (by kernel_rfl) (by kernel_rfl) (by kernel_rfl) (fun _ _ _ h => h) ⟨Or.inl ⟨by rfl, (by intro U; go_simp)⟩, fun _ => rfl⟩ ?_
      simp only [Act.put, List.getElem_toArray, List.getElem_cons_zero, List.getElem_cons_succ, List.setIfInBounds_toArray, List.set_cons_zero, List.set_cons_succ]
      refine wpAnyIn_take (i := 6) (v := .int .i64 (k : Int)) rfl rfl (by kernel_rfl) (by kernel_rfl) (by kernel_rfl) (fun _ _ _ h => h) ⟨Or.inl ⟨by rfl, (by intro U; go_simp)⟩, fun _ => rfl⟩ ?_
      simp only [Act.put, List.getElem_toArray, List.getElem_cons_zero, List.getElem_cons_succ, List.setIfInBounds_toArray, List.set_cons_zero, List.set_cons_succ]
      refine wpAnyIn_take (i := 7) (v := .int .i64 ((k : Int) + 1)) rfl rfl (by kernel_rfl) (by kernel_rfl) (by kernel_rfl) (fun _ _ _ h => h) ⟨Or.inl ⟨by rfl, (by intro U; go_simp)⟩, fun _ => rfl⟩ ?_
      simp only [Act.put, List.getElem_toArray, List.getElem_cons_zero, List.getElem_cons_succ, List.setIfInBounds_toArray, List.set_cons_zero, List.set_cons_succ]
      refine wpAnyIn_ready (rs := [1, 5]) (by kernel_rfl) (by simp) ?_
      refine AllReadyIn.cons rfl (fun K hK => ?_) ?_
      · go_simp
        refine hK _ _ ?_
        clear hK K
        refine wpAnyIn_take (i := 3) (v := .pointer (some ⟨b, off + k * 2, none⟩)) rfl rfl (by kernel_rfl) (by kernel_rfl) (by kernel_rfl) (fun _ _ _ h => h) ⟨Or.inl ⟨by rfl, (by intro U; go_simp)⟩, fun _ => rfl⟩ ?_
        simp only [Act.put, List.getElem_toArray, List.getElem_cons_zero, List.getElem_cons_succ, List.setIfInBounds_toArray, List.set_cons_zero, List.set_cons_succ]
        refine wpAnyIn_ready (rs := [4, 5]) (by kernel_rfl) (by simp) ?_
        refine AllReadyIn.cons rfl (fun K hK => ?_) ?_
        · go_simp
          refine hK _ _ ?_
          clear hK K
          refine wpAnyIn_ready (rs := [5]) (by kernel_rfl) (by simp) ?_
          refine AllReadyIn.cons rfl (fun K hK => ?_) ?_
          · go_simp
            refine hK _ _ ?_
            clear hK K
            refine wpAnyIn_take (i := 8) (v := .pointer (some ⟨b, off + (k + 1) * 2, none⟩)) rfl rfl (by kernel_rfl) (by kernel_rfl) (by kernel_rfl) (fun _ _ _ h => h) ⟨Or.inl ⟨by rfl, (by intro U; go_simp)⟩, fun _ => rfl⟩ ?_
            simp only [Act.put, List.getElem_toArray, List.getElem_cons_zero, List.getElem_cons_succ, List.setIfInBounds_toArray, List.set_cons_zero, List.set_cons_succ]
            refine wpAnyIn_ready (rs := [9]) (by kernel_rfl) (by simp) ?_
            refine AllReadyIn.cons rfl (fun K hK => ?_) ?_
            · go_simp
              refine hK _ _ ?_
              clear hK K
              refine wpAnyIn_ready (rs := [10]) (by kernel_rfl) (by simp) (AllReadyIn.cons rfl (fun K hK => ?_) AllReadyIn.nil)
              go_simp
              refine ⟨(fun h => by cases h), hR.mono ?_⟩
              rintro e W3 h3
              obtain ⟨bb, rfl, ht, hf⟩ := yield_bool h3
              refine hK _ _ ?_
              clear hK K h3
              refine wpAnyIn_take (i := 11) (v := .bool (!bb)) rfl rfl (by kernel_rfl) (by kernel_rfl) (by kernel_rfl) (fun _ _ _ h => h) ⟨Or.inl ⟨by rfl, (by intro U; go_simp)⟩, fun _ => rfl⟩ ?_
              simp only [Act.put, List.getElem_toArray, List.getElem_cons_zero, List.getElem_cons_succ, List.setIfInBounds_toArray, List.set_cons_zero, List.set_cons_succ]
              refine wpAnyIn_done (by kernel_rfl) ?_ _
              cases bb with
              | true =>
                obtain ⟨hJ3, hk3⟩ := ht rfl
                have hk3' : KpX gw wr W3 := kpX_t (kpX_of (Below.drew (Below.refl _ _))) hk3
                have hB3 := kpX_cell hk3' (p := ⟨B, 0, none⟩) hBg hB
                have hv3 := patx_keep HVk.out hk3'
                clear ht hf hk3
                gi_wp2
                go_roundw
                case rel => exact ⟨k + 1, by go_num, by omega, hB3, hv3, hJ3⟩
                case measure => simp [intOf]; omega
              | false =>
                have hJx3 := hf rfl
                clear ht hf
                gi_wp2
                refine bodyPost_ret (results_none rfl _ _ _) rfl ?_
                exact ⟨⟨_, rfl⟩, .inr ⟨_, range_prefix (by omega), hJx3⟩⟩
            exact AllReadyIn.nil
          exact AllReadyIn.nil
        refine AllReadyIn.cons rfl (fun K hK => ?_) ?_
        · go_simp
          refine hK _ _ ?_
          clear hK K
          refine wpAnyIn_take (i := 8) (v := .pointer (some ⟨b, off + (k + 1) * 2, none⟩)) rfl rfl (by kernel_rfl) (by kernel_rfl) (by kernel_rfl) (fun _ _ _ h => h) ⟨Or.inl ⟨by rfl, (by intro U; go_simp)⟩, fun _ => rfl⟩ ?_
          simp only [Act.put, List.getElem_toArray, List.getElem_cons_zero, List.getElem_cons_succ, List.setIfInBounds_toArray, List.set_cons_zero, List.set_cons_succ]
          refine wpAnyIn_ready (rs := [4, 9]) (by kernel_rfl) (by simp) ?_
          refine AllReadyIn.cons rfl (fun K hK => ?_) ?_
          · go_simp
            refine hK _ _ ?_
            clear hK K
            refine wpAnyIn_ready (rs := [9]) (by kernel_rfl) (by simp) ?_
            refine AllReadyIn.cons rfl (fun K hK => ?_) ?_
            · go_simp
              refine hK _ _ ?_
              clear hK K
              refine wpAnyIn_ready (rs := [10]) (by kernel_rfl) (by simp) (AllReadyIn.cons rfl (fun K hK => ?_) AllReadyIn.nil)
              go_simp
              refine ⟨(fun h => by cases h), hR.mono ?_⟩
              rintro e W3 h3
              obtain ⟨bb, rfl, ht, hf⟩ := yield_bool h3
              refine hK _ _ ?_
              clear hK K h3
              refine wpAnyIn_take (i := 11) (v := .bool (!bb)) rfl rfl (by kernel_rfl) (by kernel_rfl) (by kernel_rfl) (fun _ _ _ h => h) ⟨Or.inl ⟨by rfl, (by intro U; go_simp)⟩, fun _ => rfl⟩ ?_
              simp only [Act.put, List.getElem_toArray, List.getElem_cons_zero, List.getElem_cons_succ, List.setIfInBounds_toArray, List.set_cons_zero, List.set_cons_succ]
              refine wpAnyIn_done (by kernel_rfl) ?_ _
              cases bb with
              | true =>
                obtain ⟨hJ3, hk3⟩ := ht rfl
                have hk3' : KpX gw wr W3 := kpX_t (kpX_of (Below.drew (Below.refl _ _))) hk3
                have hB3 := kpX_cell hk3' (p := ⟨B, 0, none⟩) hBg hB
                have hv3 := patx_keep HVk.out hk3'
                clear ht hf hk3
                gi_wp2
                go_roundw
                case rel => exact ⟨k + 1, by go_num, by omega, hB3, hv3, hJ3⟩
                case measure => simp [intOf]; omega
              | false =>
                have hJx3 := hf rfl
                clear ht hf
                gi_wp2
                refine bodyPost_ret (results_none rfl _ _ _) rfl ?_
                exact ⟨⟨_, rfl⟩, .inr ⟨_, range_prefix (by omega), hJx3⟩⟩
            exact AllReadyIn.nil
          refine AllReadyIn.cons rfl (fun K hK => ?_) ?_
          · go_simp
            refine hK _ _ ?_
            clear hK K
            refine wpAnyIn_ready (rs := [4]) (by kernel_rfl) (by simp) ?_
            refine AllReadyIn.cons rfl (fun K hK => ?_) ?_
            · go_simp
              refine hK _ _ ?_
              clear hK K
              refine wpAnyIn_ready (rs := [10]) (by kernel_rfl) (by simp) (AllReadyIn.cons rfl (fun K hK => ?_) AllReadyIn.nil)
              go_simp
              refine ⟨(fun h => by cases h), hR.mono ?_⟩
              rintro e W3 h3
              obtain ⟨bb, rfl, ht, hf⟩ := yield_bool h3
              refine hK _ _ ?_
              clear hK K h3
              refine wpAnyIn_take (i := 11) (v := .bool (!bb)) rfl rfl (by kernel_rfl) (by kernel_rfl) (by kernel_rfl) (fun _ _ _ h => h) ⟨Or.inl ⟨by rfl, (by intro U; go_simp)⟩, fun _ => rfl⟩ ?_
              simp only [Act.put, List.getElem_toArray, List.getElem_cons_zero, List.getElem_cons_succ, List.setIfInBounds_toArray, List.set_cons_zero, List.set_cons_succ]
              refine wpAnyIn_done (by kernel_rfl) ?_ _
              cases bb with
              | true =>
                obtain ⟨hJ3, hk3⟩ := ht rfl
                have hk3' : KpX gw wr W3 := kpX_t (kpX_of (Below.drew (Below.refl _ _))) hk3
                have hB3 := kpX_cell hk3' (p := ⟨B, 0, none⟩) hBg hB
                have hv3 := patx_keep HVk.out hk3'
                clear ht hf hk3
                gi_wp2
                go_roundw
                case rel => exact ⟨k + 1, by go_num, by omega, hB3, hv3, hJ3⟩
                case measure => simp [intOf]; omega
              | false =>
                have hJx3 := hf rfl
                clear ht hf
                gi_wp2
                refine bodyPost_ret (results_none rfl _ _ _) rfl ?_
                exact ⟨⟨_, rfl⟩, .inr ⟨_, range_prefix (by omega), hJx3⟩⟩
            exact AllReadyIn.nil
          exact AllReadyIn.nil
        exact AllReadyIn.nil
      refine AllReadyIn.cons rfl (fun K hK => ?_) ?_
      · go_simp
        refine hK _ _ ?_
        clear hK K
        refine wpAnyIn_take (i := 8) (v := .pointer (some ⟨b, off + (k + 1) * 2, none⟩)) rfl rfl (by kernel_rfl) (by kernel_rfl) (by kernel_rfl) (fun _ _ _ h => h) ⟨Or.inl ⟨by rfl, (by intro U; go_simp)⟩, fun _ => rfl⟩ ?_
        simp only [Act.put, List.getElem_toArray, List.getElem_cons_zero, List.getElem_cons_succ, List.setIfInBounds_toArray, List.set_cons_zero, List.set_cons_succ]
        refine wpAnyIn_ready (rs := [1, 9]) (by kernel_rfl) (by simp) ?_
        refine AllReadyIn.cons rfl (fun K hK => ?_) ?_
        · go_simp
          refine hK _ _ ?_
          clear hK K
          refine wpAnyIn_take (i := 3) (v := .pointer (some ⟨b, off + k * 2, none⟩)) rfl rfl (by kernel_rfl) (by kernel_rfl) (by kernel_rfl) (fun _ _ _ h => h) ⟨Or.inl ⟨by rfl, (by intro U; go_simp)⟩, fun _ => rfl⟩ ?_
          simp only [Act.put, List.getElem_toArray, List.getElem_cons_zero, List.getElem_cons_succ, List.setIfInBounds_toArray, List.set_cons_zero, List.set_cons_succ]
          refine wpAnyIn_ready (rs := [4, 9]) (by kernel_rfl) (by simp) ?_
          refine AllReadyIn.cons rfl (fun K hK => ?_) ?_
          · go_simp
            refine hK _ _ ?_
            clear hK K
            refine wpAnyIn_ready (rs := [9]) (by kernel_rfl) (by simp) ?_
            refine AllReadyIn.cons rfl (fun K hK => ?_) ?_
            · go_simp
              refine hK _ _ ?_
              clear hK K
              refine wpAnyIn_ready (rs := [10]) (by kernel_rfl) (by simp) (AllReadyIn.cons rfl (fun K hK => ?_) AllReadyIn.nil)
              go_simp
              refine ⟨(fun h => by cases h), hR.mono ?_⟩
              rintro e W3 h3
              obtain ⟨bb, rfl, ht, hf⟩ := yield_bool h3
              refine hK _ _ ?_
              clear hK K h3
              refine wpAnyIn_take (i := 11) (v := .bool (!bb)) rfl rfl (by kernel_rfl) (by kernel_rfl) (by kernel_rfl) (fun _ _ _ h => h) ⟨Or.inl ⟨by rfl, (by intro U; go_simp)⟩, fun _ => rfl⟩ ?_
              simp only [Act.put, List.getElem_toArray, List.getElem_cons_zero, List.getElem_cons_succ, List.setIfInBounds_toArray, List.set_cons_zero, List.set_cons_succ]
              refine wpAnyIn_done (by kernel_rfl) ?_ _
              cases bb with
              | true =>
                obtain ⟨hJ3, hk3⟩ := ht rfl
                have hk3' : KpX gw wr W3 := kpX_t (kpX_of (Below.drew (Below.refl _ _))) hk3
                have hB3 := kpX_cell hk3' (p := ⟨B, 0, none⟩) hBg hB
                have hv3 := patx_keep HVk.out hk3'
                clear ht hf hk3
                gi_wp2
                go_roundw
                case rel => exact ⟨k + 1, by go_num, by omega, hB3, hv3, hJ3⟩
                case measure => simp [intOf]; omega
              | false =>
                have hJx3 := hf rfl
                clear ht hf
                gi_wp2
                refine bodyPost_ret (results_none rfl _ _ _) rfl ?_
                exact ⟨⟨_, rfl⟩, .inr ⟨_, range_prefix (by omega), hJx3⟩⟩
            exact AllReadyIn.nil
          refine AllReadyIn.cons rfl (fun K hK => ?_) ?_
          · go_simp
            refine hK _ _ ?_
            clear hK K
            refine wpAnyIn_ready (rs := [4]) (by kernel_rfl) (by simp) ?_
            refine AllReadyIn.cons rfl (fun K hK => ?_) ?_
            · go_simp
              refine hK _ _ ?_
              clear hK K
              refine wpAnyIn_ready (rs := [10]) (by kernel_rfl) (by simp) (AllReadyIn.cons rfl (fun K hK => ?_) AllReadyIn.nil)
              go_simp
              refine ⟨(fun h => by cases h), hR.mono ?_⟩
              rintro e W3 h3
              obtain ⟨bb, rfl, ht, hf⟩ := yield_bool h3
              refine hK _ _ ?_
              clear hK K h3
              refine wpAnyIn_take (i := 11) (v := .bool (!bb)) rfl rfl (by kernel_rfl) (by kernel_rfl) (by kernel_rfl) (fun _ _ _ h => h) ⟨Or.inl ⟨by rfl, (by intro U; go_simp)⟩, fun _ => rfl⟩ ?_
              simp only [Act.put, List.getElem_toArray, List.getElem_cons_zero, List.getElem_cons_succ, List.setIfInBounds_toArray, List.set_cons_zero, List.set_cons_succ]
              refine wpAnyIn_done (by kernel_rfl) ?_ _
              cases bb with
              | true =>
                obtain ⟨hJ3, hk3⟩ := ht rfl
                have hk3' : KpX gw wr W3 := kpX_t (kpX_of (Below.drew (Below.refl _ _))) hk3
                have hB3 := kpX_cell hk3' (p := ⟨B, 0, none⟩) hBg hB
                have hv3 := patx_keep HVk.out hk3'
                clear ht hf hk3
                gi_wp2
                go_roundw
                case rel => exact ⟨k + 1, by go_num, by omega, hB3, hv3, hJ3⟩
                case measure => simp [intOf]; omega
              | false =>
                have hJx3 := hf rfl
                clear ht hf
                gi_wp2
                refine bodyPost_ret (results_none rfl _ _ _) rfl ?_
                exact ⟨⟨_, rfl⟩, .inr ⟨_, range_prefix (by omega), hJx3⟩⟩
            exact AllReadyIn.nil
          exact AllReadyIn.nil
        refine AllReadyIn.cons rfl (fun K hK => ?_) ?_
        · go_simp
          refine hK _ _ ?_
          clear hK K
          refine wpAnyIn_ready (rs := [1]) (by kernel_rfl) (by simp) ?_
          refine AllReadyIn.cons rfl (fun K hK => ?_) ?_
          · go_simp
            refine hK _ _ ?_
            clear hK K
            refine wpAnyIn_take (i := 3) (v := .pointer (some ⟨b, off + k * 2, none⟩)) rfl rfl (by kernel_rfl) (by kernel_rfl) (by kernel_rfl) (fun _ _ _ h => h) ⟨Or.inl ⟨by rfl, (by intro U; go_simp)⟩, fun _ => rfl⟩ ?_
            simp only [Act.put, List.getElem_toArray, List.getElem_cons_zero, List.getElem_cons_succ, List.setIfInBounds_toArray, List.set_cons_zero, List.set_cons_succ]
            refine wpAnyIn_ready (rs := [4]) (by kernel_rfl) (by simp) ?_
            refine AllReadyIn.cons rfl (fun K hK => ?_) ?_
            · go_simp
              refine hK _ _ ?_
              clear hK K
              refine wpAnyIn_ready (rs := [10]) (by kernel_rfl) (by simp) (AllReadyIn.cons rfl (fun K hK => ?_) AllReadyIn.nil)
              go_simp
              refine ⟨(fun h => by cases h), hR.mono ?_⟩
              rintro e W3 h3
              obtain ⟨bb, rfl, ht, hf⟩ := yield_bool h3
              refine hK _ _ ?_
              clear hK K h3
              refine wpAnyIn_take (i := 11) (v := .bool (!bb)) rfl rfl (by kernel_rfl) (by kernel_rfl) (by kernel_rfl) (fun _ _ _ h => h) ⟨Or.inl ⟨by rfl, (by intro U; go_simp)⟩, fun _ => rfl⟩ ?_
              simp only [Act.put, List.getElem_toArray, List.getElem_cons_zero, List.getElem_cons_succ, List.setIfInBounds_toArray, List.set_cons_zero, List.set_cons_succ]
              refine wpAnyIn_done (by kernel_rfl) ?_ _
              cases bb with
              | true =>
                obtain ⟨hJ3, hk3⟩ := ht rfl
                have hk3' : KpX gw wr W3 := kpX_t (kpX_of (Below.drew (Below.refl _ _))) hk3
                have hB3 := kpX_cell hk3' (p := ⟨B, 0, none⟩) hBg hB
                have hv3 := patx_keep HVk.out hk3'
                clear ht hf hk3
                gi_wp2
                go_roundw
                case rel => exact ⟨k + 1, by go_num, by omega, hB3, hv3, hJ3⟩
                case measure => simp [intOf]; omega
              | false =>
                have hJx3 := hf rfl
                clear ht hf
                gi_wp2
                refine bodyPost_ret (results_none rfl _ _ _) rfl ?_
                exact ⟨⟨_, rfl⟩, .inr ⟨_, range_prefix (by omega), hJx3⟩⟩
            exact AllReadyIn.nil
          exact AllReadyIn.nil
        exact AllReadyIn.nil
      exact AllReadyIn.nil
    · obtain rfl : k = N := by omega
      gi_wp2
      go_end0
      exact ⟨⟨_, rfl⟩, .inl ⟨_, rfl, HJ.out⟩⟩
theorem edges_stops (n B gw : Nat) (v : Value) (ps : List Pl) (hn2 : 2 ≤ ps.length) (hn : ps.length ≤ 1048576) (hBg : B ≠ gw) (w : World) (hB : w.cell? ⟨B, 0, none⟩ = some v) (hv : PAtX w gw v ps) :
    SeqStopsK (α := Edge ps) Fence.wide n Try.prog 122 #[.pointer (some ⟨B, 0, none⟩)] (fun x => encE ps x.1) (KpX gw) (fun ys => ys.map Subtype.val = List.range (ps.length - 1)) (fun pre => pre.map Subtype.val <+: List.range (ps.length - 1)) (ps.length - 1) w := fun l J Jx W hW hJ _ hY hj => by
  refine (edges1_in l n B gw v ps (fun s W => ∃ s' : List (Edge ps), s'.map Subtype.val = s ∧ J s' W) (fun s W => ∃ s' : List (Edge ps), s'.map Subtype.val = s ∧ Jx s' W) (fun s A C hs hb => ?_) hn2 hn hBg (fun pre x W1 hx hj hl => ?_) W (by rw [hW.cell (p := ⟨B, 0, none⟩) (World.block_lt_of_cell? _ _ hB)]; exact hB) (patx_keep hv (kpX_of hW)) ⟨[], rfl, hj⟩).mono ?_
  · obtain ⟨s', e, h⟩ := hs
    exact ⟨s', e, hJ s' A C none h (grown_of hb) (fun r e => by cases e)⟩
  · obtain ⟨p', e, h⟩ := hj
    refine YieldAt.mono (hY p' ⟨x, hx⟩ W1 h (by rw [← e, List.length_map] at hl; exact hl)) fun e' W2 h2 => ?_
    rcases h2 with ⟨h3, h4, h5⟩ | ⟨h3, h4⟩
    · exact .inl ⟨h3, ⟨_, by rw [List.map_append, e]; rfl, h4⟩, h5⟩
    · exact .inr ⟨h3, ⟨_, by rw [List.map_append, e]; rfl, h4⟩⟩
  · rintro e W' ⟨h1, h2⟩
    refine ⟨h1, ?_⟩
    rcases h2 with ⟨ys, rfl, s', e1, h3⟩ | ⟨pre, hp, s', e1, h3⟩
    · exact .inl ⟨s', e1, h3⟩
    · exact .inr ⟨s', by show List.map Subtype.val s' <+: _; rw [e1]; exact hp, h3⟩
theorem edges_any (a : Option Addr) (n c : Nat) (w : World) :
    Calls Try.prog 106 #[.slice a n c] w fun e w' => e = .returned (.func (.func 122) #[] #[.pointer (some ⟨w.heap.size, 0, none⟩)]) ∧ w'.cell? ⟨w.heap.size, 0, none⟩ = some (.slice a n c) ∧ Below w.heap.size w w' := by
  go_enter Try.func106, Try.ntmps106
  go_wp2
  go_ret
  exact ⟨rfl, by simp, (Below.refl _ _).alloc (Nat.le_refl _) _⟩
/-- The sum over some edges. -/
def sumE (f : Nat → Int) : List Nat → Int
  | [] => 0
  | x :: t => f x + sumE f t
theorem sumE_snoc (f : Nat → Int) (x : Nat) : ∀ l, sumE f (l ++ [x]) = sumE f l + f x
  | [] => by simp [sumE]
  | y :: l => by simp only [List.cons_append, sumE]; rw [sumE_snoc f x l]; omega
theorem sumE_bound {f : Nat → Int} {M : Int} : ∀ (l : List Nat), (∀ x ∈ l, -M ≤ f x ∧ f x ≤ M) → -M * (l.length : Int) ≤ sumE f l ∧ sumE f l ≤ M * (l.length : Int)
  | [], _ => by simp [sumE]
  | y :: l, h => by
    have h1 := h y (by simp)
    have h2 := sumE_bound l (fun x hx => h x (by simp [hx]))
    have e : ((y :: l).length : Int) = (l.length : Int) + 1 := by simp
    rw [e, Int.mul_add, Int.mul_add]
    simp only [sumE]
    omega
end Go.Proofs.Ytemhmejjmhbfdab.sines
