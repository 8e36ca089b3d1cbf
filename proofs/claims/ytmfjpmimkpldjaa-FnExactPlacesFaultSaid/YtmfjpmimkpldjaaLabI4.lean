/- What labels that are placed cover: the iterator. -/
import Derived.Test.YtmfjpmimkpldjaaLabI2
import Derived.Test.YtmfjpmimkpldjaaLabI3
import Derived.RangeFuncNested
import Derived.RangeFuncBound
import Derived.RangeFuncCalls
import Derived.RangeFuncLeaves
import Derived.RangeFuncBox
import Derived.Shelf.Abstract
import Derived.Shelf.RegionOpen
import Derived.OwnWalkIn
import Derived.TacticsInMore
import Derived.LoopNIn
import Derived.LoopIn
import Derived.BigQuiet
import Derived.StillTailTactics
namespace Go.Proofs.Ytmfjpmimkpldjaa.ltab
open Go.ChangeShapes Go.WideShapes Go.ChangeAt Go.RowKit Go.Shelf Go.Proofs.Ytmfjpmimkpldjaa.irows Go.Proofs.Ytmfjpmimkpldjaa.sines
attribute [local go_sem] Oper.semAt_some
set_option linter.unusedSimpArgs false
set_option linter.unusedVariables false

/-- No cells have turned below n0, nor those of two blocks. -/
def KpD (n0 B1 B2 : Nat) (A C : World) : Prop := A.heap.size ≤ C.heap.size ∧ ∀ i cs t fr, (i < n0 ∨ i = B1 ∨ i = B2) → A.heap[i]? = some (.cells cs t fr) → C.heap[i]? = some (.cells cs t fr)
theorem kpD_t {n0 B1 B2 : Nat} {A C D : World} (h : KpD n0 B1 B2 A C) (k : KpD n0 B1 B2 C D) : KpD n0 B1 B2 A D := ⟨Nat.le_trans h.1 k.1, fun i cs t fr hi hc => k.2 i cs t fr hi (h.2 i cs t fr hi hc)⟩
theorem kpD_b {n0 B1 B2 : Nat} {w : World} (W : World) (l : Nat) (o o' : Obj) (hl : w.heap.size ≤ l) (h : W.heap[l]? = some o) (ho : o.isCells = false) (_ : o.isWalk = false) : KpD n0 B1 B2 W (W.putObj l o') :=
  ⟨by simp, fun i cs t fr hi hc => by
    have : i ≠ l := fun e => by subst e; rw [h] at hc; cases hc; simp [Obj.isCells] at ho
    rw [World.putObj_heap_other this]; exact hc⟩
theorem kpD_of {n0 B1 B2 : Nat} {A C : World} (h : Below A.heap.size A C) : KpD n0 B1 B2 A C :=
  ⟨h.size, fun i cs t fr _ hc => by rw [h.block i (Array.getElem?_eq_some_iff.1 hc).1]; exact hc⟩
theorem kpD_cell {n0 B1 B2 : Nat} {A C : World} (h : KpD n0 B1 B2 A C) {p : Addr} {v : Value} (hp : p.block < n0 ∨ p.block = B1 ∨ p.block = B2) (hc : A.cell? p = some v) : C.cell? p = some v := by
  unfold World.cell? at hc ⊢
  cases e : A.heap[p.block]? with
  | none => rw [e] at hc; simp at hc
  | some o =>
    cases o with
    | cells cs t fr => rw [h.2 p.block cs t fr hp e]; rw [e] at hc; exact hc
    | _ => rw [e] at hc; simp at hc
theorem iatD_keep {n0 B1 B2 : Nat} {w w' : World} {v : Value} {zs : List Int} (h : IAt w n0 v zs) (hb : KpD n0 B1 B2 w w') : IAt w' n0 v zs := by
  obtain ⟨a, c, rfl, hc⟩ := h
  refine ⟨a, c, rfl, fun k hk => ?_⟩
  obtain ⟨b, off, e1, e2, e3⟩ := hc k hk
  exact ⟨b, off, e1, e2, kpD_cell hb (p := ⟨b, off + k, none⟩) (.inl e2) e3⟩
theorem latD_keep {n0 B1 B2 : Nat} {w w' : World} {v : Value} {ps : List Lb} (h : LAt w n0 v ps) (hb : KpD n0 B1 B2 w w') : LAt w' n0 v ps := by
  obtain ⟨a, c, e, h0, h⟩ := h
  refine ⟨a, c, e, h0, fun k hk => ?_⟩
  obtain ⟨b, off, e1, e2, x, c1, c2, c3, c4, c5, c6⟩ := h k hk
  exact ⟨b, off, e1, e2, x, kpD_cell hb (p := ⟨b, off + k * 4, none⟩) (.inl e2) c1, kpD_cell hb (p := ⟨b, off + k * 4 + 1, none⟩) (.inl e2) c2, kpD_cell hb (p := ⟨b, off + k * 4 + 2, none⟩) (.inl e2) c3, kpD_cell hb (p := ⟨b, off + k * 4 + 3, none⟩) (.inl e2) c4, iatD_keep c5 hb, c6⟩
theorem grown_ofL {A C : World} (h : Below A.heap.size A C) : A.grownBy C none := ⟨h.os, h.tape, h.output, h.size, fun i hi _ => h.block i hi⟩
theorem yield_boolL {e : Ending} {P Q : Prop} (h : (e = .returned (.bool true) ∧ P) ∨ (e = .returned (.bool false) ∧ Q)) : ∃ b : Bool, e = .returned (.bool b) ∧ (b = true → P) ∧ (b = false → Q) := by
  rcases h with ⟨h, p⟩ | ⟨h, q⟩
  · exact ⟨true, h, (fun _ => p), (fun k => nomatch k)⟩
  · exact ⟨false, h, (fun k => nomatch k), (fun _ => q)⟩
/-- The placed labels among the first ones. -/
def onL (zs : List Int) (k : Nat) : List Nat := (List.range k).filter (onB zs)
theorem onL_yes {zs : List Int} {k : Nat} (h : onB zs k = true) : onL zs (k + 1) = onL zs k ++ [k] := by simp [onL, List.range_succ, List.filter_append, h]
theorem onL_no {zs : List Int} {k : Nat} (h : onB zs k = false) : onL zs (k + 1) = onL zs k := by simp [onL, List.range_succ, List.filter_append, h]
theorem onL_len (zs : List Int) (k : Nat) : (onL zs k).length ≤ k := by
  have := List.length_filter_le (onB zs) (List.range k)
  simpa [onL] using this
theorem onL_prefix {zs : List Int} {k N : Nat} (h : k ≤ N) : onL zs k <+: onL zs N := by
  unfold onL
  have e : List.range N = List.range k ++ (List.range' k (N - k)) := by
    rw [List.range_eq_range', List.range_eq_range']
    have := List.range'_append_1 (s := 0) (m := k) (n := N - k)
    rw [Nat.zero_add] at this
    rw [this, show k + (N - k) = N by omega]
  rw [e, List.filter_append]
  exact ⟨_, rfl⟩
def encP (ps : List Lb) (zs : List Int) (k : Nat) : Array Value := #[.int .i64 (k : Int), sv (spanL (lbAt ps k) (sAt ps zs k))]
abbrev Plc (ps : List Lb) (zs : List Int) := { k : Nat // k < ps.length ∧ onB zs k = true }
set_option maxRecDepth 100000 in
set_option maxHeartbeats 4000000 in
theorem placed1_in (l n n0 B1 B2 : Nat) (v u : Value) (ps : List Lb) (zs : List Int) (J Jx : List Nat → World → Prop) (habs : ∀ s W W', J s W → Below W.heap.size W W' → J s W') (hp : ps.length ≤ 8) (hzl : zs.length = ps.length)
    (hf : ∀ k, k < ps.length → oneL (lbAt ps k) = true ∧ -1 ≤ zAt zs k ∧ zAt zs k < ((lbAt ps k).2.2.1.length : Int))
    (hY : ∀ pre x W, x < ps.length → onB zs x = true → J pre W → pre.length < ps.length → YieldAt Fence.wide (n - 1) Try.prog l (encP ps zs x) W fun e W' =>
      (e = .returned (.bool true) ∧ J (pre ++ [x]) W' ∧ KpD n0 B1 B2 W W') ∨ (e = .returned (.bool false) ∧ Jx (pre ++ [x]) W'))
    (W : World) (hB1 : W.cell? ⟨B1, 0, none⟩ = some v) (hB2 : W.cell? ⟨B2, 0, none⟩ = some u) (hv : LAt W n0 v ps) (hu : IAt W n0 u zs) (hn0 : n0 ≤ W.heap.size) (hJ : J [] W) :
    CallsIn Fence.wide n Try.prog 121 #[.func (.yield l) #[] #[], .pointer (some ⟨B1, 0, none⟩), .pointer (some ⟨B2, 0, none⟩)] W fun e W' => (∃ r, e = .returned r) ∧
      ((∃ ys, ys = onL zs ps.length ∧ J ys W') ∨ (∃ pre, pre <+: onL zs ps.length ∧ Jx pre W')) := by
  have HF := Lib.hid hf
  have HY := Lib.hid hY
  have HA := Lib.hid habs
  have HV := Lib.hid hv
  have HU := Lib.hid hu
  have HZL := Lib.hid hzl
  clear hY habs hf hzl
  obtain ⟨a, c, rfl, _⟩ := hv
  obtain ⟨au, cu, rfl, _⟩ := hu
  have EU := Lib.hid (show Value.slice au zs.length cu = Value.slice au ps.length cu by rw [HZL.out])
  rw [EU.out] at hB2 HU
  have hp2 : (ps.length : Int) ≤ 8 := by omega
  unfold encP sv at HY
  refine callsIn_of_wp Try.func121 rfl trivial ?_ rfl
  simp only [Try.ntmps121, List.size_toArray, List.length_cons, List.length_nil, Nat.reduceAdd, Nat.reduceSub, Array.replicate_succ, Array.replicate_zero, List.push_toArray, List.append_toArray, List.nil_append, List.cons_append]
  gi_wp2
  gi_loopw [8] (fun p wr => ∃ k : Nat, p = .int .i64 (k : Int) ∧ k ≤ ps.length ∧ wr.cell? ⟨B1, 0, none⟩ = some (.slice a ps.length c) ∧ wr.cell? ⟨B2, 0, none⟩ = some (.slice au ps.length cu) ∧ LAt wr n0 (.slice a ps.length c) ps ∧ IAt wr n0 (.slice au ps.length cu) zs ∧ n0 ≤ wr.heap.size ∧ J (onL zs k) wr) (fun p _ => ps.length - (intOf p).toNat)
  case atStart => exact ⟨0, rfl, Nat.zero_le _, hB1, hB2, HV.out, HU.out, hn0, hJ⟩
  case round =>
    clear hB1 hB2
    obtain ⟨k, rfl, hk, hB1, hB2, hv, hu, hn0', hJ⟩ := hrel
    have HVk := Lib.hid hv
    have HUk := Lib.hid hu
    have HJ := Lib.hid hJ
    clear hJ
    by_cases hlt : k < ps.length
    · obtain ⟨a', c', e, hcl⟩ := lat_k hv
      injection e with e1' e2' e3'
      subst e1' e3'
      clear e2'
      obtain ⟨b, off, rfl, hbs, hck⟩ := hcl k hlt
      obtain ⟨x, c1, c2, c3, c4, ⟨ax, cx, rfl, hsx⟩, _⟩ := id hck
      obtain ⟨a2, c2', e, hcu⟩ := hu
      injection e with e1' e2' e3'
      subst e1' e3'
      clear e2'
      obtain ⟨b2, off2, rfl, hbs2, d1⟩ := hcu k (by have := HZL.out; omega)
      have hk0 : 0 ≤ (k : Int) := by omega
      have hk1 : (k : Int) < (ps.length : Int) := by omega
      obtain ⟨hone, hz0, hz1⟩ := HF.out k hlt
      have F1 := oneL_facts hone
      have hmx : Try.prog.follows .mixedOrders = true := by kernel_rfl
      have l1 : b < wr.heap.size := by omega
      have l2 : b2 < wr.heap.size := by omega
      have l3 : B1 < wr.heap.size := World.block_lt_of_cell? _ _ hB1
      have l4 : B2 < wr.heap.size := World.block_lt_of_cell? _ _ hB2
      by_cases hon : 0 ≤ zAt zs k
      · obtain ⟨m, hm⟩ : ∃ m : Nat, zAt zs k = (m : Int) := ⟨(zAt zs k).toNat, by omega⟩
        rw [hm] at hz1 d1
        obtain ⟨bs, os, rfl, hbs3, t3⟩ := hsx m (by omega)
        have SB : 0 ≤ sAt ps zs k ∧ sAt ps zs k ≤ 1000 := by
          have := F1.2.2.2.2 m (by omega)
          rw [sAt, hm]; simpa using this
        have t3' : wr.cell? ⟨bs, os + m, none⟩ = some (.int .i64 (sAt ps zs k)) := by rw [t3, sAt, hm]; simp
        have hob : onB zs k = true := by simp [onB, hm]
        have YF := Lib.hid (fun W' (h : Below wr.heap.size wr W') => HY.out (onL zs k) k W' hlt hob (HA.out _ _ _ HJ.out h) (by have := onL_len zs k; omega))
        rw [← onL_yes hob] at YF
        have SF := Lib.hid (fun W' => spanFrom_any (lbAt ps k) (.slice (some ⟨bs, os, none⟩) (lbAt ps k).2.2.1.length cx) (sAt ps zs k) W' ⟨_, _, _, rfl⟩ (by omega) F1.2.2.1.2 SB.1 SB.2)
        have l5 : bs < wr.heap.size := by omega
        have m0 : 0 ≤ (m : Int) := by omega
        have hm9 : ((m : Int) == -1) = false := by simp <;> omega
        have hm8 : ¬ (m : Int) = -1 := by omega
        unfold sv at SF
        generalize spanL (lbAt ps k) (sAt ps zs k) = sp at SF YF
        generalize sAt ps zs k = x0 at t3' SF
        generalize hlb : lbAt ps k = q at *
        obtain ⟨r, wd, sts, t⟩ := q
        simp only at c1 c2 c3 c4 hz1 SF
        generalize sts.length = L at c3 hz1 SF
        clear t3 hsx hck hcl F1 SB hone hon hm hz0 hob hlb
        gi_wp2
        -- REGION
        refine wpIn_region_any hmx ?_
        change wpAnyIn _ _ _ _ _ _ 21 #[false, false, false, false, false, false, false, false, false, false, false, false, false, false, false, false, false, false, false, false, false] _ (World.drew _)
        refine wpAnyIn_take (i := 1) (v := .int .i64 (k : Int)) rfl rfl (by kernel_rfl) (by kernel_rfl) (by kernel_rfl) (fun _ _ _ h => h) ⟨Or.inl ⟨by rfl, (by intro U; go_simp)⟩, fun _ => rfl⟩ ?_
        simp only [Act.put, List.getElem_toArray, List.getElem_cons_zero, List.getElem_cons_succ, List.setIfInBounds_toArray, List.set_cons_zero, List.set_cons_succ]
        refine wpAnyIn_ready (rs := [0]) (by kernel_rfl) (by simp) ?_
        refine AllReadyIn.cons rfl (fun K hK => ?_) ?_
        · go_simp
          refine hK _ _ ?_
          clear hK K
          refine wpAnyIn_take (i := 2) (v := .pointer (some ⟨b2, off2 + k, none⟩)) rfl rfl (by kernel_rfl) (by kernel_rfl) (by kernel_rfl) (fun _ _ _ h => h) ⟨Or.inl ⟨by rfl, (by intro U; go_simp)⟩, fun _ => rfl⟩ ?_
          simp only [Act.put, List.getElem_toArray, List.getElem_cons_zero, List.getElem_cons_succ, List.setIfInBounds_toArray, List.set_cons_zero, List.set_cons_succ]
          refine wpAnyIn_ready (rs := [3]) (by kernel_rfl) (by simp) ?_
          refine AllReadyIn.cons rfl (fun K hK => ?_) ?_
          · go_simp
            refine hK _ _ ?_
            clear hK K
            refine wpAnyIn_take (i := 4) (v := .bool true) rfl rfl (by kernel_rfl) (by kernel_rfl) (by kernel_rfl) (fun _ _ _ h => h) ⟨Or.inl ⟨by rfl, (by intro U; go_simp)⟩, fun _ => rfl⟩ ?_
            simp only [Act.put, List.getElem_toArray, List.getElem_cons_zero, List.getElem_cons_succ, List.setIfInBounds_toArray, List.set_cons_zero, List.set_cons_succ]
            refine wpAnyIn_take (i := 5) (v := .bool true) rfl rfl (by kernel_rfl) (by kernel_rfl) (by kernel_rfl) (fun _ _ _ h => h) ⟨Or.inl ⟨by rfl, (by intro U; go_simp)⟩, fun _ => rfl⟩ ?_
            simp only [Act.put, List.getElem_toArray, List.getElem_cons_zero, List.getElem_cons_succ, List.setIfInBounds_toArray, List.set_cons_zero, List.set_cons_succ]
            refine wpAnyIn_take (i := 6) (v := .func (.yield l) #[] #[]) rfl rfl (by kernel_rfl) (by kernel_rfl) (by kernel_rfl) (fun _ _ _ h => h) ⟨Or.inl ⟨by rfl, (by intro U; go_simp)⟩, fun _ => rfl⟩ ?_
            simp only [Act.put, List.getElem_toArray, List.getElem_cons_zero, List.getElem_cons_succ, List.setIfInBounds_toArray, List.set_cons_zero, List.set_cons_succ]
            refine wpAnyIn_take (i := 7) (v := .int .i64 (k : Int)) rfl rfl (by kernel_rfl) (by kernel_rfl) (by kernel_rfl) (fun _ _ _ h => h) ⟨Or.inl ⟨by rfl, (by intro U; go_simp)⟩, fun _ => rfl⟩ ?_
            simp only [Act.put, List.getElem_toArray, List.getElem_cons_zero, List.getElem_cons_succ, List.setIfInBounds_toArray, List.set_cons_zero, List.set_cons_succ]
            refine wpAnyIn_take (i := 9) (v := .pointer (some ⟨wr.heap.size, 2, none⟩)) rfl rfl (by kernel_rfl) (by kernel_rfl) (by kernel_rfl) (fun _ _ _ h => h) ⟨Or.inl ⟨by rfl, (by intro U; go_simp)⟩, fun _ => rfl⟩ ?_
            simp only [Act.put, List.getElem_toArray, List.getElem_cons_zero, List.getElem_cons_succ, List.setIfInBounds_toArray, List.set_cons_zero, List.set_cons_succ]
            refine wpAnyIn_take (i := 12) (v := .int .i64 (k : Int)) rfl rfl (by kernel_rfl) (by kernel_rfl) (by kernel_rfl) (fun _ _ _ h => h) ⟨Or.inl ⟨by rfl, (by intro U; go_simp)⟩, fun _ => rfl⟩ ?_
            simp only [Act.put, List.getElem_toArray, List.getElem_cons_zero, List.getElem_cons_succ, List.setIfInBounds_toArray, List.set_cons_zero, List.set_cons_succ]
            refine wpAnyIn_ready (rs := [8, 10, 11]) (by kernel_rfl) (by simp) ?_
            refine AllReadyIn.cons rfl (fun K hK => ?_) ?_
            · go_simp
              refine hK _ _ ?_
              clear hK K
              refine wpAnyIn_ready (rs := [10, 11]) (by kernel_rfl) (by simp) ?_
              refine AllReadyIn.cons rfl (fun K hK => ?_) ?_
              · go_simp
                refine hK _ _ ?_
                clear hK K
                refine wpAnyIn_ready (rs := [11]) (by kernel_rfl) (by simp) ?_
                refine AllReadyIn.cons rfl (fun K hK => ?_) ?_
                · go_simp
                  refine hK _ _ ?_
                  clear hK K
                  refine wpAnyIn_take (i := 13) (v := .pointer (some ⟨b2, off2 + k, none⟩)) rfl rfl (by kernel_rfl) (by kernel_rfl) (by kernel_rfl) (fun _ _ _ h => h) ⟨Or.inl ⟨by rfl, (by intro U; go_simp)⟩, fun _ => rfl⟩ ?_
                  simp only [Act.put, List.getElem_toArray, List.getElem_cons_zero, List.getElem_cons_succ, List.setIfInBounds_toArray, List.set_cons_zero, List.set_cons_succ]
                  refine wpAnyIn_ready (rs := [14]) (by kernel_rfl) (by simp) ?_
                  refine AllReadyIn.cons rfl (fun K hK => ?_) ?_
                  · go_simp
                    refine hK _ _ ?_
                    clear hK K
                    refine wpAnyIn_take (i := 15) (v := .pointer (some ⟨bs, os + m, none⟩)) rfl rfl (by kernel_rfl) (by kernel_rfl) (by kernel_rfl) (fun _ _ _ h => h) ⟨Or.inl ⟨by rfl, (by intro U; go_simp)⟩, fun _ => rfl⟩ ?_
                    simp only [Act.put, List.getElem_toArray, List.getElem_cons_zero, List.getElem_cons_succ, List.setIfInBounds_toArray, List.set_cons_zero, List.set_cons_succ]
                    refine wpAnyIn_ready (rs := [16]) (by kernel_rfl) (by simp) ?_
                    refine AllReadyIn.cons rfl (fun K hK => ?_) ?_
                    · go_simp
                      refine hK _ _ ?_
                      clear hK K
                      refine wpAnyIn_ready (rs := [17]) (by kernel_rfl) (by simp) (AllReadyIn.cons rfl (fun K hK => ?_) AllReadyIn.nil)
                      go_simp
                      refine ⟨trivial, (fun h => by cases h), (callsIn_wide.2 (SF.out _)).mono ?_⟩
                      rintro e W3 ⟨rfl, o1, o2, hW3⟩
                      refine hK _ _ ?_
                      clear hK K
                      have bw3 : Below wr.heap.size wr W3 := by
                        rw [hW3]
                        repeat (first | exact Below.refl _ _ | refine Below.drew ?_ | refine Below.alloc ?_ (by simp <;> omega) _)
                      clear hW3
                      obtain ⟨fn, tmps, assign, body, hy, hR⟩ := YF.out W3 bw3
                      refine wpAnyIn_ready (rs := [18]) (by kernel_rfl) (by simp) (AllReadyIn.cons rfl (fun K hK => ?_) AllReadyIn.nil)
                      go_simp
                      refine ⟨(fun h => by cases h), hR.mono ?_⟩
                      rintro e W4 h4
                      obtain ⟨bb, rfl, ht, hf⟩ := yield_boolL h4
                      refine hK _ _ ?_
                      clear hK K h4
                      refine wpAnyIn_take (i := 19) (v := .bool (!bb)) rfl rfl (by kernel_rfl) (by kernel_rfl) (by kernel_rfl) (fun _ _ _ h => h) ⟨Or.inl ⟨by rfl, (by intro U; go_simp)⟩, fun _ => rfl⟩ ?_
                      simp only [Act.put, List.getElem_toArray, List.getElem_cons_zero, List.getElem_cons_succ, List.setIfInBounds_toArray, List.set_cons_zero, List.set_cons_succ]
                      refine wpAnyIn_take (i := 20) (v := .bool (!bb)) rfl rfl (by kernel_rfl) (by kernel_rfl) (by kernel_rfl) (fun _ _ _ h => h) ⟨Or.inl ⟨by rfl, (by intro U; go_simp)⟩, fun _ => rfl⟩ ?_
                      simp only [Act.put, List.getElem_toArray, List.getElem_cons_zero, List.getElem_cons_succ, List.setIfInBounds_toArray, List.set_cons_zero, List.set_cons_succ]
                      refine wpAnyIn_done (by kernel_rfl) ?_ _
                      cases bb with
                      | true =>
                        obtain ⟨hJ3, hk3⟩ := ht rfl
                        have hk4 : KpD n0 B1 B2 wr W4 := kpD_t (kpD_of bw3) hk3
                        have hB1' := kpD_cell hk4 (p := ⟨B1, 0, none⟩) (.inr (.inl rfl)) hB1
                        have hB2' := kpD_cell hk4 (p := ⟨B2, 0, none⟩) (.inr (.inr rfl)) hB2
                        have hv' := latD_keep HVk.out hk4
                        have hu' := iatD_keep HUk.out hk4
                        have hn' := Nat.le_trans hn0' hk4.1
                        clear ht hf hk3
                        gi_wp2
                        go_roundw
                        case rel => exact ⟨k + 1, by go_num, by omega, hB1', hB2', hv', hu', hn', hJ3⟩
                        case measure => simp [intOf]; omega
                      | false =>
                        have hJx3 := hf rfl
                        clear ht hf
                        gi_wp2
                        refine bodyPost_ret (results_none rfl _ _ _) rfl ?_
                        exact ⟨⟨_, rfl⟩, .inr ⟨_, onL_prefix (by omega), hJx3⟩⟩
                    exact AllReadyIn.nil
                  exact AllReadyIn.nil
                exact AllReadyIn.nil
              refine AllReadyIn.cons rfl (fun K hK => ?_) ?_
              · go_simp
                refine hK _ _ ?_
                clear hK K
                refine wpAnyIn_take (i := 13) (v := .pointer (some ⟨b2, off2 + k, none⟩)) rfl rfl (by kernel_rfl) (by kernel_rfl) (by kernel_rfl) (fun _ _ _ h => h) ⟨Or.inl ⟨by rfl, (by intro U; go_simp)⟩, fun _ => rfl⟩ ?_
                simp only [Act.put, List.getElem_toArray, List.getElem_cons_zero, List.getElem_cons_succ, List.setIfInBounds_toArray, List.set_cons_zero, List.set_cons_succ]
                refine wpAnyIn_ready (rs := [10, 14]) (by kernel_rfl) (by simp) ?_
                refine AllReadyIn.cons rfl (fun K hK => ?_) ?_
                · go_simp
                  refine hK _ _ ?_
                  clear hK K
                  refine wpAnyIn_ready (rs := [14]) (by kernel_rfl) (by simp) ?_
                  refine AllReadyIn.cons rfl (fun K hK => ?_) ?_
                  · go_simp
                    refine hK _ _ ?_
                    clear hK K
                    refine wpAnyIn_take (i := 15) (v := .pointer (some ⟨bs, os + m, none⟩)) rfl rfl (by kernel_rfl) (by kernel_rfl) (by kernel_rfl) (fun _ _ _ h => h) ⟨Or.inl ⟨by rfl, (by intro U; go_simp)⟩, fun _ => rfl⟩ ?_
                    simp only [Act.put, List.getElem_toArray, List.getElem_cons_zero, List.getElem_cons_succ, List.setIfInBounds_toArray, List.set_cons_zero, List.set_cons_succ]
                    refine wpAnyIn_ready (rs := [16]) (by kernel_rfl) (by simp) ?_
                    refine AllReadyIn.cons rfl (fun K hK => ?_) ?_
                    · go_simp
                      refine hK _ _ ?_
                      clear hK K
                      refine wpAnyIn_ready (rs := [17]) (by kernel_rfl) (by simp) (AllReadyIn.cons rfl (fun K hK => ?_) AllReadyIn.nil)
                      go_simp
                      refine ⟨trivial, (fun h => by cases h), (callsIn_wide.2 (SF.out _)).mono ?_⟩
                      rintro e W3 ⟨rfl, o1, o2, hW3⟩
                      refine hK _ _ ?_
                      clear hK K
                      have bw3 : Below wr.heap.size wr W3 := by
                        rw [hW3]
                        repeat (first | exact Below.refl _ _ | refine Below.drew ?_ | refine Below.alloc ?_ (by simp <;> omega) _)
                      clear hW3
                      obtain ⟨fn, tmps, assign, body, hy, hR⟩ := YF.out W3 bw3
                      refine wpAnyIn_ready (rs := [18]) (by kernel_rfl) (by simp) (AllReadyIn.cons rfl (fun K hK => ?_) AllReadyIn.nil)
                      go_simp
                      refine ⟨(fun h => by cases h), hR.mono ?_⟩
                      rintro e W4 h4
                      obtain ⟨bb, rfl, ht, hf⟩ := yield_boolL h4
                      refine hK _ _ ?_
                      clear hK K h4
                      refine wpAnyIn_take (i := 19) (v := .bool (!bb)) rfl rfl (by kernel_rfl) (by kernel_rfl) (by kernel_rfl) (fun _ _ _ h => h) ⟨Or.inl ⟨by rfl, (by intro U; go_simp)⟩, fun _ => rfl⟩ ?_
                      simp only [Act.put, List.getElem_toArray, List.getElem_cons_zero, List.getElem_cons_succ, List.setIfInBounds_toArray, List.set_cons_zero, List.set_cons_succ]
                      refine wpAnyIn_take (i := 20) (v := .bool (!bb)) rfl rfl (by kernel_rfl) (by kernel_rfl) (by kernel_rfl) (fun _ _ _ h => h) ⟨Or.inl ⟨by rfl, (by intro U; go_simp)⟩, fun _ => rfl⟩ ?_
                      simp only [Act.put, List.getElem_toArray, List.getElem_cons_zero, List.getElem_cons_succ, List.setIfInBounds_toArray, List.set_cons_zero, List.set_cons_succ]
                      refine wpAnyIn_done (by kernel_rfl) ?_ _
                      cases bb with
                      | true =>
                        obtain ⟨hJ3, hk3⟩ := ht rfl
                        have hk4 : KpD n0 B1 B2 wr W4 := kpD_t (kpD_of bw3) hk3
                        have hB1' := kpD_cell hk4 (p := ⟨B1, 0, none⟩) (.inr (.inl rfl)) hB1
                        have hB2' := kpD_cell hk4 (p := ⟨B2, 0, none⟩) (.inr (.inr rfl)) hB2
                        have hv' := latD_keep HVk.out hk4
                        have hu' := iatD_keep HUk.out hk4
                        have hn' := Nat.le_trans hn0' hk4.1
                        clear ht hf hk3
                        gi_wp2
                        go_roundw
                        case rel => exact ⟨k + 1, by go_num, by omega, hB1', hB2', hv', hu', hn', hJ3⟩
                        case measure => simp [intOf]; omega
                      | false =>
                        have hJx3 := hf rfl
                        clear ht hf
                        gi_wp2
                        refine bodyPost_ret (results_none rfl _ _ _) rfl ?_
                        exact ⟨⟨_, rfl⟩, .inr ⟨_, onL_prefix (by omega), hJx3⟩⟩
                    exact AllReadyIn.nil
                  exact AllReadyIn.nil
                refine AllReadyIn.cons rfl (fun K hK => ?_) ?_
                · go_simp
                  refine hK _ _ ?_
                  clear hK K
                  refine wpAnyIn_ready (rs := [10]) (by kernel_rfl) (by simp) ?_
                  refine AllReadyIn.cons rfl (fun K hK => ?_) ?_
                  · go_simp
                    refine hK _ _ ?_
                    clear hK K
                    refine wpAnyIn_take (i := 15) (v := .pointer (some ⟨bs, os + m, none⟩)) rfl rfl (by kernel_rfl) (by kernel_rfl) (by kernel_rfl) (fun _ _ _ h => h) ⟨Or.inl ⟨by rfl, (by intro U; go_simp)⟩, fun _ => rfl⟩ ?_
                    simp only [Act.put, List.getElem_toArray, List.getElem_cons_zero, List.getElem_cons_succ, List.setIfInBounds_toArray, List.set_cons_zero, List.set_cons_succ]
                    refine wpAnyIn_ready (rs := [16]) (by kernel_rfl) (by simp) ?_
                    refine AllReadyIn.cons rfl (fun K hK => ?_) ?_
                    · go_simp
                      refine hK _ _ ?_
                      clear hK K
                      refine wpAnyIn_ready (rs := [17]) (by kernel_rfl) (by simp) (AllReadyIn.cons rfl (fun K hK => ?_) AllReadyIn.nil)
                      go_simp
                      refine ⟨trivial, (fun h => by cases h), (callsIn_wide.2 (SF.out _)).mono ?_⟩
                      rintro e W3 ⟨rfl, o1, o2, hW3⟩
                      refine hK _ _ ?_
                      clear hK K
                      have bw3 : Below wr.heap.size wr W3 := by
                        rw [hW3]
                        repeat (first | exact Below.refl _ _ | refine Below.drew ?_ | refine Below.alloc ?_ (by simp <;> omega) _)
                      clear hW3
                      obtain ⟨fn, tmps, assign, body, hy, hR⟩ := YF.out W3 bw3
                      refine wpAnyIn_ready (rs := [18]) (by kernel_rfl) (by simp) (AllReadyIn.cons rfl (fun K hK => ?_) AllReadyIn.nil)
                      go_simp
                      refine ⟨(fun h => by cases h), hR.mono ?_⟩
                      rintro e W4 h4
                      obtain ⟨bb, rfl, ht, hf⟩ := yield_boolL h4
                      refine hK _ _ ?_
                      clear hK K h4
                      refine wpAnyIn_take (i := 19) (v := .bool (!bb)) rfl rfl (by kernel_rfl) (by kernel_rfl) (by kernel_rfl) (fun _ _ _ h => h) ⟨Or.inl ⟨by rfl, (by intro U; go_simp)⟩, fun _ => rfl⟩ ?_
                      simp only [Act.put, List.getElem_toArray, List.getElem_cons_zero, List.getElem_cons_succ, List.setIfInBounds_toArray, List.set_cons_zero, List.set_cons_succ]
                      refine wpAnyIn_take (i := 20) (v := .bool (!bb)) rfl rfl (by kernel_rfl) (by kernel_rfl) (by kernel_rfl) (fun _ _ _ h => h) ⟨Or.inl ⟨by rfl, (by intro U; go_simp)⟩, fun _ => rfl⟩ ?_
                      simp only [Act.put, List.getElem_toArray, List.getElem_cons_zero, List.getElem_cons_succ, List.setIfInBounds_toArray, List.set_cons_zero, List.set_cons_succ]
                      refine wpAnyIn_done (by kernel_rfl) ?_ _
                      cases bb with
                      | true =>
                        obtain ⟨hJ3, hk3⟩ := ht rfl
                        have hk4 : KpD n0 B1 B2 wr W4 := kpD_t (kpD_of bw3) hk3
                        have hB1' := kpD_cell hk4 (p := ⟨B1, 0, none⟩) (.inr (.inl rfl)) hB1
                        have hB2' := kpD_cell hk4 (p := ⟨B2, 0, none⟩) (.inr (.inr rfl)) hB2
                        have hv' := latD_keep HVk.out hk4
                        have hu' := iatD_keep HUk.out hk4
                        have hn' := Nat.le_trans hn0' hk4.1
                        clear ht hf hk3
                        gi_wp2
                        go_roundw
                        case rel => exact ⟨k + 1, by go_num, by omega, hB1', hB2', hv', hu', hn', hJ3⟩
                        case measure => simp [intOf]; omega
                      | false =>
                        have hJx3 := hf rfl
                        clear ht hf
                        gi_wp2
                        refine bodyPost_ret (results_none rfl _ _ _) rfl ?_
                        exact ⟨⟨_, rfl⟩, .inr ⟨_, onL_prefix (by omega), hJx3⟩⟩
                    exact AllReadyIn.nil
                  exact AllReadyIn.nil
                exact AllReadyIn.nil
              exact AllReadyIn.nil
            refine AllReadyIn.cons rfl (fun K hK => ?_) ?_
            · go_simp
              refine hK _ _ ?_
              clear hK K
              refine wpAnyIn_ready (rs := [8, 11]) (by kernel_rfl) (by simp) ?_
              refine AllReadyIn.cons rfl (fun K hK => ?_) ?_
              · go_simp
                refine hK _ _ ?_
                clear hK K
                refine wpAnyIn_ready (rs := [11]) (by kernel_rfl) (by simp) ?_
                refine AllReadyIn.cons rfl (fun K hK => ?_) ?_
                · go_simp
                  refine hK _ _ ?_
                  clear hK K
                  refine wpAnyIn_take (i := 13) (v := .pointer (some ⟨b2, off2 + k, none⟩)) rfl rfl (by kernel_rfl) (by kernel_rfl) (by kernel_rfl) (fun _ _ _ h => h) ⟨Or.inl ⟨by rfl, (by intro U; go_simp)⟩, fun _ => rfl⟩ ?_
                  simp only [Act.put, List.getElem_toArray, List.getElem_cons_zero, List.getElem_cons_succ, List.setIfInBounds_toArray, List.set_cons_zero, List.set_cons_succ]
                  refine wpAnyIn_ready (rs := [14]) (by kernel_rfl) (by simp) ?_
                  refine AllReadyIn.cons rfl (fun K hK => ?_) ?_
                  · go_simp
                    refine hK _ _ ?_
                    clear hK K
                    refine wpAnyIn_take (i := 15) (v := .pointer (some ⟨bs, os + m, none⟩)) rfl rfl (by kernel_rfl) (by kernel_rfl) (by kernel_rfl) (fun _ _ _ h => h) ⟨Or.inl ⟨by rfl, (by intro U; go_simp)⟩, fun _ => rfl⟩ ?_
                    simp only [Act.put, List.getElem_toArray, List.getElem_cons_zero, List.getElem_cons_succ, List.setIfInBounds_toArray, List.set_cons_zero, List.set_cons_succ]
                    refine wpAnyIn_ready (rs := [16]) (by kernel_rfl) (by simp) ?_
                    refine AllReadyIn.cons rfl (fun K hK => ?_) ?_
                    · go_simp
                      refine hK _ _ ?_
                      clear hK K
                      refine wpAnyIn_ready (rs := [17]) (by kernel_rfl) (by simp) (AllReadyIn.cons rfl (fun K hK => ?_) AllReadyIn.nil)
                      go_simp
                      refine ⟨trivial, (fun h => by cases h), (callsIn_wide.2 (SF.out _)).mono ?_⟩
                      rintro e W3 ⟨rfl, o1, o2, hW3⟩
                      refine hK _ _ ?_
                      clear hK K
                      have bw3 : Below wr.heap.size wr W3 := by
                        rw [hW3]
                        repeat (first | exact Below.refl _ _ | refine Below.drew ?_ | refine Below.alloc ?_ (by simp <;> omega) _)
                      clear hW3
                      obtain ⟨fn, tmps, assign, body, hy, hR⟩ := YF.out W3 bw3
                      refine wpAnyIn_ready (rs := [18]) (by kernel_rfl) (by simp) (AllReadyIn.cons rfl (fun K hK => ?_) AllReadyIn.nil)
                      go_simp
                      refine ⟨(fun h => by cases h), hR.mono ?_⟩
                      rintro e W4 h4
                      obtain ⟨bb, rfl, ht, hf⟩ := yield_boolL h4
                      refine hK _ _ ?_
                      clear hK K h4
                      refine wpAnyIn_take (i := 19) (v := .bool (!bb)) rfl rfl (by kernel_rfl) (by kernel_rfl) (by kernel_rfl) (fun _ _ _ h => h) ⟨Or.inl ⟨by rfl, (by intro U; go_simp)⟩, fun _ => rfl⟩ ?_
                      simp only [Act.put, List.getElem_toArray, List.getElem_cons_zero, List.getElem_cons_succ, List.setIfInBounds_toArray, List.set_cons_zero, List.set_cons_succ]
                      refine wpAnyIn_take (i := 20) (v := .bool (!bb)) rfl rfl (by kernel_rfl) (by kernel_rfl) (by kernel_rfl) (fun _ _ _ h => h) ⟨Or.inl ⟨by rfl, (by intro U; go_simp)⟩, fun _ => rfl⟩ ?_
                      simp only [Act.put, List.getElem_toArray, List.getElem_cons_zero, List.getElem_cons_succ, List.setIfInBounds_toArray, List.set_cons_zero, List.set_cons_succ]
                      refine wpAnyIn_done (by kernel_rfl) ?_ _
                      cases bb with
                      | true =>
                        obtain ⟨hJ3, hk3⟩ := ht rfl
                        have hk4 : KpD n0 B1 B2 wr W4 := kpD_t (kpD_of bw3) hk3
                        have hB1' := kpD_cell hk4 (p := ⟨B1, 0, none⟩) (.inr (.inl rfl)) hB1
                        have hB2' := kpD_cell hk4 (p := ⟨B2, 0, none⟩) (.inr (.inr rfl)) hB2
                        have hv' := latD_keep HVk.out hk4
                        have hu' := iatD_keep HUk.out hk4
                        have hn' := Nat.le_trans hn0' hk4.1
                        clear ht hf hk3
                        gi_wp2
                        go_roundw
                        case rel => exact ⟨k + 1, by go_num, by omega, hB1', hB2', hv', hu', hn', hJ3⟩
                        case measure => simp [intOf]; omega
                      | false =>
                        have hJx3 := hf rfl
                        clear ht hf
                        gi_wp2
                        refine bodyPost_ret (results_none rfl _ _ _) rfl ?_
                        exact ⟨⟨_, rfl⟩, .inr ⟨_, onL_prefix (by omega), hJx3⟩⟩
                    exact AllReadyIn.nil
                  exact AllReadyIn.nil
                exact AllReadyIn.nil
              refine AllReadyIn.cons rfl (fun K hK => ?_) ?_
              · go_simp
                refine hK _ _ ?_
                clear hK K
                refine wpAnyIn_take (i := 13) (v := .pointer (some ⟨b2, off2 + k, none⟩)) rfl rfl (by kernel_rfl) (by kernel_rfl) (by kernel_rfl) (fun _ _ _ h => h) ⟨Or.inl ⟨by rfl, (by intro U; go_simp)⟩, fun _ => rfl⟩ ?_
                simp only [Act.put, List.getElem_toArray, List.getElem_cons_zero, List.getElem_cons_succ, List.setIfInBounds_toArray, List.set_cons_zero, List.set_cons_succ]
                refine wpAnyIn_ready (rs := [8, 14]) (by kernel_rfl) (by simp) ?_
                refine AllReadyIn.cons rfl (fun K hK => ?_) ?_
                · go_simp
                  refine hK _ _ ?_
                  clear hK K
                  refine wpAnyIn_ready (rs := [14]) (by kernel_rfl) (by simp) ?_
                  refine AllReadyIn.cons rfl (fun K hK => ?_) ?_
                  · go_simp
                    refine hK _ _ ?_
                    clear hK K
                    refine wpAnyIn_take (i := 15) (v := .pointer (some ⟨bs, os + m, none⟩)) rfl rfl (by kernel_rfl) (by kernel_rfl) (by kernel_rfl) (fun _ _ _ h => h) ⟨Or.inl ⟨by rfl, (by intro U; go_simp)⟩, fun _ => rfl⟩ ?_
                    simp only [Act.put, List.getElem_toArray, List.getElem_cons_zero, List.getElem_cons_succ, List.setIfInBounds_toArray, List.set_cons_zero, List.set_cons_succ]
                    refine wpAnyIn_ready (rs := [16]) (by kernel_rfl) (by simp) ?_
                    refine AllReadyIn.cons rfl (fun K hK => ?_) ?_
                    · go_simp
                      refine hK _ _ ?_
                      clear hK K
                      refine wpAnyIn_ready (rs := [17]) (by kernel_rfl) (by simp) (AllReadyIn.cons rfl (fun K hK => ?_) AllReadyIn.nil)
                      go_simp
                      refine ⟨trivial, (fun h => by cases h), (callsIn_wide.2 (SF.out _)).mono ?_⟩
                      rintro e W3 ⟨rfl, o1, o2, hW3⟩
                      refine hK _ _ ?_
                      clear hK K
                      have bw3 : Below wr.heap.size wr W3 := by
                        rw [hW3]
                        repeat (first | exact Below.refl _ _ | refine Below.drew ?_ | refine Below.alloc ?_ (by simp <;> omega) _)
                      clear hW3
                      obtain ⟨fn, tmps, assign, body, hy, hR⟩ := YF.out W3 bw3
                      refine wpAnyIn_ready (rs := [18]) (by kernel_rfl) (by simp) (AllReadyIn.cons rfl (fun K hK => ?_) AllReadyIn.nil)
                      go_simp
                      refine ⟨(fun h => by cases h), hR.mono ?_⟩
                      rintro e W4 h4
                      obtain ⟨bb, rfl, ht, hf⟩ := yield_boolL h4
                      refine hK _ _ ?_
                      clear hK K h4
                      refine wpAnyIn_take (i := 19) (v := .bool (!bb)) rfl rfl (by kernel_rfl) (by kernel_rfl) (by kernel_rfl) (fun _ _ _ h => h) ⟨Or.inl ⟨by rfl, (by intro U; go_simp)⟩, fun _ => rfl⟩ ?_
                      simp only [Act.put, List.getElem_toArray, List.getElem_cons_zero, List.getElem_cons_succ, List.setIfInBounds_toArray, List.set_cons_zero, List.set_cons_succ]
                      refine wpAnyIn_take (i := 20) (v := .bool (!bb)) rfl rfl (by kernel_rfl) (by kernel_rfl) (by kernel_rfl) (fun _ _ _ h => h) ⟨Or.inl ⟨by rfl, (by intro U; go_simp)⟩, fun _ => rfl⟩ ?_
                      simp only [Act.put, List.getElem_toArray, List.getElem_cons_zero, List.getElem_cons_succ, List.setIfInBounds_toArray, List.set_cons_zero, List.set_cons_succ]
                      refine wpAnyIn_done (by kernel_rfl) ?_ _
                      cases bb with
                      | true =>
                        obtain ⟨hJ3, hk3⟩ := ht rfl
                        have hk4 : KpD n0 B1 B2 wr W4 := kpD_t (kpD_of bw3) hk3
                        have hB1' := kpD_cell hk4 (p := ⟨B1, 0, none⟩) (.inr (.inl rfl)) hB1
                        have hB2' := kpD_cell hk4 (p := ⟨B2, 0, none⟩) (.inr (.inr rfl)) hB2
                        have hv' := latD_keep HVk.out hk4
                        have hu' := iatD_keep HUk.out hk4
                        have hn' := Nat.le_trans hn0' hk4.1
                        clear ht hf hk3
                        gi_wp2
                        go_roundw
                        case rel => exact ⟨k + 1, by go_num, by omega, hB1', hB2', hv', hu', hn', hJ3⟩
                        case measure => simp [intOf]; omega
                      | false =>
                        have hJx3 := hf rfl
                        clear ht hf
                        gi_wp2
                        refine bodyPost_ret (results_none rfl _ _ _) rfl ?_
                        exact ⟨⟨_, rfl⟩, .inr ⟨_, onL_prefix (by omega), hJx3⟩⟩
                    exact AllReadyIn.nil
                  exact AllReadyIn.nil
                refine AllReadyIn.cons rfl (fun K hK => ?_) ?_
                · go_simp
                  refine hK _ _ ?_
                  clear hK K
                  refine wpAnyIn_take (i := 15) (v := .pointer (some ⟨bs, os + m, none⟩)) rfl rfl (by kernel_rfl) (by kernel_rfl) (by kernel_rfl) (fun _ _ _ h => h) ⟨Or.inl ⟨by rfl, (by intro U; go_simp)⟩, fun _ => rfl⟩ ?_
                  simp only [Act.put, List.getElem_toArray, List.getElem_cons_zero, List.getElem_cons_succ, List.setIfInBounds_toArray, List.set_cons_zero, List.set_cons_succ]
                  refine wpAnyIn_ready (rs := [8, 16]) (by kernel_rfl) (by simp) ?_
                  refine AllReadyIn.cons rfl (fun K hK => ?_) ?_
                  · go_simp
                    refine hK _ _ ?_
                    clear hK K
                    refine wpAnyIn_ready (rs := [16]) (by kernel_rfl) (by simp) ?_
                    refine AllReadyIn.cons rfl (fun K hK => ?_) ?_
                    · go_simp
                      refine hK _ _ ?_
                      clear hK K
                      refine wpAnyIn_ready (rs := [17]) (by kernel_rfl) (by simp) (AllReadyIn.cons rfl (fun K hK => ?_) AllReadyIn.nil)
                      go_simp
                      refine ⟨trivial, (fun h => by cases h), (callsIn_wide.2 (SF.out _)).mono ?_⟩
                      rintro e W3 ⟨rfl, o1, o2, hW3⟩
                      refine hK _ _ ?_
                      clear hK K
                      have bw3 : Below wr.heap.size wr W3 := by
                        rw [hW3]
                        repeat (first | exact Below.refl _ _ | refine Below.drew ?_ | refine Below.alloc ?_ (by simp <;> omega) _)
                      clear hW3
                      obtain ⟨fn, tmps, assign, body, hy, hR⟩ := YF.out W3 bw3
                      refine wpAnyIn_ready (rs := [18]) (by kernel_rfl) (by simp) (AllReadyIn.cons rfl (fun K hK => ?_) AllReadyIn.nil)
                      go_simp
                      refine ⟨(fun h => by cases h), hR.mono ?_⟩
                      rintro e W4 h4
                      obtain ⟨bb, rfl, ht, hf⟩ := yield_boolL h4
                      refine hK _ _ ?_
                      clear hK K h4
                      refine wpAnyIn_take (i := 19) (v := .bool (!bb)) rfl rfl (by kernel_rfl) (by kernel_rfl) (by kernel_rfl) (fun _ _ _ h => h) ⟨Or.inl ⟨by rfl, (by intro U; go_simp)⟩, fun _ => rfl⟩ ?_
                      simp only [Act.put, List.getElem_toArray, List.getElem_cons_zero, List.getElem_cons_succ, List.setIfInBounds_toArray, List.set_cons_zero, List.set_cons_succ]
                      refine wpAnyIn_take (i := 20) (v := .bool (!bb)) rfl rfl (by kernel_rfl) (by kernel_rfl) (by kernel_rfl) (fun _ _ _ h => h) ⟨Or.inl ⟨by rfl, (by intro U; go_simp)⟩, fun _ => rfl⟩ ?_
                      simp only [Act.put, List.getElem_toArray, List.getElem_cons_zero, List.getElem_cons_succ, List.setIfInBounds_toArray, List.set_cons_zero, List.set_cons_succ]
                      refine wpAnyIn_done (by kernel_rfl) ?_ _
                      cases bb with
                      | true =>
                        obtain ⟨hJ3, hk3⟩ := ht rfl
                        have hk4 : KpD n0 B1 B2 wr W4 := kpD_t (kpD_of bw3) hk3
                        have hB1' := kpD_cell hk4 (p := ⟨B1, 0, none⟩) (.inr (.inl rfl)) hB1
                        have hB2' := kpD_cell hk4 (p := ⟨B2, 0, none⟩) (.inr (.inr rfl)) hB2
                        have hv' := latD_keep HVk.out hk4
                        have hu' := iatD_keep HUk.out hk4
                        have hn' := Nat.le_trans hn0' hk4.1
                        clear ht hf hk3
                        gi_wp2
                        go_roundw
                        case rel => exact ⟨k + 1, by go_num, by omega, hB1', hB2', hv', hu', hn', hJ3⟩
                        case measure => simp [intOf]; omega
                      | false =>
                        have hJx3 := hf rfl
                        clear ht hf
                        gi_wp2
                        refine bodyPost_ret (results_none rfl _ _ _) rfl ?_
                        exact ⟨⟨_, rfl⟩, .inr ⟨_, onL_prefix (by omega), hJx3⟩⟩
                    exact AllReadyIn.nil
                  refine AllReadyIn.cons rfl (fun K hK => ?_) ?_
                  · go_simp
                    refine hK _ _ ?_
                    clear hK K
                    refine wpAnyIn_ready (rs := [8]) (by kernel_rfl) (by simp) ?_
                    refine AllReadyIn.cons rfl (fun K hK => ?_) ?_
                    · go_simp
                      refine hK _ _ ?_
                      clear hK K
                      refine wpAnyIn_ready (rs := [17]) (by kernel_rfl) (by simp) (AllReadyIn.cons rfl (fun K hK => ?_) AllReadyIn.nil)
                      go_simp
                      refine ⟨trivial, (fun h => by cases h), (callsIn_wide.2 (SF.out _)).mono ?_⟩
                      rintro e W3 ⟨rfl, o1, o2, hW3⟩
                      refine hK _ _ ?_
                      clear hK K
                      have bw3 : Below wr.heap.size wr W3 := by
                        rw [hW3]
                        repeat (first | exact Below.refl _ _ | refine Below.drew ?_ | refine Below.alloc ?_ (by simp <;> omega) _)
                      clear hW3
                      obtain ⟨fn, tmps, assign, body, hy, hR⟩ := YF.out W3 bw3
                      refine wpAnyIn_ready (rs := [18]) (by kernel_rfl) (by simp) (AllReadyIn.cons rfl (fun K hK => ?_) AllReadyIn.nil)
                      go_simp
                      refine ⟨(fun h => by cases h), hR.mono ?_⟩
                      rintro e W4 h4
                      obtain ⟨bb, rfl, ht, hf⟩ := yield_boolL h4
                      refine hK _ _ ?_
                      clear hK K h4
                      refine wpAnyIn_take (i := 19) (v := .bool (!bb)) rfl rfl (by kernel_rfl) (by kernel_rfl) (by kernel_rfl) (fun _ _ _ h => h) ⟨Or.inl ⟨by rfl, (by intro U; go_simp)⟩, fun _ => rfl⟩ ?_
                      simp only [Act.put, List.getElem_toArray, List.getElem_cons_zero, List.getElem_cons_succ, List.setIfInBounds_toArray, List.set_cons_zero, List.set_cons_succ]
                      refine wpAnyIn_take (i := 20) (v := .bool (!bb)) rfl rfl (by kernel_rfl) (by kernel_rfl) (by kernel_rfl) (fun _ _ _ h => h) ⟨Or.inl ⟨by rfl, (by intro U; go_simp)⟩, fun _ => rfl⟩ ?_
                      simp only [Act.put, List.getElem_toArray, List.getElem_cons_zero, List.getElem_cons_succ, List.setIfInBounds_toArray, List.set_cons_zero, List.set_cons_succ]
                      refine wpAnyIn_done (by kernel_rfl) ?_ _
                      cases bb with
                      | true =>
                        obtain ⟨hJ3, hk3⟩ := ht rfl
                        have hk4 : KpD n0 B1 B2 wr W4 := kpD_t (kpD_of bw3) hk3
                        have hB1' := kpD_cell hk4 (p := ⟨B1, 0, none⟩) (.inr (.inl rfl)) hB1
                        have hB2' := kpD_cell hk4 (p := ⟨B2, 0, none⟩) (.inr (.inr rfl)) hB2
                        have hv' := latD_keep HVk.out hk4
                        have hu' := iatD_keep HUk.out hk4
                        have hn' := Nat.le_trans hn0' hk4.1
                        clear ht hf hk3
                        gi_wp2
                        go_roundw
                        case rel => exact ⟨k + 1, by go_num, by omega, hB1', hB2', hv', hu', hn', hJ3⟩
                        case measure => simp [intOf]; omega
                      | false =>
                        have hJx3 := hf rfl
                        clear ht hf
                        gi_wp2
                        refine bodyPost_ret (results_none rfl _ _ _) rfl ?_
                        exact ⟨⟨_, rfl⟩, .inr ⟨_, onL_prefix (by omega), hJx3⟩⟩
                    exact AllReadyIn.nil
                  exact AllReadyIn.nil
                exact AllReadyIn.nil
              exact AllReadyIn.nil
            refine AllReadyIn.cons rfl (fun K hK => ?_) ?_
            · go_simp
              refine hK _ _ ?_
              clear hK K
              refine wpAnyIn_take (i := 13) (v := .pointer (some ⟨b2, off2 + k, none⟩)) rfl rfl (by kernel_rfl) (by kernel_rfl) (by kernel_rfl) (fun _ _ _ h => h) ⟨Or.inl ⟨by rfl, (by intro U; go_simp)⟩, fun _ => rfl⟩ ?_
              simp only [Act.put, List.getElem_toArray, List.getElem_cons_zero, List.getElem_cons_succ, List.setIfInBounds_toArray, List.set_cons_zero, List.set_cons_succ]
              refine wpAnyIn_ready (rs := [8, 10, 14]) (by kernel_rfl) (by simp) ?_
              refine AllReadyIn.cons rfl (fun K hK => ?_) ?_
              · go_simp
                refine hK _ _ ?_
                clear hK K
                refine wpAnyIn_ready (rs := [10, 14]) (by kernel_rfl) (by simp) ?_
                refine AllReadyIn.cons rfl (fun K hK => ?_) ?_
                · go_simp
                  refine hK _ _ ?_
                  clear hK K
                  refine wpAnyIn_ready (rs := [14]) (by kernel_rfl) (by simp) ?_
                  refine AllReadyIn.cons rfl (fun K hK => ?_) ?_
                  · go_simp
                    refine hK _ _ ?_
                    clear hK K
                    refine wpAnyIn_take (i := 15) (v := .pointer (some ⟨bs, os + m, none⟩)) rfl rfl (by kernel_rfl) (by kernel_rfl) (by kernel_rfl) (fun _ _ _ h => h) ⟨Or.inl ⟨by rfl, (by intro U; go_simp)⟩, fun _ => rfl⟩ ?_
                    simp only [Act.put, List.getElem_toArray, List.getElem_cons_zero, List.getElem_cons_succ, List.setIfInBounds_toArray, List.set_cons_zero, List.set_cons_succ]
                    refine wpAnyIn_ready (rs := [16]) (by kernel_rfl) (by simp) ?_
                    refine AllReadyIn.cons rfl (fun K hK => ?_) ?_
                    · go_simp
                      refine hK _ _ ?_
                      clear hK K
                      refine wpAnyIn_ready (rs := [17]) (by kernel_rfl) (by simp) (AllReadyIn.cons rfl (fun K hK => ?_) AllReadyIn.nil)
                      go_simp
                      refine ⟨trivial, (fun h => by cases h), (callsIn_wide.2 (SF.out _)).mono ?_⟩
                      rintro e W3 ⟨rfl, o1, o2, hW3⟩
                      refine hK _ _ ?_
                      clear hK K
                      have bw3 : Below wr.heap.size wr W3 := by
                        rw [hW3]
                        repeat (first | exact Below.refl _ _ | refine Below.drew ?_ | refine Below.alloc ?_ (by simp <;> omega) _)
                      clear hW3
                      obtain ⟨fn, tmps, assign, body, hy, hR⟩ := YF.out W3 bw3
                      refine wpAnyIn_ready (rs := [18]) (by kernel_rfl) (by simp) (AllReadyIn.cons rfl (fun K hK => ?_) AllReadyIn.nil)
                      go_simp
                      refine ⟨(fun h => by cases h), hR.mono ?_⟩
                      rintro e W4 h4
                      obtain ⟨bb, rfl, ht, hf⟩ := yield_boolL h4
                      refine hK _ _ ?_
                      clear hK K h4
                      refine wpAnyIn_take (i := 19) (v := .bool (!bb)) rfl rfl (by kernel_rfl) (by kernel_rfl) (by kernel_rfl) (fun _ _ _ h => h) ⟨Or.inl ⟨by rfl, (by intro U; go_simp)⟩, fun _ => rfl⟩ ?_
                      simp only [Act.put, List.getElem_toArray, List.getElem_cons_zero, List.getElem_cons_succ, List.setIfInBounds_toArray, List.set_cons_zero, List.set_cons_succ]
                      refine wpAnyIn_take (i := 20) (v := .bool (!bb)) rfl rfl (by kernel_rfl) (by kernel_rfl) (by kernel_rfl) (fun _ _ _ h => h) ⟨Or.inl ⟨by rfl, (by intro U; go_simp)⟩, fun _ => rfl⟩ ?_
                      simp only [Act.put, List.getElem_toArray, List.getElem_cons_zero, List.getElem_cons_succ, List.setIfInBounds_toArray, List.set_cons_zero, List.set_cons_succ]
                      refine wpAnyIn_done (by kernel_rfl) ?_ _
                      cases bb with
                      | true =>
                        obtain ⟨hJ3, hk3⟩ := ht rfl
                        have hk4 : KpD n0 B1 B2 wr W4 := kpD_t (kpD_of bw3) hk3
                        have hB1' := kpD_cell hk4 (p := ⟨B1, 0, none⟩) (.inr (.inl rfl)) hB1
                        have hB2' := kpD_cell hk4 (p := ⟨B2, 0, none⟩) (.inr (.inr rfl)) hB2
                        have hv' := latD_keep HVk.out hk4
                        have hu' := iatD_keep HUk.out hk4
                        have hn' := Nat.le_trans hn0' hk4.1
                        clear ht hf hk3
                        gi_wp2
                        go_roundw
                        case rel => exact ⟨k + 1, by go_num, by omega, hB1', hB2', hv', hu', hn', hJ3⟩
                        case measure => simp [intOf]; omega
                      | false =>
                        have hJx3 := hf rfl
                        clear ht hf
                        gi_wp2
                        refine bodyPost_ret (results_none rfl _ _ _) rfl ?_
                        exact ⟨⟨_, rfl⟩, .inr ⟨_, onL_prefix (by omega), hJx3⟩⟩
                    exact AllReadyIn.nil
                  exact AllReadyIn.nil
                refine AllReadyIn.cons rfl (fun K hK => ?_) ?_
                · go_simp
                  refine hK _ _ ?_
                  clear hK K
                  refine wpAnyIn_ready (rs := [10]) (by kernel_rfl) (by simp) ?_
                  refine AllReadyIn.cons rfl (fun K hK => ?_) ?_
                  · go_simp
                    refine hK _ _ ?_
                    clear hK K
                    refine wpAnyIn_take (i := 15) (v := .pointer (some ⟨bs, os + m, none⟩)) rfl rfl (by kernel_rfl) (by kernel_rfl) (by kernel_rfl) (fun _ _ _ h => h) ⟨Or.inl ⟨by rfl, (by intro U; go_simp)⟩, fun _ => rfl⟩ ?_
                    simp only [Act.put, List.getElem_toArray, List.getElem_cons_zero, List.getElem_cons_succ, List.setIfInBounds_toArray, List.set_cons_zero, List.set_cons_succ]
                    refine wpAnyIn_ready (rs := [16]) (by kernel_rfl) (by simp) ?_
                    refine AllReadyIn.cons rfl (fun K hK => ?_) ?_
                    · go_simp
                      refine hK _ _ ?_
                      clear hK K
                      refine wpAnyIn_ready (rs := [17]) (by kernel_rfl) (by simp) (AllReadyIn.cons rfl (fun K hK => ?_) AllReadyIn.nil)
                      go_simp
                      refine ⟨trivial, (fun h => by cases h), (callsIn_wide.2 (SF.out _)).mono ?_⟩
                      rintro e W3 ⟨rfl, o1, o2, hW3⟩
                      refine hK _ _ ?_
                      clear hK K
                      have bw3 : Below wr.heap.size wr W3 := by
                        rw [hW3]
                        repeat (first | exact Below.refl _ _ | refine Below.drew ?_ | refine Below.alloc ?_ (by simp <;> omega) _)
                      clear hW3
                      obtain ⟨fn, tmps, assign, body, hy, hR⟩ := YF.out W3 bw3
                      refine wpAnyIn_ready (rs := [18]) (by kernel_rfl) (by simp) (AllReadyIn.cons rfl (fun K hK => ?_) AllReadyIn.nil)
                      go_simp
                      refine ⟨(fun h => by cases h), hR.mono ?_⟩
                      rintro e W4 h4
                      obtain ⟨bb, rfl, ht, hf⟩ := yield_boolL h4
                      refine hK _ _ ?_
                      clear hK K h4
                      refine wpAnyIn_take (i := 19) (v := .bool (!bb)) rfl rfl (by kernel_rfl) (by kernel_rfl) (by kernel_rfl) (fun _ _ _ h => h) ⟨Or.inl ⟨by rfl, (by intro U; go_simp)⟩, fun _ => rfl⟩ ?_
                      simp only [Act.put, List.getElem_toArray, List.getElem_cons_zero, List.getElem_cons_succ, List.setIfInBounds_toArray, List.set_cons_zero, List.set_cons_succ]
                      refine wpAnyIn_take (i := 20) (v := .bool (!bb)) rfl rfl (by kernel_rfl) (by kernel_rfl) (by kernel_rfl) (fun _ _ _ h => h) ⟨Or.inl ⟨by rfl, (by intro U; go_simp)⟩, fun _ => rfl⟩ ?_
                      simp only [Act.put, List.getElem_toArray, List.getElem_cons_zero, List.getElem_cons_succ, List.setIfInBounds_toArray, List.set_cons_zero, List.set_cons_succ]
                      refine wpAnyIn_done (by kernel_rfl) ?_ _
                      cases bb with
                      | true =>
                        obtain ⟨hJ3, hk3⟩ := ht rfl
                        have hk4 : KpD n0 B1 B2 wr W4 := kpD_t (kpD_of bw3) hk3
                        have hB1' := kpD_cell hk4 (p := ⟨B1, 0, none⟩) (.inr (.inl rfl)) hB1
                        have hB2' := kpD_cell hk4 (p := ⟨B2, 0, none⟩) (.inr (.inr rfl)) hB2
                        have hv' := latD_keep HVk.out hk4
                        have hu' := iatD_keep HUk.out hk4
                        have hn' := Nat.le_trans hn0' hk4.1
                        clear ht hf hk3
                        gi_wp2
                        go_roundw
                        case rel => exact ⟨k + 1, by go_num, by omega, hB1', hB2', hv', hu', hn', hJ3⟩
                        case measure => simp [intOf]; omega
                      | false =>
                        have hJx3 := hf rfl
                        clear ht hf
                        gi_wp2
                        refine bodyPost_ret (results_none rfl _ _ _) rfl ?_
                        exact ⟨⟨_, rfl⟩, .inr ⟨_, onL_prefix (by omega), hJx3⟩⟩
                    exact AllReadyIn.nil
                  exact AllReadyIn.nil
                exact AllReadyIn.nil
              refine AllReadyIn.cons rfl (fun K hK => ?_) ?_
              · go_simp
                refine hK _ _ ?_
                clear hK K
                refine wpAnyIn_ready (rs := [8, 14]) (by kernel_rfl) (by simp) ?_
                refine AllReadyIn.cons rfl (fun K hK => ?_) ?_
                · go_simp
                  refine hK _ _ ?_
                  clear hK K
                  refine wpAnyIn_ready (rs := [14]) (by kernel_rfl) (by simp) ?_
                  refine AllReadyIn.cons rfl (fun K hK => ?_) ?_
                  · go_simp
                    refine hK _ _ ?_
                    clear hK K
                    refine wpAnyIn_take (i := 15) (v := .pointer (some ⟨bs, os + m, none⟩)) rfl rfl (by kernel_rfl) (by kernel_rfl) (by kernel_rfl) (fun _ _ _ h => h) ⟨Or.inl ⟨by rfl, (by intro U; go_simp)⟩, fun _ => rfl⟩ ?_
                    simp only [Act.put, List.getElem_toArray, List.getElem_cons_zero, List.getElem_cons_succ, List.setIfInBounds_toArray, List.set_cons_zero, List.set_cons_succ]
                    refine wpAnyIn_ready (rs := [16]) (by kernel_rfl) (by simp) ?_
                    refine AllReadyIn.cons rfl (fun K hK => ?_) ?_
                    · go_simp
                      refine hK _ _ ?_
                      clear hK K
                      refine wpAnyIn_ready (rs := [17]) (by kernel_rfl) (by simp) (AllReadyIn.cons rfl (fun K hK => ?_) AllReadyIn.nil)
                      go_simp
                      refine ⟨trivial, (fun h => by cases h), (callsIn_wide.2 (SF.out _)).mono ?_⟩
                      rintro e W3 ⟨rfl, o1, o2, hW3⟩
                      refine hK _ _ ?_
                      clear hK K
                      have bw3 : Below wr.heap.size wr W3 := by
                        rw [hW3]
                        repeat (first | exact Below.refl _ _ | refine Below.drew ?_ | refine Below.alloc ?_ (by simp <;> omega) _)
                      clear hW3
                      obtain ⟨fn, tmps, assign, body, hy, hR⟩ := YF.out W3 bw3
                      refine wpAnyIn_ready (rs := [18]) (by kernel_rfl) (by simp) (AllReadyIn.cons rfl (fun K hK => ?_) AllReadyIn.nil)
                      go_simp
                      refine ⟨(fun h => by cases h), hR.mono ?_⟩
                      rintro e W4 h4
                      obtain ⟨bb, rfl, ht, hf⟩ := yield_boolL h4
                      refine hK _ _ ?_
                      clear hK K h4
                      refine wpAnyIn_take (i := 19) (v := .bool (!bb)) rfl rfl (by kernel_rfl) (by kernel_rfl) (by kernel_rfl) (fun _ _ _ h => h) ⟨Or.inl ⟨by rfl, (by intro U; go_simp)⟩, fun _ => rfl⟩ ?_
                      simp only [Act.put, List.getElem_toArray, List.getElem_cons_zero, List.getElem_cons_succ, List.setIfInBounds_toArray, List.set_cons_zero, List.set_cons_succ]
                      refine wpAnyIn_take (i := 20) (v := .bool (!bb)) rfl rfl (by kernel_rfl) (by kernel_rfl) (by kernel_rfl) (fun _ _ _ h => h) ⟨Or.inl ⟨by rfl, (by intro U; go_simp)⟩, fun _ => rfl⟩ ?_
                      simp only [Act.put, List.getElem_toArray, List.getElem_cons_zero, List.getElem_cons_succ, List.setIfInBounds_toArray, List.set_cons_zero, List.set_cons_succ]
                      refine wpAnyIn_done (by kernel_rfl) ?_ _
                      cases bb with
                      | true =>
                        obtain ⟨hJ3, hk3⟩ := ht rfl
                        have hk4 : KpD n0 B1 B2 wr W4 := kpD_t (kpD_of bw3) hk3
                        have hB1' := kpD_cell hk4 (p := ⟨B1, 0, none⟩) (.inr (.inl rfl)) hB1
                        have hB2' := kpD_cell hk4 (p := ⟨B2, 0, none⟩) (.inr (.inr rfl)) hB2
                        have hv' := latD_keep HVk.out hk4
                        have hu' := iatD_keep HUk.out hk4
                        have hn' := Nat.le_trans hn0' hk4.1
                        clear ht hf hk3
                        gi_wp2
                        go_roundw
                        case rel => exact ⟨k + 1, by go_num, by omega, hB1', hB2', hv', hu', hn', hJ3⟩
                        case measure => simp [intOf]; omega
                      | false =>
                        have hJx3 := hf rfl
                        clear ht hf
                        gi_wp2
                        refine bodyPost_ret (results_none rfl _ _ _) rfl ?_
                        exact ⟨⟨_, rfl⟩, .inr ⟨_, onL_prefix (by omega), hJx3⟩⟩
                    exact AllReadyIn.nil
                  exact AllReadyIn.nil
                refine AllReadyIn.cons rfl (fun K hK => ?_) ?_
                · go_simp
                  refine hK _ _ ?_
                  clear hK K
                  refine wpAnyIn_take (i := 15) (v := .pointer (some ⟨bs, os + m, none⟩)) rfl rfl (by kernel_rfl) (by kernel_rfl) (by kernel_rfl) (fun _ _ _ h => h) ⟨Or.inl ⟨by rfl, (by intro U; go_simp)⟩, fun _ => rfl⟩ ?_
                  simp only [Act.put, List.getElem_toArray, List.getElem_cons_zero, List.getElem_cons_succ, List.setIfInBounds_toArray, List.set_cons_zero, List.set_cons_succ]
                  refine wpAnyIn_ready (rs := [8, 16]) (by kernel_rfl) (by simp) ?_
                  refine AllReadyIn.cons rfl (fun K hK => ?_) ?_
                  · go_simp
                    refine hK _ _ ?_
                    clear hK K
                    refine wpAnyIn_ready (rs := [16]) (by kernel_rfl) (by simp) ?_
                    refine AllReadyIn.cons rfl (fun K hK => ?_) ?_
                    · go_simp
                      refine hK _ _ ?_
                      clear hK K
                      refine wpAnyIn_ready (rs := [17]) (by kernel_rfl) (by simp) (AllReadyIn.cons rfl (fun K hK => ?_) AllReadyIn.nil)
                      go_simp
                      refine ⟨trivial, (fun h => by cases h), (callsIn_wide.2 (SF.out _)).mono ?_⟩
                      rintro e W3 ⟨rfl, o1, o2, hW3⟩
                      refine hK _ _ ?_
                      clear hK K
                      have bw3 : Below wr.heap.size wr W3 := by
                        rw [hW3]
                        repeat (first | exact Below.refl _ _ | refine Below.drew ?_ | refine Below.alloc ?_ (by simp <;> omega) _)
                      clear hW3
                      obtain ⟨fn, tmps, assign, body, hy, hR⟩ := YF.out W3 bw3
                      refine wpAnyIn_ready (rs := [18]) (by kernel_rfl) (by simp) (AllReadyIn.cons rfl (fun K hK => ?_) AllReadyIn.nil)
                      go_simp
                      refine ⟨(fun h => by cases h), hR.mono ?_⟩
                      rintro e W4 h4
                      obtain ⟨bb, rfl, ht, hf⟩ := yield_boolL h4
                      refine hK _ _ ?_
                      clear hK K h4
                      refine wpAnyIn_take (i := 19) (v := .bool (!bb)) rfl rfl (by kernel_rfl) (by kernel_rfl) (by kernel_rfl) (fun _ _ _ h => h) ⟨Or.inl ⟨by rfl, (by intro U; go_simp)⟩, fun _ => rfl⟩ ?_
                      simp only [Act.put, List.getElem_toArray, List.getElem_cons_zero, List.getElem_cons_succ, List.setIfInBounds_toArray, List.set_cons_zero, List.set_cons_succ]
                      refine wpAnyIn_take (i := 20) (v := .bool (!bb)) rfl rfl (by kernel_rfl) (by kernel_rfl) (by kernel_rfl) (fun _ _ _ h => h) ⟨Or.inl ⟨by rfl, (by intro U; go_simp)⟩, fun _ => rfl⟩ ?_
                      simp only [Act.put, List.getElem_toArray, List.getElem_cons_zero, List.getElem_cons_succ, List.setIfInBounds_toArray, List.set_cons_zero, List.set_cons_succ]
                      refine wpAnyIn_done (by kernel_rfl) ?_ _
                      cases bb with
                      | true =>
                        obtain ⟨hJ3, hk3⟩ := ht rfl
                        have hk4 : KpD n0 B1 B2 wr W4 := kpD_t (kpD_of bw3) hk3
                        have hB1' := kpD_cell hk4 (p := ⟨B1, 0, none⟩) (.inr (.inl rfl)) hB1
                        have hB2' := kpD_cell hk4 (p := ⟨B2, 0, none⟩) (.inr (.inr rfl)) hB2
                        have hv' := latD_keep HVk.out hk4
                        have hu' := iatD_keep HUk.out hk4
                        have hn' := Nat.le_trans hn0' hk4.1
                        clear ht hf hk3
                        gi_wp2
                        go_roundw
                        case rel => exact ⟨k + 1, by go_num, by omega, hB1', hB2', hv', hu', hn', hJ3⟩
                        case measure => simp [intOf]; omega
                      | false =>
                        have hJx3 := hf rfl
                        clear ht hf
                        gi_wp2
                        refine bodyPost_ret (results_none rfl _ _ _) rfl ?_
                        exact ⟨⟨_, rfl⟩, .inr ⟨_, onL_prefix (by omega), hJx3⟩⟩
                    exact AllReadyIn.nil
                  refine AllReadyIn.cons rfl (fun K hK => ?_) ?_
                  · go_simp
                    refine hK _ _ ?_
                    clear hK K
                    refine wpAnyIn_ready (rs := [8]) (by kernel_rfl) (by simp) ?_
                    refine AllReadyIn.cons rfl (fun K hK => ?_) ?_
                    · go_simp
                      refine hK _ _ ?_
                      clear hK K
                      refine wpAnyIn_ready (rs := [17]) (by kernel_rfl) (by simp) (AllReadyIn.cons rfl (fun K hK => ?_) AllReadyIn.nil)
                      go_simp
                      refine ⟨trivial, (fun h => by cases h), (callsIn_wide.2 (SF.out _)).mono ?_⟩
                      rintro e W3 ⟨rfl, o1, o2, hW3⟩
                      refine hK _ _ ?_
                      clear hK K
                      have bw3 : Below wr.heap.size wr W3 := by
                        rw [hW3]
                        repeat (first | exact Below.refl _ _ | refine Below.drew ?_ | refine Below.alloc ?_ (by simp <;> omega) _)
                      clear hW3
                      obtain ⟨fn, tmps, assign, body, hy, hR⟩ := YF.out W3 bw3
                      refine wpAnyIn_ready (rs := [18]) (by kernel_rfl) (by simp) (AllReadyIn.cons rfl (fun K hK => ?_) AllReadyIn.nil)
                      go_simp
                      refine ⟨(fun h => by cases h), hR.mono ?_⟩
                      rintro e W4 h4
                      obtain ⟨bb, rfl, ht, hf⟩ := yield_boolL h4
                      refine hK _ _ ?_
                      clear hK K h4
                      refine wpAnyIn_take (i := 19) (v := .bool (!bb)) rfl rfl (by kernel_rfl) (by kernel_rfl) (by kernel_rfl) (fun _ _ _ h => h) ⟨Or.inl ⟨by rfl, (by intro U; go_simp)⟩, fun _ => rfl⟩ ?_
                      simp only [Act.put, List.getElem_toArray, List.getElem_cons_zero, List.getElem_cons_succ, List.setIfInBounds_toArray, List.set_cons_zero, List.set_cons_succ]
                      refine wpAnyIn_take (i := 20) (v := .bool (!bb)) rfl rfl (by kernel_rfl) (by kernel_rfl) (by kernel_rfl) (fun _ _ _ h => h) ⟨Or.inl ⟨by rfl, (by intro U; go_simp)⟩, fun _ => rfl⟩ ?_
                      simp only [Act.put, List.getElem_toArray, List.getElem_cons_zero, List.getElem_cons_succ, List.setIfInBounds_toArray, List.set_cons_zero, List.set_cons_succ]
                      refine wpAnyIn_done (by kernel_rfl) ?_ _
                      cases bb with
                      | true =>
                        obtain ⟨hJ3, hk3⟩ := ht rfl
                        have hk4 : KpD n0 B1 B2 wr W4 := kpD_t (kpD_of bw3) hk3
                        have hB1' := kpD_cell hk4 (p := ⟨B1, 0, none⟩) (.inr (.inl rfl)) hB1
                        have hB2' := kpD_cell hk4 (p := ⟨B2, 0, none⟩) (.inr (.inr rfl)) hB2
                        have hv' := latD_keep HVk.out hk4
                        have hu' := iatD_keep HUk.out hk4
                        have hn' := Nat.le_trans hn0' hk4.1
                        clear ht hf hk3
                        gi_wp2
                        go_roundw
                        case rel => exact ⟨k + 1, by go_num, by omega, hB1', hB2', hv', hu', hn', hJ3⟩
                        case measure => simp [intOf]; omega
                      | false =>
                        have hJx3 := hf rfl
                        clear ht hf
                        gi_wp2
                        refine bodyPost_ret (results_none rfl _ _ _) rfl ?_
                        exact ⟨⟨_, rfl⟩, .inr ⟨_, onL_prefix (by omega), hJx3⟩⟩
                    exact AllReadyIn.nil
                  exact AllReadyIn.nil
                exact AllReadyIn.nil
              refine AllReadyIn.cons rfl (fun K hK => ?_) ?_
              · go_simp
                refine hK _ _ ?_
                clear hK K
                refine wpAnyIn_ready (rs := [8, 10]) (by kernel_rfl) (by simp) ?_
                refine AllReadyIn.cons rfl (fun K hK => ?_) ?_
                · go_simp
                  refine hK _ _ ?_
                  clear hK K
                  refine wpAnyIn_ready (rs := [10]) (by kernel_rfl) (by simp) ?_
                  refine AllReadyIn.cons rfl (fun K hK => ?_) ?_
                  · go_simp
                    refine hK _ _ ?_
                    clear hK K
                    refine wpAnyIn_take (i := 15) (v := .pointer (some ⟨bs, os + m, none⟩)) rfl rfl (by kernel_rfl) (by kernel_rfl) (by kernel_rfl) (fun _ _ _ h => h) ⟨Or.inl ⟨by rfl, (by intro U; go_simp)⟩, fun _ => rfl⟩ ?_
                    simp only [Act.put, List.getElem_toArray, List.getElem_cons_zero, List.getElem_cons_succ, List.setIfInBounds_toArray, List.set_cons_zero, List.set_cons_succ]
                    refine wpAnyIn_ready (rs := [16]) (by kernel_rfl) (by simp) ?_
                    refine AllReadyIn.cons rfl (fun K hK => ?_) ?_
                    · go_simp
                      refine hK _ _ ?_
                      clear hK K
                      refine wpAnyIn_ready (rs := [17]) (by kernel_rfl) (by simp) (AllReadyIn.cons rfl (fun K hK => ?_) AllReadyIn.nil)
                      go_simp
                      refine ⟨trivial, (fun h => by cases h), (callsIn_wide.2 (SF.out _)).mono ?_⟩
                      rintro e W3 ⟨rfl, o1, o2, hW3⟩
                      refine hK _ _ ?_
                      clear hK K
                      have bw3 : Below wr.heap.size wr W3 := by
                        rw [hW3]
                        repeat (first | exact Below.refl _ _ | refine Below.drew ?_ | refine Below.alloc ?_ (by simp <;> omega) _)
                      clear hW3
                      obtain ⟨fn, tmps, assign, body, hy, hR⟩ := YF.out W3 bw3
                      refine wpAnyIn_ready (rs := [18]) (by kernel_rfl) (by simp) (AllReadyIn.cons rfl (fun K hK => ?_) AllReadyIn.nil)
                      go_simp
                      refine ⟨(fun h => by cases h), hR.mono ?_⟩
                      rintro e W4 h4
                      obtain ⟨bb, rfl, ht, hf⟩ := yield_boolL h4
                      refine hK _ _ ?_
                      clear hK K h4
                      refine wpAnyIn_take (i := 19) (v := .bool (!bb)) rfl rfl (by kernel_rfl) (by kernel_rfl) (by kernel_rfl) (fun _ _ _ h => h) ⟨Or.inl ⟨by rfl, (by intro U; go_simp)⟩, fun _ => rfl⟩ ?_
                      simp only [Act.put, List.getElem_toArray, List.getElem_cons_zero, List.getElem_cons_succ, List.setIfInBounds_toArray, List.set_cons_zero, List.set_cons_succ]
                      refine wpAnyIn_take (i := 20) (v := .bool (!bb)) rfl rfl (by kernel_rfl) (by kernel_rfl) (by kernel_rfl) (fun _ _ _ h => h) ⟨Or.inl ⟨by rfl, (by intro U; go_simp)⟩, fun _ => rfl⟩ ?_
                      simp only [Act.put, List.getElem_toArray, List.getElem_cons_zero, List.getElem_cons_succ, List.setIfInBounds_toArray, List.set_cons_zero, List.set_cons_succ]
                      refine wpAnyIn_done (by kernel_rfl) ?_ _
                      cases bb with
                      | true =>
                        obtain ⟨hJ3, hk3⟩ := ht rfl
                        have hk4 : KpD n0 B1 B2 wr W4 := kpD_t (kpD_of bw3) hk3
                        have hB1' := kpD_cell hk4 (p := ⟨B1, 0, none⟩) (.inr (.inl rfl)) hB1
                        have hB2' := kpD_cell hk4 (p := ⟨B2, 0, none⟩) (.inr (.inr rfl)) hB2
                        have hv' := latD_keep HVk.out hk4
                        have hu' := iatD_keep HUk.out hk4
                        have hn' := Nat.le_trans hn0' hk4.1
                        clear ht hf hk3
                        gi_wp2
                        go_roundw
                        case rel => exact ⟨k + 1, by go_num, by omega, hB1', hB2', hv', hu', hn', hJ3⟩
                        case measure => simp [intOf]; omega
                      | false =>
                        have hJx3 := hf rfl
                        clear ht hf
                        gi_wp2
                        refine bodyPost_ret (results_none rfl _ _ _) rfl ?_
                        exact ⟨⟨_, rfl⟩, .inr ⟨_, onL_prefix (by omega), hJx3⟩⟩
                    exact AllReadyIn.nil
                  exact AllReadyIn.nil
                refine AllReadyIn.cons rfl (fun K hK => ?_) ?_
                · go_simp
                  refine hK _ _ ?_
                  clear hK K
                  refine wpAnyIn_take (i := 15) (v := .pointer (some ⟨bs, os + m, none⟩)) rfl rfl (by kernel_rfl) (by kernel_rfl) (by kernel_rfl) (fun _ _ _ h => h) ⟨Or.inl ⟨by rfl, (by intro U; go_simp)⟩, fun _ => rfl⟩ ?_
                  simp only [Act.put, List.getElem_toArray, List.getElem_cons_zero, List.getElem_cons_succ, List.setIfInBounds_toArray, List.set_cons_zero, List.set_cons_succ]
                  refine wpAnyIn_ready (rs := [8, 16]) (by kernel_rfl) (by simp) ?_
                  refine AllReadyIn.cons rfl (fun K hK => ?_) ?_
                  · go_simp
                    refine hK _ _ ?_
                    clear hK K
                    refine wpAnyIn_ready (rs := [16]) (by kernel_rfl) (by simp) ?_
                    refine AllReadyIn.cons rfl (fun K hK => ?_) ?_
                    · go_simp
                      refine hK _ _ ?_
                      clear hK K
                      refine wpAnyIn_ready (rs := [17]) (by kernel_rfl) (by simp) (AllReadyIn.cons rfl (fun K hK => ?_) AllReadyIn.nil)
                      go_simp
                      refine ⟨trivial, (fun h => by cases h), (callsIn_wide.2 (SF.out _)).mono ?_⟩
                      rintro e W3 ⟨rfl, o1, o2, hW3⟩
                      refine hK _ _ ?_
                      clear hK K
                      have bw3 : Below wr.heap.size wr W3 := by
                        rw [hW3]
                        repeat (first | exact Below.refl _ _ | refine Below.drew ?_ | refine Below.alloc ?_ (by simp <;> omega) _)
                      clear hW3
                      obtain ⟨fn, tmps, assign, body, hy, hR⟩ := YF.out W3 bw3
                      refine wpAnyIn_ready (rs := [18]) (by kernel_rfl) (by simp) (AllReadyIn.cons rfl (fun K hK => ?_) AllReadyIn.nil)
                      go_simp
                      refine ⟨(fun h => by cases h), hR.mono ?_⟩
                      rintro e W4 h4
                      obtain ⟨bb, rfl, ht, hf⟩ := yield_boolL h4
                      refine hK _ _ ?_
                      clear hK K h4
                      refine wpAnyIn_take (i := 19) (v := .bool (!bb)) rfl rfl (by kernel_rfl) (by kernel_rfl) (by kernel_rfl) (fun _ _ _ h => h) ⟨Or.inl ⟨by rfl, (by intro U; go_simp)⟩, fun _ => rfl⟩ ?_
                      simp only [Act.put, List.getElem_toArray, List.getElem_cons_zero, List.getElem_cons_succ, List.setIfInBounds_toArray, List.set_cons_zero, List.set_cons_succ]
                      refine wpAnyIn_take (i := 20) (v := .bool (!bb)) rfl rfl (by kernel_rfl) (by kernel_rfl) (by kernel_rfl) (fun _ _ _ h => h) ⟨Or.inl ⟨by rfl, (by intro U; go_simp)⟩, fun _ => rfl⟩ ?_
                      simp only [Act.put, List.getElem_toArray, List.getElem_cons_zero, List.getElem_cons_succ, List.setIfInBounds_toArray, List.set_cons_zero, List.set_cons_succ]
                      refine wpAnyIn_done (by kernel_rfl) ?_ _
                      cases bb with
                      | true =>
                        obtain ⟨hJ3, hk3⟩ := ht rfl
                        have hk4 : KpD n0 B1 B2 wr W4 := kpD_t (kpD_of bw3) hk3
                        have hB1' := kpD_cell hk4 (p := ⟨B1, 0, none⟩) (.inr (.inl rfl)) hB1
                        have hB2' := kpD_cell hk4 (p := ⟨B2, 0, none⟩) (.inr (.inr rfl)) hB2
                        have hv' := latD_keep HVk.out hk4
                        have hu' := iatD_keep HUk.out hk4
                        have hn' := Nat.le_trans hn0' hk4.1
                        clear ht hf hk3
                        gi_wp2
                        go_roundw
                        case rel => exact ⟨k + 1, by go_num, by omega, hB1', hB2', hv', hu', hn', hJ3⟩
                        case measure => simp [intOf]; omega
                      | false =>
                        have hJx3 := hf rfl
                        clear ht hf
                        gi_wp2
                        refine bodyPost_ret (results_none rfl _ _ _) rfl ?_
                        exact ⟨⟨_, rfl⟩, .inr ⟨_, onL_prefix (by omega), hJx3⟩⟩
                    exact AllReadyIn.nil
                  refine AllReadyIn.cons rfl (fun K hK => ?_) ?_
                  · go_simp
                    refine hK _ _ ?_
                    clear hK K
                    refine wpAnyIn_ready (rs := [8]) (by kernel_rfl) (by simp) ?_
                    refine AllReadyIn.cons rfl (fun K hK => ?_) ?_
                    · go_simp
                      refine hK _ _ ?_
                      clear hK K
                      refine wpAnyIn_ready (rs := [17]) (by kernel_rfl) (by simp) (AllReadyIn.cons rfl (fun K hK => ?_) AllReadyIn.nil)
                      go_simp
                      refine ⟨trivial, (fun h => by cases h), (callsIn_wide.2 (SF.out _)).mono ?_⟩
                      rintro e W3 ⟨rfl, o1, o2, hW3⟩
                      refine hK _ _ ?_
                      clear hK K
                      have bw3 : Below wr.heap.size wr W3 := by
                        rw [hW3]
                        repeat (first | exact Below.refl _ _ | refine Below.drew ?_ | refine Below.alloc ?_ (by simp <;> omega) _)
                      clear hW3
                      obtain ⟨fn, tmps, assign, body, hy, hR⟩ := YF.out W3 bw3
                      refine wpAnyIn_ready (rs := [18]) (by kernel_rfl) (by simp) (AllReadyIn.cons rfl (fun K hK => ?_) AllReadyIn.nil)
                      go_simp
                      refine ⟨(fun h => by cases h), hR.mono ?_⟩
                      rintro e W4 h4
                      obtain ⟨bb, rfl, ht, hf⟩ := yield_boolL h4
                      refine hK _ _ ?_
                      clear hK K h4
                      refine wpAnyIn_take (i := 19) (v := .bool (!bb)) rfl rfl (by kernel_rfl) (by kernel_rfl) (by kernel_rfl) (fun _ _ _ h => h) ⟨Or.inl ⟨by rfl, (by intro U; go_simp)⟩, fun _ => rfl⟩ ?_
                      simp only [Act.put, List.getElem_toArray, List.getElem_cons_zero, List.getElem_cons_succ, List.setIfInBounds_toArray, List.set_cons_zero, List.set_cons_succ]
                      refine wpAnyIn_take (i := 20) (v := .bool (!bb)) rfl rfl (by kernel_rfl) (by kernel_rfl) (by kernel_rfl) (fun _ _ _ h => h) ⟨Or.inl ⟨by rfl, (by intro U; go_simp)⟩, fun _ => rfl⟩ ?_
                      simp only [Act.put, List.getElem_toArray, List.getElem_cons_zero, List.getElem_cons_succ, List.setIfInBounds_toArray, List.set_cons_zero, List.set_cons_succ]
                      refine wpAnyIn_done (by kernel_rfl) ?_ _
                      cases bb with
                      | true =>
                        obtain ⟨hJ3, hk3⟩ := ht rfl
                        have hk4 : KpD n0 B1 B2 wr W4 := kpD_t (kpD_of bw3) hk3
                        have hB1' := kpD_cell hk4 (p := ⟨B1, 0, none⟩) (.inr (.inl rfl)) hB1
                        have hB2' := kpD_cell hk4 (p := ⟨B2, 0, none⟩) (.inr (.inr rfl)) hB2
                        have hv' := latD_keep HVk.out hk4
                        have hu' := iatD_keep HUk.out hk4
                        have hn' := Nat.le_trans hn0' hk4.1
                        clear ht hf hk3
                        gi_wp2
                        go_roundw
                        case rel => exact ⟨k + 1, by go_num, by omega, hB1', hB2', hv', hu', hn', hJ3⟩
                        case measure => simp [intOf]; omega
                      | false =>
                        have hJx3 := hf rfl
                        clear ht hf
                        gi_wp2
                        refine bodyPost_ret (results_none rfl _ _ _) rfl ?_
                        exact ⟨⟨_, rfl⟩, .inr ⟨_, onL_prefix (by omega), hJx3⟩⟩
                    exact AllReadyIn.nil
                  exact AllReadyIn.nil
                exact AllReadyIn.nil
              exact AllReadyIn.nil
            exact AllReadyIn.nil
          exact AllReadyIn.nil
        exact AllReadyIn.nil
      · have hm : zAt zs k = -1 := by omega
        rw [hm] at d1
        have hob : onB zs k = false := by simp [onB, hm]
        generalize hlb : lbAt ps k = q at *
        obtain ⟨r, wd, sts, t⟩ := q
        simp only at c1 c2 c3 c4 hz1 hsx
        generalize sts.length = L at c3 hz1 hsx
        clear hsx hck hcl F1 hone hon hz0 hz1 hlb
        gi_wp2
        refine wpIn_region_any hmx ?_
        change wpAnyIn _ _ _ _ _ _ 21 #[false, false, false, false, false, false, false, false, false, false, false, false, false, false, false, false, false, false, false, false, false] _ (World.drew _)
        refine wpAnyIn_take (i := 1) (v := .int .i64 (k : Int)) rfl rfl (by kernel_rfl) (by kernel_rfl) (by kernel_rfl) (fun _ _ _ h => h) ⟨Or.inl ⟨by rfl, (by intro U; go_simp)⟩, fun _ => rfl⟩ ?_
        simp only [Act.put, List.getElem_toArray, List.getElem_cons_zero, List.getElem_cons_succ, List.setIfInBounds_toArray, List.set_cons_zero, List.set_cons_succ]
        refine wpAnyIn_ready (rs := [0]) (by kernel_rfl) (by simp) (AllReadyIn.cons rfl (fun K hK => ?_) AllReadyIn.nil)
        go_simp
        refine hK _ _ ?_
        clear hK K
        refine wpAnyIn_take (i := 2) (v := .pointer (some ⟨b2, off2 + k, none⟩)) rfl rfl (by kernel_rfl) (by kernel_rfl) (by kernel_rfl) (fun _ _ _ h => h) ⟨Or.inl ⟨by rfl, (by intro U; go_simp)⟩, fun _ => rfl⟩ ?_
        simp only [Act.put, List.getElem_toArray, List.getElem_cons_zero, List.getElem_cons_succ, List.setIfInBounds_toArray, List.set_cons_zero, List.set_cons_succ]
        refine wpAnyIn_ready (rs := [3]) (by kernel_rfl) (by simp) (AllReadyIn.cons rfl (fun K hK => ?_) AllReadyIn.nil)
        go_simp
        refine hK _ _ ?_
        clear hK K
        refine wpAnyIn_take (i := 4) (v := .bool false) rfl rfl (by kernel_rfl) (by kernel_rfl) (by kernel_rfl) (fun _ _ _ h => h) ⟨Or.inl ⟨by rfl, (by intro U; go_simp)⟩, fun _ => rfl⟩ ?_
        simp only [Act.put, List.getElem_toArray, List.getElem_cons_zero, List.getElem_cons_succ, List.setIfInBounds_toArray, List.set_cons_zero, List.set_cons_succ]
        refine wpAnyIn_take (i := 5) (v := .bool false) rfl rfl (by kernel_rfl) (by kernel_rfl) (by kernel_rfl) (fun _ _ _ h => h) ⟨Or.inl ⟨by rfl, (by intro U; go_simp)⟩, fun _ => rfl⟩ ?_
        simp only [Act.put, List.getElem_toArray, List.getElem_cons_zero, List.getElem_cons_succ, List.setIfInBounds_toArray, List.set_cons_zero, List.set_cons_succ]
        refine wpAnyIn_take (i := 6) (v := undef) rfl rfl (by kernel_rfl) (by kernel_rfl) (by kernel_rfl) (fun _ _ _ h => h) ⟨Or.inr ⟨by rfl, rfl⟩, fun _ => rfl⟩ ?_
        simp only [Act.put, List.getElem_toArray, List.getElem_cons_zero, List.getElem_cons_succ, List.setIfInBounds_toArray, List.set_cons_zero, List.set_cons_succ]
        refine wpAnyIn_take (i := 7) (v := undef) rfl rfl (by kernel_rfl) (by kernel_rfl) (by kernel_rfl) (fun _ _ _ h => h) ⟨Or.inr ⟨by rfl, rfl⟩, fun _ => rfl⟩ ?_
        simp only [Act.put, List.getElem_toArray, List.getElem_cons_zero, List.getElem_cons_succ, List.setIfInBounds_toArray, List.set_cons_zero, List.set_cons_succ]
        refine wpAnyIn_take (i := 8) (v := undef) rfl rfl (by kernel_rfl) (by kernel_rfl) (by kernel_rfl) (fun _ _ _ h => h) ⟨Or.inr ⟨by rfl, rfl⟩, fun _ => rfl⟩ ?_
        simp only [Act.put, List.getElem_toArray, List.getElem_cons_zero, List.getElem_cons_succ, List.setIfInBounds_toArray, List.set_cons_zero, List.set_cons_succ]
        refine wpAnyIn_take (i := 9) (v := undef) rfl rfl (by kernel_rfl) (by kernel_rfl) (by kernel_rfl) (fun _ _ _ h => h) ⟨Or.inr ⟨by rfl, rfl⟩, fun _ => rfl⟩ ?_
        simp only [Act.put, List.getElem_toArray, List.getElem_cons_zero, List.getElem_cons_succ, List.setIfInBounds_toArray, List.set_cons_zero, List.set_cons_succ]
        refine wpAnyIn_take (i := 10) (v := undef) rfl rfl (by kernel_rfl) (by kernel_rfl) (by kernel_rfl) (fun _ _ _ h => h) ⟨Or.inr ⟨by rfl, rfl⟩, fun _ => rfl⟩ ?_
        simp only [Act.put, List.getElem_toArray, List.getElem_cons_zero, List.getElem_cons_succ, List.setIfInBounds_toArray, List.set_cons_zero, List.set_cons_succ]
        refine wpAnyIn_take (i := 11) (v := undef) rfl rfl (by kernel_rfl) (by kernel_rfl) (by kernel_rfl) (fun _ _ _ h => h) ⟨Or.inr ⟨by rfl, rfl⟩, fun _ => rfl⟩ ?_
        simp only [Act.put, List.getElem_toArray, List.getElem_cons_zero, List.getElem_cons_succ, List.setIfInBounds_toArray, List.set_cons_zero, List.set_cons_succ]
        refine wpAnyIn_take (i := 12) (v := undef) rfl rfl (by kernel_rfl) (by kernel_rfl) (by kernel_rfl) (fun _ _ _ h => h) ⟨Or.inr ⟨by rfl, rfl⟩, fun _ => rfl⟩ ?_
        simp only [Act.put, List.getElem_toArray, List.getElem_cons_zero, List.getElem_cons_succ, List.setIfInBounds_toArray, List.set_cons_zero, List.set_cons_succ]
        refine wpAnyIn_take (i := 13) (v := undef) rfl rfl (by kernel_rfl) (by kernel_rfl) (by kernel_rfl) (fun _ _ _ h => h) ⟨Or.inr ⟨by rfl, rfl⟩, fun _ => rfl⟩ ?_
        simp only [Act.put, List.getElem_toArray, List.getElem_cons_zero, List.getElem_cons_succ, List.setIfInBounds_toArray, List.set_cons_zero, List.set_cons_succ]
        refine wpAnyIn_take (i := 14) (v := undef) rfl rfl (by kernel_rfl) (by kernel_rfl) (by kernel_rfl) (fun _ _ _ h => h) ⟨Or.inr ⟨by rfl, rfl⟩, fun _ => rfl⟩ ?_
        simp only [Act.put, List.getElem_toArray, List.getElem_cons_zero, List.getElem_cons_succ, List.setIfInBounds_toArray, List.set_cons_zero, List.set_cons_succ]
        refine wpAnyIn_take (i := 15) (v := undef) rfl rfl (by kernel_rfl) (by kernel_rfl) (by kernel_rfl) (fun _ _ _ h => h) ⟨Or.inr ⟨by rfl, rfl⟩, fun _ => rfl⟩ ?_
        simp only [Act.put, List.getElem_toArray, List.getElem_cons_zero, List.getElem_cons_succ, List.setIfInBounds_toArray, List.set_cons_zero, List.set_cons_succ]
        refine wpAnyIn_take (i := 16) (v := undef) rfl rfl (by kernel_rfl) (by kernel_rfl) (by kernel_rfl) (fun _ _ _ h => h) ⟨Or.inr ⟨by rfl, rfl⟩, fun _ => rfl⟩ ?_
        simp only [Act.put, List.getElem_toArray, List.getElem_cons_zero, List.getElem_cons_succ, List.setIfInBounds_toArray, List.set_cons_zero, List.set_cons_succ]
        refine wpAnyIn_ready (rs := [17]) (by kernel_rfl) (by simp) (AllReadyIn.cons rfl (fun K hK => ?_) AllReadyIn.nil)
        go_simp
        refine ⟨trivial, hK _ _ ?_⟩
        clear hK K
        refine wpAnyIn_take (i := 18) (v := undef) rfl rfl (by kernel_rfl) (by kernel_rfl) (by kernel_rfl) (fun _ _ _ h => h) ⟨Or.inr ⟨by rfl, rfl⟩, fun _ => rfl⟩ ?_
        simp only [Act.put, List.getElem_toArray, List.getElem_cons_zero, List.getElem_cons_succ, List.setIfInBounds_toArray, List.set_cons_zero, List.set_cons_succ]
        refine wpAnyIn_take (i := 19) (v := undef) rfl rfl (by kernel_rfl) (by kernel_rfl) (by kernel_rfl) (fun _ _ _ h => h) ⟨Or.inr ⟨by rfl, rfl⟩, fun _ => rfl⟩ ?_
        simp only [Act.put, List.getElem_toArray, List.getElem_cons_zero, List.getElem_cons_succ, List.setIfInBounds_toArray, List.set_cons_zero, List.set_cons_succ]
        refine wpAnyIn_take (i := 20) (v := .bool false) rfl rfl (by kernel_rfl) (by kernel_rfl) (by kernel_rfl) (fun _ _ _ h => h) ⟨Or.inl ⟨by rfl, (by intro U; go_simp)⟩, fun _ => rfl⟩ ?_
        simp only [Act.put, List.getElem_toArray, List.getElem_cons_zero, List.getElem_cons_succ, List.setIfInBounds_toArray, List.set_cons_zero, List.set_cons_succ]
        refine wpAnyIn_done (by kernel_rfl) ?_ _
        have bw3 : Below wr.heap.size wr _ := (show Below wr.heap.size wr ((wr.alloc (.cells #[.int .i64 r, .int .i64 wd, .slice ax L cx, .int .i64 t] 36)).drew) from Below.drew ((Below.refl _ _).alloc (Nat.le_refl _) _))
        have hk4 : KpD n0 B1 B2 wr _ := kpD_of bw3
        have hB1' := kpD_cell hk4 (p := ⟨B1, 0, none⟩) (.inr (.inl rfl)) hB1
        have hB2' := kpD_cell hk4 (p := ⟨B2, 0, none⟩) (.inr (.inr rfl)) hB2
        have hv' := latD_keep HVk.out hk4
        have hu' := iatD_keep HUk.out hk4
        have hn' := Nat.le_trans hn0' hk4.1
        have hJ3 := HA.out _ _ _ HJ.out bw3
        gi_wp2
        go_roundw
        case rel => exact ⟨k + 1, by go_num, by omega, hB1', hB2', hv', hu', hn', by rw [onL_no hob]; exact hJ3⟩
        case measure => simp [intOf]; omega
    · obtain rfl : k = ps.length := by omega
      gi_wp2
      go_end0
      exact ⟨⟨_, rfl⟩, .inl ⟨_, rfl, HJ.out⟩⟩
theorem placedSpans_any (a au : Option Addr) (n c nu cu : Nat) (w : World) :
    Calls Try.prog 77 #[.slice a n c, .slice au nu cu] w fun e w' => e = .returned (.func (.func 121) #[] #[.pointer (some ⟨w.heap.size, 0, none⟩), .pointer (some ⟨w.heap.size + 1, 0, none⟩)]) ∧ w'.cell? ⟨w.heap.size, 0, none⟩ = some (.slice a n c) ∧ w'.cell? ⟨w.heap.size + 1, 0, none⟩ = some (.slice au nu cu) ∧ Below w.heap.size w w' ∧ w'.heap.size = w.heap.size + 2 := by
  go_enter Try.func77, Try.ntmps77
  go_wp2
  go_ret
  exact ⟨rfl, by simp [go_sem], by simp [go_sem], ((Below.refl _ _).alloc (Nat.le_refl _) _).alloc (by simp) _, by simp⟩
theorem placed_stops (n n0 B1 B2 : Nat) (v u : Value) (ps : List Lb) (zs : List Int) (hp : ps.length ≤ 8) (hzl : zs.length = ps.length)
    (hf : ∀ k, k < ps.length → oneL (lbAt ps k) = true ∧ -1 ≤ zAt zs k ∧ zAt zs k < ((lbAt ps k).2.2.1.length : Int)) (w : World) (hB1 : w.cell? ⟨B1, 0, none⟩ = some v) (hB2 : w.cell? ⟨B2, 0, none⟩ = some u) (hv : LAt w n0 v ps) (hu : IAt w n0 u zs) (hn0 : n0 ≤ w.heap.size) :
    SeqStopsK (α := Plc ps zs) Fence.wide n Try.prog 121 #[.pointer (some ⟨B1, 0, none⟩), .pointer (some ⟨B2, 0, none⟩)] (fun x => encP ps zs x.1) (KpD n0 B1 B2) (fun ys => ys.map Subtype.val = onL zs ps.length) (fun pre => pre.map Subtype.val <+: onL zs ps.length) ps.length w := fun l J Jx W hW hJ _ hY hj => by
  refine (placed1_in l n n0 B1 B2 v u ps zs (fun s W => ∃ s' : List (Plc ps zs), s'.map Subtype.val = s ∧ J s' W) (fun s W => ∃ s' : List (Plc ps zs), s'.map Subtype.val = s ∧ Jx s' W) (fun s A C hs hb => ?_) hp hzl hf (fun pre x W1 hx hox hj hl => ?_) W (by rw [hW.cell (p := ⟨B1, 0, none⟩) (World.block_lt_of_cell? _ _ hB1)]; exact hB1) (by rw [hW.cell (p := ⟨B2, 0, none⟩) (World.block_lt_of_cell? _ _ hB2)]; exact hB2) (latD_keep hv (kpD_of (B1 := B1) (B2 := B2) hW)) (iatD_keep hu (kpD_of (B1 := B1) (B2 := B2) hW)) (Nat.le_trans hn0 hW.size) ⟨[], rfl, hj⟩).mono ?_
  · obtain ⟨s', e, h⟩ := hs
    exact ⟨s', e, hJ s' A C none h (grown_ofL hb) (fun r e => by cases e)⟩
  · obtain ⟨p', e, h⟩ := hj
    refine YieldAt.mono (hY p' ⟨x, hx, hox⟩ W1 h (by rw [← e, List.length_map] at hl; exact hl)) fun e' W2 h2 => ?_
    rcases h2 with ⟨h3, h4, h5⟩ | ⟨h3, h4⟩
    · exact .inl ⟨h3, ⟨_, by rw [List.map_append, e]; rfl, h4⟩, h5⟩
    · exact .inr ⟨h3, ⟨_, by rw [List.map_append, e]; rfl, h4⟩⟩
  · rintro e W' ⟨h1, h2⟩
    refine ⟨h1, ?_⟩
    rcases h2 with ⟨ys, rfl, s', e1, h3⟩ | ⟨pre, hp, s', e1, h3⟩
    · exact .inl ⟨s', e1, h3⟩
    · exact .inr ⟨s', by show List.map Subtype.val s' <+: _; rw [e1]; exact hp, h3⟩
end Go.Proofs.Ytmfjpmimkpldjaa.ltab
