/- The iterator over the parallels of a step: its contract. -/
import Derived.RangeFuncNested
import Derived.RangeFuncBound
import Derived.RangeFuncCalls
import Derived.RangeFuncLeaves
import Derived.RangeFuncBox
import Derived.Shelf.Abstract
import Derived.Shelf.RegionOpen
import Derived.OwnWalkIn
import Derived.TacticsInMore
import Derived.LoopNIn
import Derived.LoopIn
import Derived.Maps.AppendAt
import Derived.Test.YtbnihalbepffoaaDoorGoreF
namespace Go.Proofs.YtbnihalbepffoaaDoor.sines
open Go.ChangeShapes Go.WideShapes Go.ChangeAt Go.RowKit Go.Shelf Go.Proofs.YtbnihalbepffoaaDoor.spots Go.Proofs.YtbnihalbepffoaaDoor.irows
attribute [local go_sem] Oper.semAt_some
set_option linter.unusedVariables false
set_option linter.unusedSimpArgs false

/-- A latitude between the equator and the north pole. -/
abbrev Lat := { z : Int // 0 ≤ z ∧ z ≤ 324000 }
theorem lat_of {d : Int} (hd : 1 ≤ d) {k : Nat} (h : k < stepsN d) : 0 ≤ (k : Int) * d ∧ (k : Int) * d ≤ 324000 := ⟨Int.mul_nonneg (by omega) (by omega), (stepsN_iff hd).2 h⟩
/-- The latitudes of a step. -/
def latL (d : Int) (hd : 1 ≤ d) : List Lat := (List.range (stepsN d)).pmap (fun (k : Nat) (h : k < stepsN d) => (⟨(k : Int) * d, lat_of hd h⟩ : Lat)) (fun k hk => List.mem_range.1 hk)
theorem latL_len (d : Int) (hd : 1 ≤ d) : (latL d hd).length = stepsN d := by simp [latL]
theorem latL_val (d : Int) (hd : 1 ≤ d) : (latL d hd).map (·.1) = (List.range (stepsN d)).map fun i : Nat => (i : Int) * d := by
  simp only [latL, List.map_pmap, List.pmap_eq_map]
theorem latL_mid {d : Int} {hd : 1 ≤ d} {pre rest : List Lat} {x : Lat} (h : latL d hd = pre ++ x :: rest) : x.1 = (pre.length : Int) * d := by
  have h1 : ((latL d hd).map (·.1))[pre.length]? = some x.1 := by rw [h]; simp
  have hl : pre.length < stepsN d := by rw [← latL_len d hd, h]; simp
  rw [latL_val] at h1
  simp [hl] at h1
  exact h1.symm
/-- What a round must keep: the iterator's own box. -/
def KeepBox (B : Nat) (d : Int) (X Y : World) : Prop := X.cell? ⟨B, 0, none⟩ = some (.int .i64 d) → Y.cell? ⟨B, 0, none⟩ = some (.int .i64 d)
theorem keepBox_t {B : Nat} {d : Int} {X Y Z : World} (h : KeepBox B d X Y) (k : KeepBox B d Y Z) : KeepBox B d X Z := fun e => k (h e)
theorem keepBox_b {B : Nat} {d : Int} {w : World} (W : World) (l : Nat) (ob ob' : Obj) (_ : w.heap.size ≤ l) (h : W.heap[l]? = some ob) (hc : ob.isCells = false) (_ : ob.isWalk = false) : KeepBox B d W (W.putObj l ob') :=
  fun e => cell_kept e (grownBy_putObj' W l ob') (fun r er => by cases er; exact ⟨_, h, hc⟩)


set_option maxRecDepth 100000 in
set_option maxHeartbeats 1000000 in
theorem par1_in (F : Fence) (n : Nat) (h6 : F.fn 106) (hro : F.round = none) (hn : 1 ≤ n) (l B : Nat) (d : Int) (hd : 1 ≤ d) (hd2 : d ≤ 324000) (J Jx : List Lat → World → Prop)
    (hY : ∀ pre x W, J pre W → pre.length < stepsN d → YieldAt F (n - 1) Tryd.prog l #[.int .i64 x.1] W fun e W' =>
      (e = .returned (.bool true) ∧ J (pre ++ [x]) W' ∧ KeepBox B d W W') ∨ (e = .returned (.bool false) ∧ Jx (pre ++ [x]) W'))
    (W : World) (hB : W.cell? ⟨B, 0, none⟩ = some (.int .i64 d)) (h0 : J [] W) :
    CallsIn F n Tryd.prog 106 #[.func (.yield l) #[] #[], .pointer (some ⟨B, 0, none⟩)] W fun e W' => (∃ v, e = .returned v) ∧
      ((∃ ys, ys = latL d hd ∧ J ys W') ∨ (∃ pre, pre <+: latL d hd ∧ Jx pre W')) := by
  refine callsIn_of_wp Tryd.func106 rfl h6 ?_ hro
  simp only [Tryd.ntmps106, List.size_toArray, List.length_cons, List.length_nil, Nat.reduceAdd, Nat.reduceSub, Array.replicate_succ, Array.replicate_zero, List.push_toArray, List.append_toArray, List.nil_append, List.cons_append]
  gi_wp2
  gi_loopw [3] (fun p wr => ∃ (pre rest : List Lat) (z : Int), p = .int .i64 z ∧ latL d hd = pre ++ rest ∧ z = (pre.length : Int) * d ∧ 0 ≤ z ∧ z ≤ 648000 ∧ wr.cell? ⟨B, 0, none⟩ = some (.int .i64 d) ∧ J pre wr)
    (fun p _ => (700000 - intOf p).toNat)
  case atStart =>
    exact ⟨[], latL d hd, 0, rfl, rfl, by simp, by omega, by omega, hB, h0⟩
  case round =>
    obtain ⟨pre, rest, z, rfl, hx, hz, hz0, hz1, hc, hJs⟩ := hrel
    have hlen : pre.length + rest.length = stepsN d := by rw [← latL_len d hd, hx]; simp
    have hit := @stepsN_iff d pre.length hd
    rw [← hz] at hit
    have HZ := Lib.hid hz
    have HX := Lib.hid hx
    clear hz hx
    cases rest with
    | nil =>
      have hgt : 324000 < z := by simp at hlen; omega
      clear hit
      gi_wp2
      go_end0
      exact ⟨⟨_, rfl⟩, .inl ⟨pre, by simp [HX.out], hJs⟩⟩
    | cons x rest =>
      have hle : z ≤ 324000 := hit.2 (by simp at hlen; omega)
      clear hit
      have ez : x.1 = z := by rw [HZ.out]; exact latL_mid HX.out
      have hy := hY pre x wr hJs (by simp at hlen; omega)
      rw [ez] at hy
      obtain ⟨fn, tmps, assign, body, hy, hR⟩ := hy
      have k1 : IntKind.i64.wrap (z + d) = z + d := IntWalk.i64_in _ (by omega)
      gi_wp2
      refine hR.mono ?_
      rintro e W3 (⟨rfl, hJ3, hk3⟩ | ⟨rfl, hJx3⟩)
      · have hc3 := hk3 hc
        gi_wp2
        go_roundw
        case rel =>
          refine ⟨pre ++ [x], rest, z + d, rfl, by simp [HX.out], ?_, by omega, by omega, hc3, hJ3⟩
          rw [HZ.out]; simp [Int.add_mul]
        case measure => simp [intOf]; omega
      · gi_wp2
        refine bodyPost_ret (results_none rfl _ _ _) rfl ?_
        exact ⟨⟨_, rfl⟩, .inr ⟨pre ++ [x], ⟨rest, by simp [HX.out]⟩, hJx3⟩⟩

set_option maxHeartbeats 1000000 in
theorem parallels_any (d : Int) (w : World) :
    Calls Tryd.prog 73 #[.int .i64 d] w fun e w' => e = .returned (.func (.func 106) #[] #[.pointer (some ⟨w.heap.size, 0, none⟩)]) ∧ w' = w.alloc (.cells #[.int .i64 d] 2) := by
  go_enter Tryd.func73, Tryd.ntmps73
  go_wp2
  go_ret
  exact ⟨rfl, rfl⟩

theorem par_stops (F : Fence) (n : Nat) (h6 : F.fn 106) (hro : F.round = none) (hn : 1 ≤ n) (B : Nat) (d : Int) (hd : 1 ≤ d) (hd2 : d ≤ 324000) (w : World) (hB : B < w.heap.size)
    (hc : w.cell? ⟨B, 0, none⟩ = some (.int .i64 d)) :
    SeqStopsK F n Tryd.prog 106 #[.pointer (some ⟨B, 0, none⟩)] (fun x : Lat => #[Value.int .i64 x.1]) (KeepBox B d) (fun ys => ys = latL d hd) (fun pre => pre <+: latL d hd) (stepsN d) w := fun l J Jx W hW _ _ hY h0 =>
  par1_in F n h6 hro hn l B d hd hd2 J Jx hY W ((hW.cell (p := ⟨B, 0, none⟩) hB).trans hc) h0
end Go.Proofs.YtbnihalbepffoaaDoor.sines
