/- Lists of numbers are compared, marked and looked at again: contracts of the laws' own functions. -/
import Derived.Test.YtemhmejjmhbfdaaLift
import Derived.OwnWalk
import Derived.Laws.OwnMore
import Derived.Laws.AppendOwn
import Derived.Deep.RegionHeld3
import Derived.BigQuiet
import Derived.LoopTactic
import Derived.Lib.Hide
namespace Go.Proofs.Ytemhmejjmhbfdaa.irows
open Go.ChangeShapes Go.WideShapes Go.ChangeAt Go.RowKit

def ints (zs : List Int) : List Value := zs.map (Value.int .i64)
theorem ints_len (zs : List Int) : (ints zs).length = zs.length := by simp [ints]
theorem ints_one (zs : List Int) : ∀ u ∈ ints zs, u.oneCell' = true := by
  intro u hu
  simp only [ints, List.mem_map] at hu
  obtain ⟨b, _, rfl⟩ := hu
  rfl
theorem info_int : (Try.prog.info? 2).map (fun i => (i.zero, i.size, i.bytes)) = some (some (.int .i64 0), 1, 8) := by kernel_rfl
/-- A list of numbers of the call's own. -/
def IRow (w : World) (B : Nat) (v : Value) (zs : List Int) : Prop := w.ownsRow B 2 1 v zs.length (ints zs)
theorem irow_nil (w : World) (B : Nat) : IRow w B (.slice none 0 0) [] := ⟨rfl, .inl ⟨rfl, rfl⟩⟩
theorem irow_shape {w : World} {B : Nat} {v : Value} {zs : List Int} (h : IRow w B v zs) : (∃ a c, v = .slice a zs.length c) ∧ (0 < zs.length → ∃ g c, v = .slice (some ⟨g, 0, none⟩) zs.length c ∧ B ≤ g) := by
  rcases h.2 with ⟨hv, h0⟩ | ⟨g, cap, cur, hv, hB, _⟩
  · exact ⟨⟨none, 0, by rw [hv, h0]⟩, fun hp => by omega⟩
  · exact ⟨⟨_, _, hv⟩, fun _ => ⟨g, cap, hv, hB⟩⟩
theorem irow_cell {w : World} {B g c : Nat} {zs : List Int} (h : IRow w B (.slice (some ⟨g, 0, none⟩) zs.length c) zs) (k : Nat) (hk : k < zs.length) : w.cell? ⟨g, k, none⟩ = some (.int .i64 zs[k]) := by
  rw [World.ownsRow.cellAt h k (by omega)]
  simp [ints, hk]
/-- Where element k lies. -/
theorem irow_at {w : World} {B : Nat} {a : Option Addr} {c : Nat} {zs : List Int} (h : IRow w B (.slice a zs.length c) zs) (k : Nat) (hk : k < zs.length) : ∃ g, a = some ⟨g, 0, none⟩ ∧ B ≤ g ∧ w.cell? ⟨g, k, none⟩ = some (.int .i64 zs[k]) := by
  obtain ⟨g, c2, e, hB⟩ := (irow_shape h).2 (by omega)
  simp at e
  obtain ⟨rfl, rfl⟩ := e
  exact ⟨g, rfl, hB, irow_cell h k hk⟩
theorem irow_keep {w w' : World} {B : Nat} {v : Value} {zs : List Int} (h : IRow w B v zs) (hb : Below w.heap.size w w') : IRow w' B v zs := by
  refine ⟨h.1, ?_⟩
  rcases h.2 with hn | ⟨g, cap, cur, hv, hg1, hg2, hg3⟩
  · exact .inl hn
  · exact .inr ⟨g, cap, cur, hv, hg1, by rw [hb.block g (Array.getElem?_eq_some_iff.1 hg2).1]; exact hg2, hg3⟩
theorem irow_up {w : World} {B B' : Nat} {v : Value} {zs : List Int} (h : IRow w B v zs) (hB : B' ≤ B) : IRow w B' v zs := by
  refine ⟨h.1, ?_⟩
  rcases h.2 with hn | ⟨g, cap, cur, hv, hg1, hr⟩
  · exact .inl hn
  · exact .inr ⟨g, cap, cur, hv, Nat.le_trans hB hg1, hr⟩
theorem bdr {B : Nat} {a w : World} (h : Below B a w) (q : Nat) : Below B a (w.drewN q) := ⟨h.os, h.tape, h.output, h.size, h.block⟩
theorem below_drawn (w : World) (q : Nat) : Below w.heap.size w (w.drewN q) := bdr (Below.refl _ _) q
/-- A row whose block lies below another one's is not touched by what is done to that. -/
theorem irow_other {w w' : World} {B C : Nat} {v u : Value} {zs ys : List Int} (h : IRow w B v zs) (hv : ∀ k, v.ownBlock = some k → k < C) (hu : IRow w C u ys) (hg : w.grownBy w' u.ownBlock) : IRow w' B v zs := by
  refine World.ownsRow.kept h hg ?_
  cases hk : v.ownBlock with
  | none => exact .inl rfl
  | some k =>
    refine .inr fun e => ?_
    have h1 := hv k hk
    have h2 := (World.ownsRow.lt hu k e.symm).1
    omega
theorem irow_lt {w : World} {B : Nat} {v : Value} {zs : List Int} (h : IRow w B v zs) : ∀ k, v.ownBlock = some k → k < w.heap.size := fun k hk => (World.ownsRow.lt h k hk).2

set_option maxRecDepth 100000 in
set_option maxHeartbeats 1000000 in
theorem eq_same (va vb : Value) (Ba Bb : Nat) (zs : List Int) (w : World) (ha : IRow w Ba va zs) (hb : IRow w Bb vb zs) (hn : zs.length ≤ 1073741824) :
    Calls Try.prog 66 #[va, vb] w fun e w' => e = .returned (.bool true) ∧ ∃ q, w' = w.drewN q := by
  obtain ⟨⟨aa, ca, rfl⟩, _⟩ := irow_shape ha
  obtain ⟨⟨ab, cb, rfl⟩, _⟩ := irow_shape hb
  have HA := Lib.hid (fun k hk => irow_at ha k hk)
  have HB := Lib.hid (fun k hk => irow_at hb k hk)
  clear ha hb
  go_enter Try.func66, Try.ntmps66
  go_wp2
  go_loopw [5] (fun i wr => ∃ k q : Nat, k ≤ zs.length ∧ i = .int .i64 (k : Int) ∧ wr = w.drewN q) (fun i _ => zs.length - (intOf i).toNat)
  case atStart => exact ⟨0, 0, Nat.zero_le _, rfl, rfl⟩
  case round =>
    obtain ⟨k, q, hk, rfl, rfl⟩ := hrel
    by_cases hlt : k < zs.length
    · obtain ⟨ga, rfl, _, hca⟩ := HA.out k hlt
      obtain ⟨gb, rfl, _, hcb⟩ := HB.out k hlt
      have hk0 : 0 ≤ (k : Int) := by omega
      have hk1 : (k : Int) < (zs.length : Int) := by omega
      generalize zs[k] = x at hca hcb
      go_wp2
      go_quiet (fail)
      go_wp2
      go_roundw
      case rel => exact ⟨k + 1, _, by omega, by go_num, rfl⟩
      case measure => simp [intOf]; omega
    · obtain rfl : k = zs.length := by omega
      go_wp2
      go_ret
      exact ⟨rfl, q, rfl⟩

def marks (k n : Nat) : List Int := (List.range n).map fun i : Nat => ((k + i : Nat) : Int)
theorem marks_len (k n : Nat) : (marks k n).length = n := by simp [marks]
theorem marks_at (k n i : Nat) (h : i < n) : (marks k n)[i]'(by rw [marks_len]; exact h) = ((k + i : Nat) : Int) := by simp [marks]
theorem marks_succ (k i : Nat) : marks k (i + 1) = marks k i ++ [((k + i : Nat) : Int)] := by simp [marks, List.range_succ]
theorem marks_set (k i : Nat) (zs : List Int) (h : i < zs.length) : (ints (marks k i ++ zs.drop i)).set i (.int .i64 ((k + i : Nat) : Int)) = ints (marks k (i + 1) ++ zs.drop (i + 1)) := by
  rw [List.drop_eq_getElem_cons h, marks_succ]
  simp only [ints, List.map_append, List.map_cons, List.map_nil]
  rw [List.set_append_right _ _ (by simp [marks_len])]
  simp [marks_len]
theorem mix_len (k i : Nat) (zs : List Int) (h : i ≤ zs.length) : (marks k i ++ zs.drop i).length = zs.length := by simp [marks_len]; omega
theorem irow_store {w : World} {B g c k n : Nat} {zs ys : List Int} {x : Int} (h : IRow w B (.slice (some ⟨g, 0, none⟩) n c) zs) (hn : zs.length = n) (hq : (ints zs).set k (.int .i64 x) = ints ys) (hl : ys.length = n) :
    IRow (w.setCell ⟨g, k, none⟩ (.int .i64 x)) B (.slice (some ⟨g, 0, none⟩) n c) ys := by
  subst hn
  have := (World.ownsRow.stored h k (.int .i64 x)).1
  rw [hq] at this
  unfold IRow
  rw [hl]
  exact this

set_option maxRecDepth 100000 in
set_option maxHeartbeats 1000000 in
theorem mark_any (v : Value) (B : Nat) (zs : List Int) (w : World) (ha : IRow w B v zs) (hn : zs.length ≤ 2000000) :
    Calls Try.prog 68 #[v, .int .i64 1] w fun e w' => e = .returned (.int .i64 (1 + (zs.length : Int))) ∧ IRow w' B v (marks 1 zs.length) ∧ w.grownBy w' v.ownBlock := by
  obtain ⟨⟨aa, ca, rfl⟩, sa⟩ := irow_shape ha
  have H0 := Lib.hid ha
  have HS := Lib.hid sa
  clear ha sa
  go_enter Try.func68, Try.ntmps68
  go_wp2
  go_loopw [1, 5] (fun m i wr => ∃ k : Nat, k ≤ zs.length ∧ i = .int .i64 (k : Int) ∧ m = .int .i64 (1 + (k : Int)) ∧ IRow wr B (.slice aa zs.length ca) (marks 1 k ++ zs.drop k) ∧ w.grownBy wr (Value.slice aa zs.length ca).ownBlock) (fun _ i _ => zs.length - (intOf i).toNat)
  case atStart => exact ⟨0, Nat.zero_le _, rfl, rfl, by simpa [marks] using H0.out, World.grownBy.refl _ _⟩
  case round =>
    obtain ⟨k, hk, rfl, rfl, hr, hg⟩ := hrel
    by_cases hlt : k < zs.length
    · obtain ⟨g, c, e, hB⟩ := HS.out (by omega)
      simp at e
      obtain ⟨rfl, rfl⟩ := e
      have hk0 : 0 ≤ (k : Int) := by omega
      have hk1 : (k : Int) < (zs.length : Int) := by omega
      have hml := mix_len 1 k zs (by omega)
      have hc1 : wr.cell? ⟨g, k, none⟩ = some (.int .i64 ((marks 1 k ++ zs.drop k)[k]'(by omega))) := by
        have h2 : IRow wr B (.slice (some ⟨g, 0, none⟩) (marks 1 k ++ zs.drop k).length ca) (marks 1 k ++ zs.drop k) := by rw [hml]; exact hr
        exact irow_cell h2 k (by omega)
      have hf1 : wr.frozen? ⟨g, k, none⟩ = false := World.ownsRow.frozenAt (w := wr) (base := B) (n := zs.length) (cap := ca) (xs := ints (marks 1 k ++ zs.drop k)) (by rw [← hml]; unfold IRow at hr; rw [hml] at hr ⊢; exact hr) k
      have HR := Lib.hid hr
      have HL := Lib.hid hml
      have HG := Lib.hid (show w.grownBy (wr.setCell ⟨g, k, none⟩ (.int .i64 (1 + (k : Int)))) (some g) from by
        refine ⟨hg.os, hg.tape, hg.output, ?_, ?_⟩
        · have := hg.size; simp [World.setCell]; omega
        · intro j hj hne
          rw [Below.heap_setCell _ _ _ _ (by simp; exact fun e => hne (by rw [e]))]
          exact hg.block j hj hne)
      generalize (marks 1 k ++ zs.drop k)[k]'(by omega) = old at hc1
      clear hr hg hml
      go_wp2
      go_roundw
      case rel => exact ⟨k + 1, by omega, by go_num, by go_num, irow_store HR.out HL.out (by have := marks_set 1 k zs hlt; rwa [show ((1 + k : Nat) : Int) = 1 + (k : Int) by omega] at this) (mix_len 1 (k + 1) zs (by omega)), HG.out⟩
      case measure => simp [intOf]; omega
    · obtain rfl : k = zs.length := by omega
      have HR := Lib.hid hr
      have HG := Lib.hid hg
      clear hr hg
      go_wp2
      go_ret
      exact ⟨rfl, by simpa using HR.out, HG.out⟩

end Go.Proofs.Ytemhmejjmhbfdaa.irows
