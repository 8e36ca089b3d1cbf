/- Lists of texts are compared, marked and looked at again: contracts of the laws' own functions. -/
import Derived.Test.YtpekchihdmhkkaaMarks
import Derived.Deep.RegionHeld3
namespace Go.Proofs.Ytpekchihdmhkkaa.split
open Go.ChangeShapes Go.WideShapes Go.ChangeAt Go.RowKit

/-- A list of texts of the call's own. -/
def SRow (w : World) (B : Nat) (v : Value) (ps : List ByteArray) : Prop := w.ownsRow B 9 1 v ps.length (strs ps)
theorem srow_shape {w : World} {B : Nat} {v : Value} {ps : List ByteArray} (h : SRow w B v ps) : (∃ a c, v = .slice a ps.length c) ∧ (0 < ps.length → ∃ g c, v = .slice (some ⟨g, 0, none⟩) ps.length c ∧ B ≤ g) := by
  rcases h.2 with ⟨hv, h0⟩ | ⟨g, cap, cur, hv, hB, _⟩
  · exact ⟨⟨none, 0, by rw [hv, h0]⟩, fun hp => by omega⟩
  · exact ⟨⟨_, _, hv⟩, fun _ => ⟨g, cap, hv, hB⟩⟩
theorem srow_cell {w : World} {B g c : Nat} {ps : List ByteArray} (h : SRow w B (.slice (some ⟨g, 0, none⟩) ps.length c) ps) (k : Nat) (hk : k < ps.length) : w.cell? ⟨g, k, none⟩ = some (.string ps[k]) := by
  rw [World.ownsRow.cellAt h k (by omega)]
  simp [strs, hk]
theorem cell_drewN (w : World) (q : Nat) (a : Addr) : (w.drewN q).cell? a = w.cell? a := rfl
set_option maxRecDepth 100000 in
set_option maxHeartbeats 1000000 in
theorem eq_same (va vb : Value) (Ba Bb : Nat) (ps : List ByteArray) (w : World) (ha : SRow w Ba va ps) (hb : SRow w Bb vb ps) (hn : ps.length ≤ 1073741824) :
    Calls Try.prog 17 #[va, vb] w fun e w' => e = .returned (.bool true) ∧ ∃ q, w' = w.drewN q := by
  obtain ⟨⟨aa, ca, rfl⟩, sa⟩ := srow_shape ha
  obtain ⟨⟨ab, cb, rfl⟩, sb⟩ := srow_shape hb
  have HA := Lib.hid (show ∀ k (hk : k < ps.length), ∃ ga, aa = some ⟨ga, 0, none⟩ ∧ w.cell? ⟨ga, k, none⟩ = some (.string ps[k]) from fun k hk => by
    obtain ⟨g, c, e, _⟩ := sa (by omega)
    simp at e; obtain ⟨rfl, rfl⟩ := e
    exact ⟨g, rfl, srow_cell ha k hk⟩)
  have HB := Lib.hid (show ∀ k (hk : k < ps.length), ∃ gb, ab = some ⟨gb, 0, none⟩ ∧ w.cell? ⟨gb, k, none⟩ = some (.string ps[k]) from fun k hk => by
    obtain ⟨g, c, e, _⟩ := sb (by omega)
    simp at e; obtain ⟨rfl, rfl⟩ := e
    exact ⟨g, rfl, srow_cell hb k hk⟩)
  clear ha hb sa sb
  go_enter Try.func17, Try.ntmps17
  go_wp2
  go_loopw [5] (fun i wr => ∃ k q : Nat, k ≤ ps.length ∧ i = .int .i64 (k : Int) ∧ wr = w.drewN q) (fun i _ => ps.length - (intOf i).toNat)
  case atStart => exact ⟨0, 0, Nat.zero_le _, rfl, rfl⟩
  case round =>
    obtain ⟨k, q, hk, rfl, rfl⟩ := hrel
    by_cases hlt : k < ps.length
    · obtain ⟨ga, rfl, hca⟩ := HA.out k hlt
      obtain ⟨gb, rfl, hcb⟩ := HB.out k hlt
      have hk0 : 0 ≤ (k : Int) := by omega
      have hk1 : (k : Int) < (ps.length : Int) := by omega
      generalize ps[k] = x at hca hcb
      go_wp2
      go_quiet (fail)
      go_wp2
      go_roundw
      case rel => exact ⟨k + 1, _, by omega, by go_num, rfl⟩
      case measure => simp [intOf]; omega
    · obtain rfl : k = ps.length := by omega
      go_wp2
      go_ret
      exact ⟨rfl, q, rfl⟩
theorem srow_keep {w w' : World} {B : Nat} {v : Value} {ps : List ByteArray} (h : SRow w B v ps) (hb : Below w.heap.size w w') : SRow w' B v ps := by
  refine ⟨h.1, ?_⟩
  rcases h.2 with hn | ⟨g, cap, cur, hv, hg1, hg2, hg3⟩
  · exact .inl hn
  · exact .inr ⟨g, cap, cur, hv, hg1, by rw [hb.block g (Array.getElem?_eq_some_iff.1 hg2).1]; exact hg2, hg3⟩
theorem srow_store {w : World} {B g c k n : Nat} {ps qs : List ByteArray} {x : ByteArray} (h : SRow w B (.slice (some ⟨g, 0, none⟩) n c) ps) (hn : ps.length = n) (hq : (strs ps).set k (.string x) = strs qs) (hl : qs.length = n) :
    SRow (w.setCell ⟨g, k, none⟩ (.string x)) B (.slice (some ⟨g, 0, none⟩) n c) qs := by
  subst hn
  have := (World.ownsRow.stored h k (.string x)).1
  rw [hq] at this
  unfold SRow
  rw [hl]
  exact this
theorem markText_at (k : Nat) (w : World) (h1 : k ≤ 2000000) :
    Calls Try.prog 55 #[.int .i64 (1 + (k : Int))] w fun e w' => e = .returned (.string (mk (1 + k))) ∧ Below w.heap.size w w' := by
  have h := markText_any (1 + k) w (by omega) (by omega)
  rw [show ((1 + k : Nat) : Int) = 1 + (k : Int) from by omega] at h
  exact h
def marks (k n : Nat) : List ByteArray := (List.range n).map fun i => mk (k + i)
theorem marks_len (k n : Nat) : (marks k n).length = n := by simp [marks]
theorem marks_at (k n i : Nat) (h : i < n) : (marks k n)[i]'(by rw [marks_len]; exact h) = mk (k + i) := by simp [marks]
theorem marks_succ (k i : Nat) : marks k (i + 1) = marks k i ++ [mk (k + i)] := by simp [marks, List.range_succ]
theorem marks_set (k i : Nat) (ps : List ByteArray) (h : i < ps.length) : (strs (marks k i ++ ps.drop i)).set i (.string (mk (k + i))) = strs (marks k (i + 1) ++ ps.drop (i + 1)) := by
  rw [List.drop_eq_getElem_cons h, marks_succ]
  simp only [strs, List.map_append, List.map_cons, List.map_nil]
  rw [List.set_append_right _ _ (by simp [marks_len])]
  simp [marks_len]
theorem mix_len (k i : Nat) (ps : List ByteArray) (h : i ≤ ps.length) : (marks k i ++ ps.drop i).length = ps.length := by simp [marks_len]; omega
set_option maxRecDepth 100000 in
set_option maxHeartbeats 1000000 in
theorem mark_any (v : Value) (B : Nat) (ps : List ByteArray) (w : World) (ha : SRow w B v ps) (hn : ps.length ≤ 2000000) :
    Calls Try.prog 24 #[v, .int .i64 1] w fun e w' => e = .returned (.int .i64 (1 + (ps.length : Int))) ∧ SRow w' B v (marks 1 ps.length) ∧ w.grownBy w' v.ownBlock := by
  obtain ⟨⟨aa, ca, rfl⟩, sa⟩ := srow_shape ha
  have H0 := Lib.hid ha
  have HS := Lib.hid sa
  clear ha sa
  go_enter Try.func24, Try.ntmps24
  go_wp2
  go_loopw [1, 5] (fun m i wr => ∃ k : Nat, k ≤ ps.length ∧ i = .int .i64 (k : Int) ∧ m = .int .i64 (1 + (k : Int)) ∧ SRow wr B (.slice aa ps.length ca) (marks 1 k ++ ps.drop k) ∧ w.grownBy wr (Value.slice aa ps.length ca).ownBlock) (fun _ i _ => ps.length - (intOf i).toNat)
  case atStart => exact ⟨0, Nat.zero_le _, rfl, rfl, by simpa [marks] using H0.out, World.grownBy.refl _ _⟩
  case round =>
    obtain ⟨k, hk, rfl, rfl, hr, hg⟩ := hrel
    by_cases hlt : k < ps.length
    · obtain ⟨g, c, e, hB⟩ := HS.out (by omega)
      simp at e
      obtain ⟨rfl, rfl⟩ := e
      have hk0 : 0 ≤ (k : Int) := by omega
      have hk1 : (k : Int) < (ps.length : Int) := by omega
      have HR := Lib.hid hr
      have HG := Lib.hid hg
      clear hr hg
      go_wp2_with fail
      refine (markText_at k wr (by omega)).mono ?_
      rintro e w1 ⟨rfl, hb1⟩
      have hr1 := srow_keep HR.out hb1
      have hml := mix_len 1 k ps (by omega)
      have hc1 : w1.cell? ⟨g, k, none⟩ = some (.string ((marks 1 k ++ ps.drop k)[k]'(by omega))) := by
        have h2 : SRow w1 B (.slice (some ⟨g, 0, none⟩) (marks 1 k ++ ps.drop k).length ca) (marks 1 k ++ ps.drop k) := by rw [hml]; exact hr1
        exact srow_cell h2 k (by omega)
      have hf1 : w1.frozen? ⟨g, k, none⟩ = false := World.ownsRow.frozenAt (w := w1) (base := B) (n := ps.length) (cap := ca) (xs := strs (marks 1 k ++ ps.drop k)) (by rw [← hml]; unfold SRow at hr1; rw [hml] at hr1 ⊢; exact hr1) k
      have HR1 := Lib.hid hr1
      have HL := Lib.hid hml
      have HG1 := Lib.hid (show w.grownBy (w1.setCell ⟨g, k, none⟩ (.string (mk (1 + k)))) (some g) from by
        have a1 := HG.out
        refine ⟨hb1.os.trans a1.os, hb1.tape.trans a1.tape, hb1.output.trans a1.output, ?_, ?_⟩
        · have := a1.size; have := hb1.size; simp [World.setCell]; omega
        · intro j hj hne
          have hs := a1.size
          rw [Below.heap_setCell _ _ _ _ (by simp; exact fun e => hne (by rw [e])), hb1.block j (by omega)]
          exact a1.block j hj hne)
      generalize (marks 1 k ++ ps.drop k)[k]'(by omega) = old at hc1
      clear hb1 hr1 hml
      go_wp2
      go_roundw
      case rel => exact ⟨k + 1, by omega, by go_num, by go_num, srow_store HR1.out HL.out (marks_set 1 k ps hlt) (mix_len 1 (k + 1) ps (by omega)), HG1.out⟩
      case measure => simp [intOf]; omega
    · obtain rfl : k = ps.length := by omega
      have HR := Lib.hid hr
      have HG := Lib.hid hg
      clear hr hg
      go_wp2
      go_ret
      exact ⟨rfl, by simpa using HR.out, HG.out⟩
set_option maxRecDepth 100000 in
set_option maxHeartbeats 1000000 in
theorem held_any (v : Value) (B n : Nat) (w : World) (hv : ∃ a c, v = .slice a n c) (ha : SRow w B v (marks 1 n)) (hn : n ≤ 2000000) :
    Calls Try.prog 25 #[v, .int .i64 1] w fun e w' => e = .returned (.int .i64 (1 + (n : Int))) ∧ Below w.heap.size w w' := by
  obtain ⟨aa, ca, rfl⟩ := hv
  have hs := srow_shape ha
  have H0 := Lib.hid (show ∀ wr, Below w.heap.size w wr → ∀ k, k < n → ∃ g, aa = some ⟨g, 0, none⟩ ∧ wr.cell? ⟨g, k, none⟩ = some (.string (mk (1 + k))) from fun wr hb k hk => by
    have hr := srow_keep ha hb
    rw [marks_len] at hs
    obtain ⟨g, c, e, _⟩ := hs.2 (by omega)
    simp at e
    obtain ⟨rfl, rfl⟩ := e
    refine ⟨g, rfl, ?_⟩
    have h2 : SRow wr B (.slice (some ⟨g, 0, none⟩) (marks 1 n).length ca) (marks 1 n) := by rw [marks_len]; exact hr
    rw [srow_cell h2 k (by rw [marks_len]; exact hk), marks_at 1 n k hk])
  clear ha hs
  go_enter Try.func25, Try.ntmps25
  go_wp2
  go_loopw [1, 5] (fun m i wr => ∃ k : Nat, k ≤ n ∧ i = .int .i64 (k : Int) ∧ m = .int .i64 (1 + (k : Int)) ∧ Below w.heap.size w wr) (fun _ i _ => n - (intOf i).toNat)
  case atStart => exact ⟨0, Nat.zero_le _, rfl, rfl, Below.refl _ _⟩
  case round =>
    obtain ⟨k, hk, rfl, rfl, hb⟩ := hrel
    by_cases hlt : k < n
    · obtain ⟨g, rfl, hc⟩ := H0.out wr hb k hlt
      have hk0 : 0 ≤ (k : Int) := by omega
      have hk1 : (k : Int) < (n : Int) := by omega
      have hg := World.block_lt_of_cell? _ _ hc
      have HB := Lib.hid hb
      clear hb
      go_wp2_with fail
      go_region_held3 (fun w' => w'.cell? ⟨g, k, none⟩ = some (.string (mk (1 + k)))) (first | exact hcn | (simp [go_sem]; done) | exact hc)
        (first | (go_at_call 55; refine (markText_at k _ (by omega)).mono ?_; rintro e w1 ⟨rfl, hb1⟩; have hcn : w1.cell? ⟨g, k, none⟩ = some (.string (mk (1 + k))) := (hb1.cell (p := ⟨g, k, none⟩) (by first | omega | (simp; omega))).trans (by first | exact hc | (simp [go_sem]; done)); have HB1 := Lib.hid hb1; clear hb1))
      go_wp2
      go_roundw
      case rel => exact ⟨k + 1, by omega, by go_num, by go_num, by repeat (first | exact (HB.out.trans (HB1.out.mono HB.out.size)) | exact (HB.out.drew.trans (HB1.out.mono HB.out.size)) | refine Below.drew ?_ | refine below_drewN ?_ _)⟩
      case measure => simp [intOf]; omega
    · obtain rfl : k = n := by omega
      go_wp2
      go_ret
      exact ⟨rfl, hb⟩

end Go.Proofs.Ytpekchihdmhkkaa.split
