/- The program's chains: from the end. -/
import Derived.Test.YtemhmejjmhbfdaaChainI1
import Derived.Test.YtemhmejjmhbfdaaShelfP
import Derived.Shelf.SlicesE.Clone
import Derived.Shelf.SlicesQ.Reverse
import Derived.Lib.OwnBridge
namespace Go.Proofs.Ytemhmejjmhbfdaa.sines
open Go.Shelf Go.Lib Go.Sort Go.ChangeShapes Go.WideShapes Go.ChangeAt Go.RowKit Go.Proofs.Ytemhmejjmhbfdaa.spots Go.Proofs.Ytemhmejjmhbfdaa.irows Go.Proofs.Ytemhmejjmhbfdaa.pairsPlace
set_option linter.unusedSimpArgs false
set_option linter.unusedVariables false

def encP (x : Int × Int) : List Value := [.int .i64 x.1, .int .i64 x.2]
theorem flat_get (ps : List (Int × Int)) : ∀ t, t < ps.length * 2 → (ints (flat ps))[t]? = (encP (ps.toArray[t / 2]!))[t % 2]? := by
  intro t ht
  have hk : t / 2 < ps.length := by omega
  obtain ⟨h1, h2⟩ := flat_at ps (t / 2) hk
  have e : ps.toArray[t / 2]! = ps[t / 2] := by simp [hk]
  rw [e]
  have h3 : t % 2 = 0 ∨ t % 2 = 1 := by omega
  rcases h3 with h | h
  · rw [show t / 2 * 2 = t by omega] at h1
    simp [ints, h1, h, encP]
  · rw [show t / 2 * 2 + 1 = t by omega] at h2
    simp [ints, h2, h, encP]
theorem ints_flat_len (ps : List (Int × Int)) : (ints (flat ps)).length = ps.length * 2 := by
  have := flat_len ps
  simp [ints, this]
theorem flatK_eq (ps : List (Int × Int)) : flatK encP 2 ps.toArray = (ints (flat ps)).toArray := by
  apply Array.ext
  · simp [ints_flat_len]
  · intro t h1 h2
    have ht : t < ps.length * 2 := by simpa using h1
    have e := get_flatK encP 2 ps.toArray t (by simpa using ht)
    have e2 := flat_get ps t ht
    have h3 : t % 2 < (encP (ps.toArray[t / 2]!)).length := by simp [encP]; omega
    rw [getElem!_pos (flatK encP 2 ps.toArray) t h1, getElem!_pos (encP (ps.toArray[t / 2]!)) (t % 2) h3] at e
    rw [e]
    rw [List.getElem?_eq_getElem (by rw [ints_flat_len]; exact ht), List.getElem?_eq_getElem h3] at e2
    simpa using (Option.some.inj e2).symm
theorem holdsP {w : World} {B g n c : Nat} {ps : List (Int × Int)} (h : PRow w B (.slice (some ⟨g, 0, none⟩) n c) ps) (hn : n = ps.length) : HoldsK encP 2 w g 0 ps.toArray := by
  subst hn
  unfold HoldsK
  rw [flatK_eq]
  intro j hj
  have h0 := h
  unfold PRow at h0
  have hj2 : j < ps.length * 2 := by simpa [ints_flat_len] using hj
  refine ⟨?_, World.ownsRow.frozenAt h0 (0 + j)⟩
  rw [World.ownsRow.cellAt h0 (0 + j) (by omega), Nat.zero_add, List.getElem?_eq_getElem (by rw [ints_flat_len]; exact hj2)]
  have hj3 : j < (ints (flat ps)).length := by rw [ints_flat_len]; exact hj2
  simp [hj3]
theorem prow_put {w : World} {B g n cap q : Nat} {ps qs : List (Int × Int)} (h : PRow w B (.slice (some ⟨g, 0, none⟩) n cap) ps) (hy : qs.length = ps.length) :
    PRow (putRow id (Sort.ahead w q) g 0 (ints (flat qs)).toArray) B (.slice (some ⟨g, 0, none⟩) n cap) qs := by
  rcases h.2 with ⟨e0, _⟩ | ⟨g', cap', cur, e0, hb, hg, hn, hm, hs, ht⟩
  · cases e0
  · injection e0 with e1 e2 e3
    injection e1 with e1
    injection e1 with e1
    subst e1; subst e3; subst e2
    have hf : (ints (flat qs)).length = ps.length * 2 := by rw [ints_flat_len, hy]
    refine ⟨by rw [hf, hy], .inr ⟨g, cap, putCells id 0 (ints (flat qs)).toArray cur, by rw [hy], hb, ?_, by omega, hm, by simpa [putCells] using hs, ?_⟩⟩
    · simp [putRow, mapBlock, Sort.ahead, Array.getElem?_modify, hg, onCells]
    · apply List.ext_getElem?
      intro j
      rw [hy, List.getElem?_take, Array.getElem?_toList]
      by_cases hj : j < ps.length * 2
      · have hjc : j < cur.size := by omega
        simp only [if_pos hj, putCells, Array.getElem?_mapIdx, Array.getElem?_eq_getElem hjc, Option.map_some]
        rw [if_pos (by simp; omega), List.getElem?_eq_getElem (by omega)]
        simp [getElem!_pos, show j < (ints (flat qs)).length by omega]
      · rw [if_neg hj, List.getElem?_eq_none (by omega)]
theorem pat_flat {w : World} {B n : Nat} {b off c : Nat} {ps : List (Int × Int)} (h : PAt w B (.slice (some ⟨b, off, none⟩) n c) ps) : ∀ j u, (ints (flat ps))[j]? = some u → w.cell? ⟨b, off + j, none⟩ = some u := by
  intro j u hu
  obtain ⟨a, c', e, h⟩ := h
  injection e with e1 e2 e3
  subst e1
  have hj : j < ps.length * 2 := by
    have := (List.getElem?_eq_some_iff.1 hu).1
    rwa [ints_flat_len] at this
  obtain ⟨b', off', e4, _, h1, h2⟩ := h (j / 2) (by omega)
  simp only [Option.some.injEq, Addr.mk.injEq, and_true] at e4
  obtain ⟨rfl, rfl⟩ := e4
  rw [flat_get ps j hj] at hu
  have hk : j / 2 < ps.length := by omega
  have e : ps.toArray[j / 2]! = ps[j / 2] := by simp [hk]
  rw [e] at hu
  have h3 : j % 2 = 0 ∨ j % 2 = 1 := by omega
  rcases h3 with h | h
  · rw [h] at hu
    rw [show b = b from rfl, show off + j / 2 * 2 = off + j by omega] at h1
    rw [h1]; simpa [encP] using hu
  · rw [h] at hu
    rw [show off + j / 2 * 2 + 1 = off + j by omega] at h2
    rw [h2]; simpa [encP] using hu
theorem cloneP_any (v : Value) (ps : List (Int × Int)) (w : World) (hv : PAt w w.heap.size v ps) (h0 : 0 < ps.length) (hl : ps.length ≤ 1048576) :
    Calls Try.prog 126 #[v] w fun e w' => ∃ g cap, e = .returned (.slice (some ⟨g, 0, none⟩) ps.length cap) ∧ PRow w' w.heap.size (.slice (some ⟨g, 0, none⟩) ps.length cap) ps ∧ w.heap.size ≤ g ∧ Below w.heap.size w w' := by
  obtain ⟨i0, hi, hz0, hz1, hz2⟩ := info_parts info_pair
  have hv2 := hv
  obtain ⟨a, c, rfl, hc⟩ := hv
  obtain ⟨b, off, rfl, _⟩ := hc 0 h0
  have hC := AnyE.slices_Clone Try.cloneP i0 (.agg #[.int .i64 0, .int .i64 0]) 2 16 hi hz0 hz1 hz2 rfl (by decide) Try.sizeOf60 b off ps.length c (ints (flat ps)) w (ints_flat_len ps) (by unfold maxLen; omega) (by omega) (pat_flat hv2) (ints_one _)
  refine Calls.mono hC ?_
  rintro e w' ⟨v', rfl, hown, hne, hb⟩
  have hown2 : PRow w' w.heap.size v' ps := hown
  rcases hown2.2 with ⟨hn, _⟩ | ⟨g, cap, cur, rfl, hg, _⟩
  · exact absurd hn hne
  · exact ⟨g, cap, rfl, hown2, hg, hb⟩
theorem reverseP_any (g n cap B : Nat) (ps : List (Int × Int)) (w w0 : World) (hr : PRow w B (.slice (some ⟨g, 0, none⟩) n cap) ps) (hg : B ≤ g) (hb : Below B w0 w) (hl : ps.length ≤ 1048576) (hn : n = ps.length) :
    Calls Try.prog 165 #[.slice (some ⟨g, 0, none⟩) n cap] w fun e w' => e = .returned (.tuple #[]) ∧ PRow w' B (.slice (some ⟨g, 0, none⟩) n cap) ps.reverse ∧ Below B w0 w' := by
  subst hn
  have hR := AnyQ.slices_Reverse Try.reverseP 2 Try.isAgg60 Try.sizeOf60 encP (fun _ => rfl) (fun x v hv => by simp [encP] at hv; rcases hv with rfl | rfl <;> rfl) g 0 cap ps.toArray w (holdsP hr rfl) (by simp; omega)
  simp only [List.size_toArray] at hR
  refine Calls.mono hR ?_
  rintro e w' ⟨rfl, q, rfl⟩
  have e1 : putRowK encP 2 (Sort.ahead w q) g 0 ps.toArray.reverse = putRow id (Sort.ahead w q) g 0 (ints (flat ps.reverse)).toArray := by
    unfold putRowK
    rw [List.reverse_toArray, flatK_eq]
  rw [e1]
  exact ⟨rfl, prow_put hr (by simp), Lib.below_putRow hb hg⟩
set_option maxHeartbeats 1000000 in
theorem fromEnd_any (v : Value) (ps : List (Int × Int)) (w : World) (hv : PAt w w.heap.size v ps) (h0 : 0 < ps.length) (hl : ps.length ≤ 1048576) :
    Calls Try.prog 125 #[v] w fun e w' => ∃ g cap, e = .returned (.slice (some ⟨g, 0, none⟩) ps.length cap) ∧ PRow w' w.heap.size (.slice (some ⟨g, 0, none⟩) ps.length cap) ps.reverse ∧ w.heap.size ≤ g ∧ Below w.heap.size w w' := by
  have HV := Lib.hid hv
  obtain ⟨ar, c, rfl, _⟩ := hv
  go_enter Try.func125, Try.ntmps125
  go_wp2_with (first | (go_at_call 126; refine (cloneP_any _ ps _ HV.out h0 hl).mono ?_; rintro e w2 ⟨g, cap, rfl, hr, hg, hb⟩; have HR := Lib.hid hr; have HG := Lib.hid hg; have HB2 := Lib.hid hb; clear hr hg hb) | (go_at_call 165; refine (reverseP_any _ _ _ w.heap.size ps _ w HR.out HG.out HB2.out hl rfl).mono ?_; rintro e w3 ⟨rfl, hr3, hb3⟩; have HR3 := Lib.hid hr3; have HB3 := Lib.hid hb3; clear hr3 hb3))
  go_ret
  exact ⟨g, cap, rfl, HR3.out, HG.out, HB3.out⟩
end Go.Proofs.Ytemhmejjmhbfdaa.sines
