/- Lists of lists of numbers are marked and looked at again. -/
import Derived.Test.YtkiimdfnobcdpaaTRows
namespace Go.Proofs.Ytkiimdfnobcdpaa.trows
open Go.ChangeShapes Go.WideShapes Go.ChangeAt Go.RowKit Go.Proofs.Ytkiimdfnobcdpaa.irows
set_option maxRecDepth 100000 in
set_option maxHeartbeats 1000000 in
theorem markK_any (k0 : Nat) (v : Value) (B : Nat) (zs : List Int) (w : World) (ha : IRow w B v zs) (hn : k0 + zs.length ≤ 2000000) :
    Calls Try.prog 24 #[v, .int .i64 (k0 : Int)] w fun e w' => e = .returned (.int .i64 ((k0 : Int) + (zs.length : Int))) ∧ IRow w' B v (marks k0 zs.length) ∧ w.grownBy w' v.ownBlock := by
  obtain ⟨⟨aa, ca, rfl⟩, sa⟩ := irow_shape ha
  have H0 := Lib.hid ha
  have HS := Lib.hid sa
  clear ha sa
  go_enter Try.func24, Try.ntmps24
  go_wp2
  go_loopw [1, 5] (fun m i wr => ∃ k : Nat, k ≤ zs.length ∧ i = .int .i64 (k : Int) ∧ m = .int .i64 ((k0 : Int) + (k : Int)) ∧ IRow wr B (.slice aa zs.length ca) (marks k0 k ++ zs.drop k) ∧ w.grownBy wr (Value.slice aa zs.length ca).ownBlock) (fun _ i _ => zs.length - (intOf i).toNat)
  case atStart => exact ⟨0, Nat.zero_le _, rfl, by simp, by simpa [marks] using H0.out, World.grownBy.refl _ _⟩
  case round =>
    obtain ⟨k, hk, rfl, rfl, hr, hg⟩ := hrel
    by_cases hlt : k < zs.length
    · obtain ⟨g, c, e, hB⟩ := HS.out (by omega)
      simp at e
      obtain ⟨rfl, rfl⟩ := e
      have hk0 : 0 ≤ (k : Int) := by omega
      have hk1 : (k : Int) < (zs.length : Int) := by omega
      have hml := mix_len k0 k zs (by omega)
      have hc1 : wr.cell? ⟨g, k, none⟩ = some (.int .i64 ((marks k0 k ++ zs.drop k)[k]'(by omega))) := by
        have h2 : IRow wr B (.slice (some ⟨g, 0, none⟩) (marks k0 k ++ zs.drop k).length ca) (marks k0 k ++ zs.drop k) := by rw [hml]; exact hr
        exact irow_cell h2 k (by omega)
      have hf1 : wr.frozen? ⟨g, k, none⟩ = false := World.ownsRow.frozenAt (w := wr) (base := B) (n := zs.length) (cap := ca) (xs := ints (marks k0 k ++ zs.drop k)) (by rw [← hml]; unfold IRow at hr; rw [hml] at hr ⊢; exact hr) k
      have HR := Lib.hid hr
      have HL := Lib.hid hml
      have HG := Lib.hid (show w.grownBy (wr.setCell ⟨g, k, none⟩ (.int .i64 ((k0 : Int) + (k : Int)))) (some g) from by
        refine ⟨hg.os, hg.tape, hg.output, ?_, ?_⟩
        · have := hg.size; simp [World.setCell]; omega
        · intro j hj hne
          rw [Below.heap_setCell _ _ _ _ (by simp; exact fun e => hne (by rw [e]))]
          exact hg.block j hj hne)
      generalize (marks k0 k ++ zs.drop k)[k]'(by omega) = old at hc1
      clear hr hg hml
      go_wp2
      go_roundw
      case rel => exact ⟨k + 1, by omega, by go_num, by go_num, irow_store HR.out HL.out (by have := marks_set k0 k zs hlt; rwa [show ((k0 + k : Nat) : Int) = (k0 : Int) + (k : Int) by omega] at this) (mix_len k0 (k + 1) zs (by omega)), HG.out⟩
      case measure => simp [intOf]; omega
    · obtain rfl : k = zs.length := by omega
      have HR := Lib.hid hr
      have HG := Lib.hid hg
      clear hr hg
      go_wp2
      go_ret
      exact ⟨rfl, by simpa using HR.out, HG.out⟩
set_option maxRecDepth 100000 in
set_option maxHeartbeats 1000000 in
theorem heldK_any (k0 : Nat) (v : Value) (B n : Nat) (w : World) (hv : ∃ a c, v = .slice a n c) (ha : IRow w B v (marks k0 n)) (hn : k0 + n ≤ 2000000) :
    Calls Try.prog 25 #[v, .int .i64 (k0 : Int)] w fun e w' => e = .returned (.int .i64 ((k0 : Int) + (n : Int))) ∧ ∃ q, w' = w.drewN q := by
  obtain ⟨aa, ca, rfl⟩ := hv
  have H0 := Lib.hid (show ∀ k, k < n → ∃ g, aa = some ⟨g, 0, none⟩ ∧ w.cell? ⟨g, k, none⟩ = some (.int .i64 ((k0 : Int) + (k : Int))) from fun k hk => by
    have h2 : IRow w B (.slice aa (marks k0 n).length ca) (marks k0 n) := by rw [marks_len]; exact ha
    obtain ⟨g, e, _, hc⟩ := irow_at h2 k (by rw [marks_len]; exact hk)
    refine ⟨g, e, ?_⟩
    rw [hc, marks_at k0 n k hk, show ((k0 + k : Nat) : Int) = (k0 : Int) + (k : Int) by omega])
  clear ha
  go_enter Try.func25, Try.ntmps25
  go_wp2
  go_loopw [1, 5] (fun m i wr => ∃ k q : Nat, k ≤ n ∧ i = .int .i64 (k : Int) ∧ m = .int .i64 ((k0 : Int) + (k : Int)) ∧ wr = w.drewN q) (fun _ i _ => n - (intOf i).toNat)
  case atStart => exact ⟨0, 0, Nat.zero_le _, rfl, by simp, rfl⟩
  case round =>
    obtain ⟨k, q, hk, rfl, rfl, rfl⟩ := hrel
    by_cases hlt : k < n
    · obtain ⟨g, rfl, hc⟩ := H0.out k hlt
      have hk0 : 0 ≤ (k : Int) := by omega
      have hk1 : (k : Int) < (n : Int) := by omega
      go_wp2
      all_goals (try (go_quiet (fail); go_wp2))
      go_roundw
      case rel => exact ⟨k + 1, _, by omega, by go_num, by go_num, rfl⟩
      case measure => simp [intOf]; omega
    · obtain rfl : k = n := by omega
      go_wp2
      go_ret
      exact ⟨rfl, q, rfl⟩

/-- The numbers in the first rows. -/
def tot (rows : List (List Int)) : Nat → Nat
  | 0 => 0
  | k + 1 => tot rows k + (rows.getD k []).length
theorem tot_mono (rows : List (List Int)) (i : Nat) : ∀ k, tot rows i ≤ tot rows (i + k)
  | 0 => Nat.le_refl _
  | k + 1 => by have := tot_mono rows i k; rw [show i + (k + 1) = (i + k) + 1 by omega, tot]; omega
theorem tot_le (rows : List (List Int)) {i j : Nat} (h : i ≤ j) : tot rows i ≤ tot rows j := by
  have := tot_mono rows i (j - i)
  rwa [show i + (j - i) = j by omega] at this
/-- The first rows marked, the others as they were. -/
def mixT (rows : List (List Int)) (i : Nat) : List (List Int) := (List.range rows.length).map fun k => if k < i then marks (1 + tot rows k) (rows.getD k []).length else rows.getD k []
theorem mixT_len (rows : List (List Int)) (i : Nat) : (mixT rows i).length = rows.length := by simp [mixT]
theorem mixT_at (rows : List (List Int)) (i k : Nat) (h : k < rows.length) : (mixT rows i)[k]? = some (if k < i then marks (1 + tot rows k) (rows.getD k []).length else rows.getD k []) := by
  simp [mixT, h]
theorem mixT_zero (rows : List (List Int)) : mixT rows 0 = rows := by
  apply List.ext_getElem?
  intro k
  by_cases h : k < rows.length
  · rw [mixT_at rows 0 k h, if_neg (by omega), List.getD_eq_getElem?_getD, List.getElem?_eq_getElem h]; rfl
  · rw [List.getElem?_eq_none (by rw [mixT_len]; omega), List.getElem?_eq_none (by omega)]
theorem mixT_set (rows : List (List Int)) (i : Nat) (h : i < rows.length) : (mixT rows i).set i (marks (1 + tot rows i) (rows.getD i []).length) = mixT rows (i + 1) := by
  apply List.ext_getElem?
  intro k
  by_cases hk : k < rows.length
  · rw [mixT_at rows (i + 1) k hk, List.getElem?_set]
    by_cases e : i = k
    · subst e
      rw [if_pos rfl, if_pos (by rw [mixT_len]; exact h), if_pos (by omega)]
    · rw [if_neg e, mixT_at rows i k hk]
      by_cases h2 : k < i
      · rw [if_pos h2, if_pos (by omega)]
      · rw [if_neg h2, if_neg (by omega)]
  · rw [List.getElem?_eq_none (by rw [List.length_set, mixT_len]; omega), List.getElem?_eq_none (by rw [mixT_len]; omega)]
/-- One row is written, the others stay. -/
theorem tv_set {w w' : World} {B C : Nat} {v x : Value} {vs : List Value} {rows : List (List Int)} {zs : List Int} {i : Nat} (h : TV w B C v vs rows) (hx : vs[i]? = some x) (hg : w.grownBy w' x.ownBlock) (hn : IRow w' B x zs) : TV w' B C v vs (rows.set i zs) := by
  obtain ⟨h1, h2, h3, h4, h5, h6⟩ := h
  have hv : v.ownBlock = none ∨ v.ownBlock ≠ x.ownBlock := by
    rcases (h5 i x hx).2 with e | e
    · cases hvb : v.ownBlock with
      | none => exact .inl rfl
      | some b => exact .inr (by rw [e]; simp)
    · exact .inr fun e2 => e e2.symm
  refine ⟨by rw [List.length_set]; exact World.ownsRow.kept h1 hg hv, by rw [List.length_set]; exact h2, h3, ⟨fun k y ys hy hz => ?_, h5, h6⟩⟩
  rw [List.getElem?_set] at hz
  by_cases e : i = k
  · subst e
    rw [hx] at hy
    cases hy
    rw [if_pos rfl] at hz
    split at hz
    · cases hz; exact hn
    · cases hz
  · rw [if_neg e] at hz
    refine World.ownsRow.kept (h4 k y ys hy hz) hg ?_
    rcases Nat.lt_or_gt_of_ne e with h | h
    · rcases h6 i k x y h hx hy with e2 | e2
      · cases hyb : y.ownBlock with
        | none => exact .inl rfl
        | some b => exact .inr (by rw [e2]; simp)
      · exact .inr fun e3 => e2 e3.symm
    · exact h6 k i y x h hy hx

end Go.Proofs.Ytkiimdfnobcdpaa.trows
