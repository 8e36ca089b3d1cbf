/- DistanceTable, of the program and of the model. -/
import Derived.Test.YtkiimdfnobcdpaaTabS
import Derived.Test.YtkiimdfnobcdpaaTMarks
namespace Go.Proofs.Ytkiimdfnobcdpaa.sines
open Go.ChangeShapes Go.WideShapes Go.ChangeAt Go.RowKit Go.Proofs.Ytkiimdfnobcdpaa.spots Go.Proofs.Ytkiimdfnobcdpaa.irows Go.Proofs.Ytkiimdfnobcdpaa.pairs Go.Proofs.Ytkiimdfnobcdpaa.trows
def tabV (ps : List (Int × Int)) : List (List Int) := if codeL ps 0 12 = 0 then tabD ps else []
theorem tot_rows (rows : List (List Int)) (n : Nat) (h : ∀ zs ∈ rows, zs.length ≤ n) : ∀ k, tot rows k ≤ n * k
  | 0 => Nat.zero_le _
  | k + 1 => by
    have ih := tot_rows rows n h k
    have h1 : (rows.getD k []).length ≤ n := by
      by_cases hk : k < rows.length
      · rw [List.getD_eq_getElem?_getD, List.getElem?_eq_getElem hk]; exact h _ (List.getElem_mem _)
      · rw [List.getD_eq_getElem?_getD, List.getElem?_eq_none (by omega)]; simp
    rw [tot, Nat.mul_succ]
    omega
theorem tabV_small (ps : List (Int × Int)) : (tabV ps).length ≤ 12 ∧ ∀ zs ∈ tabV ps, zs.length ≤ 12 := by
  unfold tabV
  split
  · rename_i h
    obtain ⟨_, h2, _⟩ := codeL_ok h
    refine ⟨by rw [tabD_len]; omega, fun zs hz => ?_⟩
    obtain ⟨p, _, rfl⟩ := List.mem_map.1 hz
    rw [rowD_len]; omega
  · simp
/-- What is written elsewhere leaves the table. -/
theorem trow_other {w w' : World} {B C : Nat} {v : Value} {rows : List (List Int)} {r : Option Nat} (h : TRow w B C v rows) (hg : w.grownBy w' r) (hr : ∀ b, r = some b → b < B ∨ C ≤ b) : TRow w' B C v rows := by
  obtain ⟨vs, h1, h2, h3, h4, h5, h6⟩ := h
  have ne : ∀ {e : TypeId} {s n : Nat} {x : Value} {xs : List Value}, w.ownsRow B e s x n xs → (∀ b, x.ownBlock = some b → b < C) → x.ownBlock = none ∨ x.ownBlock ≠ r := by
    intro e s n x xs hx hc
    cases hb : x.ownBlock with
    | none => exact .inl rfl
    | some b =>
      refine .inr fun e2 => ?_
      have l1 := (World.ownsRow.lt hx b hb).1
      have l2 := hc b hb
      rcases hr b e2.symm with l3 | l3 <;> omega
  exact ⟨vs, World.ownsRow.kept h1 hg (ne h1 h3), h2, h3, ⟨fun k x zs hx hz => World.ownsRow.kept (h4 k x zs hx hz) hg (ne (h4 k x zs hx hz) (h5 k x hx).1), h5, h6⟩⟩

set_option maxRecDepth 100000 in
set_option maxHeartbeats 1000000 in
theorem implTable_any (v : Value) (ps : List (Int × Int)) (w : World) (hv : PAt w w.heap.size v ps) (hl : ps.length ≤ 1048576) :
    Calls Try.prog 7 #[v] w fun e w' => ∃ u, e = .returned (.tuple #[u, .int .i64 (codeL ps 0 12)]) ∧ TRow w' w.heap.size w'.heap.size u (tabV ps) ∧ Below w.heap.size w w' := by
  have HV := Lib.hid hv
  clear hv
  by_cases hc : codeL ps 0 12 = 0
  · obtain ⟨k1, k2, k3⟩ := codeL_ok hc
    rw [show tabV ps = tabD ps by simp [tabV, hc], hc]
    have HC := Lib.hid hc
    have K1 := Lib.hid k1
    have hl2 : ps.length ≤ 12 := by omega
    clear hc k1 k2 k3
    go_enter Try.func7, Try.ntmps7
    go_wp2_with fail
    refine (spotsCode_any _ ps 0 12 _ HV.out hl).mono ?_
    rw [HC.out]
    rintro e w2 ⟨rfl, hb⟩
    have HB := Lib.hid hb
    clear hb
    go_wp2_with fail
    refine (distancesOf_any _ ps _ (pat_up (pat_keep HV.out HB.out) HB.out.size) hl2 K1.out).mono ?_
    rintro e w3 ⟨u, rfl, hr, hb⟩
    have HB2 := Lib.hid (HB.out.trans (hb.mono HB.out.size))
    have HR := Lib.hid hr
    clear hb hr
    go_wp2
    exact bodyPost_ret (v := .tuple #[u, .int .i64 0]) (by simp [results, Try.results7, go_sem]) rfl ⟨_, rfl, trow_up HR.out HB.out.size (Nat.le_refl _), HB2.out⟩
  · rw [show tabV ps = [] by simp [tabV, hc]]
    obtain ⟨C, HC⟩ : ∃ C, Hid (codeL ps 0 12 = C) := ⟨_, Lib.hid rfl⟩
    rw [HC.out] at hc ⊢
    have hc1 : (C != 0) = true := by simpa using hc
    clear hc
    go_enter Try.func7, Try.ntmps7
    go_wp2_with fail
    refine (spotsCode_any _ ps 0 12 _ HV.out hl).mono ?_
    rw [HC.out]
    rintro e w2 ⟨rfl, hb⟩
    have HB := Lib.hid hb
    clear hb
    go_wp2
    exact bodyPost_ret (v := .tuple #[.slice none 0 0, .int .i64 C]) (by simp [results, Try.results7, go_sem]) rfl ⟨_, rfl, trow_nil _ _ _, HB.out⟩


end Go.Proofs.Ytkiimdfnobcdpaa.sines
