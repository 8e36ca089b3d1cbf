/- Lands that are reached over two colours: mathematics. -/
import Derived.Test.YtemhmejjmhbfdabDoorColsG2
namespace Go.Proofs.YtemhmejjmhbfdabDoor.sines
open Go.ChangeShapes Go.WideShapes Go.ChangeAt Go.RowKit Go.Proofs.YtemhmejjmhbfdabDoor.spots Go.Proofs.YtemhmejjmhbfdabDoor.irows Go.Proofs.YtemhmejjmhbfdabDoor.pairsBorder
set_option linter.unusedSimpArgs false
set_option linter.unusedVariables false

/-- Of two colours. -/
def okTwo (cs : List Int) (own oth y : Int) : Bool := decide (cAt cs y = own) || decide (cAt cs y = oth)
/-- The lands that are reached from a land over borders between lands of two colours. -/
inductive Reach (ps : List (Int × Int)) (cs : List Int) (own oth land : Int) : Int → Prop
  | base : Reach ps cs own oth land land
  | step {x y : Int} : Reach ps cs own oth land x → nbr ps x y = true → okTwo cs own oth y = true → Reach ps cs own oth land y
theorem nodup_few : ∀ (N : Nat) (L : List Int), L.Nodup → (∀ x ∈ L, 0 ≤ x ∧ x < (N : Int)) → L.length ≤ N
  | 0, L, _, h => by
    cases L with
    | nil => simp
    | cons x L => have := h x (by simp); omega
  | N + 1, L, hd, h => by
    have := nodup_few N (L.erase (N : Int)) (hd.erase _) fun x hx => by
      have h1 := (hd.mem_erase_iff).1 hx
      have := h x h1.2
      have := h1.1
      omega
    rw [List.length_erase] at this
    split at this <;> omega
theorem nbr_in {n : Int} {ps : List (Int × Int)} {x y : Int} (h : validC n ps = true) (hb : nbr ps x y = true) : 0 ≤ y ∧ y < n := by
  obtain ⟨i, hi, hj⟩ := nbr_iff.1 hb
  obtain ⟨_, _, _, hf⟩ := validC_facts h
  have := hf i hi
  simp only [joins, Bool.or_eq_true, decide_eq_true_eq] at hj
  omega
theorem nextOf_iff {n : Int} {ps : List (Int × Int)} {x y : Int} (h : validC n ps = true) : y ∈ nextOf n ps x ↔ nbr ps x y = true := by
  unfold nextOf
  rw [nextN_mem]
  have hn := (validC_facts h).1
  constructor
  · exact fun h => h.2.2
  · intro hb
    obtain ⟨a, b⟩ := nbr_in h hb
    exact ⟨a, by omega, hb⟩
theorem Reach.inN {n : Int} {ps : List (Int × Int)} {cs : List Int} {own oth land y : Int} (h : validC n ps = true) (hl : 0 ≤ land ∧ land < n) (hr : Reach ps cs own oth land y) : 0 ≤ y ∧ y < n := by
  cases hr with
  | base => exact hl
  | step _ hb _ => exact nbr_in h hb
/-- A list that has the land, and with a land its neighbours of both colours, has all that are reached. -/
theorem reach_closed {ps : List (Int × Int)} {cs : List Int} {own oth land : Int} {L : List Int} (h0 : land ∈ L) (h1 : ∀ x ∈ L, ∀ y, nbr ps x y = true → okTwo cs own oth y = true → y ∈ L) {y : Int} (hr : Reach ps cs own oth land y) : y ∈ L := by
  induction hr with
  | base => exact h0
  | step _ hb hk ih => exact h1 _ ih _ hb hk
/-- The codes of SwapColours, and its answer. -/
def codeSw (n : Int) (ps : List (Int × Int)) (cs : List Int) (land oth : Int) : Int :=
  if validC n ps = true then (if (colsOk n cs && inB land 0 (n - 1) && inB oth 0 9) = true then (if clashV ps cs = -1 then (if cAt cs land = oth then 9 else 0) else 6) else 2) else 1
open Classical in
noncomputable def swapF (ps : List (Int × Int)) (cs : List Int) (land oth : Int) (j : Nat) : Int :=
  if Reach ps cs (cAt cs land) oth land (j : Int) then (if cAt cs (j : Int) = cAt cs land then oth else cAt cs land) else cAt cs (j : Int)
noncomputable def swapC (n : Int) (ps : List (Int × Int)) (cs : List Int) (land oth : Int) : List Int := rowF n.toNat (swapF ps cs land oth)
open Classical in
noncomputable def valSw (n : Int) (ps : List (Int × Int)) (cs : List Int) (land oth : Int) : List Int := if codeSw n ps cs land oth = 0 then swapC n ps cs land oth else []
theorem valSw_len (n : Int) (ps : List (Int × Int)) (cs : List Int) (land oth : Int) : (valSw n ps cs land oth).length ≤ 10 := by
  unfold valSw
  split
  · rename_i h
    unfold codeSw at h
    split at h
    · rename_i g
      have := (validC_facts g).2.1
      rw [swapC, rowF_len]; omega
    · omega
  · simp
/-- The search's list: land is there, all are different and reached; the first i have their neighbours there. -/
def Bfs (ps : List (Int × Int)) (cs : List Int) (own oth land : Int) (L : List Int) (i : Nat) : Prop :=
  land ∈ L ∧ L.Nodup ∧ (∀ x ∈ L, Reach ps cs own oth land x) ∧ i ≤ L.length ∧ ∀ j, j < i → ∀ y, nbr ps (zAt L j) y = true → okTwo cs own oth y = true → y ∈ L
theorem bfs_start (ps : List (Int × Int)) (cs : List Int) (own oth land : Int) : Bfs ps cs own oth land [land] 0 :=
  ⟨by simp, by simp, fun x hx => by simp at hx; subst hx; exact Reach.base, Nat.zero_le _, fun j h => by omega⟩
theorem bfs_len {n : Int} {ps : List (Int × Int)} {cs : List Int} {own oth land : Int} {L : List Int} {i : Nat} (hv : validC n ps = true) (hl : 0 ≤ land ∧ land < n) (h : Bfs ps cs own oth land L i) : (L.length : Int) ≤ n := by
  have := nodup_few n.toNat L h.2.1 fun x hx => by have := (h.2.2.1 x hx).inN hv hl; omega
  omega
/-- One neighbour more. -/
def Mid (ps : List (Int × Int)) (cs : List Int) (own oth land x : Int) (nx L : List Int) (i m : Nat) : Prop :=
  Bfs ps cs own oth land L i ∧ i < L.length ∧ zAt L i = x ∧ ∀ j, j < m → okTwo cs own oth (zAt nx j) = true → zAt nx j ∈ L
theorem mid_skip {ps : List (Int × Int)} {cs : List Int} {own oth land x : Int} {nx L : List Int} {i m : Nat} (h : Mid ps cs own oth land x nx L i m) (hs : okTwo cs own oth (zAt nx m) = true → zAt nx m ∈ L) : Mid ps cs own oth land x nx L i (m + 1) :=
  ⟨h.1, h.2.1, h.2.2.1, fun j hj ho => by
    by_cases e : j = m
    · subst e; exact hs ho
    · exact h.2.2.2 j (by omega) ho⟩
theorem zAt_app {L : List Int} {y : Int} {j : Nat} (h : j < L.length) : zAt (L ++ [y]) j = zAt L j := by simp [zAt, List.getD_eq_getElem?_getD, List.getElem?_append_left h]
theorem mid_new {ps : List (Int × Int)} {cs : List Int} {own oth land x : Int} {nx L : List Int} {i m : Nat} (h : Mid ps cs own oth land x nx L i m) (ho : okTwo cs own oth (zAt nx m) = true) (hn : zAt nx m ∉ L) (hb : nbr ps x (zAt nx m) = true) : Mid ps cs own oth land x nx (L ++ [zAt nx m]) i (m + 1) := by
  obtain ⟨⟨b1, b2, b3, b4, b5⟩, h2, h3, h4⟩ := h
  have hx : x ∈ L := by rw [← h3, zAt_eq h2]; exact List.getElem_mem _
  refine ⟨⟨by simp [b1], ?_, ?_, by simp; omega, ?_⟩, by simp; omega, by rw [zAt_app h2]; exact h3, ?_⟩
  · rw [List.nodup_append]
    refine ⟨b2, by simp, ?_⟩
    intro a ha b hb2 e
    simp at hb2
    subst hb2; subst e
    exact hn ha
  · intro z hz
    rcases List.mem_append.1 hz with hz | hz
    · exact b3 z hz
    · simp at hz; subst hz
      exact Reach.step (b3 x hx) hb ho
  · intro j hj y hy hk
    rw [zAt_app (by omega)] at hy
    exact List.mem_append.2 (.inl (b5 j hj y hy hk))
  · intro j hj hk
    by_cases e : j = m
    · subst e; simp
    · exact List.mem_append.2 (.inl (h4 j (by omega) hk))
theorem mid_start {ps : List (Int × Int)} {cs : List Int} {own oth land : Int} {nx L : List Int} {i : Nat} (h : Bfs ps cs own oth land L i) (hi : i < L.length) : Mid ps cs own oth land (zAt L i) nx L i 0 := ⟨h, hi, rfl, fun j hj => by omega⟩
theorem mid_end {n : Int} {ps : List (Int × Int)} {cs : List Int} {own oth land x : Int} {L : List Int} {i : Nat} (hv : validC n ps = true) (h : Mid ps cs own oth land x (nextOf n ps x) L i (nextOf n ps x).length) : Bfs ps cs own oth land L (i + 1) := by
  obtain ⟨⟨b1, b2, b3, b4, b5⟩, h2, h3, h4⟩ := h
  refine ⟨b1, b2, b3, by omega, fun j hj y hy hk => ?_⟩
  by_cases e : j = i
  · subst e
    rw [h3] at hy
    obtain ⟨k, hk1, e⟩ := List.mem_iff_getElem.1 ((nextOf_iff hv).2 hy)
    have := h4 k hk1 (by rw [zAt_eq hk1, e]; exact hk)
    rw [zAt_eq hk1, e] at this
    exact this
  · exact b5 j (by omega) y hy hk
theorem bfs_end {ps : List (Int × Int)} {cs : List Int} {own oth land : Int} {L : List Int} (h : Bfs ps cs own oth land L L.length) (y : Int) : y ∈ L ↔ Reach ps cs own oth land y := by
  obtain ⟨b1, b2, b3, b4, b5⟩ := h
  refine ⟨b3 y, fun hr => reach_closed b1 (fun x hx z hz hk => ?_) hr⟩
  obtain ⟨j, hj, e⟩ := List.mem_iff_getElem.1 hx
  exact b5 j hj z (by rw [zAt_eq hj, e]; exact hz) hk
/-- Colours where those of the first m lands of a list are exchanged. -/
def swapP (cs : List Int) (own oth : Int) (L : List Int) (m : Nat) (j : Nat) : Int := if (j : Int) ∈ L.take m then (if cAt cs (j : Int) = own then oth else own) else cAt cs (j : Int)
theorem swapP_zero (cs : List Int) (own oth : Int) (L : List Int) (j : Nat) : swapP cs own oth L 0 j = cAt cs (j : Int) := by simp [swapP]
theorem swapP_old {cs : List Int} {own oth : Int} {L : List Int} {m X : Nat} (hd : L.Nodup) (hm : m < L.length) (hX : zAt L m = (X : Int)) : swapP cs own oth L m X = cAt cs (X : Int) := by
  unfold swapP
  rw [if_neg]
  intro h
  rw [← hX, zAt_eq hm] at h
  obtain ⟨j, hj, e⟩ := List.mem_iff_getElem.1 h
  rw [List.length_take] at hj
  rw [List.getElem_take] at e
  have := (List.getElem_inj hd).1 e
  omega
theorem swapP_step {cs : List Int} {own oth : Int} {L : List Int} {m X : Nat} (hm : m < L.length) (hX : zAt L m = (X : Int)) (j : Nat) : swapP cs own oth L (m + 1) j = if j = X then (if cAt cs (X : Int) = own then oth else own) else swapP cs own oth L m j := by
  unfold swapP
  rw [zAt_eq hm] at hX
  have key : ((j : Int) ∈ L.take (m + 1)) ↔ ((j : Int) ∈ L.take m ∨ (j : Int) = L[m]) := by
    rw [← List.take_append_getElem hm, List.mem_append]; simp
  by_cases e : j = X
  · subst e; rw [if_pos (key.2 (.inr hX.symm)), if_pos rfl]
  · rw [if_neg e]
    by_cases e2 : (j : Int) ∈ L.take m
    · rw [if_pos (key.2 (.inl e2)), if_pos e2]
    · rw [if_neg (fun h => by
        rcases key.1 h with h | h
        · exact e2 h
        · rw [hX] at h; omega), if_neg e2]
theorem swapP_end {ps : List (Int × Int)} {cs : List Int} {land oth : Int} {L : List Int} (h : Bfs ps cs (cAt cs land) oth land L L.length) (j : Nat) : swapP cs (cAt cs land) oth L L.length j = swapF ps cs land oth j := by
  unfold swapP swapF
  rw [List.take_length]
  by_cases e : (j : Int) ∈ L
  · rw [if_pos e, if_pos ((bfs_end h _).1 e)]
  · rw [if_neg e, if_neg (fun hr => e ((bfs_end h _).2 hr))]
end Go.Proofs.YtemhmejjmhbfdabDoor.sines
