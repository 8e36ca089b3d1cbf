/- Lists of valid places: areSpots of the program. -/
import Derived.Test.YtemhmejjmhbfdaaPairs
import Derived.Test.YtemhmejjmhbfdaaSines
import Derived.Deep.LoopGhost
namespace Go.Proofs.Ytemhmejjmhbfdaa.sines
open Go.ChangeShapes Go.WideShapes Go.ChangeAt Go.RowKit Go.Proofs.Ytemhmejjmhbfdaa.spots Go.Proofs.Ytemhmejjmhbfdaa.irows Go.Proofs.Ytemhmejjmhbfdaa.pairs

def okL (ps : List (Int × Int)) : Bool := ps.all fun p => okB p.1 p.2
theorem okL_of {ps : List (Int × Int)} (h : ∀ j, (hj : j < ps.length) → okB ps[j].1 ps[j].2 = true) : okL ps = true := by
  simp only [okL, List.all_eq_true]
  intro p hp
  obtain ⟨j, hj, rfl⟩ := List.mem_iff_getElem.1 hp
  exact h j hj
theorem okL_at {ps : List (Int × Int)} (h : okL ps = true) (j : Nat) (hj : j < ps.length) : okB ps[j].1 ps[j].2 = true := by
  simp only [okL, List.all_eq_true] at h
  exact h _ (List.getElem_mem _)
theorem okL_not {ps : List (Int × Int)} (j : Nat) (hj : j < ps.length) (h : okB ps[j].1 ps[j].2 = false) : okL ps = false := by
  cases e : okL ps with
  | false => rfl
  | true => rw [okL_at e j hj] at h; cases h
set_option maxHeartbeats 400000 in
theorem bad1_any (a b : Int) (w : World) :
    Calls Try.prog 173 #[.agg #[.int .i64 a, .int .i64 b]] w fun e w' => e = .returned (.bool (!okB a b)) ∧ Below w.heap.size w w' := by
  go_enter Try.func173, Try.ntmps173
  go_wp2_with fail
  refine (ValidSpot_any a b _).mono ?_
  rintro e w' ⟨rfl, o1, rfl⟩
  go_wp2
  go_ret
  exact ⟨rfl, ((Below.refl _ _).alloc (Nat.le_refl _) _).alloc (by simp) _⟩
set_option maxRecDepth 100000 in
set_option maxHeartbeats 1000000 in
theorem indexSpots_any (v : Value) (ps : List (Int × Int)) (w : World) (hv : PAt w w.heap.size v ps) (hl : ps.length ≤ 1048576) :
    Calls Try.prog 157 #[v, .func (.func 173) #[] #[]] w fun e w' => ∃ r : Int, e = .returned (.int .i64 r) ∧ ((okL ps = true ∧ r = -1) ∨ (okL ps = false ∧ 0 ≤ r)) ∧ Below w.heap.size w w' := by
  obtain ⟨a, c, rfl, hc⟩ := hv
  have HC := Lib.hid hc
  clear hc
  have hl2 : (ps.length : Int) ≤ 1048576 := by omega
  go_enter Try.func157, Try.ntmps157
  go_wp2
  go_loopw [8] (fun i wr => ∃ k : Nat, k ≤ ps.length ∧ i = .int .i64 (k : Int) ∧ (∀ j, (hj : j < ps.length) → j < k → okB ps[j].1 ps[j].2 = true) ∧ Below w.heap.size w wr) (fun i _ => ps.length - (intOf i).toNat)
  case atStart => exact ⟨0, Nat.zero_le _, rfl, fun j _ h => by omega, Below.refl _ _⟩
  case round =>
    obtain ⟨k, hk, rfl, hall, hb⟩ := hrel
    have hsz := hb.size
    have HA := Lib.hid hall
    have HB := Lib.hid hb
    clear hall hb
    by_cases hlt : k < ps.length
    · obtain ⟨b, off, rfl, hbs, c1, c2⟩ := HC.out k hlt
      have c1' : wr.cell? ⟨b, off + k * 2, none⟩ = some (.int .i64 ps[k].1) := by rw [HB.out.cell (p := ⟨b, off + k * 2, none⟩) hbs]; exact c1
      have c2' : wr.cell? ⟨b, off + k * 2 + 1, none⟩ = some (.int .i64 ps[k].2) := by rw [HB.out.cell (p := ⟨b, off + k * 2 + 1, none⟩) hbs]; exact c2
      have hk0 : 0 ≤ (k : Int) := by omega
      have hk1 : (k : Int) < (ps.length : Int) := by omega
      have NO := Lib.hid (fun h => okL_not k hlt h)
      have YES := Lib.hid (show okB ps[k].1 ps[k].2 = true → ∀ j, (hj : j < ps.length) → j < k + 1 → okB ps[j].1 ps[j].2 = true from fun h j hj hjk => by
        by_cases e : j = k
        · subst e; exact h
        · exact HA.out j hj (by omega))
      clear c1 c2
      generalize ps[k] = x at c1' c2' NO YES
      obtain ⟨x1, x2⟩ := x
      cases ho : okB x1 x2 with
      | false =>
        have BAD := Lib.hid (NO.out ho)
        go_wp2_with fail
        refine (bad1_any x1 x2 _).mono ?_
        rw [ho]
        rintro e w1 ⟨rfl, hb1⟩
        have HB1 := Lib.hid (HB.out.trans (hb1.mono hsz))
        clear hb1
        go_wp2
        go_ret
        exact ⟨_, rfl, .inr ⟨BAD.out, hk0⟩, HB1.out⟩
      | true =>
        have Y := Lib.hid (YES.out ho)
        go_wp2_with fail
        refine (bad1_any x1 x2 _).mono ?_
        rw [ho]
        rintro e w1 ⟨rfl, hb1⟩
        have HB1 := Lib.hid (HB.out.trans (hb1.mono hsz))
        clear hb1
        go_wp2
        go_roundw
        case rel => exact ⟨k + 1, by omega, by go_num, Y.out, HB1.out⟩
        case measure => simp [intOf]; omega
    · obtain rfl : k = ps.length := by omega
      have OK := Lib.hid (okL_of fun j hj => HA.out j hj hj)
      go_wp2
      go_ret
      exact ⟨_, rfl, .inl ⟨OK.out, rfl⟩, HB.out⟩
set_option maxHeartbeats 400000 in
theorem containsBad_any (v : Value) (ps : List (Int × Int)) (w : World) (hv : PAt w w.heap.size v ps) (hl : ps.length ≤ 1048576) :
    Calls Try.prog 108 #[v, .func (.func 173) #[] #[]] w fun e w' => e = .returned (.bool (!okL ps)) ∧ Below w.heap.size w w' := by
  have HV := Lib.hid hv
  obtain ⟨a, c, rfl, _⟩ := hv
  go_enter Try.func108, Try.ntmps108
  go_wp2_with fail
  refine (indexSpots_any _ ps _ HV.out hl).mono ?_
  rintro e w1 ⟨r, rfl, hr, hb⟩
  have HB := Lib.hid hb
  clear hb
  rcases hr with ⟨h1, rfl⟩ | ⟨h1, h2⟩
  · have H1 := Lib.hid h1
    clear h1
    go_wp2
    go_ret
    exact ⟨by rw [H1.out]; rfl, HB.out⟩
  · have H1 := Lib.hid h1
    clear h1
    go_wp2
    go_ret
    exact ⟨by rw [H1.out]; simp, HB.out⟩
set_option maxHeartbeats 400000 in
theorem areSpots_any (v : Value) (ps : List (Int × Int)) (w : World) (hv : PAt w w.heap.size v ps) (hl : ps.length ≤ 1048576) :
    Calls Try.prog 153 #[v] w fun e w' => e = .returned (.bool (okL ps)) ∧ Below w.heap.size w w' := by
  have HV := Lib.hid hv
  obtain ⟨a, c, rfl, _⟩ := hv
  obtain ⟨b, hB⟩ : ∃ b, Hid (okL ps = b) := ⟨_, Lib.hid rfl⟩
  rw [hB.out]
  cases b <;>
  (
  go_enter Try.func153, Try.ntmps153
  go_wp2_with fail
  refine (containsBad_any _ ps _ HV.out hl).mono ?_
  rw [hB.out]
  rintro e w1 ⟨rfl, hb⟩
  have HB := Lib.hid hb
  clear hb
  go_wp2
  go_ret
  exact ⟨rfl, HB.out⟩)
end Go.Proofs.Ytemhmejjmhbfdaa.sines
