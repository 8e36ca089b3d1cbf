/- The program's chains: whether one is valid. -/
import Derived.Test.YtemhmejjmhbfdabChainS7
namespace Go.Proofs.Ytemhmejjmhbfdab.sines
open Go.ChangeShapes Go.WideShapes Go.ChangeAt Go.RowKit Go.Proofs.Ytemhmejjmhbfdab.spots Go.Proofs.Ytemhmejjmhbfdab.irows Go.Proofs.Ytemhmejjmhbfdab.pairsPlace
set_option linter.unusedSimpArgs false
set_option linter.unusedVariables false

set_option maxHeartbeats 400000 in
theorem isOffPaper_any (a b : Int) (w : World) :
    Calls Try.prog 108 #[.agg #[.int .i64 a, .int .i64 b]] w fun e w' => e = .returned (.bool (!okP (a, b))) ∧ Below w.heap.size w w' := by
  cases h1 : inB a 0 2000 with
  | false =>
    go_enter Try.func108, Try.ntmps108
    go_wp2_with (go_at_call 66; refine (within_any _ _ _ _).mono ?_; rw [h1]; rintro e w' ⟨rfl, rfl⟩)
    go_ret
    exact ⟨retB (by simp [okP, h1]), by first | exact (Below.refl _ _).alloc (Nat.le_refl _) _ | exact Below.refl _ _⟩
  | true =>
    cases h2 : inB b 0 2000 with
    | false =>
      go_enter Try.func108, Try.ntmps108
      go_wp2_with (go_at_call 66; refine (within_any _ _ _ _).mono ?_; (first | rw [h1] | rw [h2]); rintro e w' ⟨rfl, rfl⟩)
      go_ret
      exact ⟨retB (by simp [okP, h1, h2]), by first | exact (Below.refl _ _).alloc (Nat.le_refl _) _ | exact Below.refl _ _⟩
    | true =>
      go_enter Try.func108, Try.ntmps108
      go_wp2_with (go_at_call 66; refine (within_any _ _ _ _).mono ?_; (first | rw [h1] | rw [h2]); rintro e w' ⟨rfl, rfl⟩)
      go_ret
      exact ⟨retB (by simp [okP, h1, h2]), by first | exact (Below.refl _ _).alloc (Nat.le_refl _) _ | exact Below.refl _ _⟩
theorem offAll_not {ps : List Pl} {k : Nat} (hk : k < ps.length) (h : okP (pAt ps k) = false) : ps.all okP = false := by
  cases e : ps.all okP with
  | false => rfl
  | true =>
    rw [List.all_eq_true] at e
    rw [← pat_of hk, e _ (List.getElem_mem _)] at h
    cases h
theorem offAll_of {ps : List Pl} (h : ∀ j, j < ps.length → okP (pAt ps j) = true) : ps.all okP = true := by
  rw [List.all_eq_true]
  intro p hp
  obtain ⟨j, hj, rfl⟩ := List.mem_iff_getElem.1 hp
  rw [pat_of hj]; exact h j hj
set_option maxRecDepth 100000 in
set_option maxHeartbeats 1000000 in
theorem indexOff_any (v : Value) (ps : List (Int × Int)) (w : World) (hv : PAt w w.heap.size v ps) (hl : ps.length ≤ 1048576) :
    Calls Try.prog 123 #[v, .func (.func 108) #[] #[]] w fun e w' => ∃ r : Int, e = .returned (.int .i64 r) ∧ ((ps.all okP = true ∧ r = -1) ∨ (ps.all okP = false ∧ 0 ≤ r)) ∧ Below w.heap.size w w' := by
  obtain ⟨a, c, rfl, hc⟩ := hv
  have HC := Lib.hid hc
  clear hc
  have hl2 : (ps.length : Int) ≤ 1048576 := by omega
  go_enter Try.func123, Try.ntmps123
  go_wp2
  go_loopw [8] (fun i wr => ∃ k : Nat, k ≤ ps.length ∧ i = .int .i64 (k : Int) ∧ (∀ j, j < k → okP (pAt ps j) = true) ∧ Below w.heap.size w wr) (fun i _ => ps.length - (intOf i).toNat)
  case atStart => exact ⟨0, Nat.zero_le _, rfl, fun j h => by omega, Below.refl _ _⟩
  case round =>
    obtain ⟨k, hk, rfl, hall, hb⟩ := hrel
    have hsz := hb.size
    have HA := Lib.hid hall
    have HB := Lib.hid hb
    clear hall hb
    by_cases hlt : k < ps.length
    · obtain ⟨b, off, rfl, hbs, c1, c2⟩ := HC.out k hlt
      rw [pat_of hlt] at c1 c2
      have c1' : wr.cell? ⟨b, off + k * 2, none⟩ = some (.int .i64 (pAt ps k).1) := by rw [HB.out.cell (p := ⟨b, off + k * 2, none⟩) hbs]; exact c1
      have c2' : wr.cell? ⟨b, off + k * 2 + 1, none⟩ = some (.int .i64 (pAt ps k).2) := by rw [HB.out.cell (p := ⟨b, off + k * 2 + 1, none⟩) hbs]; exact c2
      have hk0 : 0 ≤ (k : Int) := by omega
      have hk1 : (k : Int) < (ps.length : Int) := by omega
      have NO := Lib.hid (fun h => offAll_not hlt h)
      have YES := Lib.hid (show okP (pAt ps k) = true → ∀ j, j < k + 1 → okP (pAt ps j) = true from fun h j hjk => by
        by_cases e : j = k
        · subst e; exact h
        · exact HA.out j (by omega))
      clear c1 c2
      generalize pAt ps k = x at c1' c2' NO YES
      obtain ⟨x1, x2⟩ := x
      cases ho : okP (x1, x2) with
      | false =>
        have BAD := Lib.hid (NO.out ho)
        go_wp2_with fail
        refine (isOffPaper_any x1 x2 _).mono ?_
        rw [ho]
        rintro e w1 ⟨rfl, hb1⟩
        have HB1 := Lib.hid (HB.out.trans (hb1.mono hsz))
        clear hb1
        go_wp2
        go_ret
        exact ⟨_, rfl, .inr ⟨BAD.out, hk0⟩, HB1.out⟩
      | true =>
        have Y := Lib.hid (YES.out ho)
        go_wp2_with fail
        refine (isOffPaper_any x1 x2 _).mono ?_
        rw [ho]
        rintro e w1 ⟨rfl, hb1⟩
        have HB1 := Lib.hid (HB.out.trans (hb1.mono hsz))
        clear hb1
        go_wp2
        go_roundw
        case rel => exact ⟨k + 1, by omega, by go_num, Y.out, HB1.out⟩
        case measure => simp [intOf]; omega
    · obtain rfl : k = ps.length := by omega
      have OK := Lib.hid (offAll_of HA.out)
      go_wp2
      go_ret
      exact ⟨_, rfl, .inl ⟨OK.out, rfl⟩, HB.out⟩
set_option maxHeartbeats 400000 in
theorem containsOff_any (v : Value) (ps : List (Int × Int)) (w : World) (hv : PAt w w.heap.size v ps) (hl : ps.length ≤ 1048576) :
    Calls Try.prog 107 #[v, .func (.func 108) #[] #[]] w fun e w' => e = .returned (.bool (!ps.all okP)) ∧ Below w.heap.size w w' := by
  have HV := Lib.hid hv
  obtain ⟨a, c, rfl, _⟩ := hv
  go_enter Try.func107, Try.ntmps107
  go_wp2_with fail
  refine (indexOff_any _ ps _ HV.out hl).mono ?_
  rintro e w1 ⟨r, rfl, hr, hb⟩
  have HB := Lib.hid hb
  clear hb
  rcases hr with ⟨h1, rfl⟩ | ⟨h1, h2⟩
  · have H1 := Lib.hid h1
    clear h1
    go_wp2
    go_ret
    exact ⟨retB (by simp [H1.out]), HB.out⟩
  · have H1 := Lib.hid h1
    clear h1
    go_wp2
    go_ret
    exact ⟨retB (by simp [H1.out]), HB.out⟩
set_option maxHeartbeats 1000000 in
theorem implValidChain_any (v : Value) (ps : List (Int × Int)) (w : World) (hv : PAt w w.heap.size v ps) (hl : ps.length ≤ 1048576) :
    Calls Try.prog 82 #[v] w fun e w' => e = .returned (.bool (okC ps)) ∧ Below w.heap.size w w' := by
  have HV := Lib.hid hv
  obtain ⟨ar, c, rfl, _⟩ := hv
  have hl2 : (ps.length : Int) ≤ 1048576 := by omega
  cases h1 : inB (ps.length : Int) 2 24 with
  | false =>
    have e : okC ps = false := by simp [okC, h1]
    rw [e]
    go_enter Try.func82, Try.ntmps82
    go_wp2_with (first | (go_at_call 66; refine (within_any _ _ _ _).mono ?_; rw [h1]; rintro e w' ⟨rfl, rfl⟩) | (go_at_call 107; refine (containsOff_any _ ps _ HV.out hl).mono ?_; rintro e w1 ⟨rfl, hb⟩; have HB := Lib.hid hb; clear hb))
    go_ret
    exact ⟨rfl, Below.refl _ _⟩
  | true =>
    have e : okC ps = ps.all okP := by simp [okC, h1]
    rw [e]
    generalize hR : ps.all okP = R
    have HR := Lib.hid hR
    clear hR e
    go_enter Try.func82, Try.ntmps82
    go_wp2_with (first | (go_at_call 66; refine (within_any _ _ _ _).mono ?_; rw [h1]; rintro e w' ⟨rfl, rfl⟩) | (go_at_call 107; refine (containsOff_any _ ps _ HV.out hl).mono ?_; rw [HR.out]; rintro e w1 ⟨rfl, hb⟩; have HB := Lib.hid hb; clear hb))
    go_ret
    exact ⟨retB (by simp), HB.out⟩
/-- The code of a chain and of other arguments. -/
def codeQ (ps : List Pl) (b : Bool) : Int := if okC ps = true then (if b = true then 0 else 2) else 1
set_option maxHeartbeats 1000000 in
theorem chainCode_any (v : Value) (ps : List (Int × Int)) (b : Bool) (w : World) (hv : PAt w w.heap.size v ps) (hl : ps.length ≤ 1048576) :
    Calls Try.prog 80 #[v, .bool b] w fun e w' => e = .returned (.int .i64 (codeQ ps b)) ∧ Below w.heap.size w w' := by
  have VC := Lib.hid (implValidChain_any v ps w hv hl)
  have E := Lib.hid (show (if okC ps = false then 1 else if b = false then 2 else 0) = codeQ ps b by unfold codeQ; cases okC ps <;> cases b <;> rfl)
  obtain ⟨ar, c, rfl, _⟩ := hv
  generalize codeQ ps b = Z at E ⊢
  generalize okC ps = R at VC E
  go_enter Try.func80, Try.ntmps80
  go_wp2_with fail
  refine VC.out.mono ?_
  rintro e w1 ⟨rfl, hb⟩
  go_wp2_with fail
  refine (codeOf_any _ _ _).mono ?_
  rintro e w2 ⟨rfl, rfl⟩
  rw [E.out]
  go_wp2
  go_ret
  exact ⟨rfl, hb⟩
end Go.Proofs.Ytemhmejjmhbfdab.sines
