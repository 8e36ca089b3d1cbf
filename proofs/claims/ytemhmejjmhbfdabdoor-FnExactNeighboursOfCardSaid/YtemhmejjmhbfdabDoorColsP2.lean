/- The program's colours and clashes: contracts. -/
import Derived.Test.YtemhmejjmhbfdabDoorColsP1
import Derived.Test.YtemhmejjmhbfdabDoorColsC
namespace Go.Proofs.YtemhmejjmhbfdabDoor.sines
open Go.ChangeShapes Go.WideShapes Go.ChangeAt Go.RowKit Go.Proofs.YtemhmejjmhbfdabDoor.spots Go.Proofs.YtemhmejjmhbfdabDoor.irows Go.Proofs.YtemhmejjmhbfdabDoor.pairsBorder
set_option linter.unusedSimpArgs false
set_option linter.unusedVariables false

theorem retI10 {a b : Int} (h : a = b) : Ending.returned (.int .i64 a) = .returned (.int .i64 b) := by rw [h]
set_option maxHeartbeats 400000 in
theorem isColour_any (x : Int) (w : World) : Calls Tryd.prog 39 #[.int .i64 x] w fun e w' => e = .returned (.bool (inB x 0 9)) ∧ w = w' := by
  go_enter Tryd.func39, Tryd.ntmps39
  go_wp2_with (go_at_call 52; refine (within_any _ _ _ _).mono ?_; rintro e w' ⟨rfl, rfl⟩)
  go_ret
  exact ⟨rfl, rfl⟩
set_option maxHeartbeats 400000 in
theorem isLandU_any (n x : Int) (w : World) : Calls Tryd.prog 25 #[.int .i64 n, .int .i64 x] w fun e w' => e = .returned (.bool (inB x 0 (n - 1))) ∧ w = w' := by
  by_cases h1 : 0 ≤ x
  · by_cases h2 : x < n
    · have e : inB x 0 (n - 1) = true := by simp [inB]; omega
      rw [e]
      go_enter Tryd.func25, Tryd.ntmps25
      go_wp2
      go_ret
      exact ⟨rfl, rfl⟩
    · have e : inB x 0 (n - 1) = false := by simp [inB]; omega
      have h2' : n ≤ x := by omega
      have h3 : decide (x < n) = false := decide_eq_false h2
      rw [e]
      clear h2
      go_enter Tryd.func25, Tryd.ntmps25
      go_wp2
      go_ret
      exact ⟨retB9 (by first | exact h3 | done | simp | (simp; omega)), rfl⟩
  · have e : inB x 0 (n - 1) = false := by simp [inB]; omega
    rw [e]
    go_enter Tryd.func25, Tryd.ntmps25
    go_wp2
    go_ret
    exact ⟨rfl, rfl⟩
set_option maxHeartbeats 400000 in
theorem notColour_any (x : Int) (w : World) : Calls Tryd.prog 51 #[.int .i64 x] w fun e w' => e = .returned (.bool (!inB x 0 9)) ∧ w = w' := by
  go_enter Tryd.func51, Tryd.ntmps51
  go_wp2_with (go_at_call 39; refine (isColour_any _ _).mono ?_; rintro e w' ⟨rfl, rfl⟩)
  go_ret
  exact ⟨rfl, rfl⟩
def allCol (cs : List Int) : Bool := cs.all fun c => inB c 0 9
theorem allCol_no {cs : List Int} {k : Nat} (h : k < cs.length) (hk : inB (zAt cs k) 0 9 = false) : allCol cs = false := by
  cases e : allCol cs with
  | false => rfl
  | true =>
    simp only [allCol, List.all_eq_true] at e
    have := e cs[k] (List.getElem_mem _)
    rw [← zAt_eq h, hk] at this; cases this
theorem allCol_yes {cs : List Int} (h : ∀ j, j < cs.length → inB (zAt cs j) 0 9 = true) : allCol cs = true := by
  simp only [allCol, List.all_eq_true]
  intro c hc
  obtain ⟨i, hi, rfl⟩ := List.mem_iff_getElem.1 hc
  rw [← zAt_eq hi]; exact h i hi
set_option maxRecDepth 100000 in
set_option maxHeartbeats 1000000 in
theorem indexCol_any (v : Value) (cs : List Int) (w : World) (hv : IAt w w.heap.size v cs) (hl : cs.length ≤ 1048576) :
    Calls Tryd.prog 57 #[v, .func (.func 51) #[] #[]] w fun e w' => ∃ r : Int, e = .returned (.int .i64 r) ∧ ((allCol cs = true ∧ r = -1) ∨ (allCol cs = false ∧ 0 ≤ r)) ∧ Below w.heap.size w w' := by
  obtain ⟨a, c, rfl, hc⟩ := hv
  have HC := Lib.hid hc
  clear hc
  have hl2 : (cs.length : Int) ≤ 1048576 := by omega
  go_enter Tryd.func57, Tryd.ntmps57
  go_wp2
  go_loopw [8] (fun i wr => ∃ k : Nat, k ≤ cs.length ∧ i = .int .i64 (k : Int) ∧ (∀ j, j < k → inB (zAt cs j) 0 9 = true) ∧ Below w.heap.size w wr) (fun i _ => cs.length - (intOf i).toNat)
  case atStart => exact ⟨0, Nat.zero_le _, rfl, fun j h => by omega, Below.refl _ _⟩
  case round =>
    obtain ⟨k, hk, rfl, ha, hb⟩ := hrel
    have HA := Lib.hid ha
    have HB := Lib.hid hb
    clear ha
    by_cases hlt : k < cs.length
    · obtain ⟨b, off, rfl, hbs, c1⟩ := HC.out k hlt
      have u1 := (hb.cell (p := ⟨b, off + k, none⟩) hbs).trans c1
      have hk0 : 0 ≤ (k : Int) := by omega
      have hk1 : (k : Int) < (cs.length : Int) := by omega
      have NO := Lib.hid (show inB (zAt cs k) 0 9 = false → allCol cs = false from fun h => allCol_no hlt h)
      have YES := Lib.hid (show inB (zAt cs k) 0 9 = true → ∀ j, j < k + 1 → inB (zAt cs j) 0 9 = true from fun h j hj => by
        by_cases e : j = k
        · subst e; exact h
        · exact HA.out j (by omega))
      clear c1 hb
      generalize zAt cs k = x at u1 NO YES
      go_wp2_with fail
      refine (notColour_any _ _).mono ?_
      rintro e w' ⟨rfl, rfl⟩
      cases h1 : inB x 0 9 with
      | false =>
        have BAD := Lib.hid (NO.out h1)
        clear h1
        go_wp2
        go_ret
        exact ⟨_, rfl, .inr ⟨BAD.out, hk0⟩, HB.out⟩
      | true =>
        have Y := Lib.hid (YES.out h1)
        clear h1
        go_wp2
        go_roundw
        case rel => exact ⟨k + 1, by omega, by go_num, Y.out, HB.out⟩
        case measure => simp [intOf]; omega
    · obtain rfl : k = cs.length := by omega
      have OK := Lib.hid (allCol_yes HA.out)
      clear hb
      go_wp2
      go_ret
      exact ⟨_, rfl, .inl ⟨OK.out, rfl⟩, HB.out⟩
set_option maxHeartbeats 400000 in
theorem containsCol_any (v : Value) (cs : List Int) (w : World) (hv : IAt w w.heap.size v cs) (hl : cs.length ≤ 1048576) :
    Calls Tryd.prog 50 #[v, .func (.func 51) #[] #[]] w fun e w' => e = .returned (.bool (!allCol cs)) ∧ Below w.heap.size w w' := by
  have HI := Lib.hid (fun W (h : IAt W W.heap.size v cs) => indexCol_any v cs W h hl)
  have HV := Lib.hid hv
  obtain ⟨a, c, rfl, _⟩ := hv
  go_enter Tryd.func50, Tryd.ntmps50
  go_wp2_with fail
  refine (HI.out _ HV.out).mono ?_
  rintro e w1 ⟨r, rfl, hr, hb⟩
  have HB := Lib.hid hb
  clear hb
  rcases hr with ⟨h1, rfl⟩ | ⟨h1, h2⟩
  · have H1 := Lib.hid h1
    clear h1
    go_wp2
    go_ret
    exact ⟨by rw [H1.out]; rfl, HB.out⟩
  · have H1 := Lib.hid h1
    clear h1
    go_wp2
    go_ret
    exact ⟨by rw [H1.out]; simp, HB.out⟩
set_option maxHeartbeats 400000 in
theorem areColours_any (n : Int) (v : Value) (cs : List Int) (w : World) (hv : IAt w w.heap.size v cs) (hl : cs.length ≤ 1048576) :
    Calls Tryd.prog 38 #[.int .i64 n, v] w fun e w' => e = .returned (.bool (colsOk n cs)) ∧ Below w.heap.size w w' := by
  have HI := Lib.hid (containsCol_any v cs w hv hl)
  have hl2 : (cs.length : Int) ≤ 1048576 := by omega
  obtain ⟨a, c, rfl, _⟩ := hv
  have E := Lib.hid (show colsOk n cs = (allCol cs && decide ((cs.length : Int) = n)) from rfl)
  by_cases h : (cs.length : Int) = n
  · have E2 := Lib.hid (show colsOk n cs = allCol cs by rw [E.out, decide_eq_true h, Bool.and_true])
    go_enter Tryd.func38, Tryd.ntmps38
    go_wp2_with fail
    refine HI.out.mono ?_
    rintro e w1 ⟨rfl, hb⟩
    have HB := Lib.hid hb
    clear hb
    go_wp2
    go_ret
    exact ⟨retB9 (by rw [E2.out]; try simp), HB.out⟩
  · have E2 := Lib.hid (show colsOk n cs = false by rw [E.out, decide_eq_false h, Bool.and_false])
    have h' : decide ((cs.length : Int) = n) = false := decide_eq_false h
    go_enter Tryd.func38, Tryd.ntmps38
    go_wp2_with fail
    go_ret
    exact ⟨retB9 (by rw [E2.out]), Below.refl _ _⟩
set_option maxHeartbeats 400000 in
theorem bordersCode_any (n : Int) (v : Value) (ps : List (Int × Int)) (b : Bool) (w : World) (hv : PAt w w.heap.size v ps) (hl : ps.length ≤ 1048576) :
    Calls Tryd.prog 24 #[.int .i64 n, v, .bool b] w fun e w' => e = .returned (.int .i64 (if validC n ps = true then (if b = true then 0 else 2) else 1)) ∧ Below w.heap.size w w' := by
  have HV := Lib.hid (implVB_any n v ps w hv hl)
  obtain ⟨a, c, rfl, _⟩ := hv
  generalize validC n ps = R at HV ⊢
  cases R <;> cases b <;>
  · go_enter Tryd.func24, Tryd.ntmps24
    go_wp2_with fail
    refine HV.out.mono ?_
    rintro e w1 ⟨rfl, hb⟩
    have HB := Lib.hid hb
    clear hb
    go_wp2_with fail
    refine (codeOf_any _ _ _).mono ?_
    rintro e w2 ⟨rfl, rfl⟩
    go_wp2
    go_ret
    exact ⟨rfl, HB.out⟩
end Go.Proofs.YtemhmejjmhbfdabDoor.sines
