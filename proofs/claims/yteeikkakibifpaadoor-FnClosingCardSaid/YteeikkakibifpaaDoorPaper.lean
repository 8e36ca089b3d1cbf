/- FewestGores and SheetsForGores: contracts of the program and of the model. -/
import Derived.Test.YteeikkakibifpaaDoorGoreF
namespace Go.Proofs.YteeikkakibifpaaDoor.sines
open Go.ChangeShapes Go.WideShapes Go.ChangeAt Go.RowKit Go.Proofs.YteeikkakibifpaaDoor.spots Go.Proofs.YteeikkakibifpaaDoor.irows
set_option linter.unusedVariables false
set_option linter.unusedSimpArgs false
/-- The code of a circumference and the width of a paper. -/
def codeF (a p : Int) : Int := if (inB a 1 1000000 && inB p 1 100000) = true then 0 else 2
theorem codeF_yes {a p : Int} (h : codeF a p = 0) : 1 ≤ a ∧ a ≤ 1000000 ∧ 1 ≤ p ∧ p ≤ 100000 := by
  cases x : inB a 1 1000000 <;> cases y : inB p 1 100000 <;> simp [codeF, x, y] at h
  obtain ⟨a1, a2⟩ := inB_of x
  obtain ⟨l1, l2⟩ := inB_of y
  exact ⟨a1, a2, l1, l2⟩
theorem codeF_cases {a p : Int} (h : codeF a p ≠ 0) : codeF a p = 2 := by
  simp only [codeF] at h ⊢; split at h
  · exact absurd rfl h
  · rename_i k; rw [if_neg k]
/-- What FewestGores tells. -/
def fewC (a p : Int) : Int := if codeF a p = 0 then (match fewG a p with | some _ => 0 | none => 3) else codeF a p
def fewV (a p : Int) : Int := if codeF a p = 0 then (match fewG a p with | some n => n | none => 0) else 0
theorem few_some {a p n : Int} (h : codeF a p = 0) (k : fewG a p = some n) : fewC a p = 0 ∧ fewV a p = n := by simp [fewC, fewV, h, k]
theorem few_none {a p : Int} (h : codeF a p = 0) (k : fewG a p = none) : fewC a p = 3 ∧ fewV a p = 0 := by simp [fewC, fewV, h, k]
theorem few_bad {a p : Int} (h : codeF a p ≠ 0) : fewC a p = 2 ∧ fewV a p = 0 := by
  have := codeF_cases h
  simp [fewC, fewV, this]

set_option maxHeartbeats 400000 in
theorem l04Paper_a (a p : Int) (w : World) (x : inB a 1 1000000 = false) :
    Calls Tryd.prog 91 #[.int .i64 a, .int .i64 p] w fun e w' => e = .returned (.int .i64 (2)) ∧ w = w' := by
  go_enter Tryd.func91, Tryd.ntmps91
  go_wp2_with (go_at_call 80; refine (l00In_any _ _ _ _).mono ?_; rintro e w' ⟨rfl, rfl⟩)
  go_ret
  exact ⟨rfl, rfl⟩
set_option maxHeartbeats 400000 in
theorem l04Paper_p (a p : Int) (w : World) (x : inB a 1 1000000 = true) (y : inB p 1 100000 = false) :
    Calls Tryd.prog 91 #[.int .i64 a, .int .i64 p] w fun e w' => e = .returned (.int .i64 (2)) ∧ w = w' := by
  go_enter Tryd.func91, Tryd.ntmps91
  go_wp2_with (go_at_call 80; refine (l00In_any _ _ _ _).mono ?_; rintro e w' ⟨rfl, rfl⟩)
  go_ret
  exact ⟨rfl, rfl⟩
set_option maxHeartbeats 400000 in
theorem l04Paper_y (a p : Int) (w : World) (x : inB a 1 1000000 = true) (y : inB p 1 100000 = true) :
    Calls Tryd.prog 91 #[.int .i64 a, .int .i64 p] w fun e w' => e = .returned (.int .i64 (0)) ∧ w = w' := by
  go_enter Tryd.func91, Tryd.ntmps91
  go_wp2_with (go_at_call 80; refine (l00In_any _ _ _ _).mono ?_; rintro e w' ⟨rfl, rfl⟩)
  go_ret
  exact ⟨rfl, rfl⟩
theorem l04Paper_any (a p : Int) (w : World) :
    Calls Tryd.prog 91 #[.int .i64 a, .int .i64 p] w fun e w' => e = .returned (.int .i64 (codeF a p)) ∧ w = w' := by
  cases x : inB a 1 1000000 with
  | false => refine (l04Paper_a _ _ _ x).mono ?_; rintro e w' ⟨rfl, hw⟩; exact ⟨ret_int (by simp [codeF, x]), hw⟩
  | true =>
    cases y : inB p 1 100000 with
    | false => refine (l04Paper_p _ _ _ x y).mono ?_; rintro e w' ⟨rfl, hw⟩; exact ⟨ret_int (by simp [codeF, x, y]), hw⟩
    | true => refine (l04Paper_y _ _ _ x y).mono ?_; rintro e w' ⟨rfl, hw⟩; exact ⟨ret_int (by simp [codeF, x, y]), hw⟩


theorem specFewestGores_bad (a p : Int) (w : World) (h : codeF a p ≠ 0) :
    Calls Tryd.prog 44 #[.int .i64 a, .int .i64 p] w fun e w' => e = .returned (.tuple #[.int .i64 (fewV a p), .int .i64 (fewC a p)]) ∧ w = w' := by
  have hc := codeF_cases h
  obtain ⟨e1, e2⟩ := few_bad h
  rw [e1, e2]
  go_enter Tryd.func44, Tryd.ntmps44
  go_wp2_with (go_at_call 91; refine (l04Paper_any _ _ _).mono ?_; rintro e w' ⟨rfl, rfl⟩; rw [hc])
  exact bodyPost_ret (v := .tuple #[.int .i64 0, .int .i64 2]) (by simp [results, Tryd.results44, go_sem]) rfl ⟨rfl, rfl⟩
set_option maxHeartbeats 1000000 in
theorem specFewestGores_ok (a p : Int) (w : World) (h : codeF a p = 0) :
    Calls Tryd.prog 44 #[.int .i64 a, .int .i64 p] w fun e w' => e = .returned (.tuple #[.int .i64 (fewV a p), .int .i64 (fewC a p)]) ∧ w = w' := by
  obtain ⟨a1, a2, p1, p2⟩ := codeF_yes h
  have ES := Lib.hid (fun n (k : fewG a p = some n) => few_some h k)
  have EN := Lib.hid (fun (k : fewG a p = none) => few_none h k)
  go_enter Tryd.func44, Tryd.ntmps44
  go_wp2_with (go_at_call 91; refine (l04Paper_any _ _ _).mono ?_; rintro e w' ⟨rfl, rfl⟩; rw [h])
  go_loopw [7] (fun i wr => ∃ n : Int, i = .int .i64 n ∧ 6 ≤ n ∧ n ≤ 49 ∧ wr = w ∧ ∀ m ∈ goreL, m < n → p < gpart m a 0) (fun i _ => (49 - intOf i).toNat)
  case atStart => exact ⟨6, rfl, by omega, by omega, rfl, fun m hm hl => by have := goreL_facts m hm; omega⟩
  case round =>
    obtain ⟨n, rfl, n1, n2, rfl, hno⟩ := hrel
    have HN := Lib.hid hno
    clear hno
    by_cases hle : n ≤ 48
    · have k1 : IntKind.i64.wrap (n + 1) = n + 1 := IntWalk.i64_in _ (by omega)
      cases hb : goreB n with
      | false =>
        go_wp2_with (go_at_call 63; refine (l04Ok_any _ _).mono ?_; rintro e w' ⟨rfl, rfl⟩; rw [hb])
        go_roundw
        case rel =>
          refine ⟨n + 1, rfl, by omega, by omega, by trivial, fun m hm hl => ?_⟩
          by_cases e : m = n
          · subst e; rw [goreB_mem.2 hm] at hb; cases hb
          · exact HN.out m hm (by omega)
        case measure => simp [intOf]; omega
      | true =>
        have g48 : n ≤ 48 := hle
        obtain ⟨q, hq⟩ : ∃ q, Hid (gpart n a 0 = q) := ⟨_, Lib.hid rfl⟩
        by_cases hp : q ≤ p
        · have hd1 : decide (q ≤ p) = true := by simpa using hp
          go_wp2_with (first | (go_at_call 63; refine (l04Ok_any _ _).mono ?_; rintro e w' ⟨rfl, rfl⟩; rw [hb]) | (go_at_call 73; refine (l04Width_any _ _ _ _ (by omega) g48 a1 a2 (by omega) (by omega)).mono ?_; rintro e w' ⟨rfl, rfl⟩; rw [hq.out]))
          have k := Lib.hid (ES.out n (fewG_some (goreB_mem.1 hb) (by rw [hq.out]; exact hp) HN.out))
          exact bodyPost_ret (v := .tuple #[.int .i64 n, .int .i64 0]) (by simp [results, Tryd.results44, go_sem]) rfl ⟨by rw [k.out.1, k.out.2], by trivial⟩
        · have hd1 : decide (q ≤ p) = false := by simpa using hp
          go_wp2_with (first | (go_at_call 63; refine (l04Ok_any _ _).mono ?_; rintro e w' ⟨rfl, rfl⟩; rw [hb]) | (go_at_call 73; refine (l04Width_any _ _ _ _ (by omega) g48 a1 a2 (by omega) (by omega)).mono ?_; rintro e w' ⟨rfl, rfl⟩; rw [hq.out]))
          go_roundw
          case rel =>
            refine ⟨n + 1, rfl, by omega, by omega, by trivial, fun m hm hl => ?_⟩
            by_cases e : m = n
            · subst e; rw [hq.out]; omega
            · exact HN.out m hm (by omega)
          case measure => simp [intOf]; omega
    · obtain rfl : n = 49 := by omega
      have k := Lib.hid (EN.out (fewG_none fun m hm => HN.out m hm (by have := goreL_facts m hm; omega)))
      go_wp2
      exact bodyPost_ret (v := .tuple #[.int .i64 0, .int .i64 3]) (by simp [results, Tryd.results44, go_sem]) rfl ⟨by rw [k.out.1, k.out.2], by trivial⟩
theorem specFewestGores_any (a p : Int) (w : World) :
    Calls Tryd.prog 44 #[.int .i64 a, .int .i64 p] w fun e w' => e = .returned (.tuple #[.int .i64 (fewV a p), .int .i64 (fewC a p)]) ∧ w = w' := by
  by_cases h : codeF a p = 0
  · exact specFewestGores_ok a p w h
  · exact specFewestGores_bad a p w h


theorem implFewestGores_a (a p : Int) (w : World) (x : inB a 1 1000000 = false) (h : codeF a p ≠ 0) :
    Calls Tryd.prog 43 #[.int .i64 a, .int .i64 p] w fun e w' => e = .returned (.tuple #[.int .i64 (fewV a p), .int .i64 (fewC a p)]) ∧ w = w' := by
  obtain ⟨e1, e2⟩ := few_bad h
  rw [e1, e2]
  go_enter Tryd.func43, Tryd.ntmps43
  go_wp2_with (first | (go_at_call 68; refine (isAround_any _ _).mono ?_; rintro e w' ⟨rfl, rfl⟩) | (go_at_call 90; refine (isPaper_any _ _).mono ?_; rintro e w' ⟨rfl, rfl⟩))
  exact bodyPost_ret (v := .tuple #[.int .i64 0, .int .i64 2]) (by simp [results, Tryd.results43, go_sem]) rfl ⟨rfl, rfl⟩
theorem implFewestGores_p (a p : Int) (w : World) (x : inB a 1 1000000 = true) (y : inB p 1 100000 = false) (h : codeF a p ≠ 0) :
    Calls Tryd.prog 43 #[.int .i64 a, .int .i64 p] w fun e w' => e = .returned (.tuple #[.int .i64 (fewV a p), .int .i64 (fewC a p)]) ∧ w = w' := by
  obtain ⟨e1, e2⟩ := few_bad h
  rw [e1, e2]
  go_enter Tryd.func43, Tryd.ntmps43
  go_wp2_with (first | (go_at_call 68; refine (isAround_any _ _).mono ?_; rintro e w' ⟨rfl, rfl⟩) | (go_at_call 90; refine (isPaper_any _ _).mono ?_; rintro e w' ⟨rfl, rfl⟩))
  exact bodyPost_ret (v := .tuple #[.int .i64 0, .int .i64 2]) (by simp [results, Tryd.results43, go_sem]) rfl ⟨rfl, rfl⟩
set_option maxHeartbeats 1000000 in
theorem implFewestGores_ok (a p : Int) (w : World) (hG : GV w) (x : inB a 1 1000000 = true) (y : inB p 1 100000 = true) :
    Calls Tryd.prog 43 #[.int .i64 a, .int .i64 p] w fun e w' => e = .returned (.tuple #[.int .i64 (fewV a p), .int .i64 (fewC a p)]) ∧ w = w' := by
  have h : codeF a p = 0 := by simp [codeF, x, y]
  obtain ⟨a1, a2, p1, p2⟩ := codeF_yes h
  have ES := Lib.hid (fun n (k : fewG a p = some n) => few_some h k)
  have EN := Lib.hid (fun (k : fewG a p = none) => few_none h k)
  obtain ⟨i0, hi, _, _, _⟩ := info_parts info_int
  obtain ⟨tt, fr, hg⟩ := hG
  obtain ⟨C, hC⟩ : ∃ C, Hid (goreRow = C) := ⟨_, Lib.hid rfl⟩
  rw [hC.out] at hg
  have hsz : C.size = 18 := by rw [← hC.out]; rfl
  go_enter Tryd.func43, Tryd.ntmps43
  go_wp2_with (first | (go_at_call 68; refine (isAround_any _ _).mono ?_; rintro e w' ⟨rfl, rfl⟩) | (go_at_call 90; refine (isPaper_any _ _).mono ?_; rintro e w' ⟨rfl, rfl⟩) | (refine wpList_load_row rfl 74 _ rfl 0 rfl tt _ fr _ hg Tryd.underlying74 rfl (by rw [hsz]; kernel_rfl) ?_))
  go_loopw [7, 17] (fun _ i wr => ∃ k : Nat, k ≤ 18 ∧ i = .int .i64 (k : Int) ∧ wr = w ∧ ∀ j, j < k → ∀ z, goreL[j]? = some z → p < gpart z a 0) (fun _ i _ => 18 - (intOf i).toNat)
  case atStart => exact ⟨0, Nat.zero_le _, rfl, rfl, fun j hj => by omega⟩
  case round =>
    obtain ⟨k, hk, rfl, rfl, hno⟩ := hrel
    have HN := Lib.hid hno
    clear hno
    by_cases hlt : k < 18
    · obtain ⟨z, hz1, hz2, hz3⟩ := goreRow_at k hlt
      have HZ := Lib.hid hz1
      have HM := Lib.hid hz2
      clear hz1 hz2
      rw [hC.out] at hz3
      have hx : ∀ w : World, (Instr.index 74 (.agg C) (.int .i64 (k : Int))).run Tryd.prog w = .ok (.int .i64 z) w := fun _ => run_index_in 74 _ 18 C .i64 .i64 k _ i0 Tryd.underlying74 Tryd.underlying2 hi cInt (by omega) (by omega) hz3
      have hk0 : 0 ≤ (k : Int) := by omega
      have hk1 : (k : Int) < 18 := by omega
      obtain ⟨z1, z2, _⟩ := goreL_facts z HM.out
      obtain ⟨q, hq⟩ : ∃ q, Hid (gpart z a 0 = q) := ⟨_, Lib.hid rfl⟩
      by_cases hp : q ≤ p
      · have hd1 : decide (q ≤ p) = true := by simpa using hp
        have hfw : fewG a p = some z := fewG_some HM.out (by rw [hq.out]; exact hp) (fun m hm hl => by
          obtain ⟨j, hj, e⟩ := List.mem_iff_getElem.1 hm
          have hj18 : j < 18 := hj
          obtain ⟨_, e2⟩ := List.getElem?_eq_some_iff.1 HZ.out
          by_cases hjk : j < k
          · exact HN.out j hjk m (by rw [List.getElem?_eq_getElem hj, e])
          · exfalso
            by_cases e3 : j = k
            · subst e3; omega
            · have h7 : goreL[k]'hlt < goreL[j]'hj := goreL_strict ⟨k, hlt⟩ ⟨j, hj18⟩ (by show k < j; omega)
              have e4 : goreL[k]'hlt = z := e2
              omega)
        have k := Lib.hid (ES.out z hfw)
        go_wp2_with (go_at_call 71; refine (parallelPart_any _ _ _ _ (by omega) z2 a1 a2 (by omega) (by omega)).mono ?_; rintro e w' ⟨rfl, rfl⟩; rw [hq.out])
        exact bodyPost_ret (v := .tuple #[.int .i64 z, .int .i64 0]) (by simp [results, Tryd.results43, go_sem]) rfl ⟨by rw [k.out.1, k.out.2], by trivial⟩
      · have hd1 : decide (q ≤ p) = false := by simpa using hp
        go_wp2_with (go_at_call 71; refine (parallelPart_any _ _ _ _ (by omega) z2 a1 a2 (by omega) (by omega)).mono ?_; rintro e w' ⟨rfl, rfl⟩; rw [hq.out])
        go_roundw
        case rel =>
          refine ⟨k + 1, by omega, by go_num, by trivial, fun j hj y hy => ?_⟩
          by_cases hjk : j < k
          · exact HN.out j hjk y hy
          · obtain rfl : j = k := by omega
            rw [HZ.out] at hy
            cases hy
            rw [hq.out]; omega
        case measure => simp [intOf]; omega
    · obtain rfl : k = 18 := by omega
      have k := Lib.hid (EN.out (fewG_none fun m hm => by
        obtain ⟨j, hj, e⟩ := List.mem_iff_getElem.1 hm
        exact HN.out j hj m (by rw [List.getElem?_eq_getElem hj, e])))
      go_wp2
      exact bodyPost_ret (v := .tuple #[.int .i64 0, .int .i64 3]) (by simp [results, Tryd.results43, go_sem]) rfl ⟨by rw [k.out.1, k.out.2], by trivial⟩
theorem implFewestGores_any (a p : Int) (w : World) (hG : GV w) :
    Calls Tryd.prog 43 #[.int .i64 a, .int .i64 p] w fun e w' => e = .returned (.tuple #[.int .i64 (fewV a p), .int .i64 (fewC a p)]) ∧ w = w' := by
  cases x : inB a 1 1000000 with
  | false => exact implFewestGores_a a p w x (by simp [codeF, x])
  | true =>
    cases y : inB p 1 100000 with
    | false => exact implFewestGores_p a p w x y (by simp [codeF, x, y])
    | true => exact implFewestGores_ok a p w hG x y


/-- The width at the equator, 1 at least; what SheetsForGores tells. -/
def equW (g a : Int) : Int := if 1 > gpart g a 0 then 1 else gpart g a 0
def eachW (g a p : Int) : Int := p / equW g a
def codeS (g a p : Int) : Int := codeG g (inB a 1 1000000 && inB p 1 100000)
def sheC (g a p : Int) : Int := if codeS g a p = 0 then (if p < equW g a then 5 else 0) else codeS g a p
def sheV (g a p : Int) : Int := if codeS g a p = 0 then (if p < equW g a then 0 else (g + eachW g a p - 1) / eachW g a p) else 0
theorem sheets_facts {g a p : Int} (g1 : 6 ≤ g) (g2 : g ≤ 48) (a1 : 1 ≤ a) (a2 : a ≤ 1000000) (p1 : 1 ≤ p) (p2 : p ≤ 100000) : 1 ≤ equW g a ∧ equW g a ≤ 1000000 ∧ 0 ≤ eachW g a p ∧ eachW g a p ≤ 100000 ∧ (eachW g a p = 0 ↔ p < equW g a) ∧
    IntKind.i64.wrap (p.tdiv (equW g a)) = eachW g a p ∧ IntKind.i64.wrap (g + eachW g a p) = g + eachW g a p ∧ IntKind.i64.wrap (g + eachW g a p - 1) = g + eachW g a p - 1 ∧
    (¬ p < equW g a → IntKind.i64.wrap ((g + eachW g a p - 1).tdiv (eachW g a p)) = (g + eachW g a p - 1) / eachW g a p ∧ 1 ≤ (g + eachW g a p - 1) / eachW g a p ∧ (g + eachW g a p - 1) / eachW g a p ≤ g) := by
  obtain ⟨b1, b2⟩ := gpart_bounds (p := g) (a := a) (l := 0) (by omega) a1 a2 (by omega) (by omega)
  have e1 : 1 ≤ equW g a := by simp only [equW]; split <;> omega
  have e2 : equW g a ≤ 1000000 := by simp only [equW]; split <;> omega
  have e3 : 0 ≤ eachW g a p := Int.ediv_nonneg (by omega) (by omega)
  have e4 : eachW g a p ≤ p := Int.ediv_le_self _ (by omega)
  have e5 : eachW g a p = 0 ↔ p < equW g a := by
    constructor
    · intro h
      have := Int.emod_add_mul_ediv p (equW g a)
      have m2 := Int.emod_lt_of_pos p (show 0 < equW g a by omega)
      have h' : p / equW g a = 0 := h
      rw [h'] at this
      simp at this
      omega
    · intro h; exact Int.ediv_eq_zero_of_lt (by omega) h
  refine ⟨e1, e2, e3, by omega, e5, ?_, IntWalk.i64_in _ (by omega), IntWalk.i64_in _ (by omega), fun hp => ?_⟩
  · rw [tdiv_pos (by omega)]
    exact IntWalk.i64_in (eachW g a p) (by omega)
  · have e6 : 1 ≤ eachW g a p := by
      have : eachW g a p ≠ 0 := fun h => hp (e5.1 h)
      omega
    have q1 : 1 ≤ (g + eachW g a p - 1) / eachW g a p := (Int.le_ediv_iff_mul_le (by omega)).2 (by omega)
    have q2 : (g + eachW g a p - 1) / eachW g a p ≤ g := by
      have : (g + eachW g a p - 1) / eachW g a p < g + 1 := Int.ediv_lt_of_lt_mul (by omega) (by
        have h1 : (g + 1) * 1 ≤ (g + 1) * eachW g a p := Int.mul_le_mul_of_nonneg_left e6 (by omega)
        have h2 : (g + 1) * eachW g a p = g * eachW g a p + eachW g a p := by rw [Int.add_mul]; omega
        have h3 : g * 1 ≤ g * eachW g a p := Int.mul_le_mul_of_nonneg_left e6 (by omega)
        omega)
      omega
    refine ⟨?_, q1, q2⟩
    rw [tdiv_pos (by omega)]
    exact IntWalk.i64_in _ (by omega)
theorem she_bad {g a p : Int} (h : codeS g a p ≠ 0) : sheC g a p = codeS g a p ∧ sheV g a p = 0 := by simp [sheC, sheV, h]
theorem she_full {g a p : Int} (h : codeS g a p = 0) (k : p < equW g a) : sheC g a p = 5 ∧ sheV g a p = 0 := by simp [sheC, sheV, h, k]
theorem she_ok {g a p : Int} (h : codeS g a p = 0) (k : ¬ p < equW g a) : sheC g a p = 0 ∧ sheV g a p = (g + eachW g a p - 1) / eachW g a p := by
  unfold sheC sheV
  rw [if_pos h, if_pos h, if_neg k, if_neg k]
  exact ⟨rfl, rfl⟩

set_option maxHeartbeats 400000 in
theorem l00Max_eq (a b : Int) (w : World)  :
    Calls Tryd.prog 93 #[.int .i64 a, .int .i64 b] w fun e w' => e = .returned (.int .i64 (if a > b then a else b)) ∧ w = w' := by
  by_cases h : a > b
  · rw [if_pos h]
    go_enter Tryd.func93, Tryd.ntmps93
    go_wp2
    go_ret
    exact ⟨rfl, rfl⟩
  · rw [if_neg h]
    go_enter Tryd.func93, Tryd.ntmps93
    go_wp2
    go_ret
    exact ⟨rfl, rfl⟩


set_option maxHeartbeats 1000000 in
theorem specSheets_no (g a p : Int) (w : World) (h : goreB g = false) :
    Calls Tryd.prog 47 #[.int .i64 g, .int .i64 a, .int .i64 p] w fun e w' => e = .returned (.tuple #[.int .i64 (sheV g a p), .int .i64 (sheC g a p)]) ∧ w = w' := by
  have hc : codeS g a p = 1 := by simp [codeS, codeG, h]
  obtain ⟨r1, r2⟩ := she_bad (g := g) (a := a) (p := p) (by rw [hc]; decide)
  rw [hc] at r1
  rw [r1, r2]
  go_enter Tryd.func47, Tryd.ntmps47
  go_wp2_with (go_at_call 63; refine (l04Ok_any _ _).mono ?_; rintro e w' ⟨rfl, rfl⟩)
  exact bodyPost_ret (v := .tuple #[.int .i64 0, .int .i64 1]) (by simp [results, Tryd.results47, go_sem] <;> rfl) rfl ⟨rfl, by trivial⟩
set_option maxHeartbeats 1000000 in
theorem specSheets_bad (g a p : Int) (w : World) (h : goreB g = true) (z : codeF a p ≠ 0) :
    Calls Tryd.prog 47 #[.int .i64 g, .int .i64 a, .int .i64 p] w fun e w' => e = .returned (.tuple #[.int .i64 (sheV g a p), .int .i64 (sheC g a p)]) ∧ w = w' := by
  have z2 := codeF_cases z
  have hc : codeS g a p = 2 := by simp only [codeS, codeG, h, if_true]; exact z2
  obtain ⟨r1, r2⟩ := she_bad (g := g) (a := a) (p := p) (by rw [hc]; decide)
  rw [hc] at r1
  rw [r1, r2]
  go_enter Tryd.func47, Tryd.ntmps47
  go_wp2_with (first | (go_at_call 63; refine (l04Ok_any _ _).mono ?_; rintro e w' ⟨rfl, rfl⟩) | (go_at_call 91; refine (l04Paper_any _ _ _).mono ?_; rintro e w' ⟨rfl, rfl⟩; rw [z2]))
  exact bodyPost_ret (v := .tuple #[.int .i64 0, .int .i64 2]) (by simp [results, Tryd.results47, go_sem] <;> rfl) rfl ⟨rfl, by trivial⟩
set_option maxHeartbeats 1000000 in
theorem specSheets_full (g a p : Int) (w : World) (h : goreB g = true) (x : inB a 1 1000000 = true) (y : inB p 1 100000 = true) (k : p < equW g a) :
    Calls Tryd.prog 47 #[.int .i64 g, .int .i64 a, .int .i64 p] w fun e w' => e = .returned (.tuple #[.int .i64 (sheV g a p), .int .i64 (sheC g a p)]) ∧ w = w' := by
  obtain ⟨a1, a2⟩ := inB_of x
  obtain ⟨p1, p2⟩ := inB_of y
  obtain ⟨g1, g2, _⟩ := goreB_facts h
  have hc : codeS g a p = 0 := by simp [codeS, codeG, h, x, y]
  obtain ⟨f1, f2, f3, f4, f5, f6, f7, f8, f9⟩ := sheets_facts g1 g2 a1 a2 p1 p2
  obtain ⟨r1, r2⟩ := she_full hc k
  obtain ⟨W, hW⟩ : ∃ W, Hid (equW g a = W) := ⟨_, Lib.hid rfl⟩
  obtain ⟨E, hE⟩ : ∃ E, Hid (eachW g a p = E) := ⟨_, Lib.hid rfl⟩
  rw [hW.out] at f1 f2 f5 f6 f9 k
  rw [hE.out] at f3 f4 f5 f6 f7 f8 f9
  have hz : W ≠ 0 := by omega
  have hm : W ≠ -1 := by omega
  have E0 : E = 0 := f5.2 k
  subst E0
  have z0 : codeF a p = 0 := by simp [codeF, x, y]
  rw [r1, r2]
  go_enter Tryd.func47, Tryd.ntmps47
  go_wp2_with (first | (go_at_call 63; refine (l04Ok_any _ _).mono ?_; rintro e w' ⟨rfl, rfl⟩) | (go_at_call 91; refine (l04Paper_any _ _ _).mono ?_; rintro e w' ⟨rfl, rfl⟩; rw [z0]) | (go_at_call 73; refine (l04Width_any _ _ _ _ (by omega) g2 a1 a2 (by omega) (by omega)).mono ?_; rintro e w' ⟨rfl, rfl⟩) | (go_at_call 93; refine (l00Max_eq _ _ _).mono ?_; rintro e w' ⟨rfl, rfl⟩; rw [show (if 1 > gpart g a 0 then 1 else gpart g a 0) = W from hW.out]))
  exact bodyPost_ret (v := .tuple #[.int .i64 0, .int .i64 5]) (by simp [results, Tryd.results47, go_sem] <;> rfl) rfl ⟨rfl, by trivial⟩
set_option maxHeartbeats 1000000 in
theorem specSheets_yes (g a p : Int) (w : World) (h : goreB g = true) (x : inB a 1 1000000 = true) (y : inB p 1 100000 = true) (k : ¬ p < equW g a) :
    Calls Tryd.prog 47 #[.int .i64 g, .int .i64 a, .int .i64 p] w fun e w' => e = .returned (.tuple #[.int .i64 (sheV g a p), .int .i64 (sheC g a p)]) ∧ w = w' := by
  obtain ⟨a1, a2⟩ := inB_of x
  obtain ⟨p1, p2⟩ := inB_of y
  obtain ⟨g1, g2, _⟩ := goreB_facts h
  have hc : codeS g a p = 0 := by simp [codeS, codeG, h, x, y]
  obtain ⟨f1, f2, f3, f4, f5, f6, f7, f8, f9⟩ := sheets_facts g1 g2 a1 a2 p1 p2
  obtain ⟨r1, r2⟩ := she_ok hc k
  obtain ⟨W, hW⟩ : ∃ W, Hid (equW g a = W) := ⟨_, Lib.hid rfl⟩
  obtain ⟨E, hE⟩ : ∃ E, Hid (eachW g a p = E) := ⟨_, Lib.hid rfl⟩
  rw [hW.out] at f1 f2 f5 f6 f9 k
  rw [hE.out] at f3 f4 f5 f6 f7 f8 f9
  have hz : W ≠ 0 := by omega
  have hm : W ≠ -1 := by omega
  rw [hE.out] at r2
  have E1 : E ≠ 0 := fun e => k (f5.1 e)
  obtain ⟨f10, f11, f12⟩ := f9 k
  have Em : E ≠ -1 := by omega
  clear f9 f5
  have z0 : codeF a p = 0 := by simp [codeF, x, y]
  rw [r1, r2]
  go_enter Tryd.func47, Tryd.ntmps47
  go_wp2_with (first | (go_at_call 63; refine (l04Ok_any _ _).mono ?_; rintro e w' ⟨rfl, rfl⟩) | (go_at_call 91; refine (l04Paper_any _ _ _).mono ?_; rintro e w' ⟨rfl, rfl⟩; rw [z0]) | (go_at_call 73; refine (l04Width_any _ _ _ _ (by omega) g2 a1 a2 (by omega) (by omega)).mono ?_; rintro e w' ⟨rfl, rfl⟩) | (go_at_call 93; refine (l00Max_eq _ _ _).mono ?_; rintro e w' ⟨rfl, rfl⟩; rw [show (if 1 > gpart g a 0 then 1 else gpart g a 0) = W from hW.out]))
  exact bodyPost_ret (v := .tuple #[.int .i64 ((g + E - 1) / E), .int .i64 0]) (by simp [results, Tryd.results47, go_sem] <;> rfl) rfl ⟨rfl, by trivial⟩
theorem specSheets_any (g a p : Int) (w : World) :
    Calls Tryd.prog 47 #[.int .i64 g, .int .i64 a, .int .i64 p] w fun e w' => e = .returned (.tuple #[.int .i64 (sheV g a p), .int .i64 (sheC g a p)]) ∧ w = w' := by
  cases h : goreB g with
  | false => exact specSheets_no g a p w h
  | true =>
    by_cases z : codeF a p = 0
    · have hx : inB a 1 1000000 = true ∧ inB p 1 100000 = true := by
        cases x : inB a 1 1000000 <;> cases y : inB p 1 100000 <;> simp [codeF, x, y] at z
        exact ⟨rfl, rfl⟩
      by_cases k : p < equW g a
      · exact specSheets_full g a p w h hx.1 hx.2 k
      · exact specSheets_yes g a p w h hx.1 hx.2 k
    · exact specSheets_bad g a p w h z


theorem quotientUp_any (g E : Int) (w : World) (g1 : 6 ≤ g) (g2 : g ≤ 48) (e1 : 1 ≤ E) (e2 : E ≤ 100000) (f10 : IntKind.i64.wrap ((g + E - 1).tdiv E) = (g + E - 1) / E) :
    Calls Tryd.prog 92 #[.int .i64 g, .int .i64 E] w fun e w' => e = .returned (.int .i64 ((g + E - 1) / E)) ∧ w = w' := by
  have k1 : IntKind.i64.wrap (g + E) = g + E := IntWalk.i64_in _ (by omega)
  have k2 : IntKind.i64.wrap (g + E - 1) = g + E - 1 := IntWalk.i64_in _ (by omega)
  have hz : E ≠ 0 := by omega
  have hm : E ≠ -1 := by omega
  go_enter Tryd.func92, Tryd.ntmps92
  go_wp2
  go_ret
  exact ⟨rfl, rfl⟩


set_option maxHeartbeats 1000000 in
theorem implSheets_ff (g a p : Int) (w : World) (hG : GV w) (h : goreB g = false) (x : inB a 1 1000000 = false) :
    Calls Tryd.prog 46 #[.int .i64 g, .int .i64 a, .int .i64 p] w fun e w' => e = .returned (.tuple #[.int .i64 (sheV g a p), .int .i64 (sheC g a p)]) ∧ w = w' := by
  have hc : codeS g a p = 1 := by simp [codeS, codeG, h, x]
  obtain ⟨r1, r2⟩ := she_bad (g := g) (a := a) (p := p) (by rw [hc]; decide)
  rw [hc] at r1
  rw [r1, r2]
  go_enter Tryd.func46, Tryd.ntmps46
  go_wp2_with (first | (go_at_call 68; refine (isAround_any _ _).mono ?_; rintro e w' ⟨rfl, rfl⟩) | (go_at_call 90; refine (isPaper_any _ _).mono ?_; rintro e w' ⟨rfl, rfl⟩) | (go_at_call 67; refine (goresCode_any _ _ _ hG).mono ?_; rintro e w' ⟨rfl, rfl⟩; rw [codeG_no _ h]))
  exact bodyPost_ret (v := .tuple #[.int .i64 0, .int .i64 1]) (by simp [results, Tryd.results46, go_sem] <;> rfl) rfl ⟨rfl, by trivial⟩
set_option maxHeartbeats 1000000 in
theorem implSheets_ftf (g a p : Int) (w : World) (hG : GV w) (h : goreB g = false) (x : inB a 1 1000000 = true) (y : inB p 1 100000 = false) :
    Calls Tryd.prog 46 #[.int .i64 g, .int .i64 a, .int .i64 p] w fun e w' => e = .returned (.tuple #[.int .i64 (sheV g a p), .int .i64 (sheC g a p)]) ∧ w = w' := by
  have hc : codeS g a p = 1 := by simp [codeS, codeG, h, x, y]
  obtain ⟨r1, r2⟩ := she_bad (g := g) (a := a) (p := p) (by rw [hc]; decide)
  rw [hc] at r1
  rw [r1, r2]
  go_enter Tryd.func46, Tryd.ntmps46
  go_wp2_with (first | (go_at_call 68; refine (isAround_any _ _).mono ?_; rintro e w' ⟨rfl, rfl⟩) | (go_at_call 90; refine (isPaper_any _ _).mono ?_; rintro e w' ⟨rfl, rfl⟩) | (go_at_call 67; refine (goresCode_any _ _ _ hG).mono ?_; rintro e w' ⟨rfl, rfl⟩; rw [codeG_no _ h]))
  exact bodyPost_ret (v := .tuple #[.int .i64 0, .int .i64 1]) (by simp [results, Tryd.results46, go_sem] <;> rfl) rfl ⟨rfl, by trivial⟩
set_option maxHeartbeats 1000000 in
theorem implSheets_ftt (g a p : Int) (w : World) (hG : GV w) (h : goreB g = false) (x : inB a 1 1000000 = true) (y : inB p 1 100000 = true) :
    Calls Tryd.prog 46 #[.int .i64 g, .int .i64 a, .int .i64 p] w fun e w' => e = .returned (.tuple #[.int .i64 (sheV g a p), .int .i64 (sheC g a p)]) ∧ w = w' := by
  have hc : codeS g a p = 1 := by simp [codeS, codeG, h, x, y]
  obtain ⟨r1, r2⟩ := she_bad (g := g) (a := a) (p := p) (by rw [hc]; decide)
  rw [hc] at r1
  rw [r1, r2]
  go_enter Tryd.func46, Tryd.ntmps46
  go_wp2_with (first | (go_at_call 68; refine (isAround_any _ _).mono ?_; rintro e w' ⟨rfl, rfl⟩) | (go_at_call 90; refine (isPaper_any _ _).mono ?_; rintro e w' ⟨rfl, rfl⟩) | (go_at_call 67; refine (goresCode_any _ _ _ hG).mono ?_; rintro e w' ⟨rfl, rfl⟩; rw [codeG_no _ h]))
  exact bodyPost_ret (v := .tuple #[.int .i64 0, .int .i64 1]) (by simp [results, Tryd.results46, go_sem] <;> rfl) rfl ⟨rfl, by trivial⟩
set_option maxHeartbeats 1000000 in
theorem implSheets_tf (g a p : Int) (w : World) (hG : GV w) (h : goreB g = true) (x : inB a 1 1000000 = false) :
    Calls Tryd.prog 46 #[.int .i64 g, .int .i64 a, .int .i64 p] w fun e w' => e = .returned (.tuple #[.int .i64 (sheV g a p), .int .i64 (sheC g a p)]) ∧ w = w' := by
  have hc : codeS g a p = 2 := by simp [codeS, codeG, h, x]
  obtain ⟨r1, r2⟩ := she_bad (g := g) (a := a) (p := p) (by rw [hc]; decide)
  rw [hc] at r1
  rw [r1, r2]
  go_enter Tryd.func46, Tryd.ntmps46
  go_wp2_with (first | (go_at_call 68; refine (isAround_any _ _).mono ?_; rintro e w' ⟨rfl, rfl⟩) | (go_at_call 90; refine (isPaper_any _ _).mono ?_; rintro e w' ⟨rfl, rfl⟩) | (go_at_call 67; refine (goresCode_any _ _ _ hG).mono ?_; rintro e w' ⟨rfl, rfl⟩; rw [codeG_bad h]))
  exact bodyPost_ret (v := .tuple #[.int .i64 0, .int .i64 2]) (by simp [results, Tryd.results46, go_sem] <;> rfl) rfl ⟨rfl, by trivial⟩
set_option maxHeartbeats 1000000 in
theorem implSheets_ttf (g a p : Int) (w : World) (hG : GV w) (h : goreB g = true) (x : inB a 1 1000000 = true) (y : inB p 1 100000 = false) :
    Calls Tryd.prog 46 #[.int .i64 g, .int .i64 a, .int .i64 p] w fun e w' => e = .returned (.tuple #[.int .i64 (sheV g a p), .int .i64 (sheC g a p)]) ∧ w = w' := by
  have hc : codeS g a p = 2 := by simp [codeS, codeG, h, x, y]
  obtain ⟨r1, r2⟩ := she_bad (g := g) (a := a) (p := p) (by rw [hc]; decide)
  rw [hc] at r1
  rw [r1, r2]
  go_enter Tryd.func46, Tryd.ntmps46
  go_wp2_with (first | (go_at_call 68; refine (isAround_any _ _).mono ?_; rintro e w' ⟨rfl, rfl⟩) | (go_at_call 90; refine (isPaper_any _ _).mono ?_; rintro e w' ⟨rfl, rfl⟩) | (go_at_call 67; refine (goresCode_any _ _ _ hG).mono ?_; rintro e w' ⟨rfl, rfl⟩; rw [codeG_bad h]))
  exact bodyPost_ret (v := .tuple #[.int .i64 0, .int .i64 2]) (by simp [results, Tryd.results46, go_sem] <;> rfl) rfl ⟨rfl, by trivial⟩
theorem implSheets_fulllo (g a p : Int) (w : World) (hG : GV w) (h : goreB g = true) (x : inB a 1 1000000 = true) (y : inB p 1 100000 = true) (k : p < equW g a) (m : gpart g a 0 < 1) :
    Calls Tryd.prog 46 #[.int .i64 g, .int .i64 a, .int .i64 p] w fun e w' => e = .returned (.tuple #[.int .i64 (sheV g a p), .int .i64 (sheC g a p)]) ∧ w = w' := by
  exfalso
  have := (inB_of y).1
  simp only [equW, gt_iff_lt] at k
  rw [if_pos m] at k
  omega
set_option maxHeartbeats 1000000 in
theorem implSheets_yeslo (g a p : Int) (w : World) (hG : GV w) (h : goreB g = true) (x : inB a 1 1000000 = true) (y : inB p 1 100000 = true) (k : ¬ p < equW g a) (m : gpart g a 0 < 1) :
    Calls Tryd.prog 46 #[.int .i64 g, .int .i64 a, .int .i64 p] w fun e w' => e = .returned (.tuple #[.int .i64 (sheV g a p), .int .i64 (sheC g a p)]) ∧ w = w' := by
  obtain ⟨a1, a2⟩ := inB_of x
  obtain ⟨p1, p2⟩ := inB_of y
  obtain ⟨g1, g2, _⟩ := goreB_facts h
  have hc : codeS g a p = 0 := by simp [codeS, codeG, h, x, y]
  obtain ⟨f1, f2, f3, f4, f5, f6, f7, f8, f9⟩ := sheets_facts g1 g2 a1 a2 p1 p2
  obtain ⟨r1, r2⟩ := she_ok hc k
  obtain ⟨W, hW⟩ : ∃ W, Hid (equW g a = W) := ⟨_, Lib.hid rfl⟩
  obtain ⟨E, hE⟩ : ∃ E, Hid (eachW g a p = E) := ⟨_, Lib.hid rfl⟩
  rw [hW.out] at f1 f2 f5 f6 f9 k
  rw [hE.out] at f3 f4 f5 f6 f7 f8 f9
  have hz : W ≠ 0 := by omega
  have hm : W ≠ -1 := by omega
  rw [hE.out] at r2
  have E1 : E ≠ 0 := fun e => k (f5.1 e)
  obtain ⟨f10, f11, f12⟩ := f9 k
  have Em : E ≠ -1 := by omega
  clear f9 f5
  have q0 := (gpart_bounds (p := g) (a := a) (l := 0) (by omega) a1 a2 (by omega) (by omega)).1
  obtain ⟨q, hq⟩ : ∃ q, Hid (gpart g a 0 = q) := ⟨_, Lib.hid rfl⟩
  have hWq : W = if q < 1 then 1 else q := by rw [← hW.out, ← hq.out]; rfl
  have W1 : W = 1 := by rw [hWq, if_pos (by rw [← hq.out]; exact m)]
  rw [hq.out] at m
  clear hWq
  have Ep : E = p := by rw [← hE.out, eachW, hW.out, W1]; simp
  clear f6 f7 f8 q0
  subst W1
  subst Ep
  have f10x : IntKind.i64.wrap E = E := IntWalk.i64_in _ (by omega)
  rw [r1, r2]
  go_enter Tryd.func46, Tryd.ntmps46
  go_wp2_with (first | (go_at_call 68; refine (isAround_any _ _).mono ?_; rintro e w' ⟨rfl, rfl⟩) | (go_at_call 90; refine (isPaper_any _ _).mono ?_; rintro e w' ⟨rfl, rfl⟩) | (go_at_call 67; refine (goresCode_any _ _ _ hG).mono ?_; rintro e w' ⟨rfl, rfl⟩; rw [codeG_ok h]) | (go_at_call 71; refine (parallelPart_any _ _ _ _ (by omega) g2 a1 a2 (by omega) (by omega)).mono ?_; rintro e w' ⟨rfl, rfl⟩; rw [hq.out]) | (go_at_call 92; refine (quotientUp_any _ _ _ g1 g2 (by omega) f4 f10).mono ?_; rintro e w' ⟨rfl, rfl⟩))
  exact bodyPost_ret (v := .tuple #[.int .i64 ((g + E - 1) / E), .int .i64 0]) (by simp [results, Tryd.results46, go_sem] <;> rfl) rfl ⟨rfl, by trivial⟩
set_option maxHeartbeats 1000000 in
theorem implSheets_fullhi (g a p : Int) (w : World) (hG : GV w) (h : goreB g = true) (x : inB a 1 1000000 = true) (y : inB p 1 100000 = true) (k : p < equW g a) (m : ¬ gpart g a 0 < 1) :
    Calls Tryd.prog 46 #[.int .i64 g, .int .i64 a, .int .i64 p] w fun e w' => e = .returned (.tuple #[.int .i64 (sheV g a p), .int .i64 (sheC g a p)]) ∧ w = w' := by
  obtain ⟨a1, a2⟩ := inB_of x
  obtain ⟨p1, p2⟩ := inB_of y
  obtain ⟨g1, g2, _⟩ := goreB_facts h
  have hc : codeS g a p = 0 := by simp [codeS, codeG, h, x, y]
  obtain ⟨f1, f2, f3, f4, f5, f6, f7, f8, f9⟩ := sheets_facts g1 g2 a1 a2 p1 p2
  obtain ⟨r1, r2⟩ := she_full hc k
  obtain ⟨W, hW⟩ : ∃ W, Hid (equW g a = W) := ⟨_, Lib.hid rfl⟩
  obtain ⟨E, hE⟩ : ∃ E, Hid (eachW g a p = E) := ⟨_, Lib.hid rfl⟩
  rw [hW.out] at f1 f2 f5 f6 f9 k
  rw [hE.out] at f3 f4 f5 f6 f7 f8 f9
  have hz : W ≠ 0 := by omega
  have hm : W ≠ -1 := by omega
  have E0 : E = 0 := f5.2 k
  subst E0
  have q0 := (gpart_bounds (p := g) (a := a) (l := 0) (by omega) a1 a2 (by omega) (by omega)).1
  obtain ⟨q, hq⟩ : ∃ q, Hid (gpart g a 0 = q) := ⟨_, Lib.hid rfl⟩
  have hWq : W = if q < 1 then 1 else q := by rw [← hW.out, ← hq.out]; rfl
  have W1 : W = q := by rw [hWq, if_neg (by rw [← hq.out]; exact m)]
  rw [hq.out] at m
  clear hWq
  subst W1
  clear f7 f8 q0
  clear f3 f4 f5 f6 f9
  rw [r1, r2]
  go_enter Tryd.func46, Tryd.ntmps46
  go_wp2_with (first | (go_at_call 68; refine (isAround_any _ _).mono ?_; rintro e w' ⟨rfl, rfl⟩) | (go_at_call 90; refine (isPaper_any _ _).mono ?_; rintro e w' ⟨rfl, rfl⟩) | (go_at_call 67; refine (goresCode_any _ _ _ hG).mono ?_; rintro e w' ⟨rfl, rfl⟩; rw [codeG_ok h]) | (go_at_call 71; refine (parallelPart_any _ _ _ _ (by omega) g2 a1 a2 (by omega) (by omega)).mono ?_; rintro e w' ⟨rfl, rfl⟩; rw [hq.out]))
  exact bodyPost_ret (v := .tuple #[.int .i64 0, .int .i64 5]) (by simp [results, Tryd.results46, go_sem] <;> rfl) rfl ⟨rfl, by trivial⟩
set_option maxHeartbeats 1000000 in
theorem implSheets_yeshi (g a p : Int) (w : World) (hG : GV w) (h : goreB g = true) (x : inB a 1 1000000 = true) (y : inB p 1 100000 = true) (k : ¬ p < equW g a) (m : ¬ gpart g a 0 < 1) :
    Calls Tryd.prog 46 #[.int .i64 g, .int .i64 a, .int .i64 p] w fun e w' => e = .returned (.tuple #[.int .i64 (sheV g a p), .int .i64 (sheC g a p)]) ∧ w = w' := by
  obtain ⟨a1, a2⟩ := inB_of x
  obtain ⟨p1, p2⟩ := inB_of y
  obtain ⟨g1, g2, _⟩ := goreB_facts h
  have hc : codeS g a p = 0 := by simp [codeS, codeG, h, x, y]
  obtain ⟨f1, f2, f3, f4, f5, f6, f7, f8, f9⟩ := sheets_facts g1 g2 a1 a2 p1 p2
  obtain ⟨r1, r2⟩ := she_ok hc k
  obtain ⟨W, hW⟩ : ∃ W, Hid (equW g a = W) := ⟨_, Lib.hid rfl⟩
  obtain ⟨E, hE⟩ : ∃ E, Hid (eachW g a p = E) := ⟨_, Lib.hid rfl⟩
  rw [hW.out] at f1 f2 f5 f6 f9 k
  rw [hE.out] at f3 f4 f5 f6 f7 f8 f9
  have hz : W ≠ 0 := by omega
  have hm : W ≠ -1 := by omega
  rw [hE.out] at r2
  have E1 : E ≠ 0 := fun e => k (f5.1 e)
  obtain ⟨f10, f11, f12⟩ := f9 k
  have Em : E ≠ -1 := by omega
  clear f9 f5
  have q0 := (gpart_bounds (p := g) (a := a) (l := 0) (by omega) a1 a2 (by omega) (by omega)).1
  obtain ⟨q, hq⟩ : ∃ q, Hid (gpart g a 0 = q) := ⟨_, Lib.hid rfl⟩
  have hWq : W = if q < 1 then 1 else q := by rw [← hW.out, ← hq.out]; rfl
  have W1 : W = q := by rw [hWq, if_neg (by rw [← hq.out]; exact m)]
  rw [hq.out] at m
  clear hWq
  subst W1
  clear f7 f8 q0
  rw [r1, r2]
  go_enter Tryd.func46, Tryd.ntmps46
  go_wp2_with (first | (go_at_call 68; refine (isAround_any _ _).mono ?_; rintro e w' ⟨rfl, rfl⟩) | (go_at_call 90; refine (isPaper_any _ _).mono ?_; rintro e w' ⟨rfl, rfl⟩) | (go_at_call 67; refine (goresCode_any _ _ _ hG).mono ?_; rintro e w' ⟨rfl, rfl⟩; rw [codeG_ok h]) | (go_at_call 71; refine (parallelPart_any _ _ _ _ (by omega) g2 a1 a2 (by omega) (by omega)).mono ?_; rintro e w' ⟨rfl, rfl⟩; rw [hq.out]) | (go_at_call 92; refine (quotientUp_any _ _ _ g1 g2 (by omega) f4 f10).mono ?_; rintro e w' ⟨rfl, rfl⟩))
  exact bodyPost_ret (v := .tuple #[.int .i64 ((g + E - 1) / E), .int .i64 0]) (by simp [results, Tryd.results46, go_sem] <;> rfl) rfl ⟨rfl, by trivial⟩
theorem implSheets_any (g a p : Int) (w : World) (hG : GV w) :
    Calls Tryd.prog 46 #[.int .i64 g, .int .i64 a, .int .i64 p] w fun e w' => e = .returned (.tuple #[.int .i64 (sheV g a p), .int .i64 (sheC g a p)]) ∧ w = w' := by
  cases h : goreB g with
  | false =>
    cases x : inB a 1 1000000 with
    | false => exact implSheets_ff g a p w hG h x
    | true =>
      cases y : inB p 1 100000 with
      | false => exact implSheets_ftf g a p w hG h x y
      | true => exact implSheets_ftt g a p w hG h x y
  | true =>
    cases x : inB a 1 1000000 with
    | false => exact implSheets_tf g a p w hG h x
    | true =>
      cases y : inB p 1 100000 with
      | false => exact implSheets_ttf g a p w hG h x y
      | true =>
        by_cases k : p < equW g a <;> by_cases m : gpart g a 0 < 1
        · exact implSheets_fulllo g a p w hG h x y k m
        · exact implSheets_fullhi g a p w hG h x y k m
        · exact implSheets_yeslo g a p w hG h x y k m
        · exact implSheets_yeshi g a p w hG h x y k m


end Go.Proofs.YteeikkakibifpaaDoor.sines
