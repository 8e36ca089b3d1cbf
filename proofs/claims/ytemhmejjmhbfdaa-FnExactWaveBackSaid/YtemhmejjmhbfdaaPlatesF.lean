/- The model's best scales: contracts. -/
import Derived.Test.YtemhmejjmhbfdaaPlatesL
import Derived.Test.YtemhmejjmhbfdaaOkl
namespace Go.Proofs.Ytemhmejjmhbfdaa.sines
open Go.ChangeShapes Go.WideShapes Go.ChangeAt Go.RowKit Go.Proofs.Ytemhmejjmhbfdaa.spots Go.Proofs.Ytemhmejjmhbfdaa.pairs
set_option linter.unusedSimpArgs false
set_option linter.unusedVariables false

def sAt (ps : List (Int × Int)) (i : Nat) : Int × Int := ps.getD i (0, 0)
theorem sAt_of {ps : List (Int × Int)} {k : Nat} (h : k < ps.length) : ps[k] = sAt ps k := by simp [sAt, h]
theorem okL_iff {ps : List (Int × Int)} : okL ps = true ↔ ∀ j, j < ps.length → okB (sAt ps j).1 (sAt ps j).2 = true := by
  constructor
  · intro h j hj
    have := okL_at h j hj
    rwa [sAt_of hj] at this
  · intro h
    refine okL_of fun j hj => ?_
    rw [sAt_of hj]; exact h j hj
theorem okL_no {ps : List (Int × Int)} {k : Nat} (h : k < ps.length) (hp : okB (sAt ps k).1 (sAt ps k).2 = false) : okL ps = false := by
  refine okL_not k h ?_
  rw [sAt_of h]; exact hp
theorem retBq {a b : Bool} (h : a = b) : Ending.returned (.bool a) = .returned (.bool b) := by rw [h]
theorem okBel2 {B : Nat} {w W w' : World} {o : Obj} (hB : Below B w W) (hs : B ≤ W.heap.size) (h : w' = W.alloc o) : Below B w w' := by rw [h]; exact hB.alloc hs _
set_option maxRecDepth 100000 in
set_option maxHeartbeats 1000000 in
theorem l08List_any (v : Value) (ps : List (Int × Int)) (w : World) (hv : PAt w w.heap.size v ps) (hl : ps.length ≤ 1048576) :
    Calls Try.prog 98 #[v] w fun e w' => e = .returned (.bool (okL ps)) ∧ Below w.heap.size w w' := by
  obtain ⟨ar, c, rfl, hcl⟩ := hv
  have HCL := Lib.hid hcl
  clear hcl
  obtain ⟨R, hR⟩ : ∃ R, Hid (okL ps = R) := ⟨_, Lib.hid rfl⟩
  have hl2 : (ps.length : Int) ≤ 1048576 := by omega
  rw [hR.out]
  go_enter Try.func98, Try.ntmps98
  go_wp2
  go_loopw [3] (fun i wr => ∃ k : Nat, k ≤ ps.length ∧ i = .int .i64 (k : Int) ∧ (∀ j, j < k → okB (sAt ps j).1 (sAt ps j).2 = true) ∧ Below w.heap.size w wr) (fun i _ => ps.length - (intOf i).toNat)
  case atStart => exact ⟨0, Nat.zero_le _, rfl, fun j h => by omega, Below.refl _ _⟩
  case round =>
    obtain ⟨k, hk, rfl, ha, hb⟩ := hrel
    have HA := Lib.hid ha
    have HB := Lib.hid hb
    have hsz := hb.size
    clear ha
    by_cases hlt : k < ps.length
    · obtain ⟨b, off, rfl, hbs, c1, c2⟩ := HCL.out k hlt
      rw [sAt_of hlt] at c1 c2
      have u1 := (hb.cell (p := ⟨b, off + k * 2, none⟩) hbs).trans c1
      have u2 := (hb.cell (p := ⟨b, off + k * 2 + 1, none⟩) hbs).trans c2
      have hk0 : 0 ≤ (k : Int) := by omega
      have hk1 : (k : Int) < (ps.length : Int) := by omega
      have NO := Lib.hid (show okB (sAt ps k).1 (sAt ps k).2 = false → R = false from fun h => by rw [← hR.out]; exact okL_no hlt h)
      have YES := Lib.hid (show okB (sAt ps k).1 (sAt ps k).2 = true → ∀ j, j < k + 1 → okB (sAt ps j).1 (sAt ps j).2 = true from fun h j hj => by
        by_cases e : j = k
        · subst e; exact h
        · exact HA.out j (by omega))
      clear c1 c2 hb
      generalize (sAt ps k).1 = x1 at u1 NO YES
      generalize (sAt ps k).2 = x2 at u2 NO YES
      cases h1 : okB x1 x2 with
      | false =>
        obtain rfl := NO.out h1
        go_wp2_with (first | (go_at_call 87; refine (l02Ok_any _ _ _).mono ?_; rw [h1]; rintro e w' ⟨rfl, o1, hw⟩; have HB2 := Lib.hid (okBel2 HB.out hsz hw); clear hw))
        go_ret
        exact ⟨rfl, HB2.out⟩
      | true =>
        have Y := Lib.hid (YES.out h1)
        go_wp2_with (first | (go_at_call 87; refine (l02Ok_any _ _ _).mono ?_; rw [h1]; rintro e w' ⟨rfl, o1, hw⟩; have HB2 := Lib.hid (okBel2 HB.out hsz hw); clear hw))
        go_roundw
        case rel => exact ⟨k + 1, by omega, by go_num, Y.out, HB2.out⟩
        case measure => simp [intOf]; omega
    · obtain rfl : k = ps.length := by omega
      have RT := Lib.hid (show R = true by rw [← hR.out]; exact okL_iff.2 HA.out)
      clear hb
      go_wp2
      go_ret
      exact ⟨retBq RT.out.symm, HB.out⟩
theorem l00SizeW_any (n : Int) (w : World) (h0 : -1000000000000 ≤ n) (h1 : n ≤ 1000000000000) :
    Calls Try.prog 139 #[.int .i64 n] w fun e w' => e = .returned (.int .i64 (max n (-n))) ∧ w = w' := by
  have k : IntKind.i64.wrap (-n) = -n := IntWalk.i64_in _ (by omega)
  by_cases h : n < 0
  · rw [show max n (-n) = -n by omega]
    go_enter Try.func139, Try.ntmps139
    go_wp2
    go_ret
    exact ⟨rfl, rfl⟩
  · rw [show max n (-n) = n by omega]
    go_enter Try.func139, Try.ntmps139
    go_wp2
    go_ret
    exact ⟨rfl, rfl⟩
theorem loss_bounds {lat lon s : Int} (wave : Bool) (h : okB lat lon = true) (s0 : 1 ≤ s) (s1 : s ≤ 100000) : -1000000000000 ≤ lossN lat s wave ∧ lossN lat s wave ≤ 1000000000000 ∧ -1000000000000 ≤ lossE lat lon s wave ∧ lossE lat lon s wave ≤ 1000000000000 := by
  obtain ⟨h1, h2, h3, h4⟩ := okB_of h
  obtain ⟨p1, p2, p3, p4⟩ := plate_bounds (n := lat) (N := 324000) h1 h2 (by omega) s0 s1
  obtain ⟨r1, r2, r3, r4⟩ := plate_bounds (n := lon) (N := 648000) h3 (by omega) (by omega) s0 s1
  obtain ⟨v1, v2, v3, v4⟩ := waX_bounds h s0 s1
  obtain ⟨b1, b2, b3, b4⟩ := wb_bounds (y := near lat s) v3 v4
  cases wave with
  | true => simp only [lossN, lossE, if_true]; omega
  | false => simp only [lossN, lossE, Bool.false_eq_true, if_false]; omega
def fitP (p : Int × Int) (s most : Int) (wave : Bool) : Bool := lossOk p.1 p.2 s wave && decide (max (lossN p.1 s wave) (- lossN p.1 s wave) ≤ most) && decide (max (lossE p.1 p.2 s wave) (- lossE p.1 p.2 s wave) ≤ most)
def fitsB (ps : List (Int × Int)) (s most : Int) (wave : Bool) : Bool := ps.all fun p => fitP p s most wave
theorem fitsB_iff {ps : List (Int × Int)} {s most : Int} {wave : Bool} : fitsB ps s most wave = true ↔ ∀ j, j < ps.length → fitP (sAt ps j) s most wave = true := by
  simp only [fitsB, List.all_eq_true]
  constructor
  · intro h j hj
    rw [← sAt_of hj]; exact h _ (List.getElem_mem _)
  · intro h p hp
    obtain ⟨j, hj, rfl⟩ := List.mem_iff_getElem.1 hp
    rw [sAt_of hj]; exact h j hj
theorem fitsB_no {ps : List (Int × Int)} {s most : Int} {wave : Bool} {k : Nat} (h : k < ps.length) (hp : fitP (sAt ps k) s most wave = false) : fitsB ps s most wave = false := by
  cases e : fitsB ps s most wave with
  | false => rfl
  | true => rw [fitsB_iff.1 e k h] at hp; cases hp
set_option maxRecDepth 100000 in
set_option maxHeartbeats 2000000 in
theorem l08Fits_any (v : Value) (ps : List (Int × Int)) (s most : Int) (wave : Bool) (w : World) (hv : PAt w w.heap.size v ps) (hl : ps.length ≤ 1048576) (hok : okL ps = true) (s0 : 1 ≤ s) (s1 : s ≤ 100000) :
    Calls Try.prog 110 #[v, .int .i64 s, .int .i64 most, .bool wave] w fun e w' => e = .returned (.bool (fitsB ps s most wave)) ∧ Below w.heap.size w w' := by
  obtain ⟨ar, c, rfl, hcl⟩ := hv
  have HCL := Lib.hid hcl
  have HO := Lib.hid (okL_iff.1 hok)
  clear hcl hok
  obtain ⟨R, hR⟩ : ∃ R, Hid (fitsB ps s most wave = R) := ⟨_, Lib.hid rfl⟩
  have hl2 : (ps.length : Int) ≤ 1048576 := by omega
  rw [hR.out]
  go_enter Try.func110, Try.ntmps110
  go_wp2
  go_loopw [9] (fun i wr => ∃ k : Nat, k ≤ ps.length ∧ i = .int .i64 (k : Int) ∧ (∀ j, j < k → fitP (sAt ps j) s most wave = true) ∧ Below w.heap.size w wr) (fun i _ => ps.length - (intOf i).toNat)
  case atStart => exact ⟨0, Nat.zero_le _, rfl, fun j h => by omega, Below.refl _ _⟩
  case round =>
    obtain ⟨k, hk, rfl, ha, hb⟩ := hrel
    have HA := Lib.hid ha
    have HB := Lib.hid hb
    have hsz := hb.size
    clear ha
    by_cases hlt : k < ps.length
    · obtain ⟨b, off, rfl, hbs, c1, c2⟩ := HCL.out k hlt
      rw [sAt_of hlt] at c1 c2
      have u1 := (hb.cell (p := ⟨b, off + k * 2, none⟩) hbs).trans c1
      have u2 := (hb.cell (p := ⟨b, off + k * 2 + 1, none⟩) hbs).trans c2
      have hk0 : 0 ≤ (k : Int) := by omega
      have hk1 : (k : Int) < (ps.length : Int) := by omega
      have NO := Lib.hid (show fitP (sAt ps k) s most wave = false → R = false from fun h => by rw [← hR.out]; exact fitsB_no hlt h)
      have YES := Lib.hid (show fitP (sAt ps k) s most wave = true → ∀ j, j < k + 1 → fitP (sAt ps j) s most wave = true from fun h j hj => by
        by_cases e : j = k
        · subst e; exact h
        · exact HA.out j (by omega))
      have okk := HO.out k hlt
      obtain ⟨b1, b2, b3, b4⟩ := loss_bounds wave okk s0 s1
      have LO := Lib.hid (fun W => l08Loss_any (sAt ps k).1 (sAt ps k).2 s wave W okk s0 s1)
      have S1 := Lib.hid (fun W => l00SizeW_any (lossN (sAt ps k).1 s wave) W b1 b2)
      have S2 := Lib.hid (fun W => l00SizeW_any (lossE (sAt ps k).1 (sAt ps k).2 s wave) W b3 b4)
      have FP := Lib.hid (show fitP (sAt ps k) s most wave = (lossOk (sAt ps k).1 (sAt ps k).2 s wave && decide (max (lossN (sAt ps k).1 s wave) (- lossN (sAt ps k).1 s wave) ≤ most) && decide (max (lossE (sAt ps k).1 (sAt ps k).2 s wave) (- lossE (sAt ps k).1 (sAt ps k).2 s wave) ≤ most)) from rfl)
      rw [FP.out] at NO YES
      clear c1 c2 hb okk FP b1 b2 b3 b4
      generalize lossOk (sAt ps k).1 (sAt ps k).2 s wave = lb at LO NO YES
      generalize max (lossN (sAt ps k).1 s wave) (- lossN (sAt ps k).1 s wave) = n1 at S1 NO YES
      generalize max (lossE (sAt ps k).1 (sAt ps k).2 s wave) (- lossE (sAt ps k).1 (sAt ps k).2 s wave) = n2 at S2 NO YES
      generalize lossN (sAt ps k).1 s wave = N1 at LO S1
      generalize lossE (sAt ps k).1 (sAt ps k).2 s wave = N2 at LO S2
      generalize (sAt ps k).1 = x1 at u1 LO
      generalize (sAt ps k).2 = x2 at u2 LO
      cases lb with
      | false =>
        obtain rfl := NO.out (by simp)
        go_wp2_with (first | (go_at_call 113; refine (LO.out _).mono ?_; rintro e w1 ⟨rfl, hb1⟩; have HB2 := Lib.hid (HB.out.trans (hb1.mono hsz)); clear hb1) | (go_at_call 139; first | (refine (S1.out _).mono ?_; rintro e w' ⟨rfl, rfl⟩) | (refine (S2.out _).mono ?_; rintro e w' ⟨rfl, rfl⟩)))
        go_ret
        exact ⟨rfl, HB2.out⟩
      | true =>
        by_cases g1 : most < n1
        · obtain rfl := NO.out (by simp; omega)
          have g1' : decide (most < n1) = true := by simpa using g1
          go_wp2_with (first | (go_at_call 113; refine (LO.out _).mono ?_; rintro e w1 ⟨rfl, hb1⟩; have HB2 := Lib.hid (HB.out.trans (hb1.mono hsz)); clear hb1) | (go_at_call 139; first | (refine (S1.out _).mono ?_; rintro e w' ⟨rfl, rfl⟩) | (refine (S2.out _).mono ?_; rintro e w' ⟨rfl, rfl⟩)))
          go_ret
          exact ⟨rfl, HB2.out⟩
        · have g1' : decide (most < n1) = false := by simpa using g1
          by_cases g2 : most < n2
          · obtain rfl := NO.out (by simp; omega)
            have g2' : decide (most < n2) = true := by simpa using g2
            go_wp2_with (first | (go_at_call 113; refine (LO.out _).mono ?_; rintro e w1 ⟨rfl, hb1⟩; have HB2 := Lib.hid (HB.out.trans (hb1.mono hsz)); clear hb1) | (go_at_call 139; first | (refine (S1.out _).mono ?_; rintro e w' ⟨rfl, rfl⟩) | (refine (S2.out _).mono ?_; rintro e w' ⟨rfl, rfl⟩)))
            go_ret
            exact ⟨rfl, HB2.out⟩
          · have Y := Lib.hid (YES.out (by simp; omega))
            have g2' : decide (most < n2) = false := by simpa using g2
            go_wp2_with (first | (go_at_call 113; refine (LO.out _).mono ?_; rintro e w1 ⟨rfl, hb1⟩; have HB2 := Lib.hid (HB.out.trans (hb1.mono hsz)); clear hb1) | (go_at_call 139; first | (refine (S1.out _).mono ?_; rintro e w' ⟨rfl, rfl⟩) | (refine (S2.out _).mono ?_; rintro e w' ⟨rfl, rfl⟩)))
            go_roundw
            case rel => exact ⟨k + 1, by omega, by go_num, Y.out, HB2.out⟩
            case measure => simp [intOf]; omega
    · obtain rfl : k = ps.length := by omega
      have RT := Lib.hid (show R = true by rw [← hR.out]; exact fitsB_iff.2 HA.out)
      clear hb
      go_wp2
      go_ret
      exact ⟨retBq RT.out.symm, HB.out⟩
/-- The greatest number up to n that fits, or 0. -/
def bestD (f : Nat → Bool) : Nat → Nat
  | 0 => 0
  | n + 1 => if f (n + 1) = true then n + 1 else bestD f n
theorem bestD_at {f : Nat → Bool} : ∀ (n k : Nat), k ≤ n → (∀ t, k < t → t ≤ n → f t = false) → (k = 0 ∨ f k = true) → bestD f n = k
  | 0, k, h, _, _ => by simp [bestD]; omega
  | n + 1, k, h, hf, hk => by
    unfold bestD
    by_cases e : k = n + 1
    · subst e
      rcases hk with hk | hk
      · omega
      · rw [if_pos hk]
    · rw [if_neg (by rw [hf (n + 1) (by omega) (by omega)]; simp)]
      exact bestD_at n k (by omega) (fun t h1 h2 => hf t h1 (by omega)) hk
theorem bestD_facts {f : Nat → Bool} : ∀ n, bestD f n ≤ n ∧ (bestD f n = 0 ∨ f (bestD f n) = true) ∧ ∀ t, bestD f n < t → t ≤ n → f t = false
  | 0 => ⟨Nat.le_refl _, .inl rfl, fun t h1 h2 => by simp [bestD] at h1; omega⟩
  | n + 1 => by
    obtain ⟨h1, h2, h3⟩ := bestD_facts (f := f) n
    unfold bestD
    by_cases e : f (n + 1) = true
    · rw [if_pos e]
      exact ⟨Nat.le_refl _, .inr e, fun t h4 h5 => by omega⟩
    · rw [if_neg e]
      refine ⟨by omega, h2, fun t h4 h5 => ?_⟩
      by_cases ht : t = n + 1
      · subst ht; simpa using e
      · exact h3 t h4 (by omega)
def bestN (ps : List (Int × Int)) (most : Int) (wave : Bool) : Nat := bestD (fun t : Nat => fitsB ps (t : Int) most wave) 1000
def codeBS (ps : List (Int × Int)) (most : Int) (wave : Bool) : Int := if okL ps = true then (if ps.length ≤ 20 ∧ inB most 0 1000 = true then (if bestN ps most wave = 0 then 3 else 0) else 2) else 1
def bestV (ps : List (Int × Int)) (most : Int) (wave : Bool) : Int := if codeBS ps most wave = 0 then (bestN ps most wave : Int) else 0
theorem ret2q {a b c d : Int} (h : a = b) (g : c = d) : Ending.returned (.tuple #[.int .i64 a, .int .i64 c]) = .returned (.tuple #[.int .i64 b, .int .i64 d]) := by rw [h, g]
set_option maxRecDepth 100000 in
set_option maxHeartbeats 2000000 in
theorem specBestScale_any (v : Value) (ps : List (Int × Int)) (most : Int) (wave : Bool) (w : World) (hv : PAt w w.heap.size v ps) (hl : ps.length ≤ 1048576) :
    Calls Try.prog 34 #[v, .int .i64 most, .bool wave] w fun e w' => e = .returned (.tuple #[.int .i64 (bestV ps most wave), .int .i64 (codeBS ps most wave)]) ∧ Below w.heap.size w w' := by
  have HV := Lib.hid hv
  obtain ⟨ar, c, rfl, _⟩ := hv
  have hl2 : (ps.length : Int) ≤ 1048576 := by omega
  cases hok : okL ps with
  | false =>
    have e1 : codeBS ps most wave = 1 := by simp [codeBS, hok]
    rw [show bestV ps most wave = 0 by simp [bestV, e1], e1]
    go_enter Try.func34, Try.ntmps34
    go_wp2_with (first | (go_at_call 98; refine (l08List_any _ ps _ HV.out hl).mono ?_; rw [hok]; rintro e w1 ⟨rfl, hb⟩))
    exact bodyPost_ret (v := .tuple #[.int .i64 0, .int .i64 1]) (by simp [results, Try.results34, go_sem]) rfl ⟨rfl, hb⟩
  | true =>
    by_cases h20 : 20 < ps.length
    · have e1 : codeBS ps most wave = 2 := by simp [codeBS, hok]; omega
      rw [show bestV ps most wave = 0 by simp [bestV, e1], e1]
      have h20' : decide ((20 : Int) < (ps.length : Int)) = true := by simp; omega
      go_enter Try.func34, Try.ntmps34
      go_wp2_with (first | (go_at_call 98; refine (l08List_any _ ps _ HV.out hl).mono ?_; rw [hok]; rintro e w1 ⟨rfl, hb⟩) | (go_at_call 88; refine (l00In_any _ _ _ _).mono ?_; rintro e w' ⟨rfl, rfl⟩))
      exact bodyPost_ret (v := .tuple #[.int .i64 0, .int .i64 2]) (by simp [results, Try.results34, go_sem]) rfl ⟨rfl, hb⟩
    · have h20' : decide ((20 : Int) < (ps.length : Int)) = false := by simp; omega
      cases hm : inB most 0 1000 with
      | false =>
        have e1 : codeBS ps most wave = 2 := by simp [codeBS, hok, hm]
        rw [show bestV ps most wave = 0 by simp [bestV, e1], e1]
        go_enter Try.func34, Try.ntmps34
        go_wp2_with (first | (go_at_call 98; refine (l08List_any _ ps _ HV.out hl).mono ?_; rw [hok]; rintro e w1 ⟨rfl, hb⟩) | (go_at_call 88; refine (l00In_any _ _ _ _).mono ?_; rw [hm]; rintro e w' ⟨rfl, rfl⟩))
        exact bodyPost_ret (v := .tuple #[.int .i64 0, .int .i64 2]) (by simp [results, Try.results34, go_sem]) rfl ⟨rfl, hb⟩
      | true =>
        have e1 : codeBS ps most wave = if bestN ps most wave = 0 then 3 else 0 := by simp [codeBS, hok, hm]; omega
        have BN := Lib.hid (show ∀ k : Nat, k ≤ 1000 → (∀ t : Nat, k < t → t ≤ 1000 → fitsB ps (t : Int) most wave = false) → (k = 0 ∨ fitsB ps (k : Int) most wave = true) → bestN ps most wave = k from fun k h1 h2 h3 => bestD_at 1000 k h1 h2 h3)
        have e2 : bestV ps most wave = (bestN ps most wave : Int) := by
          unfold bestV
          rw [e1]
          by_cases h0 : bestN ps most wave = 0 <;> simp [h0]
        rw [e1, e2]
        have HOK := Lib.hid hok
        generalize bestN ps most wave = N at BN ⊢
        clear e1 e2
        go_enter Try.func34, Try.ntmps34
        go_wp2_with (first | (go_at_call 98; refine (l08List_any _ ps _ HV.out hl).mono ?_; rw [hok]; rintro e w1 ⟨rfl, hb⟩; have HB1 := Lib.hid hb; clear hb) | (go_at_call 88; refine (l00In_any _ _ _ _).mono ?_; rw [hm]; rintro e w' ⟨rfl, rfl⟩))
        go_loopw [8] (fun i wr => ∃ k : Nat, k ≤ 1000 ∧ i = .int .i64 (k : Int) ∧ (∀ t : Nat, k < t → t ≤ 1000 → fitsB ps (t : Int) most wave = false) ∧ Below w.heap.size w wr) (fun i _ => (intOf i).toNat)
        case atStart => exact ⟨1000, Nat.le_refl _, rfl, fun t h1 h2 => by omega, HB1.out⟩
        case round =>
          obtain ⟨k, hk, rfl, ha, hb⟩ := hrel
          have HA := Lib.hid ha
          have HB := Lib.hid hb
          have hsz := hb.size
          clear ha
          by_cases hk1 : 1 ≤ k
          · have hk2 : (1 : Int) ≤ (k : Int) := by omega
            have kw : IntKind.i64.wrap ((k : Int) - 1) = (k : Int) - 1 := IntWalk.i64_in _ (by omega)
            have FT := Lib.hid (l08Fits_any _ ps (k : Int) most wave wr (pat_up (pat_keep HV.out hb) hsz) hl HOK.out hk2 (by omega))
            obtain ⟨r, hr⟩ : ∃ r, Hid (fitsB ps (k : Int) most wave = r) := ⟨_, Lib.hid rfl⟩
            rw [hr.out] at FT
            clear hb
            cases r with
            | true =>
              have E := Lib.hid (BN.out k hk HA.out (.inr hr.out))
              have hN : ¬ N = 0 := by rw [E.out]; omega
              go_wp2_with (first | (go_at_call 110; refine FT.out.mono ?_; rintro e w2 ⟨rfl, hb2⟩; have HB2 := Lib.hid (HB.out.trans (hb2.mono hsz)); clear hb2))
              exact bodyPost_ret (v := .tuple #[.int .i64 (k : Int), .int .i64 0]) (by simp [results, Try.results34, go_sem]) rfl ⟨ret2q (by rw [E.out]) (by first | rfl | rw [if_neg hN]), HB2.out⟩
            | false =>
              have A2 := Lib.hid (show ∀ t : Nat, k - 1 < t → t ≤ 1000 → fitsB ps (t : Int) most wave = false from fun t h1 h2 => by
                by_cases e : t = k
                · subst e; exact hr.out
                · exact HA.out t (by omega) h2)
              go_wp2_with (first | (go_at_call 110; refine FT.out.mono ?_; rintro e w2 ⟨rfl, hb2⟩; have HB2 := Lib.hid (HB.out.trans (hb2.mono hsz)); clear hb2))
              go_roundw
              case rel => exact ⟨k - 1, by omega, by (rw [show ((k - 1 : Nat) : Int) = (k : Int) - 1 by omega]), A2.out, HB2.out⟩
              case measure => simp [intOf]; omega
          · obtain rfl : k = 0 := by omega
            have E := Lib.hid (BN.out 0 (by omega) HA.out (.inl rfl))
            clear hb
            go_wp2
            exact bodyPost_ret (v := .tuple #[.int .i64 0, .int .i64 3]) (by simp [results, Try.results34, go_sem]) rfl ⟨ret2q (by first | rfl | (rw [E.out]; rfl)) (by first | rfl | (rw [E.out]; rfl)), HB.out⟩
end Go.Proofs.Ytemhmejjmhbfdaa.sines
