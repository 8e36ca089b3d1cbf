/- Codes of lists of places; the first least number of a list. -/
import Derived.Test.YtkiimdfnobcdpaaDistF
import Derived.Deep.RegionWith
import Derived.Deep.RegionHeld3
namespace Go.Proofs.Ytkiimdfnobcdpaa.sines
open Go.ChangeShapes Go.WideShapes Go.ChangeAt Go.RowKit Go.Proofs.Ytkiimdfnobcdpaa.spots Go.Proofs.Ytkiimdfnobcdpaa.irows Go.Proofs.Ytkiimdfnobcdpaa.pairs

def codeL (ps : List (Int × Int)) (least most : Int) : Int := if okL ps = true then (if most < (ps.length : Int) then 2 else if (ps.length : Int) < least then 3 else 0) else 1
def codeW (ps : List (Int × Int)) (a b least : Int) : Int := if okB a b = true then codeL ps least 12 else 1
theorem codeL_ok {ps : List (Int × Int)} {least most : Int} (h : codeL ps least most = 0) : okL ps = true ∧ (ps.length : Int) ≤ most ∧ least ≤ (ps.length : Int) := by
  unfold codeL at h
  split at h
  · split at h
    · omega
    · split at h
      · omega
      · refine ⟨by assumption, by omega, by omega⟩
  · omega
theorem codeW_ok {ps : List (Int × Int)} {a b least : Int} (h : codeW ps a b least = 0) : okB a b = true ∧ codeL ps least 12 = 0 := by
  unfold codeW at h
  split at h
  · exact ⟨by assumption, h⟩
  · omega
theorem codeL_cases (ps : List (Int × Int)) (least most : Int) :
    (okL ps = false ∧ codeL ps least most = 1) ∨ (okL ps = true ∧ most < (ps.length : Int) ∧ codeL ps least most = 2) ∨ (okL ps = true ∧ (ps.length : Int) ≤ most ∧ (ps.length : Int) < least ∧ codeL ps least most = 3) ∨ (okL ps = true ∧ (ps.length : Int) ≤ most ∧ least ≤ (ps.length : Int) ∧ codeL ps least most = 0) := by
  unfold codeL
  cases okL ps with
  | false => simp
  | true =>
    simp
    by_cases h1 : most < (ps.length : Int)
    · simp [h1]; intro; omega
    · by_cases h2 : (ps.length : Int) < least
      · simp [h1, h2]; omega
      · simp [h1, h2]; omega
theorem ret_i {a b : Int} (h : a = b) : Ending.returned (.int .i64 a) = .returned (.int .i64 b) := by rw [h]

set_option maxRecDepth 100000 in
set_option maxHeartbeats 1000000 in
theorem spotsCode_any (v : Value) (ps : List (Int × Int)) (least most : Int) (w : World) (hv : PAt w w.heap.size v ps) (hl : ps.length ≤ 1048576) :
    Calls Try.prog 28 #[v, .int .i64 least, .int .i64 most] w fun e w' => e = .returned (.int .i64 (codeL ps least most)) ∧ Below w.heap.size w w' := by
  have HV := Lib.hid hv
  obtain ⟨a, c, rfl, _⟩ := hv
  rcases codeL_cases ps least most with ⟨h1, h2⟩ | ⟨h1, h3, h2⟩ | ⟨h1, h3, h4, h2⟩ | ⟨h1, h3, h4, h2⟩
  · rw [h2]
    have h := Lib.hid h1
    clear h1 h2
    go_enter Try.func28, Try.ntmps28
    go_wp2_with fail
    refine (areSpots_any _ ps _ HV.out hl).mono ?_
    rw [h.out]
    rintro e w1 ⟨rfl, hb⟩
    have HB := Lib.hid hb
    clear hb
    go_wp2
    go_ret
    exact ⟨rfl, HB.out⟩
  · rw [h2]
    have h := Lib.hid h1
    have d1 : decide (most < (ps.length : Int)) = true := decide_eq_true h3
    clear h1 h2 h3
    go_enter Try.func28, Try.ntmps28
    go_wp2_with fail
    refine (areSpots_any _ ps _ HV.out hl).mono ?_
    rw [h.out]
    rintro e w1 ⟨rfl, hb⟩
    have HB := Lib.hid hb
    clear hb
    go_wp2
    go_ret
    exact ⟨rfl, HB.out⟩
  · rw [h2]
    have h := Lib.hid h1
    have d1 : decide (most < (ps.length : Int)) = false := decide_eq_false (by omega)
    have d2 : decide ((ps.length : Int) < least) = true := decide_eq_true h4
    clear h1 h2 h3 h4
    go_enter Try.func28, Try.ntmps28
    go_wp2_with fail
    refine (areSpots_any _ ps _ HV.out hl).mono ?_
    rw [h.out]
    rintro e w1 ⟨rfl, hb⟩
    have HB := Lib.hid hb
    clear hb
    go_wp2
    go_ret
    exact ⟨rfl, HB.out⟩
  · rw [h2]
    have h := Lib.hid h1
    have d1 : decide (most < (ps.length : Int)) = false := decide_eq_false (by omega)
    have d2 : decide ((ps.length : Int) < least) = false := decide_eq_false (by omega)
    clear h1 h2 h3 h4
    go_enter Try.func28, Try.ntmps28
    go_wp2_with fail
    refine (areSpots_any _ ps _ HV.out hl).mono ?_
    rw [h.out]
    rintro e w1 ⟨rfl, hb⟩
    have HB := Lib.hid hb
    clear hb
    go_wp2
    go_ret
    exact ⟨rfl, HB.out⟩


set_option maxRecDepth 100000 in
set_option maxHeartbeats 1000000 in
theorem l05Code_any (v : Value) (ps : List (Int × Int)) (least most : Int) (w : World) (hv : PAt w w.heap.size v ps) (hl : ps.length ≤ 1048576) :
    Calls Try.prog 42 #[v, .int .i64 least, .int .i64 most] w fun e w' => e = .returned (.int .i64 (codeL ps least most)) ∧ Below w.heap.size w w' := by
  obtain ⟨a, c, rfl, hc⟩ := hv
  have HC := Lib.hid hc
  clear hc
  have hl2 : (ps.length : Int) ≤ 1048576 := by omega
  go_enter Try.func42, Try.ntmps42
  go_wp2
  go_loopw [7] (fun i wr => ∃ k : Nat, k ≤ ps.length ∧ i = .int .i64 (k : Int) ∧ (∀ j, (hj : j < ps.length) → j < k → okB ps[j].1 ps[j].2 = true) ∧ Below w.heap.size w wr) (fun i _ => ps.length - (intOf i).toNat)
  case atStart => exact ⟨0, Nat.zero_le _, rfl, fun j _ h => by omega, Below.refl _ _⟩
  case round =>
    obtain ⟨k, hk, rfl, hall, hb⟩ := hrel
    have hsz := hb.size
    have HA := Lib.hid hall
    have HB := Lib.hid hb
    clear hall hb
    by_cases hlt : k < ps.length
    · obtain ⟨b, off, rfl, hbs, c1, c2⟩ := HC.out k hlt
      have c1' : wr.cell? ⟨b, off + k * 2, none⟩ = some (.int .i64 ps[k].1) := by rw [HB.out.cell (p := ⟨b, off + k * 2, none⟩) hbs]; exact c1
      have c2' : wr.cell? ⟨b, off + k * 2 + 1, none⟩ = some (.int .i64 ps[k].2) := by rw [HB.out.cell (p := ⟨b, off + k * 2 + 1, none⟩) hbs]; exact c2
      have hk0 : 0 ≤ (k : Int) := by omega
      have hk1 : (k : Int) < (ps.length : Int) := by omega
      have NO := Lib.hid (fun h => okL_not k hlt h)
      have YES := Lib.hid (show okB ps[k].1 ps[k].2 = true → ∀ j, (hj : j < ps.length) → j < k + 1 → okB ps[j].1 ps[j].2 = true from fun h j hj hjk => by
        by_cases e : j = k
        · subst e; exact h
        · exact HA.out j hj (by omega))
      clear c1 c2
      generalize ps[k] = x at c1' c2' NO YES
      obtain ⟨x1, x2⟩ := x
      cases ho : okB x1 x2 with
      | false =>
        have BAD := Lib.hid (show codeL ps least most = 1 by simp [codeL, NO.out ho])
        go_wp2_with fail
        refine (l02Ok_any x1 x2 _).mono ?_
        rw [ho]
        rintro e w1 ⟨rfl, o1, rfl⟩
        go_wp2
        go_ret
        exact ⟨ret_i BAD.out.symm, HB.out.alloc hsz _⟩
      | true =>
        have Y := Lib.hid (YES.out ho)
        go_wp2_with fail
        refine (l02Ok_any x1 x2 _).mono ?_
        rw [ho]
        rintro e w1 ⟨rfl, o1, rfl⟩
        go_wp2
        go_roundw
        case rel => exact ⟨k + 1, by omega, by go_num, Y.out, HB.out.alloc hsz _⟩
        case measure => simp [intOf]; omega
    · obtain rfl : k = ps.length := by omega
      have OK := Lib.hid (okL_of fun j hj => HA.out j hj hj)
      by_cases h3 : most < (ps.length : Int)
      · have d1 : decide (most < (ps.length : Int)) = true := decide_eq_true h3
        have E := Lib.hid (show codeL ps least most = 2 by simp [codeL, OK.out, h3])
        clear h3
        go_wp2
        go_ret
        exact ⟨ret_i E.out.symm, HB.out⟩
      · have d1 : decide (most < (ps.length : Int)) = false := decide_eq_false h3
        by_cases h4 : (ps.length : Int) < least
        · have d2 : decide ((ps.length : Int) < least) = true := decide_eq_true h4
          have E := Lib.hid (show codeL ps least most = 3 by simp [codeL, OK.out, h3, h4])
          clear h3 h4
          go_wp2
          go_ret
          exact ⟨ret_i E.out.symm, HB.out⟩
        · have d2 : decide ((ps.length : Int) < least) = false := decide_eq_false h4
          have E := Lib.hid (show codeL ps least most = 0 by simp [codeL, OK.out, h3, h4])
          clear h3 h4
          go_wp2
          go_ret
          exact ⟨ret_i E.out.symm, HB.out⟩



/-- The first least value of a function up to k. -/
def fmin (g : Nat → Int) : Nat → Nat
  | 0 => 0
  | k + 1 => if g k < g (fmin g k) then k else fmin g k
theorem fmin_lt (g : Nat → Int) : ∀ k, 0 < k → fmin g k < k
  | 1, _ => by simp [fmin]
  | k + 2, _ => by
    have := fmin_lt g (k + 1) (by omega)
    unfold fmin
    split <;> omega
theorem fmin_le (g : Nat → Int) : ∀ k j, j < k → g (fmin g k) ≤ g j
  | k + 1, j, h => by
    unfold fmin
    by_cases e : j = k
    · subst e
      split <;> omega
    · have := fmin_le g k j (by omega)
      split <;> omega
theorem fmin_first (g : Nat → Int) : ∀ k j, j < fmin g k → g (fmin g k) < g j
  | 0, j, h => by simp [fmin] at h
  | k + 1, j, h => by
    unfold fmin at h ⊢
    split at h
    · rename_i hk
      rw [if_pos hk]
      have := fmin_le g k j h
      omega
    · rename_i hk
      rw [if_neg hk]
      exact fmin_first g k j h
theorem fmin_one (g : Nat → Int) : fmin g 1 = 0 := by simp [fmin]
theorem fmin_congr {g h : Nat → Int} : ∀ k, (∀ j, j < k → g j = h j) → fmin g k = fmin h k
  | 0, _ => rfl
  | 1, _ => by simp [fmin]
  | k + 2, e => by
    have ih := fmin_congr (g := g) (h := h) (k + 1) (fun j hj => e j (by omega))
    have hl := fmin_lt g (k + 1) (by omega)
    unfold fmin
    rw [← ih, e (k + 1) (by omega), e _ (show fmin g (k + 1) < k + 2 by omega)]
def at0 (zs : List Int) (j : Nat) : Int := zs.getD j 0
theorem at0_of {zs : List Int} {j : Nat} (h : j < zs.length) : at0 zs j = zs[j] := by simp [at0, h]
def fminL (zs : List Int) : Nat := fmin (at0 zs) zs.length
theorem fminL_lt {zs : List Int} (h : 0 < zs.length) : fminL zs < zs.length := fmin_lt _ _ h

set_option maxRecDepth 100000 in
set_option maxHeartbeats 1000000 in
theorem firstLeast_any (v : Value) (B : Nat) (zs : List Int) (w : World) (h : IRow w B v zs) (h0 : 0 < zs.length) (hl : zs.length ≤ 1048576) :
    Calls Try.prog 36 #[v] w fun e w' => e = .returned (.tuple #[.int .i64 (fminL zs : Nat), .int .i64 (at0 zs (fminL zs))]) ∧ ∃ q, w' = w.drewN q := by
  obtain ⟨⟨a, c, rfl⟩, _⟩ := irow_shape h
  have HR := Lib.hid (fun k hk => irow_at h k hk)
  clear h
  obtain ⟨g, rfl, _, c0⟩ := HR.out 0 h0
  have hn0 : 0 < (zs.length : Int) := by omega
  have hl2 : (zs.length : Int) ≤ 1048576 := by omega
  have A0 := Lib.hid (show at0 zs (fmin (at0 zs) 0) = zs[0] from at0_of h0)
  generalize zs[0] = z0 at c0 A0
  go_enter Try.func36, Try.ntmps36
  go_wp2
  go_quiet (fail)
  go_wp2
  go_loopw [4, 5, 13] (fun b z i wr => ∃ (k q : Nat), k ≤ zs.length ∧ i = .int .i64 (k : Int) ∧ b = .int .i64 (fmin (at0 zs) k : Nat) ∧ z = .int .i64 (at0 zs (fmin (at0 zs) k)) ∧ wr = w.drewN q) (fun _ _ i _ => zs.length - (intOf i).toNat)
  case atStart => exact ⟨0, _, Nat.zero_le _, rfl, rfl, by rw [A0.out], rfl⟩
  case round =>
    obtain ⟨k, q, hk, rfl, rfl, rfl, rfl⟩ := hrel
    by_cases hlt : k < zs.length
    · obtain ⟨g2, e2, _, ck⟩ := HR.out k hlt
      simp at e2
      subst e2
      have hk0 : 0 ≤ (k : Int) := by omega
      have hk1 : (k : Int) < (zs.length : Int) := by omega
      have AK := Lib.hid (at0_of hlt)
      have ST := Lib.hid (show fmin (at0 zs) (k + 1) = if zs[k] < at0 zs (fmin (at0 zs) k) then k else fmin (at0 zs) k by rw [← at0_of hlt]; rfl)
      generalize zs[k] = z at ck AK ST
      obtain ⟨m, hm⟩ : ∃ m, Hid (fmin (at0 zs) k = m) := ⟨_, Lib.hid rfl⟩
      obtain ⟨y, hy⟩ : ∃ y, Hid (at0 zs m = y) := ⟨_, Lib.hid rfl⟩
      rw [hm.out, hy.out]
      by_cases hd : z < y
      · have d1 : decide (z < y) = true := decide_eq_true hd
        have SM := Lib.hid (show fmin (at0 zs) (k + 1) = k by rw [ST.out, hm.out, hy.out, if_pos hd])
        clear hd
        go_wp2
        go_roundw
        case rel => exact ⟨k + 1, _, by omega, by go_num, by rw [SM.out], by rw [SM.out, AK.out], rfl⟩
        case measure => simp [intOf]; omega
      · have d1 : decide (z < y) = false := decide_eq_false hd
        have SM := Lib.hid (show fmin (at0 zs) (k + 1) = m by rw [ST.out, hm.out, hy.out, if_neg hd])
        clear hd
        go_wp2
        go_roundw
        case rel => exact ⟨k + 1, _, by omega, by go_num, by rw [SM.out], by rw [SM.out, hy.out], rfl⟩
        case measure => simp [intOf]; omega
    · obtain rfl : k = zs.length := by omega
      go_wp2
      exact bodyPost_ret (v := .tuple #[.int .i64 (fminL zs : Nat), .int .i64 (at0 zs (fminL zs))]) (by simp [results, Try.results36, go_sem, fminL]) rfl ⟨rfl, _, rfl⟩

end Go.Proofs.Ytkiimdfnobcdpaa.sines
