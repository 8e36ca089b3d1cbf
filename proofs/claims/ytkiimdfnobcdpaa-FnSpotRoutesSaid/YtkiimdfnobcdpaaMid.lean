/- MiddleSpot, of the program and of the model. -/
import Derived.Test.YtkiimdfnobcdpaaTabS
namespace Go.Proofs.Ytkiimdfnobcdpaa.sines
open Go.ChangeShapes Go.WideShapes Go.ChangeAt Go.RowKit Go.Proofs.Ytkiimdfnobcdpaa.spots Go.Proofs.Ytkiimdfnobcdpaa.irows Go.Proofs.Ytkiimdfnobcdpaa.pairs Go.Proofs.Ytkiimdfnobcdpaa.trows

def maxG (g : Nat → Int) : Nat → Int
  | 0 => 0
  | k + 1 => max (maxG g k) (g k)
theorem maxG_nonneg (g : Nat → Int) : ∀ k, 0 ≤ maxG g k
  | 0 => Int.le_refl _
  | k + 1 => by have := maxG_nonneg g k; unfold maxG; omega
theorem maxG_ge (g : Nat → Int) : ∀ k j, j < k → g j ≤ maxG g k
  | k + 1, j, h => by
    unfold maxG
    by_cases e : j = k
    · subst e; omega
    · have := maxG_ge g k j (by omega); omega
theorem maxG_one {g : Nat → Int} (h : 0 ≤ g 0) : maxG g 1 = g 0 := by simp [maxG]; omega
def mxD (ps : List (Int × Int)) (i : Nat) : Int := maxG (dd ps i) ps.length
def mxL (ps : List (Int × Int)) : Nat → List Int
  | 0 => []
  | k + 1 => mxL ps k ++ [mxD ps k]
theorem mxL_len (ps : List (Int × Int)) : ∀ k, (mxL ps k).length = k
  | 0 => rfl
  | k + 1 => by simp [mxL, mxL_len ps k]
theorem mxL_at (ps : List (Int × Int)) : ∀ k j, j < k → at0 (mxL ps k) j = mxD ps j
  | k + 1, j, h => by
    have hl := mxL_len ps k
    unfold mxL at0
    by_cases e : j = k
    · subst e
      rw [List.getD_eq_getElem?_getD, List.getElem?_append_right (by omega), hl]
      simp
    · have ih := mxL_at ps k j (by omega)
      rw [List.getD_eq_getElem?_getD, List.getElem?_append_left (by omega), ← List.getD_eq_getElem?_getD]
      exact ih
def midN (ps : List (Int × Int)) : Nat := fmin (mxD ps) ps.length
def mid1 (ps : List (Int × Int)) : Int := if codeL ps 1 12 = 0 then (midN ps : Int) else 0
def mid2 (ps : List (Int × Int)) : Int := if codeL ps 1 12 = 0 then mxD ps (midN ps) else 0
theorem mxL_min (ps : List (Int × Int)) (h : 0 < ps.length) : fminL (mxL ps ps.length) = midN ps ∧ at0 (mxL ps ps.length) (midN ps) = mxD ps (midN ps) := by
  have e : fminL (mxL ps ps.length) = midN ps := by
    unfold fminL midN
    rw [mxL_len]
    exact fmin_congr _ (fun j hj => mxL_at ps _ j hj)
  exact ⟨e, mxL_at ps _ _ (fmin_lt _ _ h)⟩

set_option maxRecDepth 100000 in
set_option maxHeartbeats 1000000 in
theorem sliceMax_any (ar : Option Addr) (cr n : Nat) (g : Nat → Int) (w : World) (h0 : 0 < n) (hl : n ≤ 1048576) (hg : 0 ≤ g 0) (hc : ∀ j, j < n → ∃ b, ar = some ⟨b, 0, none⟩ ∧ w.cell? ⟨b, j, none⟩ = some (.int .i64 (g j))) :
    Calls Try.prog 38 #[.slice ar n cr] w fun e w' => e = .returned (.int .i64 (maxG g n)) ∧ w = w' := by
  have HC := Lib.hid hc
  clear hc
  obtain ⟨b, rfl, c0⟩ := HC.out 0 h0
  have M1 := Lib.hid (maxG_one hg)
  have hn0 : 0 < (n : Int) := by omega
  have hn1 : 1 ≤ (n : Int) := by omega
  have hl2 : (n : Int) ≤ 1048576 := by omega
  generalize g 0 = z0 at c0 M1
  clear hg
  go_enter Try.func38, Try.ntmps38
  go_wp2
  go_loopw [3, 4] (fun m i wr => ∃ k : Nat, 1 ≤ k ∧ k ≤ n ∧ i = .int .i64 (k : Int) ∧ m = .int .i64 (maxG g k) ∧ w = wr) (fun _ i _ => n - (intOf i).toNat)
  case atStart => exact ⟨1, Nat.le_refl _, by omega, rfl, by rw [M1.out], rfl⟩
  case round =>
    obtain ⟨k, hk0, hk, rfl, rfl, rfl⟩ := hrel
    by_cases hlt : k < n
    · obtain ⟨b2, e2, ck⟩ := HC.out k hlt
      simp at e2
      subst e2
      have i0 : 0 ≤ (k : Int) := by omega
      have i1 : (k : Int) < (n : Int) := by omega
      have ST := Lib.hid (show maxG g (k + 1) = max (maxG g k) (g k) from rfl)
      generalize g k = z at ck ST
      obtain ⟨m, hm⟩ : ∃ m, Hid (maxG g k = m) := ⟨_, Lib.hid rfl⟩
      rw [hm.out] at ST ⊢
      go_wp2
      go_roundw
      case rel => exact ⟨k + 1, by omega, by omega, by go_num, by rw [ST.out], by first | rfl | trivial⟩
      case measure => simp [intOf]; omega
    · obtain rfl : k = n := by omega
      go_wp2
      go_ret
      exact ⟨rfl, rfl⟩

set_option maxRecDepth 100000 in
set_option maxHeartbeats 2000000 in
theorem implMid_any (v : Value) (ps : List (Int × Int)) (w : World) (hv : PAt w w.heap.size v ps) (hl : ps.length ≤ 1048576) :
    Calls Try.prog 12 #[v] w fun e w' => e = .returned (.tuple #[.int .i64 (mid1 ps), .int .i64 (mid2 ps), .int .i64 (codeL ps 1 12)]) ∧ Below w.heap.size w w' := by
  obtain ⟨i0, hi, hz0, hz1, hz2⟩ := info_parts info_int
  have HV := Lib.hid hv
  obtain ⟨ar, c, rfl, _⟩ := hv
  by_cases hc : codeL ps 1 12 = 0
  · obtain ⟨k1, k2, k3⟩ := codeL_ok hc
    rw [show mid1 ps = (midN ps : Int) by simp [mid1, hc], show mid2 ps = mxD ps (midN ps) by simp [mid2, hc], hc]
    have HC := Lib.hid hc
    have K1 := Lib.hid k1
    have hl2 : (ps.length : Int) ≤ 12 := by omega
    have h1 : 0 < ps.length := by omega
    clear hc k1 k2 k3
    go_enter Try.func12, Try.ntmps12
    go_wp2_with fail
    refine (spotsCode_any _ ps 1 12 _ HV.out hl).mono ?_
    rw [HC.out]
    rintro e w2 ⟨rfl, hb⟩
    have HB := Lib.hid hb
    clear hb
    go_wp2_with fail
    refine (distancesOf_any _ ps _ (pat_up (pat_keep HV.out HB.out) HB.out.size) (by omega) K1.out).mono ?_
    rintro e w3 ⟨u, rfl, hr, hb⟩
    have HB2 := Lib.hid (HB.out.trans (hb.mono HB.out.size))
    obtain ⟨ad, cd, rfl, hd⟩ := dat_of (trow_at hr)
    have HD := Lib.hid hd
    clear hb hr hd
    go_wp2
    go_loopw [6, 19] (fun u i wr => ∃ (k : Nat), k ≤ ps.length ∧ i = .int .i64 (k : Int) ∧ IRow wr w3.heap.size u (mxL ps k) ∧ Below w3.heap.size w3 wr) (fun _ i _ => ps.length - (intOf i).toNat)
    case atStart => exact ⟨0, Nat.zero_le _, rfl, irow_nil _ _, Below.refl _ _⟩
    case round =>
      obtain ⟨i, hik, rfl, hr, hb⟩ := hrel
      have HR := Lib.hid hr
      have HB3 := Lib.hid hb
      have hsz := hb.size
      have ML := Lib.hid (mxL_len ps i)
      by_cases hlt : i < ps.length
      · have hi0 : 0 ≤ (i : Int) := by omega
        have hi1 : (i : Int) < (ps.length : Int) := by omega
        obtain ⟨b, ar2, cr2, rfl, hbl, cc, hrow⟩ := HD.out i hlt
        have kk := (hb.cell (p := ⟨b, i, none⟩) hbl).trans cc
        have ROW := Lib.hid (show ∀ j, j < ps.length → ∃ g, ar2 = some ⟨g, 0, none⟩ ∧ wr.cell? ⟨g, j, none⟩ = some (.int .i64 (dd ps i j)) from fun j hj => by
          obtain ⟨g, e1, e2, e3⟩ := hrow j hj
          exact ⟨g, e1, (hb.cell (p := ⟨g, j, none⟩) e2).trans e3⟩)
        have MS := Lib.hid (show mxL ps (i + 1) = mxL ps i ++ [mxD ps i] from rfl)
        have MX := Lib.hid (show maxG (dd ps i) ps.length = mxD ps i from rfl)
        obtain ⟨ns, hns⟩ : ∃ ns, Hid (mxL ps i = ns) := ⟨_, Lib.hid rfl⟩
        obtain ⟨d, hd⟩ : ∃ d, Hid (mxD ps i = d) := ⟨_, Lib.hid rfl⟩
        rw [hns.out] at HR ML MS
        rw [hd.out] at MS MX
        have nl : ns.length = i := ML.out
        have nl2 : ns.length ≤ 12 := by omega
        clear nl hr hb cc hrow
        go_wp2_with fail
        refine (sliceMax_any ar2 cr2 ps.length (dd ps i) _ h1 hl (dd_bounds ps i 0).1 ROW.out).mono ?_
        rw [MX.out]
        rintro e w' ⟨rfl, rfl⟩
        go_wp2_with (at_builtin; refine wpList_append_own _ rfl _ _ 29 rfl (w3.heap.size) 2 i0 (.int .i64 0) 1 8 Try.underlying29 hi hz0 hz1 hz2 rfl (by decide) _ ns.length _ rfl (HR.out.alloc _) ⟨wr.heap.size, 0, none⟩ 1 1 [.int .i64 d] rfl rfl (newI _ _ _ (by first | rfl | simp)) (cellI _) (by unfold maxLen; omega) (by omega) (by simp; omega) ?_; intro v1 w1 hown1 hg1 _)
        go_roundw
        case rel => exact ⟨i + 1, by omega, by go_num, by rw [MS.out]; exact snocI hown1, (HB3.out.alloc hsz _).grown hg1 (by simp; omega) (fun j hj => (HR.out.lt j hj).1)⟩
        case measure => simp [intOf]; omega
      · obtain rfl : i = ps.length := by omega
        obtain ⟨e1, e2⟩ := mxL_min ps h1
        have E1 := Lib.hid e1
        have E2 := Lib.hid e2
        clear e1 e2 hr hb
        go_wp2_with fail
        refine (firstLeast_any _ _ (mxL ps ps.length) _ HR.out (by rw [ML.out]; exact h1) (by rw [ML.out]; omega)).mono ?_
        rw [E1.out, E2.out]
        rintro e w4 ⟨rfl, q, rfl⟩
        go_wp2
        exact bodyPost_ret (v := .tuple #[.int .i64 (midN ps : Nat), .int .i64 (mxD ps (midN ps)), .int .i64 0]) (by simp [results, Try.results12, go_sem]) rfl ⟨rfl, bdq (HB2.out.trans (HB3.out.mono HB2.out.size)) _⟩
  · rw [show mid1 ps = 0 by simp [mid1, hc], show mid2 ps = 0 by simp [mid2, hc]]
    obtain ⟨C, HC⟩ : ∃ C, Hid (codeL ps 1 12 = C) := ⟨_, Lib.hid rfl⟩
    rw [HC.out] at hc ⊢
    have hc1 : (C != 0) = true := by simpa using hc
    clear hc
    go_enter Try.func12, Try.ntmps12
    go_wp2_with fail
    refine (spotsCode_any _ ps 1 12 _ HV.out hl).mono ?_
    rw [HC.out]
    rintro e w2 ⟨rfl, hb⟩
    have HB := Lib.hid hb
    clear hb
    go_wp2
    exact bodyPost_ret (v := .tuple #[.int .i64 0, .int .i64 0, .int .i64 C]) (by simp [results, Try.results12, go_sem]) rfl ⟨rfl, HB.out⟩

def lst (ps : List (Int × Int)) : Nat → Int
  | 0 => -1
  | k + 1 => mxD ps (fmin (mxD ps) (k + 1))
theorem mxD_nonneg (ps : List (Int × Int)) (i : Nat) : 0 ≤ mxD ps i := maxG_nonneg _ _


end Go.Proofs.Ytkiimdfnobcdpaa.sines
