/- RouteLength, of the program and of the model. -/
import Derived.Test.YtkiimdfnobcdpaaWithin
namespace Go.Proofs.Ytkiimdfnobcdpaa.sines
open Go.ChangeShapes Go.WideShapes Go.ChangeAt Go.RowKit Go.Proofs.Ytkiimdfnobcdpaa.spots Go.Proofs.Ytkiimdfnobcdpaa.irows Go.Proofs.Ytkiimdfnobcdpaa.pairs

def legD (ps : List (Int × Int)) (j : Nat) : Int := if h : j + 1 < ps.length then distL ps[j].1 ps[j].2 ps[j+1].1 ps[j+1].2 else 0
def routeN (ps : List (Int × Int)) : Nat → Int
  | 0 => 0
  | j + 1 => routeN ps j + legD ps j
def routeA (ps : List (Int × Int)) : Int := if codeL ps 0 12 = 0 then routeN ps (ps.length - 1) else 0
theorem legD_of {ps : List (Int × Int)} {j : Nat} (h : j + 1 < ps.length) : legD ps j = distL ps[j].1 ps[j].2 ps[j+1].1 ps[j+1].2 := by simp [legD, h]
theorem legD_bounds (ps : List (Int × Int)) (j : Nat) : 0 ≤ legD ps j ∧ legD ps j ≤ 648000 := by
  unfold legD
  split
  · exact distL_bounds _ _ _ _
  · omega
theorem routeN_bounds (ps : List (Int × Int)) : ∀ j, 0 ≤ routeN ps j ∧ routeN ps j ≤ 648000 * (j : Int)
  | 0 => by simp [routeN]
  | j + 1 => by
    have := routeN_bounds ps j
    have := legD_bounds ps j
    unfold routeN
    omega

set_option maxRecDepth 100000 in
set_option maxHeartbeats 2000000 in
theorem implRoute_any (v : Value) (ps : List (Int × Int)) (w : World) (hv : PAt w w.heap.size v ps) (hl : ps.length ≤ 1048576) :
    Calls Try.prog 14 #[v] w fun e w' => e = .returned (.tuple #[.int .i64 (routeA ps), .int .i64 (codeL ps 0 12)]) ∧ Below w.heap.size w w' := by
  have HV := Lib.hid hv
  by_cases hc : codeL ps 0 12 = 0
  · obtain ⟨k1, k2, k3⟩ := codeL_ok hc
    rw [show routeA ps = routeN ps (ps.length - 1) by simp [routeA, hc], hc]
    have HC := Lib.hid hc
    have K1 := Lib.hid k1
    obtain ⟨ar, c, rfl, hcl⟩ := hv
    have HCL := Lib.hid hcl
    have hl2 : (ps.length : Int) ≤ 12 := by omega
    clear hc k1 k2 k3 hcl
    go_enter Try.func14, Try.ntmps14
    go_wp2_with fail
    refine (spotsCode_any _ ps 0 12 _ HV.out hl).mono ?_
    rw [HC.out]
    rintro e w2 ⟨rfl, hb⟩
    have HB := Lib.hid hb
    clear hb
    go_wp2
    go_loopw [5, 6] (fun s i wr => ∃ j : Nat, (j + 1 ≤ ps.length ∨ j = 0) ∧ i = .int .i64 ((j : Int) + 1) ∧ s = .int .i64 (routeN ps j) ∧ Below w.heap.size w wr) (fun _ i _ => ps.length + 1 - (intOf i).toNat)
    case atStart => exact ⟨0, .inr rfl, rfl, rfl, HB.out⟩
    case round =>
      obtain ⟨j, hj, rfl, rfl, hb⟩ := hrel
      have hsz := hb.size
      have HB2 := Lib.hid hb
      obtain ⟨r1, r2⟩ := routeN_bounds ps j
      by_cases hlt : j + 1 < ps.length
      · obtain ⟨bb, off, rfl, hbs, c1, c2⟩ := HCL.out j (by omega)
        obtain ⟨bb2, off2, e2, _, c3, c4⟩ := HCL.out (j + 1) hlt
        simp at e2
        obtain ⟨rfl, rfl⟩ := e2
        have hbw : bb < wr.heap.size := by omega
        have k1 := (hb.cell (p := ⟨bb, off + j * 2, none⟩) hbs).trans c1
        have k2 := (hb.cell (p := ⟨bb, off + j * 2 + 1, none⟩) hbs).trans c2
        have k3 := (hb.cell (p := ⟨bb, off + (j + 1) * 2, none⟩) hbs).trans c3
        have k4 := (hb.cell (p := ⟨bb, off + (j + 1) * 2 + 1, none⟩) hbs).trans c4
        have OK := okL_at K1.out j (by omega)
        have OM := okL_at K1.out (j + 1) hlt
        have RS := Lib.hid (show routeN ps (j + 1) = routeN ps j + distL ps[j].1 ps[j].2 ps[j+1].1 ps[j+1].2 by rw [routeN, legD_of hlt])
        obtain ⟨n, hn⟩ : ∃ n : Nat, Hid (j + 1 = n) := ⟨_, Lib.hid rfl⟩
        have jn : (j : Int) + 1 = (n : Int) := by have := hn.out; omega
        have jw : (n : Int) - 1 = (j : Int) := by omega
        have jw2 : IntKind.i64.wrap (j : Int) = (j : Int) := IntWalk.i64_in _ (by omega)
        have hk0 : 0 ≤ (n : Int) := by omega
        have hk1 : (n : Int) < (ps.length : Int) := by omega
        have hj0 : 0 ≤ (j : Int) := by omega
        have hj1 : (j : Int) < (ps.length : Int) := by omega
        have NJ := Lib.hid jn
        clear c1 c2 c3 c4 hb
        generalize ps[j] = x at k1 k2 OK RS
        generalize ps[j+1] = y at k3 k4 OM RS
        rw [hn.out] at k3 k4
        rw [jn]
        obtain ⟨x1, x2⟩ := x
        obtain ⟨y1, y2⟩ := y
        obtain ⟨dk, hdk⟩ : ∃ d, Hid (distL x1 x2 y1 y2 = d) := ⟨_, Lib.hid rfl⟩
        obtain ⟨d1, d2⟩ := distL_bounds x1 x2 y1 y2
        obtain ⟨s, hs⟩ : ∃ s, Hid (routeN ps j = s) := ⟨_, Lib.hid rfl⟩
        rw [hdk.out] at d1 d2
        rw [hs.out] at r1 r2
        rw [hs.out]
        have RS2 := Lib.hid (show routeN ps n = s + dk by rw [← hn.out, RS.out, hs.out, ← hdk.out])
        have hs2 : s ≤ 100000000 := by omega
        have sw : IntKind.i64.wrap (s + dk) = s + dk := IntWalk.i64_in _ (by omega)
        clear jn RS
        go_wp2_with fail
        go_region_held3 (fun W => W.cell? ⟨bb, off + j * 2, none⟩ = some (.int .i64 x1) ∧ W.cell? ⟨bb, off + j * 2 + 1, none⟩ = some (.int .i64 x2) ∧ W.cell? ⟨bb, off + n * 2, none⟩ = some (.int .i64 y1) ∧ W.cell? ⟨bb, off + n * 2 + 1, none⟩ = some (.int .i64 y2)) (first | exact ⟨k1, k2, k3, k4⟩ | exact ⟨n1, n2, n3, n4⟩ | (simp [go_sem]; first | exact ⟨k1, k2, k3, k4⟩ | exact ⟨n1, n2, n3, n4⟩)) (first | (go_at_call 39; refine (distanceBetween_rel _ _ _ _ wr _ (by repeat (first | assumption | exact Below.refl _ _ | refine Below.drew ?_ | refine bdq ?_ _ | refine Below.alloc ?_ (by first | exact Nat.le_refl _ | omega | (simp; done) | (simp; omega)) _ | refine Below.setCell ?_ (by first | exact Nat.le_refl _ | omega | (simp; done) | (simp; omega)) _)) (by assumption) (by assumption)).mono ?_; rw [hdk.out]; rintro e w1 ⟨rfl, hb1⟩; have n1 := (hb1.cell (p := ⟨bb, off + j * 2, none⟩) hbw).trans k1; have n2 := (hb1.cell (p := ⟨bb, off + j * 2 + 1, none⟩) hbw).trans k2; have n3 := (hb1.cell (p := ⟨bb, off + n * 2, none⟩) hbw).trans k3; have n4 := (hb1.cell (p := ⟨bb, off + n * 2 + 1, none⟩) hbw).trans k4))
        all_goals
          have HBB := Lib.hid (HB2.out.trans (hb1.mono hsz))
          go_wp2
          go_roundw
          case rel => exact ⟨j + 1, .inl (by omega), by go_num, by rw [hn.out, RS2.out], (by first | exact HBB.out | exact bdq HBB.out _ | exact bdrew HBB.out)⟩
          case measure => simp [intOf]; omega
      · have hge : ¬ ((j : Int) + 1 < (ps.length : Int)) := by omega
        have hjl : j = ps.length - 1 := by omega
        have RE := Lib.hid (show routeN ps j = routeN ps (ps.length - 1) by rw [← hjl])
        clear hjl hb
        go_wp2
        exact bodyPost_ret (v := .tuple #[.int .i64 (routeN ps j), .int .i64 0]) (by simp [results, Try.results14, go_sem]) rfl ⟨by rw [RE.out], HB2.out⟩
  · rw [show routeA ps = 0 by simp [routeA, hc]]
    obtain ⟨C, HC⟩ : ∃ C, Hid (codeL ps 0 12 = C) := ⟨_, Lib.hid rfl⟩
    rw [HC.out] at hc ⊢
    have hc1 : (C != 0) = true := by simpa using hc
    clear hc hv
    go_enter Try.func14, Try.ntmps14
    go_wp2_with fail
    refine (spotsCode_any _ ps 0 12 _ HV.out hl).mono ?_
    rw [HC.out]
    rintro e w2 ⟨rfl, hb⟩
    have HB := Lib.hid hb
    clear hb
    go_wp2
    exact bodyPost_ret (v := .tuple #[.int .i64 0, .int .i64 C]) (by simp [results, Try.results14, go_sem]) rfl ⟨rfl, HB.out⟩


end Go.Proofs.Ytkiimdfnobcdpaa.sines
