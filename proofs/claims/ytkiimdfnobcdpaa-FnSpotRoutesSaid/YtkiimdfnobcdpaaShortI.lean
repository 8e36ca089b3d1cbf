/- ShortestRoute of the program. -/
import Derived.Test.YtkiimdfnobcdpaaFirst
namespace Go.Proofs.Ytkiimdfnobcdpaa.sines
open Go.ChangeShapes Go.WideShapes Go.ChangeAt Go.RowKit Go.Proofs.Ytkiimdfnobcdpaa.spots Go.Proofs.Ytkiimdfnobcdpaa.irows Go.Proofs.Ytkiimdfnobcdpaa.pairs Go.Proofs.Ytkiimdfnobcdpaa.trows
def shortOk (ps : List (Int × Int)) : Bool := decide (codeL ps 0 7 = 0 ∧ 0 < ps.length)
def shortV (ps : List (Int × Int)) : List Int := if shortOk ps = true then nz (0 :: GF (dd ps) ps.length (ps.length - 1) 1 0) else []
def shortL (ps : List (Int × Int)) : Int := if shortOk ps = true then TT (dd ps) ps.length 1 0 else 0
theorem short_no {ps : List (Int × Int)} (h : ¬ (codeL ps 0 7 = 0 ∧ 0 < ps.length)) : shortV ps = [] ∧ shortL ps = 0 := by simp [shortV, shortL, shortOk, h]
theorem short_yes {ps : List (Int × Int)} (h : codeL ps 0 7 = 0) (k : 0 < ps.length) : shortV ps = nz (0 :: GF (dd ps) ps.length (ps.length - 1) 1 0) ∧ shortL ps = TT (dd ps) ps.length 1 0 := by
  have e : shortOk ps = true := by simp [shortOk, h, k]
  exact ⟨by rw [shortV, if_pos e], by rw [shortL, if_pos e]⟩

set_option maxRecDepth 100000 in
set_option maxHeartbeats 2000000 in
theorem implShort_any (v : Value) (ps : List (Int × Int)) (w : World) (hv : PAt w w.heap.size v ps) (hl : ps.length ≤ 1048576) :
    Calls Try.prog 8 #[v] w fun e w' => ∃ u, e = .returned (.tuple #[u, .int .i64 (shortL ps), .int .i64 (codeL ps 0 7)]) ∧ IRow w' w.heap.size u (shortV ps) ∧ Below w.heap.size w w' := by
  have HV := Lib.hid hv
  obtain ⟨ar, c, rfl, _⟩ := hv
  by_cases hc : codeL ps 0 7 = 0
  · obtain ⟨k1, k2, k3⟩ := codeL_ok hc
    have HC := Lib.hid hc
    have K1 := Lib.hid k1
    have hl2 : (ps.length : Int) ≤ 7 := by omega
    by_cases hn : ps.length = 0
    · obtain ⟨e1, e2⟩ := short_no (ps := ps) (fun k => by omega)
      rw [e1, e2, hc]
      have hz : (((ps.length : Int)) == 0) = true := by rw [hn]; rfl
      clear hc k1 k2 k3 e1 e2 hn
      go_enter Try.func8, Try.ntmps8
      go_wp2_with fail
      refine (spotsCode_any _ ps 0 7 _ HV.out hl).mono ?_
      rw [HC.out]
      rintro e w2 ⟨rfl, hb⟩
      have HB := Lib.hid hb
      clear hb
      go_wp2
      exact bodyPost_ret (v := .tuple #[.slice none 0 0, .int .i64 0, .int .i64 0]) (by simp [results, Try.results8, go_sem]) rfl ⟨_, rfl, irow_nil _ _, HB.out⟩
    · have h0 : 0 < ps.length := by omega
      obtain ⟨e1, e2⟩ := short_yes hc h0
      rw [e1, e2, hc]
      have hz : (((ps.length : Int)) == 0) = false := beq_eq_false_iff_ne.2 (by omega)
      obtain ⟨T, hT⟩ : ∃ T, Hid (TT (dd ps) ps.length 1 0 = T) := ⟨_, Lib.hid rfl⟩
      obtain ⟨zs, hZ⟩ : ∃ zs, Hid (nz (0 :: GF (dd ps) ps.length (ps.length - 1) 1 0) = zs) := ⟨_, Lib.hid rfl⟩
      rw [hT.out, hZ.out]
      clear hc k1 k2 k3 e1 e2 hn
      go_enter Try.func8, Try.ntmps8
      go_wp2_with fail
      refine (spotsCode_any _ ps 0 7 _ HV.out hl).mono ?_
      rw [HC.out]
      rintro e w2 ⟨rfl, hb⟩
      have HB := Lib.hid hb
      clear hb
      go_wp2_with fail
      refine (tourOf_any _ ps _ (pat_up (pat_keep HV.out HB.out) HB.out.size) (by omega) h0 K1.out).mono ?_
      rintro e w3 ⟨g, u, R, rfl, ht, hd, hs, hk, hb⟩
      have HB2 := Lib.hid (HB.out.trans (hb.mono HB.out.size))
      have HT := Lib.hid ht
      have HD := Lib.hid (dat_up hd (Nat.le_of_lt (tour_cell ht).1))
      have HS := Lib.hid hs
      have HK := Lib.hid hk
      clear ht hd hs hk hb
      go_wp2_with fail
      refine (firstShortest_any g u R ps w3 HT.out HD.out HS.out HK.out (by omega) h0).mono ?_
      rw [hT.out, hZ.out]
      rintro e w4 ⟨x, rfl, hr, hb⟩
      have HR := Lib.hid (irow_up hr HB2.out.size)
      have HB3 := Lib.hid (HB2.out.trans (hb.mono HB2.out.size))
      clear hr hb
      go_wp2
      exact bodyPost_ret (v := .tuple #[x, .int .i64 T, .int .i64 0]) (by simp [results, Try.results8, go_sem]) rfl ⟨_, rfl, HR.out, HB3.out⟩
  · obtain ⟨e1, e2⟩ := short_no (ps := ps) (fun k => hc k.1)
    rw [e1, e2]
    obtain ⟨C, HC⟩ : ∃ C, Hid (codeL ps 0 7 = C) := ⟨_, Lib.hid rfl⟩
    rw [HC.out] at hc ⊢
    have hc1 : (C != 0) = true := by simpa using hc
    clear hc e1 e2
    go_enter Try.func8, Try.ntmps8
    go_wp2_with fail
    refine (spotsCode_any _ ps 0 7 _ HV.out hl).mono ?_
    rw [HC.out]
    rintro e w2 ⟨rfl, hb⟩
    have HB := Lib.hid hb
    clear hb
    go_wp2
    exact bodyPost_ret (v := .tuple #[.slice none 0 0, .int .i64 0, .int .i64 C]) (by simp [results, Try.results8, go_sem]) rfl ⟨_, rfl, irow_nil _ _, HB.out⟩

end Go.Proofs.Ytkiimdfnobcdpaa.sines
