/- The first overlap, and filled rows: contracts of the program. -/
import Derived.Test.YtmfjpmimkpldjaaLabI7
namespace Go.Proofs.Ytmfjpmimkpldjaa.ltab
open Go.ChangeShapes Go.WideShapes Go.ChangeAt Go.RowKit Go.Shelf Go.Proofs.Ytmfjpmimkpldjaa.irows Go.Proofs.Ytmfjpmimkpldjaa.sines
attribute [local go_sem] Oper.semAt_some
set_option linter.unusedSimpArgs false
set_option linter.unusedVariables false

set_option maxRecDepth 100000 in
set_option maxHeartbeats 1000000 in
theorem implPlacesFault_any (v u : Value) (ps : List Lb) (zs : List Int) (w : World) (hv : LAt w w.heap.size v ps) (hu : IAt w w.heap.size u zs) (hl : ps.length ≤ 1048576) (hr : ∀ i, (hi : i < ps.length) → ps[i].2.2.1.length ≤ 1048576) (hz : zs.length ≤ 1048576) :
    Calls Try.prog 20 #[v, u] w fun e w' => e = .returned (.tuple #[.int .i64 (valPF ps zs), .int .i64 (codeK ps zs)]) ∧ Below w.heap.size w w' := by
  have VL := Lib.hid (implValidLabels_any v ps w hv hl hr)
  have AP := Lib.hid (fun W (h : Below w.heap.size w W) => arePlaces_any v u ps zs W (lat_up (lat_keep hv h) h.size) (iat_up (iat_keep hu h) h.size) hl hr hz)
  have CO := Lib.hid (fun W => codeOf_any (okL ps) (placesOk ps zs) W)
  rw [codeI] at CO
  have FF := Lib.hid (fun h1 h2 W (h : Below w.heap.size w W) => firstFault_any v u ps zs W (lat_up (lat_keep hv h) h.size) (iat_up (iat_keep hu h) h.size) h1 h2)
  obtain ⟨a, c, rfl, _⟩ := hv
  obtain ⟨au, cu, rfl, _⟩ := hu
  by_cases h0 : codeK ps zs = 0
  · obtain ⟨h1, h2⟩ := codeK_zero h0
    have FF2 := Lib.hid (FF.out h1 h2)
    have ZV := Lib.hid (show valPF ps zs = faultK ps zs by rw [valPF, if_pos h0])
    rw [ZV.out, h0]
    rw [h0] at CO
    generalize faultK ps zs = Z at FF2 ⊢
    generalize okL ps = o1 at VL CO
    generalize placesOk ps zs = o2 at AP CO
    clear FF ZV h1 h2 h0
    go_enter Try.func20, Try.ntmps20
    go_wp2_with fail
    refine VL.out.mono ?_
    rintro e w1 ⟨rfl, hb1⟩
    have B1 := Lib.hid hb1
    clear hb1
    go_wp2_with fail
    refine (AP.out w1 B1.out).mono ?_
    rintro e w2 ⟨rfl, rfl⟩
    go_wp2_with fail
    refine (CO.out _).mono ?_
    rintro e w3 ⟨rfl, rfl⟩
    go_wp2_with fail
    refine (FF2.out _ B1.out).mono ?_
    rintro e w4 ⟨rfl, hb⟩
    have B4 := Lib.hid (B1.out.trans (hb.mono B1.out.size))
    clear hb
    go_wp2
    exact bodyPost_ret (v := .tuple #[.int .i64 Z, .int .i64 0]) (by simp [results, Try.results20, go_sem]) rfl ⟨rfl, B4.out⟩
  · have ZV := Lib.hid (show valPF ps zs = 0 by rw [valPF, if_neg h0])
    rw [ZV.out]
    have hzz1 : decide (codeK ps zs = 0) = false := by simpa using h0
    have hzz2 : (codeK ps zs == 0) = false := by simpa using h0
    generalize codeK ps zs = C at h0 hzz1 hzz2 CO ⊢
    generalize okL ps = o1 at VL CO
    generalize placesOk ps zs = o2 at AP CO
    clear FF ZV
    go_enter Try.func20, Try.ntmps20
    go_wp2_with fail
    refine VL.out.mono ?_
    rintro e w1 ⟨rfl, hb1⟩
    have B1 := Lib.hid hb1
    clear hb1
    go_wp2_with fail
    refine (AP.out w1 B1.out).mono ?_
    rintro e w2 ⟨rfl, rfl⟩
    go_wp2_with fail
    refine (CO.out _).mono ?_
    rintro e w3 ⟨rfl, rfl⟩
    go_wp2
    exact bodyPost_ret (v := .tuple #[.int .i64 0, .int .i64 C]) (by simp [results, Try.results20, go_sem]) rfl ⟨rfl, B1.out⟩
end Go.Proofs.Ytmfjpmimkpldjaa.ltab
