/- FnMaps answers true for every list of bytes. -/
import Derived.Test.YtemhmejjmhbfdaaPlatesI
import Derived.Test.YtemhmejjmhbfdaaMDrawL
import Derived.Test.YtemhmejjmhbfdaaF6
import Derived.Test.YtemhmejjmhbfdaaFlats
namespace Go.Proofs.Ytemhmejjmhbfdaa.maps
open Go.ChangeShapes Go.WideShapes Go.ChangeAt Go.RowKit Go.Proofs.Ytemhmejjmhbfdaa.spots Go.Proofs.Ytemhmejjmhbfdaa.sines Go.Proofs.Ytemhmejjmhbfdaa.src Go.Proofs.Ytemhmejjmhbfdaa.a2 Go.Proofs.Ytemhmejjmhbfdaa.irows Go.Proofs.Ytemhmejjmhbfdaa.pairs Go.Proofs.Ytemhmejjmhbfdaa.flats
set_option linter.unusedSimpArgs false
set_option linter.unusedVariables false

def BoxAt (W : World) (n : Nat) (x y : Int) : Prop := W.cell? ⟨n, 0, none⟩ = some (.int .i64 x) ∧ W.cell? ⟨n, 1, none⟩ = some (.int .i64 y) ∧ n < W.heap.size
theorem box_keep {W W' : World} {n : Nat} {x y : Int} (h : BoxAt W n x y) (hb : Below W.heap.size W W') : BoxAt W' n x y := keepF hb h.2.2 h.1 h.2.1
theorem boxes_laid (W : World) (x y z t : Int) (T : TypeId) : Below W.heap.size W ((W.alloc (.cells #[.int .i64 x, .int .i64 y] T)).alloc (.cells #[.int .i64 z, .int .i64 t] T)) ∧ BoxAt ((W.alloc (.cells #[.int .i64 x, .int .i64 y] T)).alloc (.cells #[.int .i64 z, .int .i64 t] T)) W.heap.size x y ∧ BoxAt ((W.alloc (.cells #[.int .i64 x, .int .i64 y] T)).alloc (.cells #[.int .i64 z, .int .i64 t] T)) (W.heap.size + 1) z t := by
  obtain ⟨a1, a2, a4, a3⟩ := newF W (.int .i64 x) (.int .i64 y) T
  obtain ⟨b1, b2, b4, b3⟩ := newF (W.alloc (.cells #[.int .i64 x, .int .i64 y] T)) (.int .i64 z) (.int .i64 t) T
  obtain ⟨c1, c2, c4⟩ := keepF b3 a4 a1 a2
  have e : (W.alloc (.cells #[.int .i64 x, .int .i64 y] T)).heap.size = W.heap.size + 1 := by simp
  rw [e] at b1 b2 b4
  exact ⟨a3.trans (b3.mono a3.size), ⟨c1, c2, c4⟩, ⟨b1, b2, b4⟩⟩
theorem box_laid (W : World) (x y : Int) (T : TypeId) : Below W.heap.size W (W.alloc (.cells #[.int .i64 x, .int .i64 y] T)) ∧ BoxAt (W.alloc (.cells #[.int .i64 x, .int .i64 y] T)) W.heap.size x y := by
  obtain ⟨a1, a2, a4, a3⟩ := newF W (.int .i64 x) (.int .i64 y) T
  exact ⟨a3, a1, a2, a4⟩
theorem absI_maxM (n : Int) : absI n = max n (-n) := by unfold absI; split <;> omega
/-- A place that is read on a plate and drawn again. -/
theorem back_facts {x y t : Int} (h : codeB8 x y t = 0) : codeS8 (y * t) (x * t) t = 0 ∧ near (x * t) t = x ∧ near (y * t) t = y := by
  have hf : codeF8 x y t = 0 := by
    unfold codeB8 at h
    split at h
    · assumption
    · assumption
  obtain ⟨s0, s1, _⟩ := codeF8_of hf
  have hk : okB (y * t) (x * t) = true := by
    unfold codeB8 at h
    rw [if_pos hf] at h
    split at h
    · assumption
    · omega
  refine ⟨?_, near_exact x (by omega), near_exact y (by omega)⟩
  have hi : inB t 1 100000 = true := by simp [inB]; omega
  simp [codeS8, hk, hi]
/-- What is asked of a place of both maps. -/
theorem plate_facts {p q s : Int} (h : codeS8 p q s = 0) : absI (near p s * s - p) ≤ s ∧ absI (near q s * s - q) ≤ s ∧ absI (waX p q s) ≤ absI (near q s) + 1 ∧ absI (near q s) ≤ 648000 ∧ -400000 ≤ near p s * s ∧ near p s * s ≤ 400000 ∧ -700000 ≤ near q s * s ∧ near q s * s ≤ 700000 ∧ -324000 ≤ p ∧ p ≤ 324000 ∧ -648000 ≤ q ∧ q ≤ 648000 ∧ -648000 ≤ waX p q s ∧ waX p q s ≤ 648000 ∧ -648000 ≤ near q s ∧ near q s ≤ 648000 := by
  obtain ⟨k, s0, s1⟩ := codeS8_of h
  obtain ⟨h1, h2, h3, h4⟩ := okB_of k
  obtain ⟨a1, a2⟩ := near_half p (show 0 < s by omega)
  obtain ⟨b1, b2⟩ := near_half q (show 0 < s by omega)
  obtain ⟨c1, c2, c3, c4⟩ := plate_bounds (n := p) (N := 324000) h1 h2 (by omega) s0 s1
  obtain ⟨d1, d2, d3, d4⟩ := plate_bounds (n := q) (N := 648000) h3 (by omega) (by omega) s0 s1
  obtain ⟨e1, e2, _⟩ := waX_bounds k s0 s1
  obtain ⟨f1, f2⟩ := wave_plate k s0
  rw [absI_maxM, absI_maxM, absI_maxM, absI_maxM]
  by_cases h0 : 0 ≤ q
  · have := f1 h0; omega
  · have := f2 (by omega); omega
set_option maxRecDepth 100000 in
set_option maxHeartbeats 16000000 in
theorem walk (a0 : Option Addr) (l0 c0 : Nat) (z0 : List Int) (w : World) (r0 : IsRow .u8 w a0 l0 c0 z0) :
    Calls Try.prog 3 #[.slice a0 l0 c0] w fun e w' => e = .returned (.bool true) ∧ Below w.heap.size w w' := by
  have hl0 := row_len r0
  by_cases hlong : 4096 < l0
  · have hd : decide (4096 < l0) = true := decide_eq_true hlong
    clear r0 hlong
    go_enter Try.func3, Try.ntmps3
    go_wp2_with fail
    refine (f6big_any _ _ _ _ hl0).mono ?_
    rw [hd]
    rintro e w' ⟨rfl, rfl⟩
    go_wp2
    go_ret
    exact ⟨rfl, Below.refl _ _⟩
  have hd : decide (4096 < l0) = false := decide_eq_false hlong
  have B0 := Lib.hid (bytes_of r0 (by omega) (fun b o v h => World.block_lt_of_cell? _ _ h))
  have HB0 := Lib.hid (Below.refl w.heap.size w)
  clear r0
  go_enter Try.func3, Try.ntmps3
  go_wp2_with fail
  refine (f6big_any _ _ _ _ hl0).mono ?_
  rw [hd]
  rintro e w' ⟨rfl, rfl⟩
  clear hl0 hlong hd
  go_wp2_with fail
  refine (DrawPlateOf_any w a0 l0 c0 (bytes_up B0.out HB0.out)).mono ?_
  rintro e w1 ⟨p, q, s, rfl, hb⟩
  have HB1 := Lib.hid (HB0.out.trans (hb.mono HB0.out.size))
  clear hb
  obtain ⟨F0, HF0⟩ : ∃ v, Hid ((if codeS8 p q s = 0 then near q s else 0) = v) := ⟨_, Lib.hid rfl⟩
  obtain ⟨F1, HF1⟩ : ∃ v, Hid ((if codeS8 p q s = 0 then near p s else 0) = v) := ⟨_, Lib.hid rfl⟩
  obtain ⟨G0, HG0⟩ : ∃ v, Hid ((if codeS8 p q s = 0 then waX p q s else 0) = v) := ⟨_, Lib.hid rfl⟩
  obtain ⟨C0, HC0⟩ : ∃ v, Hid (codeS8 p q s = v) := ⟨_, Lib.hid rfl⟩
  obtain ⟨hb, x1⟩ := box_laid w1 p q 25
  have HB2 := Lib.hid (HB1.out.trans (hb.mono HB1.out.size))
  have X1 := Lib.hid x1
  clear hb x1
  obtain ⟨pP1, pP2, _⟩ := X1.out
  go_wp2_with fail
  generalize w1.alloc (.cells #[.int .i64 p, .int .i64 q] 25) = w2 at *
  clear pP1 pP2
  refine (implPlateOf_any p q s w2).mono ?_
  rw [HF0.out]
  rw [HF1.out]
  rw [HC0.out]
  rintro e w3 ⟨rfl, hb⟩
  have HB3 := Lib.hid (HB2.out.trans (hb.mono HB2.out.size))
  have X2 := Lib.hid (box_keep X1.out hb)
  clear hb
  obtain ⟨hb, x1⟩ := box_laid w3 F0 F1 29
  have HB4 := Lib.hid (HB3.out.trans (hb.mono HB3.out.size))
  have X3 := Lib.hid (box_keep X2.out hb)
  have X4 := Lib.hid x1
  clear hb x1
  obtain ⟨pP1, pP2, _⟩ := X3.out
  go_wp2_with fail
  generalize w3.alloc (.cells #[.int .i64 F0, .int .i64 F1] 29) = w4 at *
  clear pP1 pP2
  refine (specPlateOf_any p q s w4).mono ?_
  rw [HF0.out]
  rw [HF1.out]
  rw [HC0.out]
  rintro e w5 ⟨rfl, hb⟩
  have HB5 := Lib.hid (HB4.out.trans (hb.mono HB4.out.size))
  have X5 := Lib.hid (box_keep X3.out hb)
  have X6 := Lib.hid (box_keep X4.out hb)
  clear hb
  obtain ⟨hb, x1⟩ := box_laid w5 F0 F1 29
  have HB6 := Lib.hid (HB5.out.trans (hb.mono HB5.out.size))
  have X7 := Lib.hid (box_keep X5.out hb)
  have X8 := Lib.hid (box_keep X6.out hb)
  have X9 := Lib.hid x1
  clear hb x1
  obtain ⟨pP1, pP2, _⟩ := X7.out
  go_wp2_with fail
  generalize w5.alloc (.cells #[.int .i64 F0, .int .i64 F1] 29) = w6 at *
  clear pP1 pP2
  refine (implWaveOf_any p q s w6).mono ?_
  rw [HG0.out]
  rw [HF1.out]
  rw [HC0.out]
  rintro e w7 ⟨rfl, hb⟩
  have HB7 := Lib.hid (HB6.out.trans (hb.mono HB6.out.size))
  have X10 := Lib.hid (box_keep X7.out hb)
  have X11 := Lib.hid (box_keep X8.out hb)
  have X12 := Lib.hid (box_keep X9.out hb)
  clear hb
  obtain ⟨hb, x1⟩ := box_laid w7 G0 F1 29
  have HB8 := Lib.hid (HB7.out.trans (hb.mono HB7.out.size))
  have X13 := Lib.hid (box_keep X10.out hb)
  have X14 := Lib.hid (box_keep X11.out hb)
  have X15 := Lib.hid (box_keep X12.out hb)
  have X16 := Lib.hid x1
  clear hb x1
  obtain ⟨pP1, pP2, _⟩ := X13.out
  go_wp2_with fail
  generalize w7.alloc (.cells #[.int .i64 G0, .int .i64 F1] 29) = w8 at *
  clear pP1 pP2
  refine (specWaveOf_any p q s w8).mono ?_
  rw [HG0.out]
  rw [HF1.out]
  rw [HC0.out]
  rintro e w9 ⟨rfl, hb⟩
  have HB9 := Lib.hid (HB8.out.trans (hb.mono HB8.out.size))
  have X17 := Lib.hid (box_keep X13.out hb)
  have X18 := Lib.hid (box_keep X14.out hb)
  have X19 := Lib.hid (box_keep X15.out hb)
  have X20 := Lib.hid (box_keep X16.out hb)
  clear hb
  obtain ⟨hb, x1⟩ := box_laid w9 G0 F1 29
  have HB10 := Lib.hid (HB9.out.trans (hb.mono HB9.out.size))
  have X21 := Lib.hid (box_keep X17.out hb)
  have X22 := Lib.hid (box_keep X18.out hb)
  have X23 := Lib.hid (box_keep X19.out hb)
  have X24 := Lib.hid (box_keep X20.out hb)
  have X25 := Lib.hid x1
  clear hb x1
  go_wp2_with fail
  generalize w9.alloc (.cells #[.int .i64 G0, .int .i64 F1] 29) = w10 at *
  refine (DrawPlateBack_any w10 a0 l0 c0 (bytes_up B0.out HB10.out)).mono ?_
  rintro e w11 ⟨x, y, t, rfl, hb⟩
  have HB11 := Lib.hid (HB10.out.trans (hb.mono HB10.out.size))
  have X26 := Lib.hid (box_keep X21.out hb)
  have X27 := Lib.hid (box_keep X22.out hb)
  have X28 := Lib.hid (box_keep X23.out hb)
  have X29 := Lib.hid (box_keep X24.out hb)
  have X30 := Lib.hid (box_keep X25.out hb)
  clear hb
  obtain ⟨S0, HS0⟩ : ∃ v, Hid ((if codeB8 x y t = 0 then y * t else 0) = v) := ⟨_, Lib.hid rfl⟩
  obtain ⟨S1, HS1⟩ : ∃ v, Hid ((if codeB8 x y t = 0 then x * t else 0) = v) := ⟨_, Lib.hid rfl⟩
  obtain ⟨C3, HC3⟩ : ∃ v, Hid (codeB8 x y t = v) := ⟨_, Lib.hid rfl⟩
  obtain ⟨O0, HO0⟩ : ∃ v, Hid ((if codeW8 x y t = 0 then wbLat y t else 0) = v) := ⟨_, Lib.hid rfl⟩
  obtain ⟨O1, HO1⟩ : ∃ v, Hid ((if codeW8 x y t = 0 then wbLon x y t else 0) = v) := ⟨_, Lib.hid rfl⟩
  obtain ⟨C5, HC5⟩ : ∃ v, Hid (codeW8 x y t = v) := ⟨_, Lib.hid rfl⟩
  obtain ⟨hb, x1⟩ := box_laid w11 x y 29
  have HB12 := Lib.hid (HB11.out.trans (hb.mono HB11.out.size))
  have X31 := Lib.hid (box_keep X26.out hb)
  have X32 := Lib.hid (box_keep X27.out hb)
  have X33 := Lib.hid (box_keep X28.out hb)
  have X34 := Lib.hid (box_keep X29.out hb)
  have X35 := Lib.hid (box_keep X30.out hb)
  have X36 := Lib.hid x1
  clear hb x1
  obtain ⟨pA1, pA2, _⟩ := X36.out
  go_wp2_with fail
  generalize w11.alloc (.cells #[.int .i64 x, .int .i64 y] 29) = w12 at *
  clear pA1 pA2
  refine (implPlateBack_any x y t w12).mono ?_
  rw [HS0.out]
  rw [HS1.out]
  rw [HC3.out]
  rintro e w13 ⟨rfl, hb⟩
  have HB13 := Lib.hid (HB12.out.trans (hb.mono HB12.out.size))
  have X37 := Lib.hid (box_keep X31.out hb)
  have X38 := Lib.hid (box_keep X32.out hb)
  have X39 := Lib.hid (box_keep X33.out hb)
  have X40 := Lib.hid (box_keep X34.out hb)
  have X41 := Lib.hid (box_keep X35.out hb)
  have X42 := Lib.hid (box_keep X36.out hb)
  clear hb
  obtain ⟨hb, x1⟩ := box_laid w13 S0 S1 25
  have HB14 := Lib.hid (HB13.out.trans (hb.mono HB13.out.size))
  have X43 := Lib.hid (box_keep X37.out hb)
  have X44 := Lib.hid (box_keep X38.out hb)
  have X45 := Lib.hid (box_keep X39.out hb)
  have X46 := Lib.hid (box_keep X40.out hb)
  have X47 := Lib.hid (box_keep X41.out hb)
  have X48 := Lib.hid (box_keep X42.out hb)
  have X49 := Lib.hid x1
  clear hb x1
  obtain ⟨pA1, pA2, _⟩ := X48.out
  go_wp2_with fail
  generalize w13.alloc (.cells #[.int .i64 S0, .int .i64 S1] 25) = w14 at *
  clear pA1 pA2
  refine (specPlateBack_any x y t w14).mono ?_
  rw [HS0.out]
  rw [HS1.out]
  rw [HC3.out]
  rintro e w15 ⟨rfl, hb⟩
  have HB15 := Lib.hid (HB14.out.trans (hb.mono HB14.out.size))
  have X50 := Lib.hid (box_keep X43.out hb)
  have X51 := Lib.hid (box_keep X44.out hb)
  have X52 := Lib.hid (box_keep X45.out hb)
  have X53 := Lib.hid (box_keep X46.out hb)
  have X54 := Lib.hid (box_keep X47.out hb)
  have X55 := Lib.hid (box_keep X48.out hb)
  have X56 := Lib.hid (box_keep X49.out hb)
  clear hb
  obtain ⟨hb, x1⟩ := box_laid w15 S0 S1 25
  have HB16 := Lib.hid (HB15.out.trans (hb.mono HB15.out.size))
  have X57 := Lib.hid (box_keep X50.out hb)
  have X58 := Lib.hid (box_keep X51.out hb)
  have X59 := Lib.hid (box_keep X52.out hb)
  have X60 := Lib.hid (box_keep X53.out hb)
  have X61 := Lib.hid (box_keep X54.out hb)
  have X62 := Lib.hid (box_keep X55.out hb)
  have X63 := Lib.hid (box_keep X56.out hb)
  have X64 := Lib.hid x1
  clear hb x1
  obtain ⟨pA1, pA2, _⟩ := X62.out
  go_wp2_with fail
  generalize w15.alloc (.cells #[.int .i64 S0, .int .i64 S1] 25) = w16 at *
  clear pA1 pA2
  refine (implWaveBack_any x y t w16).mono ?_
  rw [HO0.out]
  rw [HO1.out]
  rw [HC5.out]
  rintro e w17 ⟨rfl, hb⟩
  have HB17 := Lib.hid (HB16.out.trans (hb.mono HB16.out.size))
  have X65 := Lib.hid (box_keep X57.out hb)
  have X66 := Lib.hid (box_keep X58.out hb)
  have X67 := Lib.hid (box_keep X59.out hb)
  have X68 := Lib.hid (box_keep X60.out hb)
  have X69 := Lib.hid (box_keep X61.out hb)
  have X70 := Lib.hid (box_keep X62.out hb)
  have X71 := Lib.hid (box_keep X63.out hb)
  have X72 := Lib.hid (box_keep X64.out hb)
  clear hb
  obtain ⟨hb, x1⟩ := box_laid w17 O0 O1 25
  have HB18 := Lib.hid (HB17.out.trans (hb.mono HB17.out.size))
  have X73 := Lib.hid (box_keep X65.out hb)
  have X74 := Lib.hid (box_keep X66.out hb)
  have X75 := Lib.hid (box_keep X67.out hb)
  have X76 := Lib.hid (box_keep X68.out hb)
  have X77 := Lib.hid (box_keep X69.out hb)
  have X78 := Lib.hid (box_keep X70.out hb)
  have X79 := Lib.hid (box_keep X71.out hb)
  have X80 := Lib.hid (box_keep X72.out hb)
  have X81 := Lib.hid x1
  clear hb x1
  obtain ⟨pA1, pA2, _⟩ := X78.out
  go_wp2_with fail
  generalize w17.alloc (.cells #[.int .i64 O0, .int .i64 O1] 25) = w18 at *
  clear pA1 pA2
  refine (specWaveBack_any x y t w18).mono ?_
  rw [HO0.out]
  rw [HO1.out]
  rw [HC5.out]
  rintro e w19 ⟨rfl, hb⟩
  have HB19 := Lib.hid (HB18.out.trans (hb.mono HB18.out.size))
  have X82 := Lib.hid (box_keep X73.out hb)
  have X83 := Lib.hid (box_keep X74.out hb)
  have X84 := Lib.hid (box_keep X75.out hb)
  have X85 := Lib.hid (box_keep X76.out hb)
  have X86 := Lib.hid (box_keep X77.out hb)
  have X87 := Lib.hid (box_keep X78.out hb)
  have X88 := Lib.hid (box_keep X79.out hb)
  have X89 := Lib.hid (box_keep X80.out hb)
  have X90 := Lib.hid (box_keep X81.out hb)
  clear hb
  obtain ⟨hb, x1⟩ := box_laid w19 O0 O1 25
  have HB20 := Lib.hid (HB19.out.trans (hb.mono HB19.out.size))
  have X91 := Lib.hid (box_keep X82.out hb)
  have X92 := Lib.hid (box_keep X83.out hb)
  have X93 := Lib.hid (box_keep X84.out hb)
  have X94 := Lib.hid (box_keep X85.out hb)
  have X95 := Lib.hid (box_keep X86.out hb)
  have X96 := Lib.hid (box_keep X87.out hb)
  have X97 := Lib.hid (box_keep X88.out hb)
  have X98 := Lib.hid (box_keep X89.out hb)
  have X99 := Lib.hid (box_keep X90.out hb)
  have X100 := Lib.hid x1
  clear hb x1
  go_wp2_with fail
  generalize w19.alloc (.cells #[.int .i64 O0, .int .i64 O1] 25) = w20 at *
  refine (DrawFlatBox_any w20 a0 l0 c0 (bytes_up B0.out HB20.out)).mono ?_
  rintro e w21 ⟨u, ps, fs, fw, rfl, hpl, hr, hb⟩
  have HB21 := Lib.hid (HB20.out.trans (hb.mono HB20.out.size))
  have X101 := Lib.hid (box_keep X91.out hb)
  have X102 := Lib.hid (box_keep X92.out hb)
  have X103 := Lib.hid (box_keep X93.out hb)
  have X104 := Lib.hid (box_keep X94.out hb)
  have X105 := Lib.hid (box_keep X95.out hb)
  have X106 := Lib.hid (box_keep X96.out hb)
  have X107 := Lib.hid (box_keep X97.out hb)
  have X108 := Lib.hid (box_keep X98.out hb)
  have X109 := Lib.hid (box_keep X99.out hb)
  have X110 := Lib.hid (box_keep X100.out hb)
  clear hb
  have R0 := Lib.hid hr
  have HPL := Lib.hid hpl
  clear hr hpl
  have hpl2 : ps.length ≤ 1048576 := by have := HPL.out; omega
  obtain ⟨M0, HM0⟩ : ∃ v, Hid (boxV ps fs (minN (fX ps fs fw) (ps.length - 1)) = v) := ⟨_, Lib.hid rfl⟩
  obtain ⟨M1, HM1⟩ : ∃ v, Hid (boxV ps fs (minN (fY ps fs) (ps.length - 1)) = v) := ⟨_, Lib.hid rfl⟩
  obtain ⟨M2, HM2⟩ : ∃ v, Hid (boxV ps fs (maxN (fX ps fs fw) (ps.length - 1)) = v) := ⟨_, Lib.hid rfl⟩
  obtain ⟨M3, HM3⟩ : ∃ v, Hid (boxV ps fs (maxN (fY ps fs) (ps.length - 1)) = v) := ⟨_, Lib.hid rfl⟩
  obtain ⟨C7, HC7⟩ : ∃ v, Hid (codeFB ps fs = v) := ⟨_, Lib.hid rfl⟩
  go_wp2_with fail
  refine (implFlatBox_any u ps fs fw w21 R0.out hpl2).mono ?_
  rw [HM0.out]
  rw [HM1.out]
  rw [HM2.out]
  rw [HM3.out]
  rw [HC7.out]
  rintro e w22 ⟨rfl, hb⟩
  have HB22 := Lib.hid (HB21.out.trans (hb.mono HB21.out.size))
  have X111 := Lib.hid (box_keep X101.out hb)
  have X112 := Lib.hid (box_keep X102.out hb)
  have X113 := Lib.hid (box_keep X103.out hb)
  have X114 := Lib.hid (box_keep X104.out hb)
  have X115 := Lib.hid (box_keep X105.out hb)
  have X116 := Lib.hid (box_keep X106.out hb)
  have X117 := Lib.hid (box_keep X107.out hb)
  have X118 := Lib.hid (box_keep X108.out hb)
  have X119 := Lib.hid (box_keep X109.out hb)
  have X120 := Lib.hid (box_keep X110.out hb)
  have R121 := Lib.hid (prow_keep R0.out hb)
  clear hb
  obtain ⟨hb, x1, x2⟩ := boxes_laid w22 M0 M1 M2 M3 29
  have HB23 := Lib.hid (HB22.out.trans (hb.mono HB22.out.size))
  have X122 := Lib.hid (box_keep X111.out hb)
  have X123 := Lib.hid (box_keep X112.out hb)
  have X124 := Lib.hid (box_keep X113.out hb)
  have X125 := Lib.hid (box_keep X114.out hb)
  have X126 := Lib.hid (box_keep X115.out hb)
  have X127 := Lib.hid (box_keep X116.out hb)
  have X128 := Lib.hid (box_keep X117.out hb)
  have X129 := Lib.hid (box_keep X118.out hb)
  have X130 := Lib.hid (box_keep X119.out hb)
  have X131 := Lib.hid (box_keep X120.out hb)
  have R132 := Lib.hid (prow_keep R121.out hb)
  have X133 := Lib.hid x1
  have X134 := Lib.hid x2
  clear hb x1 x2
  go_wp2_with fail
  generalize ((w22.alloc (.cells #[.int .i64 M0, .int .i64 M1] 29)).alloc (.cells #[.int .i64 M2, .int .i64 M3] 29)) = w23 at *
  refine (specFlatBox_any u ps fs fw w23 (prow_at R132.out) hpl2).mono ?_
  rw [HM0.out]
  rw [HM1.out]
  rw [HM2.out]
  rw [HM3.out]
  rw [HC7.out]
  rintro e w24 ⟨rfl, hb⟩
  have HB24 := Lib.hid (HB23.out.trans (hb.mono HB23.out.size))
  have X135 := Lib.hid (box_keep X122.out hb)
  have X136 := Lib.hid (box_keep X123.out hb)
  have X137 := Lib.hid (box_keep X124.out hb)
  have X138 := Lib.hid (box_keep X125.out hb)
  have X139 := Lib.hid (box_keep X126.out hb)
  have X140 := Lib.hid (box_keep X127.out hb)
  have X141 := Lib.hid (box_keep X128.out hb)
  have X142 := Lib.hid (box_keep X129.out hb)
  have X143 := Lib.hid (box_keep X130.out hb)
  have X144 := Lib.hid (box_keep X131.out hb)
  have X145 := Lib.hid (box_keep X133.out hb)
  have X146 := Lib.hid (box_keep X134.out hb)
  have R147 := Lib.hid (prow_keep R132.out hb)
  clear hb
  obtain ⟨hb, x1, x2⟩ := boxes_laid w24 M0 M1 M2 M3 29
  have HB25 := Lib.hid (HB24.out.trans (hb.mono HB24.out.size))
  have X148 := Lib.hid (box_keep X135.out hb)
  have X149 := Lib.hid (box_keep X136.out hb)
  have X150 := Lib.hid (box_keep X137.out hb)
  have X151 := Lib.hid (box_keep X138.out hb)
  have X152 := Lib.hid (box_keep X139.out hb)
  have X153 := Lib.hid (box_keep X140.out hb)
  have X154 := Lib.hid (box_keep X141.out hb)
  have X155 := Lib.hid (box_keep X142.out hb)
  have X156 := Lib.hid (box_keep X143.out hb)
  have X157 := Lib.hid (box_keep X144.out hb)
  have X158 := Lib.hid (box_keep X145.out hb)
  have X159 := Lib.hid (box_keep X146.out hb)
  have R160 := Lib.hid (prow_keep R147.out hb)
  have X161 := Lib.hid x1
  have X162 := Lib.hid x2
  clear hb x1 x2
  go_wp2_with fail
  generalize ((w24.alloc (.cells #[.int .i64 M0, .int .i64 M1] 29)).alloc (.cells #[.int .i64 M2, .int .i64 M3] 29)) = w25 at *
  refine (DrawOnMap_any w25 a0 l0 c0 (bytes_up B0.out HB25.out)).mono ?_
  rintro e w26 ⟨mx, my, ms, mw, rfl, hb⟩
  have HB26 := Lib.hid (HB25.out.trans (hb.mono HB25.out.size))
  have X163 := Lib.hid (box_keep X148.out hb)
  have X164 := Lib.hid (box_keep X149.out hb)
  have X165 := Lib.hid (box_keep X150.out hb)
  have X166 := Lib.hid (box_keep X151.out hb)
  have X167 := Lib.hid (box_keep X152.out hb)
  have X168 := Lib.hid (box_keep X153.out hb)
  have X169 := Lib.hid (box_keep X154.out hb)
  have X170 := Lib.hid (box_keep X155.out hb)
  have X171 := Lib.hid (box_keep X156.out hb)
  have X172 := Lib.hid (box_keep X157.out hb)
  have X173 := Lib.hid (box_keep X158.out hb)
  have X174 := Lib.hid (box_keep X159.out hb)
  have X175 := Lib.hid (box_keep X161.out hb)
  have X176 := Lib.hid (box_keep X162.out hb)
  clear hb
  obtain ⟨N0, HN0⟩ : ∃ v, Hid (onV mx my ms mw = v) := ⟨_, Lib.hid rfl⟩
  obtain ⟨C9, HC9⟩ : ∃ v, Hid (codeF8 mx my ms = v) := ⟨_, Lib.hid rfl⟩
  obtain ⟨hb, x1⟩ := box_laid w26 mx my 29
  have HB27 := Lib.hid (HB26.out.trans (hb.mono HB26.out.size))
  have X177 := Lib.hid (box_keep X163.out hb)
  have X178 := Lib.hid (box_keep X164.out hb)
  have X179 := Lib.hid (box_keep X165.out hb)
  have X180 := Lib.hid (box_keep X166.out hb)
  have X181 := Lib.hid (box_keep X167.out hb)
  have X182 := Lib.hid (box_keep X168.out hb)
  have X183 := Lib.hid (box_keep X169.out hb)
  have X184 := Lib.hid (box_keep X170.out hb)
  have X185 := Lib.hid (box_keep X171.out hb)
  have X186 := Lib.hid (box_keep X172.out hb)
  have X187 := Lib.hid (box_keep X173.out hb)
  have X188 := Lib.hid (box_keep X174.out hb)
  have X189 := Lib.hid (box_keep X175.out hb)
  have X190 := Lib.hid (box_keep X176.out hb)
  have X191 := Lib.hid x1
  clear hb x1
  obtain ⟨pZ1, pZ2, _⟩ := X191.out
  go_wp2_with fail
  generalize w26.alloc (.cells #[.int .i64 mx, .int .i64 my] 29) = w27 at *
  clear pZ1 pZ2
  refine (implOnMap_any mx my ms mw w27).mono ?_
  rw [HN0.out]
  rw [HC9.out]
  rintro e w28 ⟨rfl, hb⟩
  have HB28 := Lib.hid (HB27.out.trans (hb.mono HB27.out.size))
  have X192 := Lib.hid (box_keep X177.out hb)
  have X193 := Lib.hid (box_keep X178.out hb)
  have X194 := Lib.hid (box_keep X179.out hb)
  have X195 := Lib.hid (box_keep X180.out hb)
  have X196 := Lib.hid (box_keep X181.out hb)
  have X197 := Lib.hid (box_keep X182.out hb)
  have X198 := Lib.hid (box_keep X183.out hb)
  have X199 := Lib.hid (box_keep X184.out hb)
  have X200 := Lib.hid (box_keep X185.out hb)
  have X201 := Lib.hid (box_keep X186.out hb)
  have X202 := Lib.hid (box_keep X187.out hb)
  have X203 := Lib.hid (box_keep X188.out hb)
  have X204 := Lib.hid (box_keep X189.out hb)
  have X205 := Lib.hid (box_keep X190.out hb)
  have X206 := Lib.hid (box_keep X191.out hb)
  clear hb
  obtain ⟨pZ1, pZ2, _⟩ := X206.out
  go_wp2_with fail
  clear pZ1 pZ2
  refine (specOnMap_any mx my ms mw w28).mono ?_
  rw [HN0.out]
  rw [HC9.out]
  rintro e w29 ⟨rfl, hb⟩
  have HB29 := Lib.hid (HB28.out.trans (hb.mono HB28.out.size))
  have X207 := Lib.hid (box_keep X192.out hb)
  have X208 := Lib.hid (box_keep X193.out hb)
  have X209 := Lib.hid (box_keep X194.out hb)
  have X210 := Lib.hid (box_keep X195.out hb)
  have X211 := Lib.hid (box_keep X196.out hb)
  have X212 := Lib.hid (box_keep X197.out hb)
  have X213 := Lib.hid (box_keep X198.out hb)
  have X214 := Lib.hid (box_keep X199.out hb)
  have X215 := Lib.hid (box_keep X200.out hb)
  have X216 := Lib.hid (box_keep X201.out hb)
  have X217 := Lib.hid (box_keep X202.out hb)
  have X218 := Lib.hid (box_keep X203.out hb)
  have X219 := Lib.hid (box_keep X204.out hb)
  have X220 := Lib.hid (box_keep X205.out hb)
  have X221 := Lib.hid (box_keep X206.out hb)
  clear hb
  have BF := Lib.hid (show C3 = 0 → codeS8 S0 S1 t = 0 ∧ near S1 t = x ∧ near S0 t = y from fun h => by
    have h2 : codeB8 x y t = 0 := by rw [HC3.out]; exact h
    rw [← HS0.out, ← HS1.out, if_pos h2, if_pos h2]
    exact back_facts h2)
  have MF := Lib.hid (show decide (M2 < M0) = false ∧ decide (M3 < M1) = false from by
    have a1 := min_le_max (fX ps fs fw) (ps.length - 1)
    have a2 := min_le_max (fY ps fs) (ps.length - 1)
    rw [← HM0.out, ← HM1.out, ← HM2.out, ← HM3.out]
    by_cases hc : codeFB ps fs = 0
    · simp only [boxV, hc, if_true, decide_eq_false_iff_not]; omega
    · simp only [boxV, hc, if_false, decide_eq_false_iff_not]; omega)
  obtain ⟨mf1, mf2⟩ := MF.out
  have PF := Lib.hid (show C0 = 0 → absI (F1 * s - p) ≤ s ∧ absI (F0 * s - q) ≤ s ∧ absI G0 ≤ absI F0 + 1 ∧ absI F0 ≤ 648000 ∧ -400000 ≤ F1 * s ∧ F1 * s ≤ 400000 ∧ -700000 ≤ F0 * s ∧ F0 * s ≤ 700000 ∧ -324000 ≤ p ∧ p ≤ 324000 ∧ -648000 ≤ q ∧ q ≤ 648000 ∧ -648000 ≤ G0 ∧ G0 ≤ 648000 ∧ -648000 ≤ F0 ∧ F0 ≤ 648000 from fun h => by
    have h2 : codeS8 p q s = 0 := by rw [HC0.out]; exact h
    rw [← HF0.out, ← HF1.out, ← HG0.out, if_pos h2, if_pos h2, if_pos h2]
    exact plate_facts h2)
  obtain ⟨pF1, pF2, _⟩ := X208.out
  obtain ⟨pL1, pL2, _⟩ := X209.out
  obtain ⟨pG1, pG2, _⟩ := X210.out
  obtain ⟨pV1, pV2, _⟩ := X211.out
  obtain ⟨pQ1, pQ2, _⟩ := X213.out
  obtain ⟨pS1, pS2, _⟩ := X214.out
  obtain ⟨pR1, pR2, _⟩ := X215.out
  obtain ⟨pO1, pO2, _⟩ := X216.out
  obtain ⟨pW1, pW2, _⟩ := X217.out
  obtain ⟨pE1, pE2, _⟩ := X219.out
  obtain ⟨pH1, pH2, _⟩ := X218.out
  obtain ⟨pT1, pT2, _⟩ := X220.out
  obtain ⟨pA1, pA2, _⟩ := X212.out
  obtain ⟨pP1, pP2, _⟩ := X207.out
  clear HF0 HF1 HG0 HC0 HS0 HS1 HC3 HO0 HO1 HC5 HM0 HM1 HM2 HM3 HC7 HN0 HC9 MF
  have c7 : (C7 == 0) = true ∨ (C7 == 0) = false := by cases (C7 == 0) <;> simp
  by_cases c3 : C3 = 0
  · obtain ⟨e1, e2, e3⟩ := BF.out c3
    have c3e : (C3 == 0) = true := by simp [c3]
    have IP := Lib.hid (fun W => implPlateOf_any S0 S1 t W)
    rw [if_pos e1, if_pos e1, e1, e2, e3] at IP
    go_wp2_with fail
    refine (IP.out _).mono ?_
    rintro e wn ⟨rfl, hb⟩
    obtain ⟨hb2, xx⟩ := box_laid wn x y 29
    have hbb := hb.trans (hb2.mono hb.size)
    have HBN := Lib.hid (HB29.out.trans (hbb.mono HB29.out.size))
    have YL := box_keep X209.out hbb
    have YV := box_keep X211.out hbb
    have YE := box_keep X219.out hbb
    have YT := box_keep X220.out hbb
    have YA := box_keep X212.out hbb
    have YP := box_keep X207.out hbb
    clear pF1 pF2 pL1 pL2 pG1 pG2 pV1 pV2 pQ1 pQ2 pS1 pS2 pR1 pR2 pO1 pO2 pW1 pW2 pE1 pE2 pH1 pH2 pT1 pT2 pA1 pA2 pP1 pP2
    obtain ⟨pL1, pL2, _⟩ := YL
    obtain ⟨pV1, pV2, _⟩ := YV
    obtain ⟨pE1, pE2, _⟩ := YE
    obtain ⟨pT1, pT2, _⟩ := YT
    obtain ⟨pA1, pA2, _⟩ := YA
    obtain ⟨pP1, pP2, _⟩ := YP
    obtain ⟨px1, px2, _⟩ := xx
    clear hb hb2 hbb
    rcases c7 with c7 | c7
    all_goals
      by_cases c0' : C0 = 0
      · obtain ⟨t1, t2, t3, t4, b1, b2, b3, b4, b5, b6, b7, b8, b9, b10, b11, b12⟩ := PF.out c0'
        have c0e : (C0 == 0) = true := by simp [c0']
        have k1 : IntKind.i64.wrap (F1 * s) = F1 * s := IntWalk.i64_in _ (by omega)
        have k2 : IntKind.i64.wrap (F0 * s) = F0 * s := IntWalk.i64_in _ (by omega)
        have k3 : IntKind.i64.wrap (F1 * s - p) = F1 * s - p := IntWalk.i64_in _ (by omega)
        have k4 : IntKind.i64.wrap (F0 * s - q) = F0 * s - q := IntWalk.i64_in _ (by omega)
        have t0 : 0 ≤ absI F0 := by rw [absI_maxM]; omega
        have k5 : IntKind.i64.wrap (absI F0 + 1) = absI F0 + 1 := IntWalk.i64_in _ (by omega)
        have A1 := Lib.hid (fun W => f6abs_any (F1 * s - p) W (by omega) (by omega))
        have A2 := Lib.hid (fun W => f6abs_any (F0 * s - q) W (by omega) (by omega))
        have A3 := Lib.hid (fun W => f6abs_any G0 W (by omega) (by omega))
        have A4 := Lib.hid (fun W => f6abs_any F0 W (by omega) (by omega))
        have t1' : decide (absI (F1 * s - p) ≤ s) = true := by simpa using t1
        have t2' : decide (absI (F0 * s - q) ≤ s) = true := by simpa using t2
        have t3' : decide (absI G0 ≤ absI F0 + 1) = true := by simpa using t3
        clear b1 b2 b3 b4 b5 b6 b7 b8 b9 b10 b11 b12 t1 t2 t3 t4 t0
        generalize absI (F1 * s - p) = m1 at A1 t1'
        generalize absI (F0 * s - q) = m2 at A2 t2'
        generalize absI G0 = m3 at A3 t3'
        generalize absI F0 = m4 at A4 t3' k5
        go_wp2
        go_quiet ((go_at_call 31; first | exact Calls.quiet_of_same ((A1.out _).mono fun _ _ h => ⟨h.1, h.2.symm⟩) | exact Calls.quiet_of_same ((A2.out _).mono fun _ _ h => ⟨h.1, h.2.symm⟩) | exact Calls.quiet_of_same ((A3.out _).mono fun _ _ h => ⟨h.1, h.2.symm⟩) | exact Calls.quiet_of_same ((A4.out _).mono fun _ _ h => ⟨h.1, h.2.symm⟩)))
        all_goals go_wp2
        all_goals go_ret
        all_goals exact ⟨by simp, bdQ HBN.out _⟩
      · have c0e : (C0 == 0) = false := by simpa using c0'
        have c0n : (C0 != 0) = true := by simp [c0']
        go_wp2
        go_ret
        exact ⟨rfl, HBN.out⟩
  · have c3e : (C3 == 0) = false := by simpa using c3
    rcases c7 with c7 | c7
    all_goals
      by_cases c0' : C0 = 0
      · obtain ⟨t1, t2, t3, t4, b1, b2, b3, b4, b5, b6, b7, b8, b9, b10, b11, b12⟩ := PF.out c0'
        have c0e : (C0 == 0) = true := by simp [c0']
        have k1 : IntKind.i64.wrap (F1 * s) = F1 * s := IntWalk.i64_in _ (by omega)
        have k2 : IntKind.i64.wrap (F0 * s) = F0 * s := IntWalk.i64_in _ (by omega)
        have k3 : IntKind.i64.wrap (F1 * s - p) = F1 * s - p := IntWalk.i64_in _ (by omega)
        have k4 : IntKind.i64.wrap (F0 * s - q) = F0 * s - q := IntWalk.i64_in _ (by omega)
        have t0 : 0 ≤ absI F0 := by rw [absI_maxM]; omega
        have k5 : IntKind.i64.wrap (absI F0 + 1) = absI F0 + 1 := IntWalk.i64_in _ (by omega)
        have A1 := Lib.hid (fun W => f6abs_any (F1 * s - p) W (by omega) (by omega))
        have A2 := Lib.hid (fun W => f6abs_any (F0 * s - q) W (by omega) (by omega))
        have A3 := Lib.hid (fun W => f6abs_any G0 W (by omega) (by omega))
        have A4 := Lib.hid (fun W => f6abs_any F0 W (by omega) (by omega))
        have t1' : decide (absI (F1 * s - p) ≤ s) = true := by simpa using t1
        have t2' : decide (absI (F0 * s - q) ≤ s) = true := by simpa using t2
        have t3' : decide (absI G0 ≤ absI F0 + 1) = true := by simpa using t3
        clear b1 b2 b3 b4 b5 b6 b7 b8 b9 b10 b11 b12 t1 t2 t3 t4 t0
        generalize absI (F1 * s - p) = m1 at A1 t1'
        generalize absI (F0 * s - q) = m2 at A2 t2'
        generalize absI G0 = m3 at A3 t3'
        generalize absI F0 = m4 at A4 t3' k5
        go_wp2
        clear pF1 pF2 pG1 pG2 pQ1 pQ2 pS1 pS2 pR1 pR2 pO1 pO2 pW1 pW2 pH1 pH2
        go_quiet ((go_at_call 31; first | exact Calls.quiet_of_same ((A1.out _).mono fun _ _ h => ⟨h.1, h.2.symm⟩) | exact Calls.quiet_of_same ((A2.out _).mono fun _ _ h => ⟨h.1, h.2.symm⟩) | exact Calls.quiet_of_same ((A3.out _).mono fun _ _ h => ⟨h.1, h.2.symm⟩) | exact Calls.quiet_of_same ((A4.out _).mono fun _ _ h => ⟨h.1, h.2.symm⟩)))
        all_goals go_wp2
        all_goals go_ret
        all_goals exact ⟨by simp, bdQ HB29.out _⟩
      · have c0e : (C0 == 0) = false := by simpa using c0'
        have c0n : (C0 != 0) = true := by simp [c0']
        go_wp2
        go_ret
        exact ⟨rfl, HB29.out⟩

set_option maxRecDepth 100000 in
theorem lifted (os : Os) (started : os.Started) (H : Type) (enc : TypeId × Value → H) :
    ReturnsInHanded {} Try.checked os 3 .any (Rows.fnMapsSpec.pre6 enc Try.prog Try.f3 Rows.fnMapsRow.domain false) (Rows.fnMapsSpec.post enc Try.prog Try.f3 false true false false) := by
  refine returnsInHanded_of_change (C := Try.checked) own started (by kernel_rfl) Try.func3
    (ChangeSpec.witness6 (enc := enc) (C := Try.checked) false ⟨#[], #[.slice none 0 0], []⟩ 8 (by kernel_rfl) (by kernel_rfl) (by kernel_rfl) (by kernel_rfl)) ?_
  intro W base args ds gs before hval0 hW hcnd _
  have hval : ∀ (j : Nat) t v, Try.f3.params[j]? = some t → args[j]? = some v → Value.okWide Try.prog W .any base t v := hval0
  have hW' := hW
  obtain ⟨p, q, hA0, hV, hpq, hfz, hnd⟩ := hW
  have hA : DataW.TrodAll enc Try.prog W 0 (fun _ => true) true Try.f3.params.toList args.toList ds p := hA0
  rw [Try.params3] at hA hval
  obtain ⟨v0, vs0, d0, ds0, p0, q0, hargs, rfl, rfl, h0, r0⟩ := trodAll_cons hA
  obtain ⟨rfl, rfl, rfl⟩ := trodAll_nil r0
  obtain rfl : args = #[v0] := by cases args; simp_all
  obtain ⟨a0, len0, cap0, rfl⟩ := okWide_slice Try.underlying22 (hval 0 22 v0 rfl rfl)
  obtain ⟨z0, w0⟩ : ∃ zs, IsRow .u8 W a0 len0 cap0 zs := by
    obtain ⟨fuel, hf⟩ := h0
    rcases open_ints Try.underlying22 Try.underlying5 (by kernel_rfl) hf with ⟨hcs, _⟩ | ⟨x, l, c, zs, hcs, _, hl, hm, hz, _, hcell, hwz⟩
    · simp [Value.cells] at hcs
      obtain ⟨rfl, rfl, rfl⟩ := hcs
      exact ⟨[], .inl ⟨rfl, rfl, rfl, rfl⟩⟩
    · simp [Value.cells] at hcs
      obtain ⟨rfl, rfl, rfl⟩ := hcs
      exact ⟨zs, .inr ⟨_, rfl, hl, hm, by simpa using hz, hcell, hwz⟩⟩
  refine (walk a0 len0 cap0 z0 W w0).mono fun e W' ⟨he, bel⟩ => ?_
  subst he
  exact ⟨_, rfl, post_of_law laidOut (by kernel_rfl) Try.underlying4 rfl rfl (fun ds h => by match ds, h with | [_], _ => rfl) hW' bel⟩

theorem holds : Rows.FnMapsSaid :=
  OpenClaim.holds_of_wide 3 Try.f3 rfl rfl rfl rfl rfl rfl rfl ⟨rfl, rfl, rfl, rfl, rfl⟩ rfl rfl rfl rfl rfl (by kernel_rfl) Try.func3 (by kernel_rfl)
    (of_decide_eq_true (by kernel_rfl)) (by unfold Func.isWrapper; first | (rw [if_pos (by decide +kernel)]; kernel_rfl) | (rw [if_neg (by decide +kernel)]; exact ⟨rfl, rfl⟩))
    (fun os started H enc _ => lifted os started H enc)
#print axioms holds

end Go.Proofs.Ytemhmejjmhbfdaa.maps
