/- FarthestPair, of the program and of the model. -/
import Derived.Test.YtkiimdfnobcdpaaTabD
namespace Go.Proofs.Ytkiimdfnobcdpaa.sines
open Go.ChangeShapes Go.WideShapes Go.ChangeAt Go.RowKit Go.Proofs.Ytkiimdfnobcdpaa.spots Go.Proofs.Ytkiimdfnobcdpaa.irows Go.Proofs.Ytkiimdfnobcdpaa.pairs Go.Proofs.Ytkiimdfnobcdpaa.trows

def stepF (ps : List (Int × Int)) (s : Nat × Nat) (i k : Nat) : Nat × Nat := if dd ps s.1 s.2 < dd ps i k then (i, k) else s
def inF (ps : List (Int × Int)) (i : Nat) : Nat → Nat × Nat → Nat × Nat
  | 0, s => s
  | m + 1, s => stepF ps (inF ps i m s) i (i + 1 + m)
def outF (ps : List (Int × Int)) : Nat → Nat × Nat
  | 0 => (0, 1)
  | i + 1 => inF ps i (ps.length - (i + 1)) (outF ps i)
def farP (ps : List (Int × Int)) : Nat × Nat := outF ps ps.length
theorem inF_lt (ps : List (Int × Int)) (i : Nat) (s : Nat × Nat) (hs : s.1 < s.2 ∧ s.2 < ps.length) : ∀ m, i + 1 + m ≤ ps.length → (inF ps i m s).1 < (inF ps i m s).2 ∧ (inF ps i m s).2 < ps.length
  | 0, _ => hs
  | m + 1, h => by
    have ih := inF_lt ps i s hs m (by omega)
    unfold inF stepF
    split
    · exact ⟨by simp; omega, by simp; omega⟩
    · exact ih
theorem outF_lt (ps : List (Int × Int)) (h2 : 2 ≤ ps.length) : ∀ i, i ≤ ps.length → (outF ps i).1 < (outF ps i).2 ∧ (outF ps i).2 < ps.length
  | 0, _ => by simp [outF]; omega
  | i + 1, h => by
    unfold outF
    exact inF_lt ps i _ (outF_lt ps h2 i (by omega)) _ (by omega)
def codeF (ps : List (Int × Int)) : Int := codeL ps 2 12
def far1 (ps : List (Int × Int)) : Int := if codeL ps 2 12 = 0 then ((farP ps).1 : Int) else 0
def far2 (ps : List (Int × Int)) : Int := if codeL ps 2 12 = 0 then ((farP ps).2 : Int) else 0
theorem ret_three {a b c d e f : Int} (h : a = d) (k : b = e) (l : c = f) : Ending.returned (.tuple #[.int .i64 a, .int .i64 b, .int .i64 c]) = .returned (.tuple #[.int .i64 d, .int .i64 e, .int .i64 f]) := by rw [h, k, l]

set_option maxRecDepth 100000 in
set_option maxHeartbeats 2000000 in
theorem implFar_any (v : Value) (ps : List (Int × Int)) (w : World) (hv : PAt w w.heap.size v ps) (hl : ps.length ≤ 1048576) :
    Calls Try.prog 17 #[v] w fun e w' => e = .returned (.tuple #[.int .i64 (far1 ps), .int .i64 (far2 ps), .int .i64 (codeL ps 2 12)]) ∧ Below w.heap.size w w' := by
  have HV := Lib.hid hv
  obtain ⟨ar, c, rfl, _⟩ := hv
  by_cases hc : codeL ps 2 12 = 0
  · obtain ⟨k1, k2, k3⟩ := codeL_ok hc
    rw [show far1 ps = ((farP ps).1 : Int) by simp [far1, hc], show far2 ps = ((farP ps).2 : Int) by simp [far2, hc], hc]
    have HC := Lib.hid hc
    have K1 := Lib.hid k1
    have hl2 : (ps.length : Int) ≤ 12 := by omega
    have h2 : 2 ≤ ps.length := by omega
    clear hc k1 k2 k3
    go_enter Try.func17, Try.ntmps17
    go_wp2_with fail
    refine (spotsCode_any _ ps 2 12 _ HV.out hl).mono ?_
    rw [HC.out]
    rintro e w2 ⟨rfl, hb⟩
    have HB := Lib.hid hb
    clear hb
    go_wp2_with fail
    refine (distancesOf_any _ ps _ (pat_up (pat_keep HV.out HB.out) HB.out.size) (by omega) K1.out).mono ?_
    rintro e w3 ⟨u, rfl, hr, hb⟩
    have HB2 := Lib.hid (HB.out.trans (hb.mono HB.out.size))
    have HD := Lib.hid (dat_of (trow_at hr))
    clear hb hr
    go_wp2
    go_loopw [7, 8, 20] (fun a b i wr => ∃ (k : Nat), k ≤ ps.length ∧ i = .int .i64 (k : Int) ∧ a = .int .i64 ((outF ps k).1 : Nat) ∧ b = .int .i64 ((outF ps k).2 : Nat) ∧ w3 = wr) (fun _ _ i _ => ps.length - (intOf i).toNat)
    case atStart => exact ⟨0, Nat.zero_le _, rfl, rfl, rfl, rfl⟩
    case round =>
      obtain ⟨i, hi, rfl, rfl, rfl, rfl⟩ := hrel
      have HO := Lib.hid (outF_lt ps h2 i hi)
      by_cases hlt : i < ps.length
      · have hi0 : 0 ≤ (i : Int) := by omega
        have hi1 : (i : Int) < (ps.length : Int) := by omega
        have iw : IntKind.i64.wrap ((i : Int) + 1) = (i : Int) + 1 := IntWalk.i64_in _ (by omega)
        have OS := Lib.hid (show outF ps (i + 1) = inF ps i (ps.length - (i + 1)) (outF ps i) from rfl)
        obtain ⟨s0, hs0⟩ : ∃ s, Hid (outF ps i = s) := ⟨_, Lib.hid rfl⟩
        rw [hs0.out] at OS HO ⊢
        go_wp2
        go_loopw [7, 8, 10] (fun a b k wr => ∃ (m : Nat), i + 1 + m ≤ ps.length ∧ k = .int .i64 ((i + 1 + m : Nat) : Int) ∧ a = .int .i64 ((inF ps i m s0).1 : Nat) ∧ b = .int .i64 ((inF ps i m s0).2 : Nat) ∧ w3 = wr) (fun _ _ k _ => ps.length - (intOf k).toNat)
        case atStart => exact ⟨0, by omega, by go_num, rfl, rfl, rfl⟩
        case round =>
          obtain ⟨m, hm, rfl, rfl, rfl, rfl⟩ := hrel
          have HI := Lib.hid (inF_lt ps i s0 HO.out m hm)
          obtain ⟨n, hn⟩ : ∃ n : Nat, Hid (i + 1 + m = n) := ⟨_, Lib.hid rfl⟩
          have IS := Lib.hid (show inF ps i (m + 1) s0 = stepF ps (inF ps i m s0) i (i + 1 + m) from rfl)
          rw [hn.out] at hm IS
          rw [hn.out]
          obtain ⟨⟨s1, s2⟩, hs1⟩ : ∃ s, Hid (inF ps i m s0 = s) := ⟨_, Lib.hid rfl⟩
          rw [hs1.out] at HI IS
          rw [hs1.out]
          by_cases hln : n < ps.length
          · have hn0 : 0 ≤ (n : Int) := by omega
            have hn1 : (n : Int) < (ps.length : Int) := by omega
            go_wp2_with fail
            refine (between_any _ ps i n _ _ HD.out hlt hln).mono ?_
            rintro e w' ⟨rfl, rfl⟩
            go_wp2_with fail
            refine (between_any _ ps s1 s2 _ _ HD.out (Nat.lt_trans HI.out.1 HI.out.2) HI.out.2).mono ?_
            rintro e w' ⟨rfl, rfl⟩
            obtain ⟨d1, hd1⟩ : ∃ d, Hid (dd ps i n = d) := ⟨_, Lib.hid rfl⟩
            obtain ⟨d2, hd2⟩ : ∃ d, Hid (dd ps s1 s2 = d) := ⟨_, Lib.hid rfl⟩
            rw [hd1.out, hd2.out]
            by_cases hd : d2 < d1
            · have SM := Lib.hid (show inF ps i (m + 1) s0 = (i, n) by rw [IS.out, stepF, hd1.out, hd2.out, if_pos hd])
              go_wp2
              go_roundw
              case rel => exact ⟨m + 1, by have := hn.out; omega, by have := hn.out; go_num, by rw [SM.out], by rw [SM.out], by first | rfl | trivial⟩
              case measure => simp [intOf]; omega
            · have SM := Lib.hid (show inF ps i (m + 1) s0 = (s1, s2) by rw [IS.out, stepF, hd1.out, hd2.out, if_neg hd])
              go_wp2
              go_roundw
              case rel => exact ⟨m + 1, by have := hn.out; omega, by have := hn.out; go_num, by rw [SM.out], by rw [SM.out], by first | rfl | trivial⟩
              case measure => simp [intOf]; omega
          · have hne : n = ps.length := by omega
            have OE := Lib.hid (show outF ps (i + 1) = (s1, s2) by rw [OS.out, show ps.length - (i + 1) = m by have := hn.out; omega, hs1.out])
            clear hne
            go_wp2
            go_roundw
            case rel => exact ⟨i + 1, by omega, by go_num, by rw [OE.out], by rw [OE.out], by first | rfl | trivial⟩
            case measure => simp [intOf]; omega
      · obtain rfl : i = ps.length := by omega
        have FE := Lib.hid (show outF ps ps.length = farP ps from rfl)
        rw [FE.out]
        go_wp2
        exact bodyPost_ret (v := .tuple #[.int .i64 ((farP ps).1 : Nat), .int .i64 ((farP ps).2 : Nat), .int .i64 0]) (by simp [results, Try.results17, go_sem]) rfl ⟨rfl, HB2.out⟩
  · rw [show far1 ps = 0 by simp [far1, hc], show far2 ps = 0 by simp [far2, hc]]
    obtain ⟨C, HC⟩ : ∃ C, Hid (codeL ps 2 12 = C) := ⟨_, Lib.hid rfl⟩
    rw [HC.out] at hc ⊢
    have hc1 : (C != 0) = true := by simpa using hc
    clear hc
    go_enter Try.func17, Try.ntmps17
    go_wp2_with fail
    refine (spotsCode_any _ ps 2 12 _ HV.out hl).mono ?_
    rw [HC.out]
    rintro e w2 ⟨rfl, hb⟩
    have HB := Lib.hid hb
    clear hb
    go_wp2
    exact bodyPost_ret (v := .tuple #[.int .i64 0, .int .i64 0, .int .i64 C]) (by simp [results, Try.results17, go_sem]) rfl ⟨rfl, HB.out⟩


end Go.Proofs.Ytkiimdfnobcdpaa.sines
