/- FarthestPair, of the program and of the model. -/
import Derived.Test.YtbggbgfmahnjkaaTabD
namespace Go.Proofs.Ytbggbgfmahnjkaa.sines
open Go.ChangeShapes Go.WideShapes Go.ChangeAt Go.RowKit Go.Proofs.Ytbggbgfmahnjkaa.spots Go.Proofs.Ytbggbgfmahnjkaa.irows Go.Proofs.Ytbggbgfmahnjkaa.pairs Go.Proofs.Ytbggbgfmahnjkaa.trows

def stepF (ps : List (Int × Int)) (s : Nat × Nat) (i k : Nat) : Nat × Nat := if dd ps s.1 s.2 < dd ps i k then (i, k) else s
def inF (ps : List (Int × Int)) (i : Nat) : Nat → Nat × Nat → Nat × Nat
  | 0, s => s
  | m + 1, s => stepF ps (inF ps i m s) i (i + 1 + m)
def outF (ps : List (Int × Int)) : Nat → Nat × Nat
  | 0 => (0, 1)
  | i + 1 => inF ps i (ps.length - (i + 1)) (outF ps i)
def farP (ps : List (Int × Int)) : Nat × Nat := outF ps ps.length
theorem inF_lt (ps : List (Int × Int)) (i : Nat) (s : Nat × Nat) (hs : s.1 < s.2 ∧ s.2 < ps.length) : ∀ m, i + 1 + m ≤ ps.length → (inF ps i m s).1 < (inF ps i m s).2 ∧ (inF ps i m s).2 < ps.length
  | 0, _ => hs
  | m + 1, h => by
    have ih := inF_lt ps i s hs m (by omega)
    unfold inF stepF
    split
    · exact ⟨by simp; omega, by simp; omega⟩
    · exact ih
theorem outF_lt (ps : List (Int × Int)) (h2 : 2 ≤ ps.length) : ∀ i, i ≤ ps.length → (outF ps i).1 < (outF ps i).2 ∧ (outF ps i).2 < ps.length
  | 0, _ => by simp [outF]; omega
  | i + 1, h => by
    unfold outF
    exact inF_lt ps i _ (outF_lt ps h2 i (by omega)) _ (by omega)
def codeF (ps : List (Int × Int)) : Int := codeL ps 2 12
def far1 (ps : List (Int × Int)) : Int := if codeL ps 2 12 = 0 then ((farP ps).1 : Int) else 0
def far2 (ps : List (Int × Int)) : Int := if codeL ps 2 12 = 0 then ((farP ps).2 : Int) else 0
theorem ret_three {a b c d e f : Int} (h : a = d) (k : b = e) (l : c = f) : Ending.returned (.tuple #[.int .i64 a, .int .i64 b, .int .i64 c]) = .returned (.tuple #[.int .i64 d, .int .i64 e, .int .i64 f]) := by rw [h, k, l]

set_option maxRecDepth 100000 in
set_option maxHeartbeats 2000000 in
theorem implFar_any (v : Value) (ps : List (Int × Int)) (w : World) (hv : PAt w w.heap.size v ps) (hl : ps.length ≤ 1048576) :
    Calls Try.prog 30 #[v] w fun e w' => e = .returned (.tuple #[.int .i64 (far1 ps), .int .i64 (far2 ps), .int .i64 (codeL ps 2 12)]) ∧ Below w.heap.size w w' := by
  have HV := Lib.hid hv
  obtain ⟨ar, c, rfl, _⟩ := hv
  by_cases hc : codeL ps 2 12 = 0
  · obtain ⟨k1, k2, k3⟩ := codeL_ok hc
    rw [show far1 ps = ((farP ps).1 : Int) by simp [far1, hc], show far2 ps = ((farP ps).2 : Int) by simp [far2, hc], hc]
    have HC := Lib.hid hc
    have K1 := Lib.hid k1
    have hl2 : (ps.length : Int) ≤ 12 := by omega
    have h2 : 2 ≤ ps.length := by omega
    clear hc k1 k2 k3
    go_enter Try.func30, Try.ntmps30
    go_wp2_with fail
    refine (spotsCode_any _ ps 2 12 _ HV.out hl).mono ?_
    rw [HC.out]
    rintro e w2 ⟨rfl, hb⟩
    have HB := Lib.hid hb
    clear hb
    go_wp2_with fail
    refine (distancesOf_any _ ps _ (pat_up (pat_keep HV.out HB.out) HB.out.size) (by omega) K1.out).mono ?_
    rintro e w3 ⟨u, rfl, hr, hb⟩
    have HB2 := Lib.hid (HB.out.trans (hb.mono HB.out.size))
    have HD := Lib.hid (dat_of (trow_at hr))
    clear hb hr
    go_wp2
    go_loopw [7, 8, 20] (fun a b i wr => ∃ (k : Nat), k ≤ ps.length ∧ i = .int .i64 (k : Int) ∧ a = .int .i64 ((outF ps k).1 : Nat) ∧ b = .int .i64 ((outF ps k).2 : Nat) ∧ w3 = wr) (fun _ _ i _ => ps.length - (intOf i).toNat)
    case atStart => exact ⟨0, Nat.zero_le _, rfl, rfl, rfl, rfl⟩
    case round =>
      obtain ⟨i, hi, rfl, rfl, rfl, rfl⟩ := hrel
      have HO := Lib.hid (outF_lt ps h2 i hi)
      by_cases hlt : i < ps.length
      · have hi0 : 0 ≤ (i : Int) := by omega
        have hi1 : (i : Int) < (ps.length : Int) := by omega
        have iw : IntKind.i64.wrap ((i : Int) + 1) = (i : Int) + 1 := IntWalk.i64_in _ (by omega)
        have OS := Lib.hid (show outF ps (i + 1) = inF ps i (ps.length - (i + 1)) (outF ps i) from rfl)
        obtain ⟨s0, hs0⟩ : ∃ s, Hid (outF ps i = s) := ⟨_, Lib.hid rfl⟩
        rw [hs0.out] at OS HO ⊢
        go_wp2
        go_loopw [7, 8, 10] (fun a b k wr => ∃ (m : Nat), i + 1 + m ≤ ps.length ∧ k = .int .i64 ((i + 1 + m : Nat) : Int) ∧ a = .int .i64 ((inF ps i m s0).1 : Nat) ∧ b = .int .i64 ((inF ps i m s0).2 : Nat) ∧ w3 = wr) (fun _ _ k _ => ps.length - (intOf k).toNat)
        case atStart => exact ⟨0, by omega, by go_num, rfl, rfl, rfl⟩
        case round =>
          obtain ⟨m, hm, rfl, rfl, rfl, rfl⟩ := hrel
          have HI := Lib.hid (inF_lt ps i s0 HO.out m hm)
          obtain ⟨n, hn⟩ : ∃ n : Nat, Hid (i + 1 + m = n) := ⟨_, Lib.hid rfl⟩
          have IS := Lib.hid (show inF ps i (m + 1) s0 = stepF ps (inF ps i m s0) i (i + 1 + m) from rfl)
          rw [hn.out] at hm IS
          rw [hn.out]
          obtain ⟨⟨s1, s2⟩, hs1⟩ : ∃ s, Hid (inF ps i m s0 = s) := ⟨_, Lib.hid rfl⟩
          rw [hs1.out] at HI IS
          rw [hs1.out]
          by_cases hln : n < ps.length
          · have hn0 : 0 ≤ (n : Int) := by omega
            have hn1 : (n : Int) < (ps.length : Int) := by omega
            go_wp2_with fail
            refine (between_any _ ps i n _ _ HD.out hlt hln).mono ?_
            rintro e w' ⟨rfl, rfl⟩
            go_wp2_with fail
            refine (between_any _ ps s1 s2 _ _ HD.out (Nat.lt_trans HI.out.1 HI.out.2) HI.out.2).mono ?_
            rintro e w' ⟨rfl, rfl⟩
            obtain ⟨d1, hd1⟩ : ∃ d, Hid (dd ps i n = d) := ⟨_, Lib.hid rfl⟩
            obtain ⟨d2, hd2⟩ : ∃ d, Hid (dd ps s1 s2 = d) := ⟨_, Lib.hid rfl⟩
            rw [hd1.out, hd2.out]
            by_cases hd : d2 < d1
            · have SM := Lib.hid (show inF ps i (m + 1) s0 = (i, n) by rw [IS.out, stepF, hd1.out, hd2.out, if_pos hd])
              go_wp2
              go_roundw
              case rel => exact ⟨m + 1, by have := hn.out; omega, by have := hn.out; go_num, by rw [SM.out], by rw [SM.out], by first | rfl | trivial⟩
              case measure => simp [intOf]; omega
            · have SM := Lib.hid (show inF ps i (m + 1) s0 = (s1, s2) by rw [IS.out, stepF, hd1.out, hd2.out, if_neg hd])
              go_wp2
              go_roundw
              case rel => exact ⟨m + 1, by have := hn.out; omega, by have := hn.out; go_num, by rw [SM.out], by rw [SM.out], by first | rfl | trivial⟩
              case measure => simp [intOf]; omega
          · have hne : n = ps.length := by omega
            have OE := Lib.hid (show outF ps (i + 1) = (s1, s2) by rw [OS.out, show ps.length - (i + 1) = m by have := hn.out; omega, hs1.out])
            clear hne
            go_wp2
            go_roundw
            case rel => exact ⟨i + 1, by omega, by go_num, by rw [OE.out], by rw [OE.out], by first | rfl | trivial⟩
            case measure => simp [intOf]; omega
      · obtain rfl : i = ps.length := by omega
        have FE := Lib.hid (show outF ps ps.length = farP ps from rfl)
        rw [FE.out]
        go_wp2
        exact bodyPost_ret (v := .tuple #[.int .i64 ((farP ps).1 : Nat), .int .i64 ((farP ps).2 : Nat), .int .i64 0]) (by simp [results, Try.results30, go_sem]) rfl ⟨rfl, HB2.out⟩
  · rw [show far1 ps = 0 by simp [far1, hc], show far2 ps = 0 by simp [far2, hc]]
    obtain ⟨C, HC⟩ : ∃ C, Hid (codeL ps 2 12 = C) := ⟨_, Lib.hid rfl⟩
    rw [HC.out] at hc ⊢
    have hc1 : (C != 0) = true := by simpa using hc
    clear hc
    go_enter Try.func30, Try.ntmps30
    go_wp2_with fail
    refine (spotsCode_any _ ps 2 12 _ HV.out hl).mono ?_
    rw [HC.out]
    rintro e w2 ⟨rfl, hb⟩
    have HB := Lib.hid hb
    clear hb
    go_wp2
    exact bodyPost_ret (v := .tuple #[.int .i64 0, .int .i64 0, .int .i64 C]) (by simp [results, Try.results30, go_sem]) rfl ⟨rfl, HB.out⟩

set_option maxRecDepth 100000 in
set_option maxHeartbeats 4000000 in
theorem specFar_any (v : Value) (ps : List (Int × Int)) (w : World) (hv : PAt w w.heap.size v ps) (hl : ps.length ≤ 1048576) :
    Calls Try.prog 42 #[v] w fun e w' => e = .returned (.tuple #[.int .i64 (far1 ps), .int .i64 (far2 ps), .int .i64 (codeL ps 2 12)]) ∧ Below w.heap.size w w' := by
  have HV := Lib.hid hv
  obtain ⟨ar, c, rfl, hcl⟩ := hv
  have HCL := Lib.hid hcl
  clear hcl
  by_cases hc : codeL ps 2 12 = 0
  · obtain ⟨k1, k2, k3⟩ := codeL_ok hc
    rw [show far1 ps = ((farP ps).1 : Int) by simp [far1, hc], show far2 ps = ((farP ps).2 : Int) by simp [far2, hc], hc]
    have HC := Lib.hid hc
    have K1 := Lib.hid k1
    have hl2 : (ps.length : Int) ≤ 12 := by omega
    have h2 : 2 ≤ ps.length := by omega
    clear hc k1 k2 k3
    go_enter Try.func42, Try.ntmps42
    go_wp2_with fail
    refine (l05Code_any _ ps 2 12 _ HV.out hl).mono ?_
    rw [HC.out]
    rintro e w2 ⟨rfl, hb⟩
    have HB := Lib.hid hb
    clear hb
    go_wp2
    go_loopw [6, 7, 8] (fun a b i wr => ∃ (k : Nat), k ≤ ps.length ∧ i = .int .i64 (k : Int) ∧ a = .int .i64 ((outF ps k).1 : Nat) ∧ b = .int .i64 ((outF ps k).2 : Nat) ∧ Below w.heap.size w wr) (fun _ _ i _ => ps.length - (intOf i).toNat)
    case atStart => exact ⟨0, Nat.zero_le _, rfl, rfl, rfl, HB.out⟩
    case round =>
      obtain ⟨i, hi, rfl, rfl, rfl, hb⟩ := hrel
      have HBi := Lib.hid hb
      clear hb
      have HO := Lib.hid (outF_lt ps h2 i hi)
      by_cases hlt : i < ps.length
      · have hi0 : 0 ≤ (i : Int) := by omega
        have hi1 : (i : Int) < (ps.length : Int) := by omega
        have iw : IntKind.i64.wrap ((i : Int) + 1) = (i : Int) + 1 := IntWalk.i64_in _ (by omega)
        have OS := Lib.hid (show outF ps (i + 1) = inF ps i (ps.length - (i + 1)) (outF ps i) from rfl)
        obtain ⟨s0, hs0⟩ : ∃ s, Hid (outF ps i = s) := ⟨_, Lib.hid rfl⟩
        rw [hs0.out] at OS HO ⊢
        go_wp2
        go_loopw [6, 7, 9] (fun a b k wr => ∃ (m : Nat), i + 1 + m ≤ ps.length ∧ k = .int .i64 ((i + 1 + m : Nat) : Int) ∧ a = .int .i64 ((inF ps i m s0).1 : Nat) ∧ b = .int .i64 ((inF ps i m s0).2 : Nat) ∧ Below w.heap.size w wr) (fun _ _ k _ => ps.length - (intOf k).toNat)
        case atStart => exact ⟨0, by omega, by go_num, rfl, rfl, HBi.out⟩
        case round =>
          obtain ⟨m, hm, rfl, rfl, rfl, hb⟩ := hrel
          have hsz := hb.size
          have HB2 := Lib.hid hb
          have HI := Lib.hid (inF_lt ps i s0 HO.out m hm)
          obtain ⟨n, hnn⟩ : ∃ n : Nat, Hid (i + 1 + m = n) := ⟨_, Lib.hid rfl⟩
          have IS := Lib.hid (show inF ps i (m + 1) s0 = stepF ps (inF ps i m s0) i (i + 1 + m) from rfl)
          rw [hnn.out] at hm IS
          rw [hnn.out]
          obtain ⟨⟨s1, s2⟩, hs⟩ : ∃ s, Hid (inF ps i m s0 = s) := ⟨_, Lib.hid rfl⟩
          rw [hs.out] at HI IS
          rw [hs.out]
          by_cases hn : n < ps.length
          · have hn0 : 0 ≤ (n : Int) := by omega
            have hn1 : (n : Int) < (ps.length : Int) := by omega
            have hs2 : s2 < ps.length := HI.out.2
            have hs1 : s1 < ps.length := Nat.lt_trans HI.out.1 HI.out.2
            have a0 : 0 ≤ (s1 : Int) := by omega
            have a1 : (s1 : Int) < (ps.length : Int) := by omega
            have a2 : 0 ≤ (s2 : Int) := by omega
            have a3 : (s2 : Int) < (ps.length : Int) := by omega
            obtain ⟨bb, off, rfl, hbs, c1, c2⟩ := HCL.out i hlt
            obtain ⟨bb1, off1, e1, _, c3, c4⟩ := HCL.out n hn
            simp at e1
            obtain ⟨rfl, rfl⟩ := e1
            obtain ⟨bb2, off2, e2, _, c5, c6⟩ := HCL.out s1 hs1
            simp at e2
            obtain ⟨rfl, rfl⟩ := e2
            obtain ⟨bb3, off3, e3, _, c7, c8⟩ := HCL.out s2 hs2
            simp at e3
            obtain ⟨rfl, rfl⟩ := e3
            have k1 := (hb.cell (p := ⟨bb, off + i * 2, none⟩) hbs).trans c1
            have k2 := (hb.cell (p := ⟨bb, off + i * 2 + 1, none⟩) hbs).trans c2
            have k3 := (hb.cell (p := ⟨bb, off + n * 2, none⟩) hbs).trans c3
            have k4 := (hb.cell (p := ⟨bb, off + n * 2 + 1, none⟩) hbs).trans c4
            have k5 := (hb.cell (p := ⟨bb, off + s1 * 2, none⟩) hbs).trans c5
            have k6 := (hb.cell (p := ⟨bb, off + s1 * 2 + 1, none⟩) hbs).trans c6
            have k7 := (hb.cell (p := ⟨bb, off + s2 * 2, none⟩) hbs).trans c7
            have k8 := (hb.cell (p := ⟨bb, off + s2 * 2 + 1, none⟩) hbs).trans c8
            have hbw : bb < wr.heap.size := by omega
            have OKx := okL_at K1.out i hlt
            have OKy := okL_at K1.out n hn
            have OKp := okL_at K1.out s1 hs1
            have OKq := okL_at K1.out s2 hs2
            have D1 := Lib.hid (dd_of hlt hn)
            have D2 := Lib.hid (dd_of hs1 hs2)
            clear hb c1 c2 c3 c4 c5 c6 c7 c8
            generalize ps[i] = x at k1 k2 OKx D1
            obtain ⟨x1, x2⟩ := x
            generalize ps[n] = y at k3 k4 OKy D1
            obtain ⟨y1, y2⟩ := y
            generalize ps[s1] = p at k5 k6 OKp D2
            obtain ⟨p1, p2⟩ := p
            generalize ps[s2] = q at k7 k8 OKq D2
            obtain ⟨q1, q2⟩ := q
            obtain ⟨d1, hd1⟩ : ∃ d, Hid (dd ps i n = d) := ⟨_, Lib.hid rfl⟩
            obtain ⟨d2, hd2⟩ : ∃ d, Hid (dd ps s1 s2 = d) := ⟨_, Lib.hid rfl⟩
            have E1 := Lib.hid (D1.out.symm.trans hd1.out)
            have E2 := Lib.hid (D2.out.symm.trans hd2.out)
            have SY := Lib.hid (show d2 < d1 → inF ps i (m + 1) s0 = (i, n) from fun h => by rw [IS.out, stepF, hd1.out, hd2.out, if_pos h])
            have SN := Lib.hid (show ¬ d2 < d1 → inF ps i (m + 1) s0 = (s1, s2) from fun h => by rw [IS.out, stepF, hd1.out, hd2.out, if_neg h])
            go_wp2_with fail
            go_region_held3 (fun W => W.cell? ⟨bb, off + i * 2, none⟩ = some (.int .i64 x1) ∧ W.cell? ⟨bb, off + i * 2 + 1, none⟩ = some (.int .i64 x2) ∧ W.cell? ⟨bb, off + n * 2, none⟩ = some (.int .i64 y1) ∧ W.cell? ⟨bb, off + n * 2 + 1, none⟩ = some (.int .i64 y2) ∧ W.cell? ⟨bb, off + s1 * 2, none⟩ = some (.int .i64 p1) ∧ W.cell? ⟨bb, off + s1 * 2 + 1, none⟩ = some (.int .i64 p2) ∧ W.cell? ⟨bb, off + s2 * 2, none⟩ = some (.int .i64 q1) ∧ W.cell? ⟨bb, off + s2 * 2 + 1, none⟩ = some (.int .i64 q2)) (first | exact ⟨k1, k2, k3, k4, k5, k6, k7, k8⟩ | exact ⟨n1, n2, n3, n4, n5, n6, n7, n8⟩ | (simp [go_sem]; first | exact ⟨k1, k2, k3, k4, k5, k6, k7, k8⟩ | exact ⟨n1, n2, n3, n4, n5, n6, n7, n8⟩)) (first | (go_at_call 64; refine (l05Distance_rel _ _ _ _ wr _ (by repeat (first | assumption | exact Below.refl _ _ | refine Below.drew ?_ | refine bdq ?_ _ | refine Below.alloc ?_ (by first | exact Nat.le_refl _ | omega | (simp; done) | (simp; omega)) _ | refine Below.setCell ?_ (by first | exact Nat.le_refl _ | omega | (simp; done) | (simp; omega)) _)) (by assumption) (by assumption)).mono ?_; (first | rw [E1.out] | rw [E2.out]); rintro e w1 ⟨rfl, hb1⟩; have n1 := (hb1.cell (p := ⟨bb, off + i * 2, none⟩) hbw).trans k1; have n2 := (hb1.cell (p := ⟨bb, off + i * 2 + 1, none⟩) hbw).trans k2; have n3 := (hb1.cell (p := ⟨bb, off + n * 2, none⟩) hbw).trans k3; have n4 := (hb1.cell (p := ⟨bb, off + n * 2 + 1, none⟩) hbw).trans k4; have n5 := (hb1.cell (p := ⟨bb, off + s1 * 2, none⟩) hbw).trans k5; have n6 := (hb1.cell (p := ⟨bb, off + s1 * 2 + 1, none⟩) hbw).trans k6; have n7 := (hb1.cell (p := ⟨bb, off + s2 * 2, none⟩) hbw).trans k7; have n8 := (hb1.cell (p := ⟨bb, off + s2 * 2 + 1, none⟩) hbw).trans k8; skip))
            all_goals
              have HBB := Lib.hid (HB2.out.trans (hb1.mono hsz))
              by_cases hd : d2 < d1
              · have SM := Lib.hid (SY.out hd)
                go_wp2
                go_roundw
                case rel => exact ⟨m + 1, by have := hnn.out; omega, by have := hnn.out; go_num, by rw [SM.out], by rw [SM.out], (by first | exact HBB.out | exact bdq HBB.out _ | exact bdrew HBB.out)⟩
                case measure => simp [intOf]; omega
              · have SM := Lib.hid (SN.out (by omega))
                go_wp2
                go_roundw
                case rel => exact ⟨m + 1, by have := hnn.out; omega, by have := hnn.out; go_num, by rw [SM.out], by rw [SM.out], (by first | exact HBB.out | exact bdq HBB.out _ | exact bdrew HBB.out)⟩
                case measure => simp [intOf]; omega
          · have hne : n = ps.length := by omega
            have OE := Lib.hid (show outF ps (i + 1) = (s1, s2) by rw [OS.out, show ps.length - (i + 1) = m by have := hnn.out; omega, hs.out])
            clear hne hb
            go_wp2
            go_roundw
            case rel => exact ⟨i + 1, by omega, by go_num, by rw [OE.out], by rw [OE.out], HB2.out⟩
            case measure => simp [intOf]; omega
      · obtain rfl : i = ps.length := by omega
        have FE := Lib.hid (show outF ps ps.length = farP ps from rfl)
        rw [FE.out]
        go_wp2
        exact bodyPost_ret (v := .tuple #[.int .i64 ((farP ps).1 : Nat), .int .i64 ((farP ps).2 : Nat), .int .i64 0]) (by simp [results, Try.results42, go_sem]) rfl ⟨rfl, HBi.out⟩
  · rw [show far1 ps = 0 by simp [far1, hc], show far2 ps = 0 by simp [far2, hc]]
    obtain ⟨C, HC⟩ : ∃ C, Hid (codeL ps 2 12 = C) := ⟨_, Lib.hid rfl⟩
    rw [HC.out] at hc ⊢
    have hc1 : (C != 0) = true := by simpa using hc
    clear hc
    go_enter Try.func42, Try.ntmps42
    go_wp2_with fail
    refine (l05Code_any _ ps 2 12 _ HV.out hl).mono ?_
    rw [HC.out]
    rintro e w2 ⟨rfl, hb⟩
    have HB := Lib.hid hb
    clear hb
    go_wp2
    exact bodyPost_ret (v := .tuple #[.int .i64 0, .int .i64 0, .int .i64 C]) (by simp [results, Try.results42, go_sem]) rfl ⟨rfl, HB.out⟩

end Go.Proofs.Ytbggbgfmahnjkaa.sines
