/- The model's coasts: the walk over all cells. -/
import Derived.Test.YtpekchihdmhkkaaGridS4
import Derived.Deep.Cut
import Derived.Deep.CutRange
namespace Go.Proofs.Ytpekchihdmhkkaa.stab
open Go.ChangeShapes Go.WideShapes Go.ChangeAt Go.RowKit Go.Proofs.Ytpekchihdmhkkaa.split Go.Proofs.Ytpekchihdmhkkaa.sines Go.Proofs.Ytpekchihdmhkkaa.names
set_option linter.unusedSimpArgs false
set_option linter.unusedVariables false

theorem seaN_yes {b : UInt8} (h : (b.toNat : Int) = 46) : seaN b = 1 := by
  unfold seaN
  rw [if_pos (UInt8.toNat_inj.1 (by have : b.toNat = 46 := by omega
                                    rw [this]; rfl))]
theorem seaN_no {b : UInt8} (h : ¬ (b.toNat : Int) = 46) : seaN b = 0 := by
  unfold seaN
  rw [if_neg (fun e => h (by rw [e]; rfl))]
theorem edges_sum (ps : List ByteArray) (n i k : Nat) : edges ps n i k = seaN (bAt (sAt ps i) ((k + 1) % n)) + seaN (bAt (sAt ps i) ((k + n - 1) % n)) + (if 0 < i then seaN (bAt (sAt ps (i - 1)) k) else 0) + (if i + 1 < ps.length then seaN (bAt (sAt ps (i + 1)) k) else 0) := rfl
set_option maxRecDepth 100000 in
set_option maxHeartbeats 8000000 in
theorem l12Coast_any (v : Value) (ps : List ByteArray) (n : Nat) (b : UInt8) (w : World) (B : Nat) (hv : SAt w B v ps) (hG : Grid ps n) :
    Calls Try.prog 59 #[v, .int .u8 (b.toNat : Int)] w fun e w' => e = .returned (.int .i64 (coastG ps n b : Int)) ∧ ∃ q, w' = w.drewN q := by
  have HV := Lib.hid hv
  obtain ⟨ar, c, rfl, _, hcl⟩ := hv
  have hpN : 0 < ps.length := hG.m1
  obtain ⟨b0, off0, rfl, _, z0⟩ := hcl 0 hpN
  rw [Nat.add_zero] at z0
  have HCL := Lib.hid (show ∀ k, k < ps.length → w.cell? ⟨b0, off0 + k, none⟩ = some (.string (sAt ps k)) from fun k hk => by
    obtain ⟨bb, off, e1, _, c1⟩ := hcl k hk
    obtain ⟨rfl, rfl⟩ : b0 = bb ∧ off0 = off := by simpa using e1
    exact c1)
  have HG := Lib.hid hG
  have HZ := Lib.hid hG.size
  have EA := Lib.hid (fun i k (hi : i < ps.length) (hk : k < n) W (h : SAt W B (.slice (some ⟨b0, off0, none⟩) ps.length c) ps) => l12East_any (some ⟨b0, off0, none⟩) c ps n i k W B h hG hi hk)
  have HVq := Lib.hid (fun q => sat_keep HV.out (show Below B w (w.drewN q) from ⟨rfl, rfl, rfl, Nat.le_refl _, fun _ _ => rfl⟩))
  have CT := Lib.hid (fun i => coastTo_le ps n b i)
  have CR := Lib.hid (fun i k => coastR_le ps n b i k)
  have SR := Lib.hid (show ∀ i k, coastR ps n b i (k + 1) = coastR ps n b i k + (if bAt (sAt ps i) k = b then edges ps n i k else 0) from fun i k => rfl)
  have ST := Lib.hid (show ∀ i, coastTo ps n b (i + 1) = coastTo ps n b i + coastR ps n b i n from fun i => rfl)
  have hz := hG.size 0 hpN
  have hzn : ((sAt ps 0).size : Int) = (n : Int) := by omega
  have hn1 := hG.n1
  have hn2 := hG.n2
  have hm2 := hG.m2
  have hp0 : (0 : Int) < (ps.length : Int) := by omega
  have hml : (ps.length : Int) ≤ 16 := by omega
  have hni1 : (1 : Int) ≤ (n : Int) := by omega
  have hni2 : (n : Int) ≤ 32 := by omega
  have hnz : ((n : Int) == 0) = false := by simp; omega
  unfold coastG
  generalize sAt ps 0 = s0 at z0 hzn hz
  clear hcl hG hz
  go_enter Try.func59, Try.ntmps59
  go_wp2
  clear hzn z0
  go_loopw [5, 7] (fun s i wr => ∃ r q : Nat, r ≤ ps.length ∧ i = .int .i64 (r : Int) ∧ s = .int .i64 (coastTo ps n b r : Int) ∧ wr = w.drewN q) (fun _ i _ => ps.length - (intOf i).toNat)
  case atStart => exact ⟨0, 0, Nat.zero_le _, rfl, rfl, rfl⟩
  case round =>
    obtain ⟨i, q, hir, rfl, rfl, rfl⟩ := hrel
    by_cases hlt : i < ps.length
    · have hi0 : 0 ≤ (i : Int) := by omega
      have hi1 : (i : Int) < (ps.length : Int) := by omega
      have hct := CT.out i
      have STI := Lib.hid (ST.out i)
      have hT : coastTo ps n b i ≤ 2048 := by
        have := Nat.mul_le_mul (show 4 * n ≤ 128 by omega) (show i ≤ 16 by omega)
        omega
      obtain ⟨T, hTT⟩ : ∃ T, Hid (coastTo ps n b i = T) := ⟨_, Lib.hid rfl⟩
      rw [hTT.out] at hT STI ⊢
      clear hct
      go_wp2
      go_loopg [5, 8] n (fun gf s j wr => ∃ k q : Nat, k + gf = n ∧ j = .int .i64 (k : Int) ∧ s = .int .i64 ((T : Int) + (coastR ps n b i k : Int)) ∧ wr = w.drewN q)
      case atStart => exact ⟨0, _, by omega, rfl, by simp [coastR], rfl⟩
      case round =>
        obtain ⟨k, q2, hkg, rfl, rfl, rfl⟩ := hrel
        by_cases hk : k < n
        · obtain ⟨g', rfl⟩ : ∃ g', gk = g' + 1 := ⟨gk - 1, by omega⟩
          have c1 : (w.drewN q2).cell? ⟨b0, off0 + i, none⟩ = some (.string (sAt ps i)) := HCL.out i hlt
          have hk0 : 0 ≤ (k : Int) := by omega
          have hk1 : (k : Int) < (n : Int) := by omega
          have hrb := CR.out i k
          have SRI := Lib.hid (SR.out i k)
          obtain ⟨R, hR⟩ : ∃ R, Hid (coastR ps n b i k = R) := ⟨_, Lib.hid rfl⟩
          rw [hR.out] at hrb SRI ⊢
          have hRi : (R : Int) ≤ 128 := by omega
          have hTi : (T : Int) ≤ 2048 := by omega
          have hsz := HZ.out i hlt
          have hks : k < (sAt ps i).size := by omega
          rw [bAt_eq hks] at SRI
          have EAI := Lib.hid (fun q => EA.out i k hlt hk (w.drewN q) (HVq.out q))
          have WMOD := Lib.hid (show (k + n - 1) % n < (sAt ps i).size by rw [hsz]; exact Nat.mod_lt _ hn1)
          have EDG := Lib.hid (edges_sum ps n i k)
          obtain ⟨E, hE⟩ : ∃ x, Hid (bAt (sAt ps i) ((k + 1) % n) = x) := ⟨_, Lib.hid rfl⟩
          rw [hE.out] at EAI EDG
          obtain ⟨mw, hmw⟩ : ∃ m, Hid ((k + n - 1) % n = m) := ⟨_, Lib.hid rfl⟩
          rw [hmw.out] at WMOD EDG
          have htmw : ((k : Int) + (n : Int) - 1).tmod (n : Int) = (mw : Int) := by
            rw [← hmw.out, Int.tmod_eq_emod_of_nonneg (by omega), show (k : Int) + (n : Int) - 1 = ((k + n - 1 : Nat) : Int) by omega]
            push_cast
            rfl
          rw [bAt_eq WMOD.out] at EDG
          obtain ⟨s, hs⟩ : ∃ s, Hid (sAt ps i = s) := ⟨_, Lib.hid rfl⟩
          have C1 := Lib.hid (show ∀ q, (w.drewN q).cell? ⟨b0, off0 + i, none⟩ = some (.string s) from fun q => by rw [← hs.out]; exact HCL.out i hlt)
          have EDG2 := Lib.hid (show ∃ Wb : UInt8, (∃ h : mw < s.size, s[mw] = Wb) ∧ edges ps n i k = seaN E + seaN Wb + (if 0 < i then seaN (bAt (sAt ps (i - 1)) k) else 0) + (if i + 1 < ps.length then seaN (bAt (sAt ps (i + 1)) k) else 0) from by
            have h1 := WMOD.out
            have h2 := EDG.out
            have h3 := hs.out
            subst h3
            exact ⟨_, ⟨h1, rfl⟩, h2⟩)
          have SRI2 := Lib.hid (show ∃ h : k < s.size, coastR ps n b i (k + 1) = R + (if s[k] = b then edges ps n i k else 0) from by
            have h3 := hs.out
            subst h3
            exact ⟨hks, SRI.out⟩)
          have hss : s.size = n := by rw [← hs.out]; exact hsz
          clear c1 hrb hsz hks EDG SRI WMOD
          obtain ⟨Wb, ⟨hmws, hWb⟩, hedg⟩ := EDG2.out
          obtain ⟨hks, hsr⟩ := SRI2.out
          have HEDG := Lib.hid hedg
          have HSR := Lib.hid hsr
          have HWB := Lib.hid hWb
          have hssi : (s.size : Int) = (n : Int) := by omega
          have hlim : s.size ≤ 32 := by omega
          have hmw0 : 0 ≤ (mw : Int) := by omega
          have hmw1 : (mw : Int) < (n : Int) := by omega
          have HSS := Lib.hid hss
          have x1 : IntKind.i64.wrap ((k : Int) + (n : Int)) = (k : Int) + (n : Int) := IntWalk.i64_in _ (by omega)
          have x2 : IntKind.i64.wrap ((k : Int) + (n : Int) - 1) = (k : Int) + (n : Int) - 1 := IntWalk.i64_in _ (by omega)
          have x3 : IntKind.i64.wrap (mw : Int) = (mw : Int) := IntWalk.i64_in _ (by omega)
          have u1 := C1.out q2
          have u0 : w.cell? ⟨b0, off0 + i, none⟩ = some (.string s) := C1.out q2
          clear hedg hsr hWb hss
          by_cases he : s[k] = b
          · have he2 : ((s[k].toNat : Int) != (b.toNat : Int)) = false := by simp [he]
            have HS2 := Lib.hid (show coastR ps n b i (k + 1) = R + edges ps n i k by rw [HSR.out, if_pos he])
            clear he
            have EQ := Lib.hid (EAI.out q2)
            go_upto_if 36 with (go_at_call 80; refine EQ.out.mono ?_; rintro e w1 ⟨rfl, q3, rfl⟩)
            go_cut [5] from 19 to 83 (fun s wx => s = .int .i64 ((T : Int) + (R : Int) + (seaN E : Int)) ∧ ∃ q, wx = w.drewN q)
            case first =>
              by_cases h : (E.toNat : Int) = 46
              · have hd : ((E.toNat : Int) == 46) = true := by simpa using h
                have HS := Lib.hid (seaN_yes h)
                have kw : IntKind.i64.wrap ((T : Int) + (R : Int) + 1) = (T : Int) + (R : Int) + 1 := IntWalk.i64_in _ (by omega)
                clear h
                go_wp2
                go_meet
                case rel => exact ⟨by rw [HS.out]; rfl, _, rfl⟩
              · have hd : ((E.toNat : Int) == 46) = false := by simpa using h
                have HS := Lib.hid (seaN_no h)
                clear h
                go_wp2
                go_meet
                case rel => exact ⟨by rw [HS.out]; simp, _, rfl⟩
            case rest =>
              obtain ⟨e5, q4, e6⟩ := hcut
              subst e5
              subst e6
              have eE := seaN_le E
              obtain ⟨e, hee⟩ : ∃ x, Hid (seaN E = x) := ⟨_, Lib.hid rfl⟩
              rw [hee.out] at eE
              rw [hee.out]
              have u2 := C1.out q4
              go_upto_region 12 with fail
              go_cut [50] from 19 to 83 (fun x wx => x = .bool ((Wb.toNat : Int) == 46) ∧ ∃ q, wx = w.drewN q)
              case first =>
                have hWb := HWB.out
                go_quiet (fail)
                go_wp2
                go_meet
                case rel => exact ⟨by first | rfl | rw [hWb], _, by first | rfl | exact drewTwo _ _ _⟩
              case rest =>
                obtain ⟨e5, q5, e6⟩ := hcut
                subst e5
                subst e6
                go_upto_if 50 with fail
                go_cut [5] from 19 to 83 (fun s wx => s = .int .i64 ((T : Int) + (R : Int) + (e : Int) + (seaN Wb : Int)) ∧ ∃ q, wx = w.drewN q)
                case first =>
                  by_cases h : (Wb.toNat : Int) = 46
                  · have hd : ((Wb.toNat : Int) == 46) = true := by simpa using h
                    have HS := Lib.hid (seaN_yes h)
                    have kw : IntKind.i64.wrap ((T : Int) + (R : Int) + (e : Int) + 1) = (T : Int) + (R : Int) + (e : Int) + 1 := IntWalk.i64_in _ (by omega)
                    clear h
                    go_wp2
                    go_meet
                    case rel => exact ⟨by rw [HS.out]; rfl, _, rfl⟩
                  · have hd : ((Wb.toNat : Int) == 46) = false := by simpa using h
                    have HS := Lib.hid (seaN_no h)
                    clear h
                    go_wp2
                    go_meet
                    case rel => exact ⟨by rw [HS.out]; simp, _, rfl⟩
                case rest =>
                  obtain ⟨e5, q6, e6⟩ := hcut
                  subst e5
                  subst e6
                  have eW := seaN_le Wb
                  obtain ⟨f, hff⟩ : ∃ x, Hid (seaN Wb = x) := ⟨_, Lib.hid rfl⟩
                  rw [hff.out] at eW
                  rw [hff.out]
                  have NF := Lib.hid (show ∃ bn : Bool, (if 0 < i then seaN (bAt (sAt ps (i - 1)) k) else 0) = (if bn = true then 1 else 0) ∧ (0 < i → ∃ t : ByteArray, ∃ h : k < t.size, t.size = n ∧ (∀ q, (w.drewN q).cell? ⟨b0, off0 + (i - 1), none⟩ = some (.string t)) ∧ bn = ((t[k].toNat : Int) == 46)) ∧ (¬ 0 < i → bn = false) from by
                    by_cases h : 0 < i
                    · have hz1 := HZ.out (i - 1) (by omega)
                      have hk1 : k < (sAt ps (i - 1)).size := by omega
                      refine ⟨(((sAt ps (i - 1))[k].toNat : Int) == 46), ?_, fun _ => ⟨sAt ps (i - 1), hk1, hz1, fun q => HCL.out (i - 1) (by omega), rfl⟩, fun g => absurd h g⟩
                      rw [if_pos h, bAt_eq hk1]
                      by_cases h4 : ((sAt ps (i - 1))[k].toNat : Int) = 46
                      · rw [seaN_yes h4, if_pos (by simpa using h4)]
                      · rw [seaN_no h4, if_neg (by simpa using h4)]
                    · exact ⟨false, by rw [if_neg h]; rfl, fun g => absurd g h, fun _ => rfl⟩)
                  obtain ⟨bn, hbn, hbn1, hbn2⟩ := NF.out
                  have HBN := Lib.hid hbn
                  clear hbn
                  go_upto_region 14 with fail
                  go_cut [64] from 19 to 83 (fun x wx => x = .bool bn ∧ ∃ q, wx = w.drewN q)
                  case first =>
                    by_cases h : 0 < i
                    · obtain ⟨t, htk, hts, htc, rfl⟩ := hbn1 h
                      have u3 := htc q6
                      have hii : (0 : Int) < (i : Int) := by omega
                      have hi1' : IntKind.i64.wrap ((i : Int) - 1) = (i : Int) - 1 := IntWalk.i64_in _ (by omega)
                      obtain ⟨p, hp⟩ : ∃ p, i - 1 = p := ⟨_, rfl⟩
                      have hpi : (i : Int) - 1 = (p : Int) := by omega
                      have hp1 : (p : Int) < (ps.length : Int) := by omega
                      have hp2 : 0 ≤ (p : Int) := by omega
                      have hpw : IntKind.i64.wrap (p : Int) = (p : Int) := IntWalk.i64_in _ (by omega)
                      rw [hp] at u3
                      have htki : (k : Int) < (t.size : Int) := by omega
                      have htl : t.size ≤ 32 := by omega
                      have HTS := Lib.hid hts
                      clear hts hbn1 hbn2 htc hp
                      go_wp2
                      go_meet
                      case rel => exact ⟨rfl, _, rfl⟩
                    · have hbf := hbn2 h
                      subst hbf
                      have hii : ¬ (0 : Int) < (i : Int) := by omega
                      clear hbn1 hbn2
                      go_wp2
                      go_meet
                      case rel => exact ⟨rfl, _, rfl⟩
                  case rest =>
                    obtain ⟨e5, q7, e6⟩ := hcut
                    subst e5
                    subst e6
                    clear hbn1 hbn2
                    go_upto_if 64 with fail
                    go_cut [5] from 19 to 83 (fun s wx => s = .int .i64 ((T : Int) + (R : Int) + (e : Int) + (f : Int) + ((if bn = true then 1 else 0 : Nat) : Int)) ∧ ∃ q, wx = w.drewN q)
                    case first =>
                      cases bn with
                      | true =>
                        have kw : IntKind.i64.wrap ((T : Int) + (R : Int) + (e : Int) + (f : Int) + 1) = (T : Int) + (R : Int) + (e : Int) + (f : Int) + 1 := IntWalk.i64_in _ (by omega)
                        go_wp2
                        go_meet
                        case rel => exact ⟨rfl, _, rfl⟩
                      | false =>
                        go_wp2
                        go_meet
                        case rel => exact ⟨by simp, _, rfl⟩
                    case rest =>
                      obtain ⟨e5, q8, e6⟩ := hcut
                      subst e5
                      subst e6
                      obtain ⟨g, hg⟩ : ∃ g : Nat, Hid ((if bn = true then 1 else 0 : Nat) = g) := ⟨_, Lib.hid rfl⟩
                      have hg1 : g ≤ 1 := by rw [← hg.out]; split <;> omega
                      rw [hg.out]
                      have HBN2 := Lib.hid (HBN.out.trans hg.out)
                      have SF := Lib.hid (show ∃ bs : Bool, (if i + 1 < ps.length then seaN (bAt (sAt ps (i + 1)) k) else 0) = (if bs = true then 1 else 0) ∧ (i + 1 < ps.length → ∃ t : ByteArray, ∃ h : k < t.size, t.size = n ∧ (∀ q, (w.drewN q).cell? ⟨b0, off0 + (i + 1), none⟩ = some (.string t)) ∧ bs = ((t[k].toNat : Int) == 46)) ∧ (¬ i + 1 < ps.length → bs = false) from by
                        by_cases h : i + 1 < ps.length
                        · have hz1 := HZ.out (i + 1) h
                          have hk1 : k < (sAt ps (i + 1)).size := by omega
                          refine ⟨(((sAt ps (i + 1))[k].toNat : Int) == 46), ?_, fun _ => ⟨sAt ps (i + 1), hk1, hz1, fun q => HCL.out (i + 1) h, rfl⟩, fun g => absurd h g⟩
                          rw [if_pos h, bAt_eq hk1]
                          by_cases h4 : ((sAt ps (i + 1))[k].toNat : Int) = 46
                          · rw [seaN_yes h4, if_pos (by simpa using h4)]
                          · rw [seaN_no h4, if_neg (by simpa using h4)]
                        · exact ⟨false, by rw [if_neg h]; rfl, fun g => absurd g h, fun _ => rfl⟩)
                      obtain ⟨bs, hbs, hbs1, hbs2⟩ := SF.out
                      have HBS := Lib.hid hbs
                      clear hbs
                      have kwi : IntKind.i64.wrap ((i : Int) + 1) = (i : Int) + 1 := IntWalk.i64_in _ (by omega)
                      go_upto_region 16 with fail
                      go_cut [81] from 19 to 83 (fun x wx => x = .bool bs ∧ ∃ q, wx = w.drewN q)
                      case first =>
                        by_cases h : i + 1 < ps.length
                        · obtain ⟨t, htk, hts, htc, rfl⟩ := hbs1 h
                          have u3 := htc q8
                          have hii : (i : Int) + 1 < (ps.length : Int) := by omega
                          have hii0 : 0 ≤ (i : Int) + 1 := by omega
                          have htki : (k : Int) < (t.size : Int) := by omega
                          have htl : t.size ≤ 32 := by omega
                          have HTS := Lib.hid hts
                          clear hts hbs1 hbs2 htc
                          go_wp2
                          go_meet
                          case rel => exact ⟨rfl, _, rfl⟩
                        · have hbf := hbs2 h
                          subst hbf
                          have hii : ¬ (i : Int) + 1 < (ps.length : Int) := by omega
                          clear hbs1 hbs2
                          go_wp2
                          go_meet
                          case rel => exact ⟨rfl, _, rfl⟩
                      case rest =>
                        obtain ⟨e5, q9, e6⟩ := hcut
                        subst e5
                        subst e6
                        clear hbs1 hbs2
                        cases bs with
                        | true =>
                          have kw : IntKind.i64.wrap ((T : Int) + (R : Int) + (e : Int) + (f : Int) + (g : Int) + 1) = (T : Int) + (R : Int) + (e : Int) + (f : Int) + (g : Int) + 1 := IntWalk.i64_in _ (by omega)
                          have END := Lib.hid (show (T : Int) + (R : Int) + (e : Int) + (f : Int) + (g : Int) + 1 = (T : Int) + (coastR ps n b i (k + 1) : Int) by
                            have h1 := HBS.out
                            simp only [if_true, Bool.false_eq_true, if_false] at h1
                            rw [HS2.out, HEDG.out, hee.out, hff.out, HBN2.out, h1]
                            push_cast
                            omega)
                          go_wp2
                          go_roundg g'
                          case measure => omega
                          case rel => exact ⟨k + 1, _, by omega, by go_num, by rw [← END.out], rfl⟩
                        | false =>
                          have END := Lib.hid (show (T : Int) + (R : Int) + (e : Int) + (f : Int) + (g : Int) = (T : Int) + (coastR ps n b i (k + 1) : Int) by
                            have h1 := HBS.out
                            simp only [if_true, Bool.false_eq_true, if_false] at h1
                            rw [HS2.out, HEDG.out, hee.out, hff.out, HBN2.out, h1]
                            push_cast
                            omega)
                          go_wp2
                          go_roundg g'
                          case measure => omega
                          case rel => exact ⟨k + 1, _, by omega, by go_num, by rw [← END.out], rfl⟩
          · have he2 : ((s[k].toNat : Int) != (b.toNat : Int)) = true := by
              simp only [bne_iff_ne]
              exact fun e => he (UInt8.toNat_inj.1 (by omega))
            have HS2 := Lib.hid (show coastR ps n b i (k + 1) = R by rw [HSR.out, if_neg he, Nat.add_zero])
            clear he
            go_wp2
            go_roundg g'
            case measure => omega
            case rel => exact ⟨k + 1, _, by omega, by go_num, by rw [HS2.out], rfl⟩
        · obtain rfl : k = n := by omega
          have E3 := Lib.hid (show (T : Int) + (coastR ps k b i k : Int) = (coastTo ps k b (i + 1) : Int) by rw [STI.out]; omega)
          rw [E3.out]
          go_wp2
          go_roundw
          case rel => exact ⟨i + 1, _, by omega, by go_num, rfl, rfl⟩
          case measure => simp [intOf]; omega
    · obtain rfl : i = ps.length := by omega
      go_wp2
      go_ret
      exact ⟨rfl, q, rfl⟩
end Go.Proofs.Ytpekchihdmhkkaa.stab
