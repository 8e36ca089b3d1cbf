/- The program's chains: whether a line may stand for a part. -/
import Derived.Test.YtemhmejjmhbfdaaChainI7
namespace Go.Proofs.Ytemhmejjmhbfdaa.sines
open Go.ChangeShapes Go.WideShapes Go.ChangeAt Go.RowKit Go.Proofs.Ytemhmejjmhbfdaa.spots Go.Proofs.Ytemhmejjmhbfdaa.irows Go.Proofs.Ytemhmejjmhbfdaa.pairsPlace
set_option linter.unusedSimpArgs false
set_option linter.unusedVariables false

theorem rdI_two (w : World) (i k : Int) : RdI (w.alloc (.cells #[.int .i64 i, .int .i64 k] 2)) (.slice (some ⟨w.heap.size, 0, none⟩) 2 2) [i, k] := by
  refine ⟨_, _, rfl, fun j hj => ⟨w.heap.size, rfl, by simp, ?_⟩⟩
  match j, hj with
  | 0, _ => simp [zAt]
  | 1, _ => simp [zAt]
theorem areB_two (n i k : Int) : areB n [i, k] = (inB k 0 (n - 1) && inB i 0 (k - 1)) := by
  have h : areB n [i, k] = true ↔ (inB k 0 (n - 1) && inB i 0 (k - 1)) = true := by
    have e : areB n [i, k] = risesB [i, k] 0 (n - 1) := by simp [areB]
    rw [e, risesB_iff]
    constructor
    · intro h
      have h0 := inB_of (h 0 (by simp)).1
      have h1 := inB_of (h 1 (by simp)).1
      have h2 := (h 1 (by simp)).2 (by omega)
      simp only [zAt, List.getD_cons_zero, List.getD_cons_succ, Nat.sub_self] at h0 h1 h2
      simp [inB]; omega
    · intro h j hj
      simp [inB] at h
      match j, hj with
      | 0, _ => simp [zAt, inB]; omega
      | 1, _ => simp [zAt, inB]; omega
  cases h1 : areB n [i, k] <;> cases h2 : (inB k 0 (n - 1) && inB i 0 (k - 1)) <;> simp_all
theorem codeW_Q (ps : List Pl) (i k d : Int) : codeQ ps (areB (ps.length : Int) [i, k] && inB d 0 3000) = codeW ps i k d := by
  rw [areB_two]
  unfold codeQ codeW codeC
  by_cases h1 : okC ps = true
  · by_cases h2 : inB d 0 3000 = true
    · simp [h1, h2]
    · simp [h1, h2]
  · simp [h1]
theorem prow_cap {w : World} {B : Nat} {v : Value} {ps : List (Int × Int)} (h : PRow w B v ps) : ∀ a n c, v = .slice a n c → n ≤ c := by
  intro a n c e
  rcases h.2 with ⟨hn, h0⟩ | ⟨g, cap, cur, hv, _, _, hc, _⟩
  · rw [hn] at e; injection e with _ e2 e3; omega
  · rw [hv] at e; injection e with _ e2 e3; omega
set_option maxRecDepth 100000 in
set_option maxHeartbeats 2000000 in
theorem implStaysWithin_any (v : Value) (B : Nat) (ps : List (Int × Int)) (i k d : Int) (w : World) (hr : PRow w B v ps) (hl : ps.length ≤ 1048576) :
    Calls Try.prog 61 #[v, .int .i64 i, .int .i64 k, .int .i64 d] w fun e w' => e = .returned (.tuple #[.bool (valW ps i k d), .int .i64 (codeW ps i k d)]) ∧ Below w.heap.size w w' := by
  have hv := prow_at hr
  have HC := Lib.hid (prow_cap hr)
  have HV := Lib.hid hv
  obtain ⟨ar, c, rfl, _⟩ := hv
  have hl2 : (ps.length : Int) ≤ 1048576 := by omega
  have CQ := Lib.hid (codeW_Q ps i k d)
  have W1 := Lib.hid ((Below.refl w.heap.size w).alloc (Nat.le_refl _) (.cells #[.int .i64 i, .int .i64 k] 2))
  have AR := Lib.hid (arePointsOf_any (.slice ar ps.length c) (.slice (some ⟨w.heap.size, 0, none⟩) 2 2) ps.length [i, k] _ ⟨_, _, rfl⟩ (rdI_two w i k) hl (by simp))
  have HV1 := Lib.hid (pat_up (pat_keep HV.out W1.out) W1.out.size)
  have hsz1 := W1.out.size
  by_cases hc : codeW ps i k d = 0
  · have hcc : codeC ps d = 0 := by
      unfold codeW at hc
      split at hc
      · assumption
      · assumption
    obtain ⟨hok, d0, d1⟩ := codeC_of hcc
    have hik : (inB k 0 ((ps.length : Int) - 1) && inB i 0 (k - 1)) = true := by
      unfold codeW at hc
      rw [if_pos hcc] at hc
      split at hc
      · assumption
      · omega
    have eA : areB (ps.length : Int) [i, k] = true := by rw [areB_two]; exact hik
    have hd : inB d 0 3000 = true := by simp [inB]; omega
    simp only [Bool.and_eq_true] at hik
    obtain ⟨k0, k1⟩ := inB_of hik.1
    obtain ⟨i0, i1⟩ := inB_of hik.2
    have e2 : valW ps i k d = withinB ps d i.toNat k.toNat := by simp [valW, hc]
    rw [hc, e2]
    rw [hc] at CQ
    obtain ⟨i', rfl⟩ := Int.eq_ofNat_of_zero_le i0
    obtain ⟨k', rfl⟩ := Int.eq_ofNat_of_zero_le k0
    obtain ⟨q1, q2, q3⟩ := okC_of hok
    have LT := Lib.hid (fun W (h : Below w.heap.size w W) => lineThrough_any _ ps i' k' W (pat_up (pat_keep HV.out h) h.size) HC.out q2 (by omega) (by omega) q3)
    simp only [Int.toNat_natCast]
    have hd2 := boundSq d0 d1
    rw [within_apart hd2.1 (by omega)]
    generalize apartN ps i' k' (k' - i' - 1) = R at LT ⊢
    rw [eA] at AR CQ
    rw [hd] at CQ
    clear hik eA e2 hc
    go_enter Try.func61, Try.ntmps61
    go_wp2_with (first | (go_at_call 143; refine AR.out.mono ?_; rintro e w' ⟨rfl, rfl⟩) | (go_at_call 144; refine (isBound_any _ _).mono ?_; rw [hd]; rintro e w' ⟨rfl, rfl⟩) | (go_at_call 128; refine (chainCode_any _ ps _ _ HV1.out hl).mono ?_; rw [show codeQ ps true = 0 from CQ.out]; rintro e w2 ⟨rfl, hb⟩; have HB2 := Lib.hid (W1.out.trans (hb.mono hsz1)); clear hb) | (go_at_call 145; refine (LT.out _ HB2.out).mono ?_; rintro e w3 ⟨rfl, hb3⟩; have HB3 := Lib.hid (HB2.out.trans (hb3.mono HB2.out.size)); clear hb3) | (go_at_call 146; refine (mayStand_any _ _ _ _ _ d0 d1).mono ?_; rintro e w4 ⟨rfl, hb4⟩; have HB4 := Lib.hid (HB3.out.trans (hb4.mono HB3.out.size)); clear hb4))
    exact bodyPost_ret (v := .tuple #[.bool (decide (R ≤ d * d)), .int .i64 0]) (by simp [results, Try.results61, go_sem]) rfl ⟨rfl, HB4.out⟩
  · have e2 : valW ps i k d = false := by simp [valW, hc]
    rw [e2]
    cases h1 : areB (ps.length : Int) [i, k] with
    | false =>
      rw [h1] at AR CQ
      generalize codeW ps i k d = C at hc CQ ⊢
      have hcb : (C == 0) = false := by simpa using hc
      have hcn : (C != 0) = true := by simp [hc]
      go_enter Try.func61, Try.ntmps61
      go_wp2_with (first | (go_at_call 143; refine AR.out.mono ?_; rintro e w' ⟨rfl, rfl⟩) | (go_at_call 128; refine (chainCode_any _ ps _ _ HV1.out hl).mono ?_; rw [show codeQ ps false = C from CQ.out]; rintro e w2 ⟨rfl, hb⟩; have HB2 := Lib.hid (W1.out.trans (hb.mono hsz1)); clear hb))
      exact bodyPost_ret (v := .tuple #[.bool false, .int .i64 C]) (by simp [results, Try.results61, go_sem]) rfl ⟨rfl, HB2.out⟩
    | true =>
      rw [h1] at AR CQ
      generalize codeW ps i k d = C at hc CQ ⊢
      have hcb : (C == 0) = false := by simpa using hc
      have hcn : (C != 0) = true := by simp [hc]
      obtain ⟨b, hbb⟩ : ∃ b, Hid (inB d 0 3000 = b) := ⟨_, Lib.hid rfl⟩
      rw [hbb.out] at CQ
      go_enter Try.func61, Try.ntmps61
      go_wp2_with (first | (go_at_call 143; refine AR.out.mono ?_; rintro e w' ⟨rfl, rfl⟩) | (go_at_call 144; refine (isBound_any _ _).mono ?_; rw [hbb.out]; rintro e w' ⟨rfl, rfl⟩) | (go_at_call 128; refine (chainCode_any _ ps _ _ HV1.out hl).mono ?_; rw [show codeQ ps b = C from CQ.out]; rintro e w2 ⟨rfl, hb⟩; have HB2 := Lib.hid (W1.out.trans (hb.mono hsz1)); clear hb))
      exact bodyPost_ret (v := .tuple #[.bool false, .int .i64 C]) (by simp [results, Try.results61, go_sem]) rfl ⟨rfl, HB2.out⟩
end Go.Proofs.Ytemhmejjmhbfdaa.sines
