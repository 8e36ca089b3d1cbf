/- The model's neighbours of lands: contract. -/
import Derived.Test.YtpekchihdmhkkaaGridB1
import Derived.Test.YtpekchihdmhkkaaGridS3
import Derived.Deep.Cut
import Derived.Deep.CutRange
namespace Go.Proofs.Ytpekchihdmhkkaa.stab
open Go.ChangeShapes Go.WideShapes Go.ChangeAt Go.RowKit Go.Proofs.Ytpekchihdmhkkaa.split Go.Proofs.Ytpekchihdmhkkaa.sines Go.Proofs.Ytpekchihdmhkkaa.names
set_option linter.unusedSimpArgs false
set_option linter.unusedVariables false

def valBo (ps : List ByteArray) : List ByteArray := if okG ps = true then bordersG ps else []
def codeBo (ps : List ByteArray) : Int := if okG ps = true then 0 else 1
theorem bordersG_len (ps : List ByteArray) : (bordersG ps).length ≤ 676 := by
  unfold bordersG
  have h1 := landsC_len (cellsG ps)
  have h2 := outerP_len (landsC (cellsG ps)) (meetG ps (sAt ps 0).size) (landsC (cellsG ps)).length
  exact Nat.le_trans h2 (Nat.mul_le_mul h1 h1)
theorem valBo_len (ps : List ByteArray) : (valBo ps).length ≤ 1048576 := by
  unfold valBo
  have := bordersG_len ps
  split
  · omega
  · simp
theorem txt_at {L : List UInt8} {k : Nat} (h : k < (txt L).size) : (txt L)[k] = L.getD k 0 := by
  have h2 : k < L.length := by rw [← txt_size]; exact h
  rw [← bAt_eq h]
  simp [bAt, txt]
theorem ext_one {L : List UInt8} {k : Nat} (h : k < L.length) : (txt L).extract k (k + 1) = txt [L.getD k 0] := by
  have e : ((txt L).extract k (k + 1)).data.toList = (L.drop k).take 1 := by simp [txt]
  rw [List.drop_eq_getElem_cons h] at e
  apply ByteArray.ext
  apply Array.ext'
  rw [e, getD_lt h]
  rfl
theorem ext_two {L : List UInt8} {i k : Nat} (hi : i < L.length) (hk : k < L.length) : (txt L).extract i (i + 1) ++ (txt L).extract k (k + 1) = txt [L.getD i 0, L.getD k 0] := by
  rw [ext_one hi, ext_one hk]
  apply ByteArray.ext
  simp [txt]
set_option maxRecDepth 100000 in
set_option maxHeartbeats 4000000 in
theorem specGridBorders_any (v : Value) (ps : List ByteArray) (w : World) (hv : SAt w w.heap.size v ps) (hl : ps.length ≤ 1048576) (hr : ∀ i, i < ps.length → (sAt ps i).size ≤ 1048576) :
    Calls Try.prog 22 #[v] w fun e w' => ∃ r, e = .returned (.tuple #[r, .int .i64 (codeBo ps)]) ∧ SRow w' w.heap.size r (valBo ps) ∧ Below w.heap.size w w' := by
  have OK := Lib.hid (l12Ok_any v ps w _ hv hl hr)
  have HV := Lib.hid hv
  obtain ⟨ar, c, rfl, _, hcl⟩ := hv
  clear hl hr hcl
  unfold valBo codeBo
  cases h : okG ps with
  | false =>
    rw [h] at OK
    go_enter Try.func22, Try.ntmps22
    go_wp2_with fail
    refine OK.out.mono ?_
    rintro e w' ⟨rfl, q, rfl⟩
    go_wp2
    exact bodyPost_ret (v := .tuple #[.slice none 0 0, .int .i64 1]) (by simp [results, Try.results22, go_sem]) rfl ⟨_, rfl, ⟨rfl, .inl ⟨rfl, rfl⟩⟩, below_drawn _ q⟩
  | true =>
    rw [h] at OK
    have g := grid_of h
    simp only [if_true]
    have LA := Lib.hid (fun W (hb : Below w.heap.size w W) => l12Lands_any (.slice ar ps.length c) ps _ W (sat_up (sat_keep HV.out hb) hb.size) g)
    have MT := Lib.hid (fun a b W (hb : Below w.heap.size w W) => l12Meet_any (.slice ar ps.length c) ps _ a b W w.heap.size (sat_keep HV.out hb) g)
    unfold bordersG
    have hLn := landsC_len (cellsG ps)
    obtain ⟨L, hL⟩ : ∃ L, Hid (landsC (cellsG ps) = L) := ⟨_, Lib.hid rfl⟩
    rw [hL.out] at LA hLn ⊢
    generalize meetG ps (sAt ps 0).size = M at MT ⊢
    have TZ := Lib.hid (txt_size L)
    have TA := Lib.hid (fun k (hk : k < (txt L).size) => txt_at hk)
    have TX := Lib.hid (fun i k (hi : i < L.length) (hk : k < L.length) => ext_two hi hk)
    have OL := Lib.hid (outerP_len L M)
    have IL := Lib.hid (innerP_len L M)
    have OS := Lib.hid (show ∀ i, outerP L M (i + 1) = outerP L M i ++ innerP L M i L.length from fun i => rfl)
    have I0 := Lib.hid (innerP_start L M)
    have IS := Lib.hid (innerP_succ L M)
    obtain ⟨s, hs⟩ : ∃ s, Hid (txt L = s) := ⟨_, Lib.hid rfl⟩
    rw [hs.out] at LA TZ TX
    have TA2 := Lib.hid (show ∀ k (hk : k < s.size), s[k] = L.getD k 0 from by have := hs.out; subst this; exact TA.out)
    have hsz : (s.size : Int) = (L.length : Int) := by have := TZ.out; omega
    have hsl : s.size ≤ 26 := by have := TZ.out; omega
    have hLi : (L.length : Int) ≤ 26 := by omega
    obtain ⟨i0, hi, hz0, hz1, hz2⟩ := info_partsT info_str2
    clear h g TA
    go_enter Try.func22, Try.ntmps22
    go_wp2_with fail
    refine OK.out.mono ?_
    rintro e w1 ⟨rfl, q, hw⟩
    have HB1 := Lib.hid (show Below w.heap.size w w1 by rw [hw]; exact below_drawn _ q)
    clear hw
    go_wp2_with fail
    refine (LA.out _ HB1.out).mono ?_
    rintro e w2 ⟨rfl, hb2⟩
    have HB2 := Lib.hid (HB1.out.trans (hb2.mono HB1.out.size))
    have HSZ := HB2.out.size
    clear hb2
    go_wp2
    go_loopw [5, 6] (fun o i wr => ∃ r : Nat, r ≤ L.length ∧ i = .int .i64 (r : Int) ∧ SRow wr w2.heap.size o (outerP L M r) ∧ Below w2.heap.size w2 wr) (fun _ i _ => L.length - (intOf i).toNat)
    case atStart => exact ⟨0, Nat.zero_le _, rfl, World.ownsRow_made w2 #[] 0 (Nat.le_refl _) (by decide) rfl, (Below.refl _ _).alloc (Nat.le_refl _) _⟩
    case round =>
      obtain ⟨i, hir, rfl, hr0, hb0⟩ := hrel
      have HR0 := Lib.hid hr0
      have HB0 := Lib.hid hb0
      obtain ⟨⟨a9, c9, rfl⟩, _⟩ := srow_shape hr0
      clear hr0 hb0
      by_cases hlt : i < L.length
      · have hi0 : 0 ≤ (i : Int) := by omega
        have hi1 : (i : Int) < (L.length : Int) := by omega
        obtain ⟨i1, hi1e⟩ : ∃ k, k = i + 1 := ⟨_, rfl⟩
        have kwi : IntKind.i64.wrap ((i : Int) + 1) = (i1 : Int) := by rw [hi1e, IntWalk.i64_in _ (by omega)]; omega
        have HI1 := Lib.hid hi1e
        have OSI := Lib.hid (OS.out i)
        have hol := OL.out i
        have hol2 : i * L.length ≤ 676 := Nat.mul_le_mul (show i ≤ 26 by omega) (show L.length ≤ 26 by omega)
        obtain ⟨O, hO⟩ : ∃ O, Hid (outerP L M i = O) := ⟨_, Lib.hid rfl⟩
        rw [hO.out] at HR0 OSI hol ⊢
        have hO26 : O.length ≤ 676 := by omega
        clear hol hol2 hi1e
        go_wp2
        go_loopw [5, 7] (fun o j wr => ∃ k : Nat, i1 ≤ k ∧ k ≤ L.length ∧ j = .int .i64 (k : Int) ∧ SRow wr w2.heap.size o (O ++ innerP L M i k) ∧ Below w2.heap.size w2 wr) (fun _ j _ => L.length - (intOf j).toNat)
        case atStart =>
          refine ⟨i1, Nat.le_refl _, by have := HI1.out; omega, rfl, ?_, HB0.out⟩
          rw [HI1.out, I0.out, List.append_nil]
          exact HR0.out
        case round =>
          obtain ⟨k, hik, hkl, rfl, hr, hb⟩ := hrel
          have HR := Lib.hid hr
          have HB := Lib.hid hb
          obtain ⟨⟨a8, c8, rfl⟩, _⟩ := srow_shape hr
          clear hr hb
          by_cases hkt : k < L.length
          · have hk0 : 0 ≤ (k : Int) := by omega
            have hk1 : (k : Int) < (L.length : Int) := by omega
            obtain ⟨k1, hk1e⟩ : ∃ m, m = k + 1 := ⟨_, rfl⟩
            have kwk : IntKind.i64.wrap ((k : Int) + 1) = (k1 : Int) := by rw [hk1e, IntWalk.i64_in _ (by omega)]; omega
            have HK1 := Lib.hid hk1e
            have his : i < s.size := by omega
            have hks : k < s.size := by omega
            have ISK := Lib.hid (IS.out i k (by have := HI1.out; omega))
            have hil := IL.out i k
            obtain ⟨N, hN⟩ : ∃ N, Hid (O ++ innerP L M i k = N) := ⟨_, Lib.hid rfl⟩
            have hNl : N.length ≤ 702 := by rw [← hN.out, List.length_append]; omega
            rw [hN.out] at HR
            have MTC := Lib.hid (show ∀ W (hb : Below w.heap.size w W), Calls Try.prog 51 #[.slice ar ps.length c, .int .u8 (s[i].toNat : Int), .int .u8 (s[k].toNat : Int)] W fun e w' => e = .returned (.bool (M (L.getD i 0) (L.getD k 0))) ∧ ∃ q, w' = W.drewN q from fun W hb => by
              have := MT.out (s[i]) (s[k]) W hb
              rw [TA2.out i his, TA2.out k hks] at this ⊢
              exact this)
            obtain ⟨B, hB⟩ : ∃ B, Hid (M (L.getD i 0) (L.getD k 0) = B) := ⟨_, Lib.hid rfl⟩
            rw [hB.out] at MTC ISK
            have HBW := Lib.hid (HB2.out.trans (HB.out.mono HSZ))
            have TXI := Lib.hid (show s.extract i i1 ++ s.extract k k1 = txt [L.getD i 0, L.getD k 0] by rw [HI1.out, HK1.out]; exact TX.out i k hlt hkt)
            have hlen : (O ++ innerP L M i k).length = N.length := by rw [hN.out]
            rw [hlen]
            clear hil hk1e hlen
            have hcb : (k1 : Int) ≤ (L.length : Int) := by have := HK1.out; omega
            have hib : (i1 : Int) ≤ (L.length : Int) := by omega
            have hi01 : (i : Int) ≤ (i1 : Int) := by have := HI1.out; omega
            have hk01 : (k : Int) ≤ (k1 : Int) := by have := HK1.out; omega
            go_upto_region 11 with fail
            go_cut [35] from 22 to 49 (fun x wx => x = .bool B ∧ SRow wx w2.heap.size (.slice a8 N.length c8) N ∧ Below w2.heap.size w2 wx)
            case first =>
              go_quiet ((go_at_call 51; exact (MTC.out _ (by first | exact HBW.out | exact bdr HBW.out _)).mono fun _ _ ⟨h1, q, h2⟩ => ⟨h1, _, h2.trans (drewTwo _ _ _)⟩))
              all_goals go_wp2
              all_goals go_meet
              all_goals exact ⟨rfl, srow_heap HR.out rfl, bdr HB.out _⟩
            case rest =>
              obtain ⟨e5, hr, hb⟩ := hcut
              subst e5
              have HR3 := Lib.hid hr
              have HB3 := Lib.hid hb
              clear hr hb
              cases B with
              | false =>
                have SN := Lib.hid (show O ++ innerP L M i (k + 1) = N by rw [ISK.out, ← List.append_assoc, hN.out]; simp)
                go_wp2
                go_roundw
                case rel => exact ⟨k + 1, by omega, by omega, by rw [HK1.out], by rw [SN.out]; exact HR3.out, HB3.out⟩
                case measure => simp [intOf]; have := HK1.out; omega
              | true =>
                have SN := Lib.hid (show O ++ innerP L M i (k + 1) = N ++ [s.extract i i1 ++ s.extract k k1] by rw [ISK.out, ← List.append_assoc, hN.out, TXI.out]; simp)
                have nm1 : N.length + 1 ≤ maxLen := by unfold maxLen; omega
                have nm2 : (N.length + 1) * 16 ≤ 140737488355328 := by omega
                have x1 : (s.extract i i1).size = min i1 s.size - i := by simp [ByteArray.size_extract]
                have x2 : (s.extract k k1).size = min k1 s.size - k := by simp [ByteArray.size_extract]
                have hov : ¬ 9223372036854775807 < (s.extract i i1).size + (s.extract k k1).size := by rw [x1, x2]; omega
                have hov2 : ¬ 9223372036854775807 < min i1 s.size - i + (min k1 s.size - k) := by omega
                have hsz3 := HB3.out.size
                clear x1 x2
                go_wp2_with fail
                have HR2 := Lib.hid (show SRow wc.drew w2.heap.size (.slice a8 N.length c8) N from srow_heap HR3.out rfl)
                have HB4 := Lib.hid (show Below w2.heap.size w2 wc.drew from HB3.out.drew)
                have hsz4 : w2.heap.size ≤ wc.drew.heap.size := hsz3
                go_region_held3 (fun U => True) (first | trivial) (first | ((refine step_append_lies _ (by rfl) _ _ 22 (by rfl) (w2.heap.size) 9 i0 (.string ByteArray.empty) 1 16 Try.underlying22 hi hz0 hz1 hz2 rfl (by decide) _ N.length _ (by rfl) (srow_heap (HR2.out.alloc (.cells #[.string (s.extract i i1 ++ s.extract k k1)] 9)) rfl) ⟨wc.heap.size, 0, none⟩ 1 1 [.string (s.extract i i1 ++ s.extract k k1)] (by rfl) rfl (newS wc.drew _ _ rfl) (cellS _) (by decide) nm1 nm2 (by simp; omega) (wc.heap.size + 1) (by simp) ?_; intro g4 cap4 w4 hown4 hg4 hat4 hlt4; have BG := Lib.hid ((HB4.out.alloc hsz4 (.cells #[.string (s.extract i i1 ++ s.extract k k1)] 9)).grown hg4 (by simp; omega) (fun j hj => (HR2.out.lt j hj).1)); skip)))
                go_wp2
                go_roundw
                case rel => exact ⟨k + 1, by omega, by omega, by rw [HK1.out], by rw [SN.out]; exact snocS hown4, BG.out⟩
                case measure => simp [intOf]; have := HK1.out; omega
          · obtain rfl : k = L.length := by omega
            have EE := Lib.hid (show O ++ innerP L M i L.length = outerP L M (i + 1) from OSI.out.symm)
            rw [EE.out] at HR ⊢
            go_wp2
            go_roundw
            case rel => exact ⟨i + 1, by omega, by rw [HI1.out], HR.out, HB.out⟩
            case measure => simp [intOf]; have := HI1.out; omega
      · obtain rfl : i = L.length := by omega
        go_wp2
        exact bodyPost_ret (v := .tuple #[.slice a9 (outerP L M L.length).length c9, .int .i64 0]) (by simp [results, Try.results22, go_sem]) rfl ⟨_, rfl, srow_up HR0.out HSZ, HB2.out.trans (HB0.out.mono HSZ)⟩
end Go.Proofs.Ytpekchihdmhkkaa.stab
