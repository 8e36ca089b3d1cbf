/- The model's number of colours: contract. -/
import Derived.Test.YtemhmejjmhbfdabColsK
namespace Go.Proofs.Ytemhmejjmhbfdab.sines
open Go.ChangeShapes Go.WideShapes Go.ChangeAt Go.RowKit Go.Proofs.Ytemhmejjmhbfdab.spots Go.Proofs.Ytemhmejjmhbfdab.irows Go.Proofs.Ytemhmejjmhbfdab.pairsBorder
set_option linter.unusedSimpArgs false
set_option linter.unusedVariables false

theorem pow2_le {N : Nat} (h : N ≤ 10) : 2 ^ N ≤ 1024 := Nat.pow_le_pow_right (by omega) h
/-- Which sets are apart. -/
def apartL (ps : List (Int × Int)) (k : Nat) : List Bool := (List.range k).map (apartM ps)
theorem apartL_len (ps : List (Int × Int)) (k : Nat) : (apartL ps k).length = k := by simp [apartL]
theorem apartL_succ (ps : List (Int × Int)) (k : Nat) : apartL ps (k + 1) = apartL ps k ++ [apartM ps k] := by simp [apartL, List.range_succ]
theorem apartL_at (ps : List (Int × Int)) (k p : Nat) (h : p < (apartL ps k).length) : (apartL ps k)[p] = apartM ps p := by simp [apartL]
theorem rowG_far {w w' : World} {B g n : Nat} {f : Nat → Int} {o : Option Nat} (h : RowG w B g n f) (hg : w.grownBy w' o) (hne : o ≠ some g) : RowG w' B g n f :=
  World.ownsRow.kept h hg (.inr (fun e => hne (by simpa [Value.ownBlock] using e.symm)))

set_option maxRecDepth 100000 in
set_option maxHeartbeats 4000000 in
theorem l09Count_any (n m : Int) (v : Value) (ps : List (Int × Int)) (w : World) (hv : PAt w w.heap.size v ps) (hok : validC n ps = true) (m0 : 1 ≤ m) (m1 : m ≤ 6) :
    Calls Try.prog 65 #[.int .i64 n, v, .int .i64 m] w fun e w' => e = .returned (.int .i64 (countC n ps m : Nat)) ∧ Below w.heap.size w w' := by
  obtain ⟨i0, hi, hz0, hz1, hz2⟩ := info_parts info_int
  obtain ⟨n0, n1, hl30, hf⟩ := validC_facts hok
  have hp : ∀ p ∈ ps, 0 ≤ p.1 ∧ p.1 < p.2 ∧ p.2 < n := fun p hp => by
    obtain ⟨i, hi, rfl⟩ := List.mem_iff_getElem.1 hp
    rw [bAt_of hi]; exact hf i hi
  have HE := Lib.hid (waysC_all hp m)
  obtain ⟨N, rfl⟩ : ∃ N : Nat, n = (N : Int) := ⟨n.toNat, by omega⟩
  obtain ⟨M, rfl⟩ : ∃ M : Nat, m = (M : Int) := ⟨m.toNat, by omega⟩
  rw [Int.toNat_natCast, Int.toNat_natCast] at HE
  have HP := Lib.hid hp
  have HQ := Lib.hid (show ∀ i, i < ps.length → 0 ≤ (bAt ps i).1 ∧ (bAt ps i).1 < 10 ∧ 0 ≤ (bAt ps i).2 ∧ (bAt ps i).2 < 10 from fun i hi => by have := hf i hi; omega)
  have HV := Lib.hid hv
  have hN : N ≤ 10 := by omega
  have hS := pow2_le hN
  have hS1 : 1 ≤ 2 ^ N := Nat.one_le_two_pow
  have HS2 := Lib.hid (show ∀ s : Nat, s < 2 ^ N → waysC ps N 0 s = if s = 0 then 1 else 0 from fun s hs => waysC_zero hp hs)
  rw [← HE.out]
  obtain ⟨ap, cp, rfl, _⟩ := hv
  have ksz : IntKind.i64.wrap ((2 : Int) ^ N) = ((2 ^ N : Nat) : Int) := by
    rw [show ((2 : Int) ^ N) = ((2 ^ N : Nat) : Int) by simp]
    exact IntWalk.i64_in _ (by omega)
  obtain ⟨Z, hZ⟩ : ∃ Z, Hid (2 ^ N = Z) := ⟨_, Lib.hid rfl⟩
  rw [hZ.out] at ksz hS hS1 HS2 ⊢
  clear hok hf hp
  obtain ⟨ib, hib, hbz0, hbz1, hbz2⟩ := info_parts info_bool
  have sz : (w.alloc (.cells #[] 4)).heap.size = w.heap.size + 1 := by simp
  obtain ⟨w2, hmk1, hown1, hg1⟩ := run_make_full (P := Try.prog) (w := w.alloc (.cells #[] 4)) (w.alloc (.cells #[] 4)).heap.size 39 2 i0 (.int .i64 0) 1 Try.underlying39 hi hz0 hz1 .i64 .i64 Z (by rw [hz2]; omega) (by unfold maxLen; omega) (by simp)
  have BB := (Below.refl (w.alloc (.cells #[] 4)).heap.size (w.alloc (.cells #[] 4))).grown hg1 (by simp) (by simp)
  have BR1 := Lib.hid (brow_keep (brow_made w w.heap.size (Nat.le_refl _)) BB)
  have R1 := Lib.hid (irow_up (rowG_start hown1) (show w.heap.size ≤ (w.alloc (.cells #[] 4)).heap.size by omega))
  have B1 := Lib.hid (show Below w.heap.size w w2 from ((Below.refl _ _).alloc (Nat.le_refl _) _).trans (BB.mono (by omega)))
  rw [sz] at R1 hmk1
  clear hown1 hg1 BB sz
  have hN2 : (N : Int) ≤ 10 := by omega
  have hM2 : (M : Int) ≤ 6 := by omega
  have hZ2 : (Z : Int) ≤ 1024 := by omega
  go_enter Try.func65, Try.ntmps65
  go_wp2
  clear hmk1
  go_loopw [8, 10] (fun v i wr => ∃ k : Nat, k ≤ Z ∧ i = .int .i64 (k : Int) ∧ BRow wr w.heap.size v (apartL ps k) ∧ v.ownBlock ≠ some (w.heap.size + 1) ∧ RowG wr w.heap.size (w.heap.size + 1) Z (fun _ => 0) ∧ Below w.heap.size w wr) (fun _ i _ => Z - (intOf i).toNat)
  case atStart => exact ⟨0, Nat.zero_le _, rfl, BR1.out, by simp [Value.ownBlock], R1.out, B1.out⟩
  case round =>
    obtain ⟨k, hk, rfl, hbr, hne, hr, hb⟩ := hrel
    have HBR := Lib.hid hbr
    have HNE := Lib.hid hne
    have HR := Lib.hid hr
    have HB := Lib.hid hb
    clear hbr hne hr
    by_cases hlt : k < Z
    · have hk0 : 0 ≤ (k : Int) := by omega
      have hk1 : (k : Int) < (Z : Int) := by omega
      have kw : IntKind.i64.wrap ((k : Int) + 1) = (k : Int) + 1 := IntWalk.i64_in _ (by omega)
      have AP := Lib.hid (l09Apart_any _ ps k wr (pat_up (pat_keep HV.out hb) hb.size) hl30 HQ.out (by omega))
      have LN := Lib.hid (apartL_len ps k)
      have SC := Lib.hid (apartL_succ ps k)
      generalize apartM ps k = bk at AP SC
      generalize apartL ps k = bs at HBR LN SC
      obtain ⟨aa, ca, eu⟩ := brow_shape HBR.out
      subst eu
      have hbl : bs.length ≤ 1024 := by have := LN.out; omega
      clear hb
      go_wp2_with fail
      refine AP.out.mono ?_
      rintro e w3 ⟨rfl, hb3⟩
      have HBR3 := Lib.hid (brow_keep HBR.out hb3)
      have HR3 := Lib.hid (rowG_keep HR.out hb3)
      have HB3 := Lib.hid (HB.out.trans (hb3.mono HB.out.size))
      have hz9 := (rowG_lt HR3.out (by omega)).1
      clear hb3
      go_wp2_with (at_builtin; refine wpList_append_keep _ rfl _ _ 138 rfl (w.heap.size) 4 ib (.bool false) Try.underlying138 hib hbz0 (by rw [hbz1]; rfl) (by rw [hbz1]; decide) _ bs.length _ rfl (by rw [hbz1]; exact HBR3.out.alloc _) ⟨w3.heap.size, 0, none⟩ 1 1 [.bool bk] rfl (by rw [hbz1]; rfl) (newB _ _ _ rfl) (cellB _) (by unfold maxLen; omega) (by rw [hbz2]; omega) (by have := HB3.out.size; simp; omega) ?_; intro v1 w1 hown1 hold1 hg1 hat)
      rw [hbz1] at hown1
      have BN := Lib.hid (snocB hown1)
      have NE := Lib.hid (show v1.ownBlock ≠ some (w.heap.size + 1) by
        rcases hat with e | e
        · rw [e]; exact HNE.out
        · rw [e]; intro h; simp at h; omega)
      have RN := Lib.hid (rowG_far (HR3.out.alloc _) hg1 HNE.out)
      have B9 := Lib.hid ((HB3.out.alloc HB3.out.size (.cells #[.bool bk] 4)).grown hg1 (by have := HB3.out.size; simp; omega) (fun j hj => (World.ownsRow.lt HBR3.out j hj).1))
      clear hown1 hold1 hg1 hat
      go_wp2
      go_roundw
      case rel => exact ⟨k + 1, by omega, by first | rfl | go_num, by rw [SC.out]; exact BN.out, NE.out, RN.out, B9.out⟩
      case measure => simp [intOf]; omega
    · obtain rfl : k = Z := by omega
      have LZ := apartL_len ps k
      obtain ⟨aa, ca, eu⟩ := brow_shape HBR.out
      rw [LZ] at eu
      subst eu
      have hkp : 0 < k := by omega
      have hkp2 : (0 : Int) < (k : Int) := by omega
      obtain ⟨c0, f0⟩ := rowG_cell HR.out (k := 0) hkp
      have R2 := Lib.hid (rowG_congr (f' := fun j => ((waysC ps N 0 j : Nat) : Int)) (rowG_store HR.out (k := 0) hkp 1) (fun j hj => by rw [HS2.out j hj]; by_cases e : j = 0 <;> simp [e]))
      have BR2 := Lib.hid (show BRow (wr.setCell ⟨w.heap.size + 1, 0, none⟩ (.int .i64 1)) w.heap.size (.slice aa k ca) (apartL ps k) from World.ownsRow.kept HBR.out (Lib.grownBy_setB (b := w.heap.size + 1) (World.grownBy.refl _ _) _ _) (.inr HNE.out))
      have B2 := Lib.hid (HB.out.setCell (p := ⟨w.heap.size + 1, 0, none⟩) (Nat.le_succ _) (.int .i64 1))
      clear hb
      go_wp2_with fail
      go_loopw [9, 11] (fun u i wx => ∃ c g : Nat, c ≤ M ∧ u = .slice (some ⟨g, 0, none⟩) k k ∧ i = .int .i64 (c : Int) ∧ RowG wx w.heap.size g k (fun j => ((waysC ps N c j : Nat) : Int)) ∧ BRow wx w.heap.size (.slice aa k ca) (apartL ps k) ∧ Below w.heap.size w wx) (fun _ i _ => M - (intOf i).toNat)
      case atStart => exact ⟨0, w.heap.size + 1, Nat.zero_le _, rfl, rfl, R2.out, BR2.out, B2.out⟩
      case round =>
        obtain ⟨c, g, hc, rfl, rfl, hr, hbr, hb⟩ := hrel
        obtain ⟨wq, rfl⟩ : ∃ x, x = wr := ⟨wr, rfl⟩
        have HRq := Lib.hid hr
        have HBRq := Lib.hid hbr
        have HBq := Lib.hid hb
        clear hr hbr
        by_cases hlc : c < M
        · have hc0 : 0 ≤ (c : Int) := by omega
          have hc1 : (c : Int) < (M : Int) := by omega
          have kw : IntKind.i64.wrap ((c : Int) + 1) = (c : Int) + 1 := IntWalk.i64_in _ (by omega)
          obtain ⟨w5, hmk2, hown2, hg2⟩ := run_make_full (P := Try.prog) (w := wq) wq.heap.size 39 2 i0 (.int .i64 0) 1 Try.underlying39 hi hz0 hz1 .i64 .i64 k (by rw [hz2]; omega) (by unfold maxLen; omega) (by simp)
          have R5 := Lib.hid (rowG_start hown2)
          have B5 := Lib.hid (show Below wq.heap.size wq w5 from (Below.refl _ _).grown hg2 (by simp) (by simp))
          clear hown2 hg2 hb
          go_wp2
          clear hmk2
          go_loopw [13] (fun i wx => ∃ s : Nat, s ≤ k ∧ i = .int .i64 (s : Int) ∧ RowG wx wq.heap.size wq.heap.size k (fun j => if j < s then ((waysC ps N (c + 1) j : Nat) : Int) else 0) ∧ Below wq.heap.size wq wx) (fun i _ => k - (intOf i).toNat)
          case atStart => exact ⟨0, Nat.zero_le _, rfl, rowG_congr R5.out (fun j _ => by simp), B5.out⟩
          case round =>
            obtain ⟨s, hs, rfl, hr, hb⟩ := hrel
            obtain ⟨wy, rfl⟩ : ∃ x, x = wr := ⟨wr, rfl⟩
            have HR6 := Lib.hid hr
            have HB6 := Lib.hid hb
            clear hr hb
            by_cases hls : s < k
            · have hs0 : 0 ≤ (s : Int) := by omega
              have hs1 : (s : Int) < (k : Int) := by omega
              have kws : IntKind.i64.wrap ((s : Int) + 1) = (s : Int) + 1 := IntWalk.i64_in _ (by omega)
              have hsN : s < 2 ^ N := by have := hZ.out; omega
              have AF := Lib.hid (addedC_first (f := addF ps N c s) hsN)
              have AN := Lib.hid (fun p (h : p ∈ subs N s) (h0 : 0 < p) => addedC_next (f := addF ps N c s) h h0)
              have AA := Lib.hid (show addedC (addF ps N c s) N s 0 = waysC ps N (c + 1) s by rw [addedC_all, waysC_step HP.out]; rfl)
              have AL := Lib.hid (fun p => Nat.le_trans (added_le (m := c) (s := s) (p := p) HP.out) (ways_bound hN (by omega)))
              have SS := Lib.hid (subs_self hsN)
              have SLe := Lib.hid (fun p (h : p ∈ subs N s) => subs_le h)
              have SLa := Lib.hid (fun p (h : p ∈ subs N s) (h0 : 0 < p) => subs_land h h0)
              have EA := Lib.hid (show ∀ p, addF ps N c s p = if apartM ps p = true then waysC ps N c (s - p) else 0 from fun p => rfl)
              go_wp2
              go_loopw [14] (fun i wx => ∃ p x : Nat, p ∈ subs N s ∧ i = .int .i64 (p : Int) ∧ x + addF ps N c s p = addedC (addF ps N c s) N s p ∧ RowG wx wq.heap.size wq.heap.size k (fun j => if j < s then ((waysC ps N (c + 1) j : Nat) : Int) else if j = s then (x : Int) else 0) ∧ Below wq.heap.size wq wx) (fun i _ => (intOf i).toNat)
              case atStart => exact ⟨s, 0, SS.out, rfl, by rw [AF.out]; omega, rowG_congr HR6.out (fun j _ => by by_cases e : j < s <;> simp [e]), HB6.out⟩
              case round =>
                obtain ⟨p, x, hp, rfl, hx, hr, hb⟩ := hrel
                have HR7 := Lib.hid hr
                have HB7 := Lib.hid hb
                have hps := SLe.out p hp
                have HPm := Lib.hid hp
                have HX := Lib.hid hx
                have hp0 : 0 ≤ (p : Int) := by omega
                have hp1 : (p : Int) < (k : Int) := by omega
                have hpk : p < k := by omega
                have AB := AL.out p
                have BA := brow_keep HBRq.out hb
                have BA2 : BRow wr w.heap.size (.slice aa (apartL ps k).length ca) (apartL ps k) := by rw [LZ]; exact BA
                obtain ⟨gb, eb, cb⟩ := brow_at BA2 p (by rw [LZ]; exact hpk)
                rw [apartL_at] at cb
                have ebH := Lib.hid eb
                have E1 := Lib.hid (EA.out p)
                have TZ := Lib.hid (show p = 0 → addedC (addF ps N c s) N s p = waysC ps N (c + 1) s from fun h => by rw [h]; exact AA.out)
                have TN := Lib.hid (show 0 < p → addedC (addF ps N c s) N s ((p - 1) &&& s) = addedC (addF ps N c s) N s p + addF ps N c s ((p - 1) &&& s) from fun h => AN.out p HPm.out h)
                obtain ⟨d, hd⟩ : ∃ d, Hid (s = p + d) := ⟨s - p, Lib.hid (by omega)⟩
                have kd : IntKind.i64.wrap ((s : Int) - (p : Int)) = (d : Int) := by have := hd.out; rw [IntWalk.i64_in _ (by omega)]; omega
                have kp : IntKind.i64.wrap ((p : Int) - 1) = (p : Int) - 1 := IntWalk.i64_in _ (by omega)
                have SD := Lib.hid (show s - p = d by have := hd.out; omega)
                rw [SD.out] at E1
                clear hr hb hx hp BA BA2
                cases eb
                generalize apartM ps p = ab at cb E1
                generalize addedC (addF ps N c s) N s p = tot at HX AB TZ TN
                cases ab with
                | false =>
                  have HX2 := Lib.hid (show x = tot by have h1 := HX.out; rw [E1.out] at h1; simpa using h1)
                  rw [HX2.out] at HR7
                  by_cases hpz : p = 0
                  · have e0 : ((p : Int) == 0) = true := by simp [hpz]
                    have TE := Lib.hid (TZ.out hpz)
                    have RN := Lib.hid (rowG_congr (f' := fun j => if j < s + 1 then ((waysC ps N (c + 1) j : Nat) : Int) else 0) HR7.out (fun j _ => by
                      by_cases e1 : j < s
                      · simp [e1, show j < s + 1 by omega]
                      · by_cases e2 : j = s
                        · subst e2; simp [TE.out]
                        · simp [e1, e2, show ¬ j < s + 1 by omega]))
                    clear TZ TN hpz
                    go_wp2
                    go_roundw
                    case rel => exact ⟨s + 1, by omega, by first | rfl | go_num, RN.out, HB7.out⟩
                    case measure => simp [intOf]; omega
                  · have e0 : ((p : Int) == 0) = false := by rw [beq_eq_false_iff_ne]; omega
                    have kb : bits .and .i64 ((p : Int) - 1) (s : Int) = (((p - 1) &&& s : Nat) : Int) := by
                      rw [show (p : Int) - 1 = ((p - 1 : Nat) : Int) by omega]
                      exact i64_and_natC _ _ (by omega) (by omega)
                    obtain ⟨l1, l2, _⟩ := SLa.out p HPm.out (by omega)
                    have TM := Lib.hid (TN.out (by omega))
                    have L1 := Lib.hid l1
                    generalize (p - 1) &&& s = p2 at kb l2 TM L1
                    clear TZ TN l1
                    go_wp2
                    go_roundw
                    case rel => exact ⟨p2, tot, L1.out, by first | rfl | go_num, TM.out.symm, HR7.out, HB7.out⟩
                    case measure => simp [intOf]; omega
                | true =>
                  have HX2 := Lib.hid (show x + waysC ps N c d = tot by have h1 := HX.out; rw [E1.out] at h1; simpa using h1)
                  obtain ⟨cs, fs⟩ := rowG_cell HR7.out (k := s) hls
                  rw [if_neg (Nat.lt_irrefl s), if_pos rfl] at cs
                  have hdk : d < k := by have := hd.out; omega
                  obtain ⟨cw, _⟩ := rowG_cell (rowG_keep HRq.out HB7.out) (k := d) hdk
                  have hd0 : 0 ≤ (d : Int) := by omega
                  have hd1 : (d : Int) < (k : Int) := by omega
                  have ks : IntKind.i64.wrap ((x : Int) + ((waysC ps N c d : Nat) : Int)) = (tot : Int) := by have := HX2.out; rw [IntWalk.i64_in _ (by omega)]; omega
                  generalize ((waysC ps N c d : Nat) : Int) = y at cw ks
                  have RS := Lib.hid (rowG_congr (f' := fun j => if j < s then ((waysC ps N (c + 1) j : Nat) : Int) else if j = s then (tot : Int) else 0) (rowG_store (rowG_keep HR7.out (Below.drew (Below.refl _ _))) (k := s) hls (tot : Int)) (fun j _ => by by_cases e1 : j = s <;> simp [e1]))
                  have BS := Lib.hid ((Below.drew HB7.out).setCell (p := ⟨wq.heap.size, s, none⟩) (Nat.le_refl _) (.int .i64 (tot : Int)))
                  clear HX2 HX E1
                  replace cs : wr.drew.cell? ⟨wq.heap.size, s, none⟩ = some (.int .i64 (x : Int)) := cs
                  replace fs : wr.drew.frozen? ⟨wq.heap.size, s, none⟩ = false := fs
                  replace cw : wr.drew.cell? ⟨g, d, none⟩ = some (.int .i64 y) := cw
                  go_wp2_with fail
                  go_still_tail 12, (by kernel_rfl)
                  change wpList _ _ _ _ _ wr.drew
                  generalize wr.drew = wd at *
                  by_cases hpz : p = 0
                  · have e0 : ((p : Int) == 0) = true := by simp [hpz]
                    have TE := Lib.hid (TZ.out hpz)
                    have RN := Lib.hid (rowG_congr (f' := fun j => if j < s + 1 then ((waysC ps N (c + 1) j : Nat) : Int) else 0) RS.out (fun j _ => by
                      by_cases e1 : j < s
                      · simp [e1, show j < s + 1 by omega]
                      · by_cases e2 : j = s
                        · subst e2; simp [TE.out]
                        · simp [e1, e2, show ¬ j < s + 1 by omega]))
                    clear TZ TN hpz
                    go_wp2
                    go_roundw
                    case rel => exact ⟨s + 1, by omega, by first | rfl | go_num, RN.out, BS.out⟩
                    case measure => simp [intOf]; omega
                  · have e0 : ((p : Int) == 0) = false := by rw [beq_eq_false_iff_ne]; omega
                    have kb : bits .and .i64 ((p : Int) - 1) (s : Int) = (((p - 1) &&& s : Nat) : Int) := by
                      rw [show (p : Int) - 1 = ((p - 1 : Nat) : Int) by omega]
                      exact i64_and_natC _ _ (by omega) (by omega)
                    obtain ⟨l1, l2, _⟩ := SLa.out p HPm.out (by omega)
                    have TM := Lib.hid (TN.out (by omega))
                    have L1 := Lib.hid l1
                    generalize (p - 1) &&& s = p2 at kb l2 TM L1
                    clear TZ TN l1
                    go_wp2
                    go_roundw
                    case rel => exact ⟨p2, tot, L1.out, by first | rfl | go_num, TM.out.symm, RS.out, BS.out⟩
                    case measure => simp [intOf]; omega
            · obtain rfl : s = k := by omega
              have RN := Lib.hid (irow_up (rowG_congr (f' := fun j => ((waysC ps N (c + 1) j : Nat) : Int)) HR6.out (fun j hj => by simp [hj])) HBq.out.size)
              have BN := Lib.hid (brow_keep HBRq.out HB6.out)
              have WN := Lib.hid (HBq.out.trans (HB6.out.mono HBq.out.size))
              go_wp2
              go_roundw
              case rel => exact ⟨c + 1, wq.heap.size, by omega, rfl, by first | rfl | go_num, RN.out, BN.out, WN.out⟩
              case measure => simp [intOf]; omega
        · obtain rfl : c = M := by omega
          obtain ⟨z, hz⟩ : ∃ z, Hid (z + 1 = k) := ⟨k - 1, Lib.hid (by omega)⟩
          have hzk : z < k := by have := hz.out; omega
          obtain ⟨cz, _⟩ := rowG_cell HRq.out (k := z) hzk
          have kz : IntKind.i64.wrap ((k : Int) - 1) = (z : Int) := by have := hz.out; rw [IntWalk.i64_in _ (by omega)]; omega
          have hz0' : 0 ≤ (z : Int) := by omega
          have hz1' : (z : Int) < (k : Int) := by omega
          have EZ := Lib.hid (show k - 1 = z by have := hz.out; omega)
          obtain ⟨y, hy⟩ : ∃ y, Hid (((waysC ps N c z : Nat) : Int) = y) := ⟨_, Lib.hid rfl⟩
          rw [hy.out] at cz
          clear hb
          go_wp2
          go_ret
          exact ⟨retI9 (by rw [EZ.out, hy.out]), HBq.out⟩

def valCo (n : Int) (ps : List (Int × Int)) (m : Int) : Int := if codeMc n ps m = 0 then ((countC n ps m : Nat) : Int) else 0

set_option maxRecDepth 100000 in
set_option maxHeartbeats 1000000 in
theorem specCo_any (n : Int) (v : Value) (ps : List (Int × Int)) (m : Int) (w : World) (hv : PAt w w.heap.size v ps) (hl : ps.length ≤ 1048576) :
    Calls Try.prog 25 #[.int .i64 n, v, .int .i64 m] w fun e w' => e = .returned (.tuple #[.int .i64 (valCo n ps m), .int .i64 (codeMc n ps m)]) ∧ Below w.heap.size w w' := by
  have CD := Lib.hid (l09CodeM_any n v ps m w hv hl)
  have HV := Lib.hid hv
  have CN := Lib.hid (fun (h : codeMc n ps m = 0) W (hW : PAt W W.heap.size v ps) => l09Count_any n m v ps W hW (codeMc_of h).1 (codeMc_of h).2.1 (codeMc_of h).2.2)
  rw [valCo]
  obtain ⟨av, cv, rfl, _⟩ := hv
  by_cases hc : codeMc n ps m = 0
  · replace CN := Lib.hid (CN.out hc)
    rw [if_pos hc]
    rw [hc] at CD ⊢
    clear hc
    generalize ((countC n ps m : Nat) : Int) = y at CN ⊢
    go_enter Try.func25, Try.ntmps25
    go_wp2_with fail
    refine CD.out.mono ?_
    rintro e w1 ⟨rfl, hb⟩
    have HB := Lib.hid hb
    go_wp2_with fail
    refine (CN.out _ (pat_up (pat_keep HV.out hb) hb.size)).mono ?_
    rintro e w2 ⟨rfl, hb2⟩
    have HB2 := HB.out.trans (hb2.mono HB.out.size)
    clear hb hb2
    go_wp2
    exact bodyPost_ret (v := .tuple #[.int .i64 y, .int .i64 0]) (by simp [results, Try.results25, go_sem]) rfl ⟨rfl, HB2⟩
  · rw [if_neg hc]
    clear CN
    generalize codeMc n ps m = c at CD hc ⊢
    have hn : (c == 0) = false := by simpa using hc
    go_enter Try.func25, Try.ntmps25
    go_wp2_with fail
    refine CD.out.mono ?_
    rintro e w1 ⟨rfl, hb⟩
    go_wp2
    exact bodyPost_ret (v := .tuple #[.int .i64 0, .int .i64 c]) (by simp [results, Try.results25, go_sem]) rfl ⟨rfl, hb⟩
end Go.Proofs.Ytemhmejjmhbfdab.sines
