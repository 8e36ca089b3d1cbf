/- A signed angle is read: contract of the program's function at one pair of letters. -/
import Derived.Test.YtbnihalbepffoaaDoorAim
namespace Go.Proofs.YtbnihalbepffoaaDoor.dec
open Go.ChangeShapes Go.WideShapes Go.ChangeAt Go.RowKit Go.Proofs.YtbnihalbepffoaaDoor.num Go.Proofs.YtbnihalbepffoaaDoor.bld Go.Proofs.YtbnihalbepffoaaDoor.split

set_option maxRecDepth 100000 in
set_option maxHeartbeats 4000000 in
theorem readNS (s : ByteArray) (w : World) (hs : s.size ≤ 1048576) (hl : Lists w) :
    Calls Tryd.prog 55 #[.agg #[.int .i32 110, .int .i32 115], .string s] w fun e w' => e = .returned (.tuple #[.int .i64 (aimV 110 115 s.data.toList), .bool (aimB 110 115 s.data.toList)]) ∧ Below w.heap.size w w' := by
  have hmf : ∀ (fn : Fn) (first cap : Array Value) (w : World), (Instr.makeFunc fn first cap).run Tryd.prog w = .ok (.func fn first cap) w := fun _ _ _ _ => rfl
  have k2 : ∀ w, (convert 21 9 (.int .i32 115)).run Tryd.prog w = .ok (.string ⟨#[115]⟩) w := fun _ => by kernel_rfl
  have HL := Lib.hid hl
  have HSZ := Lib.hid hs
  have hs1 : s.size ≤ 1048576 := hs
  clear hl
  go_enter Tryd.func55, Tryd.ntmps55
  go_wp2_with fail
  refine (IndexFunc_any 110 115 (by decide) (by decide) s _).mono ?_
  rintro e w1 ⟨i, rfl, hf, hb1⟩
  have HB1 := Lib.hid (((Below.refl _ _).alloc (Nat.le_refl _) _).trans (hb1.mono (by simp)))
  have c0 : w1.cell? ⟨w.heap.size, 0, none⟩ = some (.int .i32 110) := (hb1.cell (p := ⟨w.heap.size, 0, none⟩) (by simp)).trans (by rw [World.cell?_alloc_new]; rfl)
  have c1 : w1.cell? ⟨w.heap.size, 1, none⟩ = some (.int .i32 115) := (hb1.cell (p := ⟨w.heap.size, 1, none⟩) (by simp)).trans (by rw [World.cell?_alloc_new]; rfl)
  have hw1 : w.heap.size < w1.heap.size := by have := hb1.size; simp at this; omega
  clear hb1
  rcases hf with ⟨rfl, hfree⟩ | ⟨k, rfl, hk, hlet, hfree⟩
  · have HF := Lib.hid hfree
    clear hfree
    go_wp2
    go_ret2
    exact ⟨ret_aim (aim_no (ang_none (by
      have := free_list HF.out
      rwa [ByteArray.extract_zero_size] at this))), HB1.out⟩
  · obtain ⟨hcut, hrest⟩ := cut_at s k hk
    obtain ⟨Fb, hFb⟩ : ∃ x, Hid (s.extract 0 k = x) := ⟨_, Lib.hid rfl⟩
    obtain ⟨Rr, hRr⟩ : ∃ x, Hid (s.extract k s.size = x) := ⟨_, Lib.hid rfl⟩
    have hfl := free_list hfree
    rw [hFb.out] at hcut hfl
    rw [hRr.out] at hcut hrest
    have hFs : Fb.size ≤ 1048576 := by rw [← hFb.out, ByteArray.size_extract]; omega
    obtain ⟨T, hT⟩ : ∃ T, s.data.toList.drop (k + 1) = T := ⟨_, rfl⟩
    rw [hT] at hrest
    obtain ⟨cc, hcc⟩ : ∃ c, s[k] = c := ⟨_, rfl⟩
    rw [hcc] at hrest hlet
    rw [hrest] at hcut
    have HPT := Lib.hid (show ∀ a, IsAng 110 115 s.data.toList a → IsSize Fb.data.toList (max a (-a)) ∧ T = [] ∧ cc = if a < 0 then 115 else 110 from fun a h => ang_parts (by decide) (by decide) hlet hfl (by rw [← hcut]; exact h))
    have HCUT := Lib.hid hcut
    have HREST := Lib.hid hrest
    have HLET := Lib.hid hlet
    have nb := sizeV_bounds Fb.data.toList
    obtain ⟨n, hn⟩ : ∃ n, Hid (sizeV Fb.data.toList = n) := ⟨_, Lib.hid rfl⟩
    rw [hn.out] at nb
    obtain ⟨n0, n1⟩ := nb
    obtain ⟨ok, hok⟩ : ∃ b, Hid (sizeB Fb.data.toList = b) := ⟨_, Lib.hid rfl⟩
    have hFb2 : s.extract 0 k = Fb := hFb.out
    have hk0 : (k : Int) < (s.size : Int) := by omega
    have HK := Lib.hid hk
    clear hcut hrest hlet hT hcc hfl hfree hFb hk
    have N1 := Lib.hid (show n / 3600 * 3600 + n / 60 % 60 * 60 + n % 60 = n by omega)
    have q1 := Lib.hid (show 0 ≤ n / 3600 by omega)
    have q2 := Lib.hid (show n / 3600 ≤ 1000 by omega)
    have q3 := Lib.hid (show 0 ≤ n / 60 % 60 by omega)
    have q4 := Lib.hid (show n / 60 % 60 ≤ 1000 by omega)
    have q5 := Lib.hid (show 0 ≤ n % 60 by omega)
    have q6 := Lib.hid (show n % 60 ≤ 1000 by omega)
    go_wp2_with fail
    refine (readParts_any Fb _ hFs (lists_below HL.out HB1.out)).mono ?_
    rw [hn.out, hok.out]
    rintro e w2 ⟨rfl, hb2⟩
    have HB2 := Lib.hid (bchain HB1.out hb2)
    have d0 : w2.cell? ⟨w.heap.size, 0, none⟩ = some (.int .i32 110) := (hb2.cell (p := ⟨w.heap.size, 0, none⟩) hw1).trans c0
    have d1 : w2.cell? ⟨w.heap.size, 1, none⟩ = some (.int .i32 115) := (hb2.cell (p := ⟨w.heap.size, 1, none⟩) hw1).trans c1
    have hw2 : w.heap.size < w2.heap.size := by have := hb2.size; omega
    clear hb2 c0 c1 HB1
    go_wp2_with fail
    refine (size_any _ _ _ _ q1.out q2.out q3.out q4.out q5.out q6.out).mono ?_
    rw [N1.out]
    rintro e w3 ⟨rfl, o3, rfl⟩
    have kn : IntKind.i64.wrap (-n) = -n := IntWalk.i64_in _ (by omega)
    obtain ⟨W, hW⟩ : ∃ W, Hid ((w2.alloc (.cells #[.int .i64 (n / 3600), .int .i64 (n / 60 % 60), .int .i64 (n % 60)] 101)).alloc o3 = W) := ⟨_, Lib.hid rfl⟩
    rw [hW.out]
    have HBW := Lib.hid (show Below w.heap.size w W by rw [← hW.out]; exact ((HB2.out.alloc HB2.out.size _).alloc (by have := HB2.out.size; simp; omega) _))
    have g0 : W.cell? ⟨w.heap.size, 0, none⟩ = some (.int .i32 110) := by rw [← hW.out, World.cell?_alloc_past _ _ _ (by simp; omega), World.cell?_alloc_past _ _ _ hw2]; exact d0
    have g1 : W.cell? ⟨w.heap.size, 1, none⟩ = some (.int .i32 115) := by rw [← hW.out, World.cell?_alloc_past _ _ _ (by simp; omega), World.cell?_alloc_past _ _ _ hw2]; exact d1
    have hwW : w.heap.size < W.heap.size := by have := hW.out; rw [← this]; simp; omega
    clear d0 d1 hw2 hw1 q1 q2 q3 q4 q5 q6 N1 HB2
    by_cases hm : Rr.data.toList = [115]
    · have hRr2 : s.extract k s.size = ⟨#[115]⟩ := by rw [hRr.out]; exact bytes_ext hm
      have HM := Lib.hid hm
      clear hm
      cases ok with
      | false =>
        go_wp2_with fail
        go_region
        go_wp2_with fail
        go_region
        all_goals go_wp2
        all_goals (go_ret2; exact ⟨ret_aim (aim_no fun a g => not_size hok.out _ (HPT.out a g).1), by repeat (first | exact HBW.out | refine Below.drew ?_ | refine below_drewN ?_ _ | refine Below.alloc ?_ (by have := HBW.out.size; first | omega | (simp; done) | (simp; omega)) _)⟩)
      | true =>
        by_cases hz : 0 < n
        · have hltr : ltr 110 115 (-n) = ⟨#[115]⟩ := by rw [ltr, if_pos (by omega)]
          go_wp2_with fail
          go_region
          go_wp2_with fail
          go_region_with (go_at_call 93; refine (letterNS _ _).mono ?_; rintro e w' ⟨rfl, o9, rfl⟩; rw [hltr])
          all_goals (refine at_world (P := fun U => Below w.heap.size w U) (Q := fun U => Exit.then _ _ Exit.normal _ U) _ (by repeat (first | exact HBW.out | refine Below.drew ?_ | refine below_drewN ?_ _ | refine Below.alloc ?_ (by have := HBW.out.size; first | omega | (simp; done) | (simp; omega)) _)) ?_; intro U hU; have HU := Lib.hid hU; clear hU)
          all_goals go_wp2
          all_goals (go_ret2; exact ⟨ret_aim (aim_yes (by decide) (by
            have hs := size_is hok.out
            rw [hn.out] at hs
            have h1 := HREST.out
            rw [HM.out] at h1
            simp only [List.cons.injEq] at h1
            rw [HCUT.out, ← h1.1, ← h1.2]
            exact ang_minus hs hz)), by repeat (first | exact HU.out | refine Below.drew ?_ | refine below_drewN ?_ _)⟩)
        · have hltr : ltr 110 115 (-n) = ⟨#[110]⟩ := by rw [ltr, if_neg (by omega)]
          go_wp2_with fail
          go_region
          go_wp2_with fail
          go_region_with (go_at_call 93; refine (letterNS _ _).mono ?_; rintro e w' ⟨rfl, o9, rfl⟩; rw [hltr])
          all_goals (refine at_world (P := fun U => Below w.heap.size w U) (Q := fun U => Exit.then _ _ Exit.normal _ U) _ (by repeat (first | exact HBW.out | refine Below.drew ?_ | refine below_drewN ?_ _ | refine Below.alloc ?_ (by have := HBW.out.size; first | omega | (simp; done) | (simp; omega)) _)) ?_; intro U hU; have HU := Lib.hid hU; clear hU)
          all_goals go_wp2
          all_goals (go_ret2; exact ⟨ret_aim (aim_no fun a g => by
            have h2 := HPT.out a g
            have hs := size_is hok.out
            rw [hn.out] at hs
            have h3 := size_inj hs h2.1
            have h1 := HREST.out
            rw [HM.out] at h1
            simp only [List.cons.injEq] at h1
            have h4 := h2.2.2
            rw [← h1.1, if_neg (by omega)] at h4
            exact absurd h4 (by decide)), by repeat (first | exact HU.out | refine Below.drew ?_ | refine below_drewN ?_ _)⟩)
    · by_cases hp : Rr.data.toList = [110]
      · have hRr2 : s.extract k s.size = ⟨#[110]⟩ := by rw [hRr.out]; exact bytes_ext hp
        have HP := Lib.hid hp
        clear hp hm
        cases ok with
        | false =>
          go_wp2_with fail
          go_region
          go_wp2_with fail
          go_region
          all_goals go_wp2
          all_goals (go_ret2; exact ⟨ret_aim (aim_no fun a g => not_size hok.out _ (HPT.out a g).1), by repeat (first | exact HBW.out | refine Below.drew ?_ | refine below_drewN ?_ _ | refine Below.alloc ?_ (by have := HBW.out.size; first | omega | (simp; done) | (simp; omega)) _)⟩)
        | true =>
          have hltr : ltr 110 115 n = ⟨#[110]⟩ := by rw [ltr, if_neg (by omega)]
          go_wp2_with fail
          go_region
          go_wp2_with fail
          go_region_with (go_at_call 93; refine (letterNS _ _).mono ?_; rintro e w' ⟨rfl, o9, rfl⟩; rw [hltr])
          all_goals (refine at_world (P := fun U => Below w.heap.size w U) (Q := fun U => Exit.then _ _ Exit.normal _ U) _ (by repeat (first | exact HBW.out | refine Below.drew ?_ | refine below_drewN ?_ _ | refine Below.alloc ?_ (by have := HBW.out.size; first | omega | (simp; done) | (simp; omega)) _)) ?_; intro U hU; have HU := Lib.hid hU; clear hU)
          all_goals go_wp2
          all_goals (go_ret2; exact ⟨ret_aim (aim_yes (by decide) (by
            have hs := size_is hok.out
            rw [hn.out] at hs
            have h1 := HREST.out
            rw [HP.out] at h1
            simp only [List.cons.injEq] at h1
            rw [HCUT.out, ← h1.1, ← h1.2]
            exact ang_plus hs)), by repeat (first | exact HU.out | refine Below.drew ?_ | refine below_drewN ?_ _)⟩)
      · have hRr2 : s.extract k s.size = Rr := hRr.out
        have e1 : (Rr.toList == [115]) = false := by rw [ByteArray.toList_eq]; simpa using hm
        have e2 : (Rr.toList == [110]) = false := by rw [ByteArray.toList_eq]; simpa using hp
        have HNO := Lib.hid (show ∀ a, ¬ IsAng 110 115 s.data.toList a from fun a g => by
          have h2 := HPT.out a g
          have h1 := HREST.out
          rw [h2.2.1, h2.2.2] at h1
          by_cases ha : a < 0
          · rw [if_pos ha] at h1; exact hm h1
          · rw [if_neg ha] at h1; exact hp h1)
        clear hm hp
        cases ok with
        | false =>
          go_wp2_with fail
          go_region
          go_wp2_with fail
          go_region
          all_goals go_wp2
          all_goals (go_ret2; exact ⟨ret_aim (aim_no HNO.out), by repeat (first | exact HBW.out | refine Below.drew ?_ | refine below_drewN ?_ _ | refine Below.alloc ?_ (by have := HBW.out.size; first | omega | (simp; done) | (simp; omega)) _)⟩)
        | true =>
          have hltr : ltr 110 115 n = ⟨#[110]⟩ := by rw [ltr, if_neg (by omega)]
          go_wp2_with fail
          go_region
          go_wp2_with fail
          go_region_with (go_at_call 93; refine (letterNS _ _).mono ?_; rintro e w' ⟨rfl, o9, rfl⟩; rw [hltr])
          all_goals (refine at_world (P := fun U => Below w.heap.size w U) (Q := fun U => Exit.then _ _ Exit.normal _ U) _ (by repeat (first | exact HBW.out | refine Below.drew ?_ | refine below_drewN ?_ _ | refine Below.alloc ?_ (by have := HBW.out.size; first | omega | (simp; done) | (simp; omega)) _)) ?_; intro U hU; have HU := Lib.hid hU; clear hU)
          all_goals go_wp2
          all_goals (go_ret2; exact ⟨ret_aim (aim_no HNO.out), by repeat (first | exact HU.out | refine Below.drew ?_ | refine below_drewN ?_ _)⟩)

end Go.Proofs.YtbnihalbepffoaaDoor.dec
