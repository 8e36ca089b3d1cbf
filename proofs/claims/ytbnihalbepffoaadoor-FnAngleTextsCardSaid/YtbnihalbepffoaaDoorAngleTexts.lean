/- FnAngleTexts answers true for every two lists of bytes. -/
import Derived.Test.YtbnihalbepffoaaDoorDoorF
import Derived.Test.YtbnihalbepffoaaDoorSpotR
import Derived.Test.YtbnihalbepffoaaDoorSpoil
import Derived.Test.YtbnihalbepffoaaDoorA2
namespace Go.Proofs.YtbnihalbepffoaaDoor.angleTexts
open Go.ChangeShapes Go.WideShapes Go.ChangeAt Go.RowKit Go.Proofs.YtbnihalbepffoaaDoor.dec Go.Proofs.YtbnihalbepffoaaDoor.spots Go.Proofs.YtbnihalbepffoaaDoor.src Go.Proofs.YtbnihalbepffoaaDoor.a2

/-- Two numbers at the head of a block. -/
def TwoAt (W : World) (b : Nat) (x y : Int) : Prop := W.cell? ⟨b, 0, none⟩ = some (.int .i64 x) ∧ W.cell? ⟨b, 1, none⟩ = some (.int .i64 y)
theorem two_new (w : World) (x y : Int) (t : TypeId) : TwoAt (w.alloc (.cells #[.int .i64 x, .int .i64 y] t)) w.heap.size x y :=
  ⟨by rw [World.cell?_alloc_new]; rfl, by rw [World.cell?_alloc_new]; rfl⟩
theorem two_keep {W W' : World} {b : Nat} {x y : Int} (h : TwoAt W b x y) (hb : Below W.heap.size W W') : TwoAt W' b x y := by
  have hlt := World.block_lt_of_cell? _ _ h.1
  exact ⟨(hb.cell (p := ⟨b, 0, none⟩) hlt).trans h.1, (hb.cell (p := ⟨b, 1, none⟩) hlt).trans h.2⟩
theorem two_alloc {W : World} {b : Nat} {x y : Int} (h : TwoAt W b x y) (o : Obj) : TwoAt (W.alloc o) b x y := two_keep h ((Below.refl _ _).alloc (Nat.le_refl _) _)
theorem spotT_ok {a b : Int} (h : okB a b = true) : bld.spotT a b = bld.spotL a b := by rw [bld.spotT, if_pos h]
theorem str_eq (l : List UInt8) : (⟨l.toArray⟩ : ByteArray).data.toList = l := by simp

set_option maxRecDepth 100000 in
set_option maxHeartbeats 4000000 in
theorem walk (a0 : Option Addr) (l0 c0 : Nat) (z0 : List Int) (a1 : Option Addr) (l1 c1 : Nat) (z1 : List Int) (w : World) (r0 : IsRow .u8 w a0 l0 c0 z0) (r1 : IsRow .u8 w a1 l1 c1 z1) (hL : laidMetH Tryd.prog Rows.fnAngleTextsRow.laid w) :
    Calls Tryd.prog 3 #[.slice a0 l0 c0, .slice a1 l1 c1] w fun e w' => e = .returned (.bool true) ∧ Below w.heap.size w w' := by
  have HL := Lib.hid (lists_of (laidMet.tail (laidMet.tail hL)))
  clear hL
  have hl0 := row_len r0
  have hl1 := row_len r1
  by_cases hlong : 3000 < l0 ∨ 3000 < l1
  · have hd : decide (3000 < l0 ∨ 3000 < l1) = true := decide_eq_true hlong
    have R0 := Lib.hid r0
    have R1 := Lib.hid r1
    clear r0 r1
    go_enter Tryd.func3, Tryd.ntmps3
    go_wp2_with (go_at_call 8; refine (a2Long_any _ _ _ _ _ _ _ hl0 hl1).mono ?_; rintro e w' ⟨rfl, rfl⟩; rw [hd])
    go_ret
    exact ⟨rfl, Below.refl _ _⟩
  have hd : decide (3000 < l0 ∨ 3000 < l1) = false := decide_eq_false hlong
  have HW := Lib.hid (show ∀ b o v, w.cell? ⟨b, o, none⟩ = some v → b < w.heap.size from fun b o v h => World.block_lt_of_cell? _ _ h)
  have B0 := Lib.hid (bytes_of r0 (by omega) HW.out)
  have B1 := Lib.hid (bytes_of r1 (by omega) HW.out)
  clear r0 r1
  go_enter Tryd.func3, Tryd.ntmps3
  go_wp2_with (go_at_call 8; refine (a2Long_any _ _ _ _ _ _ _ hl0 hl1).mono ?_; rintro e w' ⟨rfl, rfl⟩; rw [hd])
  go_wp2_with fail
  refine (A2Spot_any w a0 l0 c0 B0.out).mono ?_
  rintro e w1 ⟨x, y, rfl, hdr, hb1⟩
  have HB1 := Lib.hid hb1
  have hok : okB x y = true := by
    obtain ⟨d1, d2, d3, d4⟩ := hdr
    simp [okB, d1, d2, d3, d4]
  have HOK := Lib.hid hok
  have HT := Lib.hid (spotT_ok hok)
  obtain ⟨d1, d2, d3, d4⟩ := hdr
  have LA := bld.angL_len 110 115 x (by omega) (by omega)
  have LB := bld.angL_len 101 119 y (by omega) (by omega)
  have HTS := Lib.hid (show ByteArray.size ⟨(bld.spotL x y).toArray⟩ ≤ 1048576 by
    rw [bld.sz, bld.spotL]
    simp; omega)
  clear hb1 hok LA LB
  have HBa := Lib.hid (HB1.out.alloc HB1.out.size (.cells #[.int .i64 x, .int .i64 y] 25))
  have HP1 := Lib.hid (two_new w1 x y 25)
  go_wp2_with fail
  refine (bld.SpotText_any x y _ (lists_below HL.out HBa.out).1).mono ?_
  rw [HT.out]
  rintro e w2 ⟨rfl, hb2⟩
  have HB2 := Lib.hid (bchain HBa.out hb2)
  have HP2 := Lib.hid (two_keep HP1.out hb2)
  clear hb2 HBa HP1
  have hy := spot_yes (l := bld.spotL x y) ⟨HOK.out, rfl⟩
  have HY := Lib.hid hy
  clear hy
  go_wp2_with fail
  refine (implReadSpot_any _ _ HTS.out (lists_below HL.out HB2.out)).mono ?_
  rw [str_eq, HY.out.1, HY.out.2.1, HY.out.2.2]
  rintro e w3 ⟨rfl, hb3⟩
  have HB3 := Lib.hid (bchain HB2.out hb3)
  have HP3 := Lib.hid (two_alloc (two_keep HP2.out hb3) (.cells #[.int .i64 x, .int .i64 y] 25))
  have HBq := Lib.hid (HB3.out.alloc HB3.out.size (.cells #[.int .i64 x, .int .i64 y] 25))
  have HQ3 := Lib.hid (two_new w3 x y 25)
  clear hb3 HB2 HP2
  go_wp2_with fail
  refine (a2At_any a1 l1 c1 0 1440 _ _ (bytes_below B1.out HBq.out) (by omega) (by omega) (by omega)).mono ?_
  rintro e w' ⟨r, rfl, r1, r2, rfl⟩
  have r3 := r2 (by omega)
  clear r2
  obtain ⟨n, hn⟩ : ∃ n, Hid (900 * r = n) := ⟨_, Lib.hid rfl⟩
  have hn2 : 900 * r = n := hn.out
  have n1 : 0 ≤ n := by omega
  have n2 : n ≤ 1295100 := by omega
  have HH := Lib.hid (show hourOk n from ⟨n1, by omega, by omega⟩)
  have HN := Lib.hid (show ¬ hourOk (n + 1) from fun h => by have := h.2.2; omega)
  have HHT := Lib.hid (show hourT n = hourL n by rw [hourT, if_pos HH.out])
  have HHN := Lib.hid (show hourT (n + 1) = [] by rw [hourT, if_neg HN.out])
  have hnw : IntKind.i64.wrap (n + 1) = n + 1 := IntWalk.i64_in _ (by omega)
  go_wp2_with fail
  refine (HourText_any n _ (lists_below HL.out HBq.out).1).mono ?_
  rw [HHT.out]
  rintro e w4 ⟨rfl, hb4⟩
  have HB4 := Lib.hid (bchain HBq.out hb4)
  have HP4 := Lib.hid (two_keep HP3.out hb4)
  have HQ4 := Lib.hid (two_keep HQ3.out hb4)
  clear hb4 HBq HP3 HQ3
  have HYH := Lib.hid (hour_yes (l := hourL n) (a := n) ⟨HH.out, rfl⟩)
  have HHS := Lib.hid (show ByteArray.size ⟨(hourL n).toArray⟩ ≤ 1048576 by
    have h1 := itoa_len (n / 54000) (by omega) (by omega)
    have h2 := pair_len (n := n % 54000 / 900) (by omega) (by omega)
    rw [bld.sz, hourL]
    simp; omega)
  go_wp2_with fail
  refine (ReadHour_any _ _ HHS.out (lists_below HL.out HB4.out)).mono ?_
  rw [str_eq, HYH.out.1, HYH.out.2]
  rintro e w5 ⟨rfl, hb5⟩
  have HB5 := Lib.hid (bchain HB4.out hb5)
  have HP5 := Lib.hid (two_keep HP4.out hb5)
  have HQ5 := Lib.hid (two_keep HQ4.out hb5)
  clear hb5 HB4 HP4 HQ4
  go_wp2_with fail
  refine (DrawReadSpot_any _ a1 l1 c1 (bytes_up B1.out HB5.out)).mono ?_
  rintro e w6 ⟨s, rfl, hs, hb6⟩
  have HB6 := Lib.hid (bchain HB5.out hb6)
  have HP6 := Lib.hid (two_keep HP5.out hb6)
  have HQ6 := Lib.hid (two_keep HQ5.out hb6)
  have HS := Lib.hid (show s.size ≤ 1048576 by omega)
  clear hb6 HB5 HP5 HQ5 hs
  obtain ⟨u, hu⟩ : ∃ a, Hid ((spotV s.data.toList).1 = a) := ⟨_, Lib.hid rfl⟩
  obtain ⟨v, hv⟩ : ∃ b, Hid ((spotV s.data.toList).2 = b) := ⟨_, Lib.hid rfl⟩
  obtain ⟨t, ht⟩ : ∃ t, Hid (spotB s.data.toList = t) := ⟨_, Lib.hid rfl⟩
  have HSP := Lib.hid (show t = true → okB u v = true ∧ bld.spotL u v = s.data.toList from fun h => by
    rw [← ht.out] at h
    have he : ∃ p : Int × Int, IsSpotT s.data.toList p.1 p.2 := by simpa [spotB] using h
    obtain ⟨⟨a, b⟩, hp⟩ := he
    obtain ⟨_, e1, e2⟩ := spot_yes hp
    rw [← hu.out, ← hv.out, e1, e2]
    exact hp)
  go_wp2_with fail
  refine (implReadSpot_any s _ HS.out (lists_below HL.out HB6.out)).mono ?_
  rw [hu.out, hv.out, ht.out]
  rintro e w7 ⟨rfl, hb7⟩
  have HB7 := Lib.hid (bchain HB6.out hb7)
  have HP7 := Lib.hid (two_keep HP6.out hb7)
  have HQ7 := Lib.hid (two_keep HQ6.out hb7)
  have HBr := Lib.hid (HB7.out.alloc HB7.out.size (.cells #[.int .i64 u, .int .i64 v] 25))
  have HR7 := Lib.hid (two_new w7 u v 25)
  clear hb7 HB6 HP6 HQ6
  obtain ⟨p0, p1⟩ := HP7.out
  obtain ⟨q0, q1⟩ := HQ7.out
  have lp : w1.heap.size < w7.heap.size := World.block_lt_of_cell? _ _ p0
  have lq : w3.heap.size < w7.heap.size := World.block_lt_of_cell? _ _ q0
  go_wp2_with fail
  refine (HourText_any (n + 1) _ (lists_below HL.out HBr.out).1).mono ?_
  rw [HHN.out]
  rintro e w8 ⟨rfl, hb8⟩
  have HB8 := Lib.hid (bchain HBr.out hb8)
  have HR8 := Lib.hid (two_keep HR7.out hb8)
  clear hb8 HBr HR7
  cases t with
  | false =>
    go_wp2
    go_ret
    exact ⟨rfl, HB8.out⟩
  | true =>
    obtain ⟨s0, s1⟩ := HR8.out
    have HV := Lib.hid (HSP.out rfl).1
    have HST := Lib.hid (show (⟨(bld.spotT u v).toArray⟩ : ByteArray) = s by rw [spotT_ok (HSP.out rfl).1, (HSP.out rfl).2])
    have lr : w7.heap.size < w8.heap.size := World.block_lt_of_cell? _ _ s0
    go_wp2_with fail
    refine (specValidSpot_any u v _).mono ?_
    rw [HV.out]
    rintro e w' ⟨rfl, o1, o2, rfl⟩
    go_wp2_with fail
    refine (bld.SpotText_any u v _ (lists_below HL.out ((HB8.out.alloc HB8.out.size o1).alloc (by have := HB8.out.size; first | (simp; done) | (simp; omega)) o2)).1).mono ?_
    rw [HST.out]
    rintro e w9 ⟨rfl, hb9⟩
    have HB9 := Lib.hid (bchain ((HB8.out.alloc HB8.out.size o1).alloc (by have := HB8.out.size; first | (simp; done) | (simp; omega)) o2) hb9)
    clear hb9
    go_wp2
    go_ret
    exact ⟨rfl, HB9.out⟩

set_option maxRecDepth 100000 in
theorem lifted (os : Os) (started : os.Started) (H : Type) (enc : TypeId × Value → H) :
    ReturnsInHanded {} Tryd.checked os 3 .any (fun w args => (Rows.fnAngleTextsSpec.pre enc Tryd.prog Tryd.f3 [] false w args ∧ laidMetH Tryd.prog Rows.fnAngleTextsRow.laid w) ∧ sizedMet enc Tryd.prog Tryd.f3 (OpenSpec.ofChange Rows.fnAngleTextsSpec) false w args)
      (Rows.fnAngleTextsSpec.post enc Tryd.prog Tryd.f3 false true false false) := by
  refine returnsInHanded_of_change_and (C := Tryd.checked) (X := fun w _ => laidMetH Tryd.prog Rows.fnAngleTextsRow.laid w) (fun _ _ _ hh h => h.of_heap hh) own started (by kernel_rfl) Tryd.func3
    (ChangeSpec.witness_shaped (enc := enc) (C := Tryd.checked) (os := os) (X := fun w _ => laidMetH Tryd.prog Rows.fnAngleTextsRow.laid w) false (World.doorLaid Tryd.prog 67 os) #[.slice none 0 0, .slice none 0 0] 8 rfl (door_shaped os _) (by kernel_rfl) (by kernel_rfl) (by kernel_rfl) (door_met2 os _)) ?_
  intro W base args ds gs before hval0 hW hcnd _ hL _
  have hval : ∀ (j : Nat) t v, Tryd.f3.params[j]? = some t → args[j]? = some v → Value.okWide Tryd.prog W .any base t v := hval0
  have hW' := hW
  obtain ⟨p, q, hA0, hV, hpq, hfz, hnd⟩ := hW
  have hA : DataW.TrodAll enc Tryd.prog W 0 (fun _ => true) true Tryd.f3.params.toList args.toList ds p := hA0
  rw [Tryd.params3] at hA hval
  obtain ⟨v0, vs0, d0, ds0, p0, q0, hargs, rfl, rfl, h0, r0⟩ := trodAll_cons hA
  obtain ⟨v1, vs1, d1, ds1, p1, q1, rfl, rfl, rfl, h1, r1⟩ := trodAll_cons r0
  obtain ⟨rfl, rfl, rfl⟩ := trodAll_nil r1
  obtain rfl : args = #[v0, v1] := by cases args; simp_all
  obtain ⟨a0, len0, cap0, rfl⟩ := okWide_slice Tryd.underlying22 (hval 0 22 v0 rfl rfl)
  obtain ⟨z0, w0⟩ : ∃ zs, IsRow .u8 W a0 len0 cap0 zs := by
    obtain ⟨fuel, hf⟩ := h0
    rcases open_ints Tryd.underlying22 Tryd.underlying5 (by kernel_rfl) hf with ⟨hcs, _⟩ | ⟨x, l, c, zs, hcs, _, hl, hm, hz, _, hcell, hwz⟩
    · simp [Value.cells] at hcs
      obtain ⟨rfl, rfl, rfl⟩ := hcs
      exact ⟨[], .inl ⟨rfl, rfl, rfl, rfl⟩⟩
    · simp [Value.cells] at hcs
      obtain ⟨rfl, rfl, rfl⟩ := hcs
      exact ⟨zs, .inr ⟨_, rfl, hl, hm, by simpa using hz, hcell, hwz⟩⟩
  obtain ⟨a1, len1, cap1, rfl⟩ := okWide_slice Tryd.underlying22 (hval 1 22 v1 rfl rfl)
  obtain ⟨z1, w1⟩ : ∃ zs, IsRow .u8 W a1 len1 cap1 zs := by
    obtain ⟨fuel, hf⟩ := h1
    rcases open_ints Tryd.underlying22 Tryd.underlying5 (by kernel_rfl) hf with ⟨hcs, _⟩ | ⟨x, l, c, zs, hcs, _, hl, hm, hz, _, hcell, hwz⟩
    · simp [Value.cells] at hcs
      obtain ⟨rfl, rfl, rfl⟩ := hcs
      exact ⟨[], .inl ⟨rfl, rfl, rfl, rfl⟩⟩
    · simp [Value.cells] at hcs
      obtain ⟨rfl, rfl, rfl⟩ := hcs
      exact ⟨zs, .inr ⟨_, rfl, hl, hm, by simpa using hz, hcell, hwz⟩⟩
  refine (walk a0 len0 cap0 z0 a1 len1 cap1 z1 W w0 w1 hL).mono fun e W' ⟨he, bel⟩ => ?_
  subst he
  exact ⟨_, rfl, post_of_law laidOut (by kernel_rfl) Tryd.underlying4 rfl rfl (fun ds h => by match ds, h with | [_, _], _ => rfl) hW' bel⟩

theorem holds : Rows.FnAngleTextsSaid :=
  OpenClaim.holds_of_wide 3 Tryd.f3 rfl rfl rfl rfl rfl rfl rfl ⟨rfl, rfl, rfl, rfl, rfl⟩ rfl rfl rfl rfl rfl (by kernel_rfl) Tryd.func3 (by kernel_rfl)
    (of_decide_eq_true (by kernel_rfl)) (by unfold Func.isWrapper; first | (rw [if_pos (by decide +kernel)]; kernel_rfl) | (rw [if_neg (by decide +kernel)]; exact ⟨rfl, rfl⟩))
    (fun os started H enc _ => lifted os started H enc)

/-- No parameter wants a stand-in; what the card asks of the program's looks. -/
theorem plain (f : FuncId) (fn : Func) (hf : Tryd.pinned.checked.prog.funcNamed "loop.example/g01055/laws.FnAngleTexts" = some f) (hfn : Tryd.pinned.checked.prog.funcs[f]? = some fn) :
    true = Tryd.pinned.checked.prog.looks [] ∧ ∀ (j : Nat) t, fn.params[j]? = some t → Tryd.pinned.checked.prog.wantsStandIn t = false := by
  obtain rfl : f = 3 := Option.some.inj ((show Tryd.prog.funcNamed "loop.example/g01055/laws.FnAngleTexts" = some 3 by kernel_rfl).symm.trans hf) |>.symm
  obtain rfl : fn = Tryd.f3 := (Option.some.inj (Tryd.func3.symm.trans hfn)).symm
  refine ⟨door_looks, fun j t ht => ?_⟩
  have hall : (Tryd.f3.params.toList.all fun u => !Tryd.prog.wantsStandIn u) = true := by kernel_rfl
  have hm : t ∈ Tryd.f3.params.toList := by simpa using Array.mem_of_getElem? ht
  exact (show Tryd.prog.wantsStandIn t = false by simpa using List.all_eq_true.1 hall t hm)

/-- THE CARD. -/
theorem card : Rows.FnAngleTextsCardSaid :=
  Claim7.holds_tied_plain_at .later [] _ _ _ _ holds (fun _ h => by cases h) (by kernel_rfl) (fun _ h => by cases h) fnAngleTexts_row_tie rfl ⟨rfl, rfl⟩ door_main rfl plain (by kernel_rfl)
#print axioms card

end Go.Proofs.YtbnihalbepffoaaDoor.angleTexts
