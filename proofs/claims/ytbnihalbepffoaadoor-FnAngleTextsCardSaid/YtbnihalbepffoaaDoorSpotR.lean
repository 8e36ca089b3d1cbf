/- Spots are read: contracts of the program and of the model. -/
import Derived.Test.YtbnihalbepffoaaDoorAimNS
import Derived.Test.YtbnihalbepffoaaDoorAimEW
import Derived.Test.YtbnihalbepffoaaDoorRdS
namespace Go.Proofs.YtbnihalbepffoaaDoor.dec
open Go.ChangeShapes Go.WideShapes Go.ChangeAt Go.RowKit Go.Proofs.YtbnihalbepffoaaDoor.num Go.Proofs.YtbnihalbepffoaaDoor.bld Go.Proofs.YtbnihalbepffoaaDoor.split Go.Proofs.YtbnihalbepffoaaDoor.spots

/-- The text l is the text of the spot (a, b). -/
def IsSpotT (l : List UInt8) (a b : Int) : Prop := okB a b = true ∧ spotL a b = l
theorem ang_high {p m : UInt8} (hp : 57 < p.toNat) (hm : 57 < m.toNat) {l : List UInt8} {a : Int} (h : IsAng p m l a) : (32 : UInt8) ∉ l := by
  obtain ⟨F, c, rfl, hs, hc⟩ := ang_split h
  intro hx
  rcases List.mem_append.1 hx with hx | hx
  · obtain ⟨h1, h2, h3, h4, h5, h6, h7, h8, _⟩ := size_split hs
    rw [h1] at hx
    rcases List.mem_append.1 hx with hx | hx
    · have := (itoa_allD h3 _ hx).1; revert this; decide
    rcases List.mem_cons.1 hx with hx | hx
    · revert hx; decide
    rcases List.mem_append.1 hx with hx | hx
    · have := ((pair_num h5 (by omega)).1 _ hx).1; revert this; decide
    rcases List.mem_cons.1 hx with hx | hx
    · revert hx; decide
    · have := ((pair_num h7 (by omega)).1 _ hx).1; revert this; decide
  · simp only [List.mem_singleton] at hx
    rw [← hx] at hc
    split at hc
    · rw [← hc] at hm; revert hm; decide
    · rw [← hc] at hp; revert hp; decide
theorem spot_ang {l : List UInt8} {a b : Int} (h : IsSpotT l a b) : -324000 ≤ a ∧ a ≤ 324000 ∧ -648000 ≤ b ∧ b ≤ 647999 ∧ IsAng 110 115 (angL 110 115 a) a ∧ IsAng 101 119 (angL 101 119 b) b ∧ l = angL 110 115 a ++ 32 :: angL 101 119 b := by
  obtain ⟨h1, h2⟩ := h
  obtain ⟨b1, b2, b3, b4⟩ := bld.okB_of h1
  refine ⟨b1, b2, b3, b4, ⟨by omega, by omega, rfl⟩, ⟨by omega, by omega, rfl⟩, ?_⟩
  rw [← h2, spotL]; simp
theorem spot_cut {l : List UInt8} {a b : Int} (h : IsSpotT l a b) : cutL 32 l = (angL 110 115 a, angL 101 119 b, true) ∧ splitL 32 l = [angL 110 115 a, angL 101 119 b] := by
  obtain ⟨_, _, _, _, h1, h2, h3⟩ := spot_ang h
  have n1 := ang_high (by decide) (by decide) h1
  have n2 := ang_high (by decide) (by decide) h2
  exact ⟨by rw [h3]; exact cutL_at 32 _ _ n1, by rw [h3, splitL_at 32 _ _ n1, splitL_no 32 _ n2]⟩
theorem spot_inj {l : List UInt8} {a b a2 b2 : Int} (h : IsSpotT l a b) (g : IsSpotT l a2 b2) : a = a2 ∧ b = b2 := by
  have e := (spot_cut h).1.symm.trans (spot_cut g).1
  simp only [Prod.mk.injEq, and_true] at e
  obtain ⟨_, _, _, _, h1, h2, _⟩ := spot_ang h
  obtain ⟨_, _, _, _, g1, g2, _⟩ := spot_ang g
  rw [e.1] at h1
  rw [e.2] at h2
  exact ⟨ang_inj (by decide) h1 g1, ang_inj (by decide) h2 g2⟩
theorem spot_from {A B : List UInt8} {a b : Int} (h1 : IsAng 110 115 A a) (h2 : IsAng 101 119 B b) (ho : okB a b = true) : IsSpotT (A ++ 32 :: B) a b := by
  refine ⟨ho, ?_⟩
  rw [spotL, h1.2.2, h2.2.2]; simp
open Classical in
noncomputable def spotB (l : List UInt8) : Bool := decide (∃ p : Int × Int, IsSpotT l p.1 p.2)
open Classical in
noncomputable def spotV (l : List UInt8) : Int × Int := if h : ∃ p : Int × Int, IsSpotT l p.1 p.2 then h.choose else (0, 0)
theorem spot_yes {l : List UInt8} {a b : Int} (h : IsSpotT l a b) : spotB l = true ∧ (spotV l).1 = a ∧ (spotV l).2 = b := by
  have he : ∃ p : Int × Int, IsSpotT l p.1 p.2 := ⟨(a, b), h⟩
  refine ⟨by simp [spotB, he], ?_⟩
  unfold spotV
  rw [dif_pos he]
  exact spot_inj he.choose_spec h
theorem spot_no {l : List UInt8} (h : ∀ a b, IsSpotT l a b → False) : spotB l = false ∧ (spotV l).1 = 0 ∧ (spotV l).2 = 0 := by
  have he : ¬ ∃ p : Int × Int, IsSpotT l p.1 p.2 := fun ⟨p, g⟩ => h _ _ g
  exact ⟨by simp [spotB, he], by simp [spotV, he], by simp [spotV, he]⟩
theorem ret_spot {l : List UInt8} {a b : Int} {t : Bool} (h : spotB l = t ∧ (spotV l).1 = a ∧ (spotV l).2 = b) : Ending.returned (.tuple #[.agg #[.int .i64 a, .int .i64 b], .bool t]) = .returned (.tuple #[.agg #[.int .i64 (spotV l).1, .int .i64 (spotV l).2], .bool (spotB l)]) := by rw [h.1, h.2.1, h.2.2]
theorem two_cells {w : World} {b : Nat} {u0 u1 v0 v1 : Value} (h0 : w.cell? ⟨b, 0, none⟩ = some u0) (h1 : w.cell? ⟨b, 1, none⟩ = some u1) :
    ((w.setCell ⟨b, 0, none⟩ v0).setCell ⟨b, 1, none⟩ v1).cell? ⟨b, 0, none⟩ = some v0 ∧ ((w.setCell ⟨b, 0, none⟩ v0).setCell ⟨b, 1, none⟩ v1).cell? ⟨b, 1, none⟩ = some v1 := by
  have n (i j : Nat) (h : i ≠ j) (w : World) (v : Value) : (w.setCell ⟨b, i, none⟩ v).cell? ⟨b, j, none⟩ = w.cell? ⟨b, j, none⟩ := World.cell?_setCell_other w _ _ v (by intro e; injection e; contradiction)
  have a0 := World.cell?_setCell_same w ⟨b, 0, none⟩ v0 h0
  have a1 := World.cell?_setCell_same _ ⟨b, 1, none⟩ v1 ((n 0 1 (by decide) w v0).trans h1)
  exact ⟨(n 1 0 (by decide) _ _).trans a0, a1⟩
theorem two_past {w : World} {b : Nat} {u0 u1 v0 v1 : Value} (h0 : w.cell? ⟨b, 0, none⟩ = some u0) (h1 : w.cell? ⟨b, 1, none⟩ = some u1) (o : Obj) :
    (((w.setCell ⟨b, 0, none⟩ v0).setCell ⟨b, 1, none⟩ v1).alloc o).cell? ⟨b, 0, none⟩ = some v0 ∧ (((w.setCell ⟨b, 0, none⟩ v0).setCell ⟨b, 1, none⟩ v1).alloc o).cell? ⟨b, 1, none⟩ = some v1 := by
  obtain ⟨t0, t1⟩ := two_cells (v0 := v0) (v1 := v1) h0 h1
  have hb := World.block_lt_of_cell? _ _ t0
  exact ⟨by rw [World.cell?_alloc_past _ _ _ hb]; exact t0, by rw [World.cell?_alloc_past _ _ _ hb]; exact t1⟩
theorem two_past2 {w : World} {b : Nat} {u0 u1 v0 v1 : Value} (h0 : w.cell? ⟨b, 0, none⟩ = some u0) (h1 : w.cell? ⟨b, 1, none⟩ = some u1) (o o2 : Obj) :
    ((((w.setCell ⟨b, 0, none⟩ v0).setCell ⟨b, 1, none⟩ v1).alloc o).alloc o2).cell? ⟨b, 0, none⟩ = some v0 ∧ ((((w.setCell ⟨b, 0, none⟩ v0).setCell ⟨b, 1, none⟩ v1).alloc o).alloc o2).cell? ⟨b, 1, none⟩ = some v1 := by
  obtain ⟨t0, t1⟩ := two_past (v0 := v0) (v1 := v1) h0 h1 o
  have hb := World.block_lt_of_cell? _ _ t0
  exact ⟨by rw [World.cell?_alloc_past _ _ _ hb]; exact t0, by rw [World.cell?_alloc_past _ _ _ hb]; exact t1⟩

set_option maxRecDepth 100000 in
set_option maxHeartbeats 4000000 in
theorem implReadSpot_any (s : ByteArray) (w : World) (hs : s.size ≤ 1048576) (hl : Lists w) :
    Calls Tryd.prog 11 #[.string s] w fun e w' => e = .returned (.tuple #[.agg #[.int .i64 (spotV s.data.toList).1, .int .i64 (spotV s.data.toList).2], .bool (spotB s.data.toList)]) ∧ Below w.heap.size w w' := by
  have HL := Lib.hid (lists_below hl ((Below.refl _ _).alloc (Nat.le_refl _) (.cells #[.int .i64 0, .int .i64 0] 25)))
  have HM := Lib.hid (show s.size ≤ maxLen by unfold maxLen; omega)
  have HZ1 := Lib.hid (show (cut1 32 s.data.toList).size ≤ 1048576 by have := cut1_size 32 s; omega)
  have HZ2 := Lib.hid (show (cut2 32 s.data.toList).size ≤ 1048576 by have := cut2_size 32 s; omega)
  clear hl hs
  obtain ⟨A, GA⟩ : ∃ A, Hid (cut1 32 s.data.toList = A) := ⟨_, Lib.hid rfl⟩
  obtain ⟨B, GB⟩ : ∃ B, Hid (cut2 32 s.data.toList = B) := ⟨_, Lib.hid rfl⟩
  obtain ⟨F, GF⟩ : ∃ F, Hid (cut3 32 s.data.toList = F) := ⟨_, Lib.hid rfl⟩
  rw [GA.out] at HZ1
  rw [GB.out] at HZ2
  have HNO := Lib.hid (show ∀ a b, IsSpotT s.data.toList a b → A.data.toList = angL 110 115 a ∧ B.data.toList = angL 101 119 b from fun a b h => by
    have e := (spot_cut h).1
    rw [← GA.out, ← GB.out, c1, c2, e]
    exact ⟨rfl, rfl⟩)
  have HIF := Lib.hid (show F = true → s.data.toList = A.data.toList ++ 32 :: B.data.toList from fun h => by
    rw [← GF.out] at h
    rw [← GA.out, ← GB.out, c1, c2]
    exact splitc h)
  have HFN := Lib.hid (show F = false → B.data.toList = [] from fun h => by
    rw [← GF.out] at h
    rcases cutL_or 32 s.data.toList with g | g
    · unfold cut3 at h; rw [g] at h; cases h
    · rw [← GB.out, c2, g])
  obtain ⟨P, HP⟩ : ∃ P, Hid (aimV 110 115 A.data.toList = P) := ⟨_, Lib.hid rfl⟩
  obtain ⟨PB, HPB⟩ : ∃ PB, Hid (aimB 110 115 A.data.toList = PB) := ⟨_, Lib.hid rfl⟩
  obtain ⟨Q, HQ⟩ : ∃ Q, Hid (aimV 101 119 B.data.toList = Q) := ⟨_, Lib.hid rfl⟩
  obtain ⟨QB, HQB⟩ : ∃ QB, Hid (aimB 101 119 B.data.toList = QB) := ⟨_, Lib.hid rfl⟩
  have HY := Lib.hid (show ∀ a b, IsSpotT s.data.toList a b → PB = true ∧ P = a ∧ QB = true ∧ Q = b from fun a b h => by
    obtain ⟨_, _, _, _, g1, g2, _⟩ := spot_ang h
    obtain ⟨e1, e2⟩ := HNO.out a b h
    have y1 := aim_yes (by decide) g1
    have y2 := aim_yes (by decide) g2
    rw [← HPB.out, ← HP.out, ← HQB.out, ← HQ.out, e1, e2]
    exact ⟨y1.1, y1.2, y2.1, y2.2⟩)
  go_enter Tryd.func11, Tryd.ntmps11
  go_wp2_with fail
  refine (Cut_any s 32 _ HM.out).mono ?_
  rw [GA.out, GB.out, GF.out]
  rintro e w1 ⟨rfl, hb1⟩
  have HB1 := Lib.hid (show Below (w.alloc (.cells #[.int .i64 0, .int .i64 0] 25)).heap.size (w.alloc (.cells #[.int .i64 0, .int .i64 0] 25)) w1 from hb1)
  clear hb1
  go_wp2_with fail
  refine (ns_any _).mono ?_
  rintro e w2 ⟨rfl, o2, rfl⟩
  have HB2 := Lib.hid (HB1.out.alloc HB1.out.size o2)
  go_wp2_with fail
  refine (readNS A _ HZ1.out (lists_below HL.out HB2.out)).mono ?_
  rw [HP.out, HPB.out]
  rintro e w3 ⟨rfl, hb3⟩
  have HB3 := Lib.hid (bchain HB2.out hb3)
  clear hb3
  go_wp2_with fail
  refine (ew_any _).mono ?_
  rintro e w4 ⟨rfl, o4, rfl⟩
  have HB4 := Lib.hid (HB3.out.alloc HB3.out.size o4)
  go_wp2_with fail
  refine (readEW B _ HZ2.out (lists_below HL.out HB4.out)).mono ?_
  rw [HQ.out, HQB.out]
  rintro e w5 ⟨rfl, hb5⟩
  have HB5 := Lib.hid (bchain HB4.out hb5)
  clear hb5 HB4 HB3 HB2 HB1
  have k0 : w5.cell? ⟨w.heap.size, 0, none⟩ = some (.int .i64 0) := (HB5.out.cell (p := ⟨w.heap.size, 0, none⟩) (by simp)).trans (by rw [World.cell?_alloc_new]; rfl)
  have k1 : w5.cell? ⟨w.heap.size, 1, none⟩ = some (.int .i64 0) := (HB5.out.cell (p := ⟨w.heap.size, 1, none⟩) (by simp)).trans (by rw [World.cell?_alloc_new]; rfl)
  have f0 : w5.frozen? ⟨w.heap.size, 0, none⟩ = false := (HB5.out.frozen (p := ⟨w.heap.size, 0, none⟩) (by simp)).trans (frozen_new _ _ _ _)
  have f1 : w5.frozen? ⟨w.heap.size, 1, none⟩ = false := (HB5.out.frozen (p := ⟨w.heap.size, 1, none⟩) (by simp)).trans (frozen_new _ _ _ _)
  have hsz : w.heap.size < w5.heap.size := by have := HB5.out.size; simp at this; omega
  have HB6 := Lib.hid (bchain ((Below.refl _ _).alloc (Nat.le_refl _) (.cells #[.int .i64 0, .int .i64 0] 25)) HB5.out)
  clear HB5
  cases PB with
  | false =>
    go_wp2_with (go_at_call 50; refine (ValidSpot_any _ _ _).mono ?_; rintro e w' ⟨rfl, o1, rfl⟩)
    exact bodyPost_ret (v := .tuple #[.agg #[.int .i64 (0), .int .i64 (0)], .bool false]) (by have tc := two_past (v0 := .int .i64 (0)) (v1 := .int .i64 (0)) k0 k1; simp [results, Tryd.results11, go_sem, (tc _).1, (tc _).2]) rfl ⟨ret_spot (spot_no fun a b h => by have := (HY.out a b h).1; cases this), by repeat (first | exact HB6.out | refine Below.drew ?_ | refine below_drewN ?_ _ | refine Below.alloc ?_ (by have := HB6.out.size; first | omega | (simp; done) | (simp; omega)) _ | refine Below.setCell ?_ (by simp) _)⟩
  | true =>
    cases QB with
    | false =>
      go_wp2_with (go_at_call 50; refine (ValidSpot_any _ _ _).mono ?_; rintro e w' ⟨rfl, o1, rfl⟩)
      exact bodyPost_ret (v := .tuple #[.agg #[.int .i64 (0), .int .i64 (0)], .bool false]) (by have tc := two_past (v0 := .int .i64 (0)) (v1 := .int .i64 (0)) k0 k1; simp [results, Tryd.results11, go_sem, (tc _).1, (tc _).2]) rfl ⟨ret_spot (spot_no fun a b h => by have := (HY.out a b h).2.2.1; cases this), by repeat (first | exact HB6.out | refine Below.drew ?_ | refine below_drewN ?_ _ | refine Below.alloc ?_ (by have := HB6.out.size; first | omega | (simp; done) | (simp; omega)) _ | refine Below.setCell ?_ (by simp) _)⟩
    | true =>
      cases ho : okB P Q with
      | false =>
        have HO := Lib.hid ho
        go_wp2_with (go_at_call 50; refine (ValidSpot_any _ _ _).mono ?_; rintro e w' ⟨rfl, o1, rfl⟩)
        exact bodyPost_ret (v := .tuple #[.agg #[.int .i64 (0), .int .i64 (0)], .bool false]) (by have tc := two_past2 (v0 := .int .i64 (0)) (v1 := .int .i64 (0)) k0 k1; simp [results, Tryd.results11, go_sem, (tc _ _).1, (tc _ _).2]) rfl ⟨ret_spot (spot_no fun a b h => by have h1 := HY.out a b h; have h2 := HO.out; rw [h1.2.1, h1.2.2.2, h.1] at h2; cases h2), by repeat (first | exact HB6.out | refine Below.drew ?_ | refine below_drewN ?_ _ | refine Below.alloc ?_ (by have := HB6.out.size; first | omega | (simp; done) | (simp; omega)) _ | refine Below.setCell ?_ (by simp) _)⟩
      | true =>
        have HO := Lib.hid ho
        have ha := aim_is HPB.out
        have hb := aim_is HQB.out
        rw [HP.out] at ha
        rw [HQ.out] at hb
        have HYES := Lib.hid (show IsSpotT s.data.toList P Q by
          cases hF : F with
          | true => rw [HIF.out hF]; exact spot_from ha hb ho
          | false =>
            exfalso
            rw [HFN.out hF] at hb
            obtain ⟨G, c, e, _⟩ := ang_split hb
            simp at e)
        clear ha hb
        go_wp2_with (go_at_call 50; refine (ValidSpot_any _ _ _).mono ?_; rintro e w' ⟨rfl, o1, rfl⟩)
        exact bodyPost_ret (v := .tuple #[.agg #[.int .i64 (P), .int .i64 (Q)], .bool true]) (by have tc := two_past2 (v0 := .int .i64 (P)) (v1 := .int .i64 (Q)) k0 k1; simp [results, Tryd.results11, go_sem, (tc _ _).1, (tc _ _).2]) rfl ⟨ret_spot (spot_yes HYES.out), by repeat (first | exact HB6.out | refine Below.drew ?_ | refine below_drewN ?_ _ | refine Below.alloc ?_ (by have := HB6.out.size; first | omega | (simp; done) | (simp; omega)) _ | refine Below.setCell ?_ (by simp) _)⟩

set_option maxRecDepth 100000 in
set_option maxHeartbeats 4000000 in
theorem specReadSpot_any (s : ByteArray) (w : World) (hs : s.size ≤ 1048576) :
    Calls Tryd.prog 39 #[.string s] w fun e w' => e = .returned (.tuple #[.agg #[.int .i64 (spotV s.data.toList).1, .int .i64 (spotV s.data.toList).2], .bool (spotB s.data.toList)]) ∧ Below w.heap.size w w' := by
  have HS := Lib.hid (show s.size ≤ 1073741824 by omega)
  have HS2 := Lib.hid hs
  clear hs
  go_enter Tryd.func39, Tryd.ntmps39
  go_wp2_with fail
  refine (l01Split_any s 32 32 rfl _ HS.out).mono ?_
  rintro e w1 ⟨v, ps, rfl, hsp, hlen, hown, hb1⟩
  obtain ⟨⟨a, c, rfl⟩, hsh⟩ := row_shape hown
  have HB1 := Lib.hid (show Below (w.alloc (.cells #[.int .i64 0, .int .i64 0] 25)).heap.size (w.alloc (.cells #[.int .i64 0, .int .i64 0] 25)) w1 from hb1)
  have HSP := Lib.hid hsp
  clear hsp hb1
  by_cases h2 : ps.length = 2
  · obtain ⟨g, c', e, hg⟩ := hsh (by omega)
    simp at e
    obtain ⟨rfl, rfl⟩ := e
    have c0 := row_cell hown 0 (by omega)
    have c1 := row_cell hown 1 (by omega)
    obtain ⟨A, B, rfl⟩ := ps_two h2
    simp only [List.getElem_cons_zero, List.getElem_cons_succ] at c0 c1
    simp only [List.length_cons, List.length_nil, Nat.zero_add, Nat.reduceAdd] at *
    have hgl : g < w1.heap.size := (World.ownsRow.lt hown g rfl).2
    have HSQ := Lib.hid (show [A.data.toList, B.data.toList] = splitL 32 s.data.toList from HSP.out)
    clear hown hsh h2 hlen hg
    have HCAT := Lib.hid (splitL_two 32 _ _ _ HSQ.out.symm)
    have hAz : A.size ≤ 1048576 ∧ B.size ≤ 1048576 := by
      have := congrArg List.length HCAT.out
      have h3 := HS2.out
      simp at this; omega
    have HAZ := Lib.hid hAz
    clear hAz
    obtain ⟨P, HP⟩ : ∃ P, Hid (rdV 110 115 A.data.toList = P) := ⟨_, Lib.hid rfl⟩
    obtain ⟨PB, HPB⟩ : ∃ PB, Hid (rdB 110 115 A.data.toList = PB) := ⟨_, Lib.hid rfl⟩
    obtain ⟨Q, HQ⟩ : ∃ Q, Hid (rdV 101 119 B.data.toList = Q) := ⟨_, Lib.hid rfl⟩
    obtain ⟨QB, HQB⟩ : ∃ QB, Hid (rdB 101 119 B.data.toList = QB) := ⟨_, Lib.hid rfl⟩
    have HY := Lib.hid (show ∀ a b, IsSpotT s.data.toList a b → PB = true ∧ P = a ∧ QB = true ∧ Q = b from fun a b h => by
      obtain ⟨b1, b2, b3, b4, g1, g2, _⟩ := spot_ang h
      have e := HSQ.out.trans (spot_cut h).2
      simp only [List.cons.injEq, and_true] at e
      have y1 := rd_yes (by decide) g1 (by omega)
      have y2 := rd_yes (by decide) g2 (by omega)
      rw [← HPB.out, ← HP.out, ← HQB.out, ← HQ.out, e.1, e.2]
      exact ⟨y1.1, y1.2, y2.1, y2.2⟩)
    go_wp2_with fail
    refine (l02Read_any 110 115 (by decide) A _ HAZ.out.1).mono ?_
    rw [HP.out, HPB.out]
    rintro e w2 ⟨rfl, hb2⟩
    have d1 : w2.cell? ⟨g, 1, none⟩ = some (.string B) := by rw [hb2.cell hgl]; exact c1
    have HB2 := Lib.hid (bchain HB1.out hb2)
    clear hb2 c0 c1
    go_wp2_with fail
    refine (l02Read_any 101 119 (by decide) B _ HAZ.out.2).mono ?_
    rw [HQ.out, HQB.out]
    rintro e w5 ⟨rfl, hb5⟩
    have HB5 := Lib.hid (bchain HB2.out hb5)
    clear hb5 d1 HB2 HB1
    have k0 : w5.cell? ⟨w.heap.size, 0, none⟩ = some (.int .i64 0) := (HB5.out.cell (p := ⟨w.heap.size, 0, none⟩) (by simp)).trans (by rw [World.cell?_alloc_new]; rfl)
    have k1 : w5.cell? ⟨w.heap.size, 1, none⟩ = some (.int .i64 0) := (HB5.out.cell (p := ⟨w.heap.size, 1, none⟩) (by simp)).trans (by rw [World.cell?_alloc_new]; rfl)
    have f0 : w5.frozen? ⟨w.heap.size, 0, none⟩ = false := (HB5.out.frozen (p := ⟨w.heap.size, 0, none⟩) (by simp)).trans (frozen_new _ _ _ _)
    have f1 : w5.frozen? ⟨w.heap.size, 1, none⟩ = false := (HB5.out.frozen (p := ⟨w.heap.size, 1, none⟩) (by simp)).trans (frozen_new _ _ _ _)
    have hsz : w.heap.size < w5.heap.size := by have := HB5.out.size; simp at this; omega
    have HB6 := Lib.hid (bchain ((Below.refl _ _).alloc (Nat.le_refl _) (.cells #[.int .i64 0, .int .i64 0] 25)) HB5.out)
    clear HB5
    cases PB with
    | false =>
      go_wp2_with (go_at_call 63; refine (l02Ok_any _ _ _).mono ?_; rintro e w' ⟨rfl, o1, rfl⟩)
      exact bodyPost_ret (v := .tuple #[.agg #[.int .i64 (0), .int .i64 (0)], .bool false]) (by have tc := two_past (v0 := .int .i64 (0)) (v1 := .int .i64 (0)) k0 k1; simp [results, Tryd.results39, go_sem, (tc _).1, (tc _).2]) rfl ⟨ret_spot (spot_no fun a b h => by have := (HY.out a b h).1; cases this), by repeat (first | exact HB6.out | refine Below.drew ?_ | refine below_drewN ?_ _ | refine Below.alloc ?_ (by have := HB6.out.size; first | omega | (simp; done) | (simp; omega)) _ | refine Below.setCell ?_ (by simp) _)⟩
    | true =>
      cases QB with
      | false =>
        go_wp2_with (go_at_call 63; refine (l02Ok_any _ _ _).mono ?_; rintro e w' ⟨rfl, o1, rfl⟩)
        exact bodyPost_ret (v := .tuple #[.agg #[.int .i64 (0), .int .i64 (0)], .bool false]) (by have tc := two_past (v0 := .int .i64 (0)) (v1 := .int .i64 (0)) k0 k1; simp [results, Tryd.results39, go_sem, (tc _).1, (tc _).2]) rfl ⟨ret_spot (spot_no fun a b h => by have := (HY.out a b h).2.2.1; cases this), by repeat (first | exact HB6.out | refine Below.drew ?_ | refine below_drewN ?_ _ | refine Below.alloc ?_ (by have := HB6.out.size; first | omega | (simp; done) | (simp; omega)) _ | refine Below.setCell ?_ (by simp) _)⟩
      | true =>
        cases ho : okB P Q with
        | false =>
          have HO := Lib.hid ho
          go_wp2_with (go_at_call 63; refine (l02Ok_any _ _ _).mono ?_; rintro e w' ⟨rfl, o1, rfl⟩)
          exact bodyPost_ret (v := .tuple #[.agg #[.int .i64 (0), .int .i64 (0)], .bool false]) (by have tc := two_past2 (v0 := .int .i64 (0)) (v1 := .int .i64 (0)) k0 k1; simp [results, Tryd.results39, go_sem, (tc _ _).1, (tc _ _).2]) rfl ⟨ret_spot (spot_no fun a b h => by have h1 := HY.out a b h; have h2 := HO.out; rw [h1.2.1, h1.2.2.2, h.1] at h2; cases h2), by repeat (first | exact HB6.out | refine Below.drew ?_ | refine below_drewN ?_ _ | refine Below.alloc ?_ (by have := HB6.out.size; first | omega | (simp; done) | (simp; omega)) _ | refine Below.setCell ?_ (by simp) _)⟩
        | true =>
          have HO := Lib.hid ho
          have HYES := Lib.hid (show IsSpotT s.data.toList P Q by
            have ha := HPB.out
            have hb := HQB.out
            have va := HP.out
            have vb := HQ.out
            rw [rdV, if_pos ha] at va
            rw [rdV, if_pos hb] at vb
            simp only [rdB, Bool.and_eq_true] at ha hb
            have ia := aim_is ha.1
            have ib := aim_is hb.1
            rw [va] at ia
            rw [vb] at ib
            rw [HCAT.out]
            exact spot_from ia ib ho)
          go_wp2_with (go_at_call 63; refine (l02Ok_any _ _ _).mono ?_; rintro e w' ⟨rfl, o1, rfl⟩)
          exact bodyPost_ret (v := .tuple #[.agg #[.int .i64 (P), .int .i64 (Q)], .bool true]) (by have tc := two_past2 (v0 := .int .i64 (P)) (v1 := .int .i64 (Q)) k0 k1; simp [results, Tryd.results39, go_sem, (tc _ _).1, (tc _ _).2]) rfl ⟨ret_spot (spot_yes HYES.out), by repeat (first | exact HB6.out | refine Below.drew ?_ | refine below_drewN ?_ _ | refine Below.alloc ?_ (by have := HB6.out.size; first | omega | (simp; done) | (simp; omega)) _ | refine Below.setCell ?_ (by simp) _)⟩
  · have hne : ((ps.length : Int) != 2) = true := by simp; omega
    have HN := Lib.hid h2
    have HLN := Lib.hid (show (lists ps).length = ps.length by simp [lists])
    clear h2
    have k0 : w1.cell? ⟨w.heap.size, 0, none⟩ = some (.int .i64 0) := (HB1.out.cell (p := ⟨w.heap.size, 0, none⟩) (by simp)).trans (by rw [World.cell?_alloc_new]; rfl)
    have k1 : w1.cell? ⟨w.heap.size, 1, none⟩ = some (.int .i64 0) := (HB1.out.cell (p := ⟨w.heap.size, 1, none⟩) (by simp)).trans (by rw [World.cell?_alloc_new]; rfl)
    have f0 : w1.frozen? ⟨w.heap.size, 0, none⟩ = false := (HB1.out.frozen (p := ⟨w.heap.size, 0, none⟩) (by simp)).trans (frozen_new _ _ _ _)
    have f1 : w1.frozen? ⟨w.heap.size, 1, none⟩ = false := (HB1.out.frozen (p := ⟨w.heap.size, 1, none⟩) (by simp)).trans (frozen_new _ _ _ _)
    have hsz : w.heap.size < w1.heap.size := by have := HB1.out.size; simp at this; omega
    have HB6 := Lib.hid (bchain ((Below.refl _ _).alloc (Nat.le_refl _) (.cells #[.int .i64 0, .int .i64 0] 25)) HB1.out)
    clear HB1
    go_wp2
    exact bodyPost_ret (v := .tuple #[.agg #[.int .i64 (0), .int .i64 (0)], .bool false]) (by have tc := two_cells (v0 := .int .i64 (0)) (v1 := .int .i64 (0)) k0 k1; simp [results, Tryd.results39, go_sem, tc.1, tc.2]) rfl ⟨ret_spot (spot_no fun a b h => by have e := congrArg List.length (HSP.out.trans (spot_cut h).2); rw [HLN.out] at e; simp at e; exact HN.out e), by repeat (first | exact HB6.out | refine Below.drew ?_ | refine below_drewN ?_ _ | refine Below.alloc ?_ (by have := HB6.out.size; first | omega | (simp; done) | (simp; omega)) _ | refine Below.setCell ?_ (by simp) _)⟩
end Go.Proofs.YtbnihalbepffoaaDoor.dec
