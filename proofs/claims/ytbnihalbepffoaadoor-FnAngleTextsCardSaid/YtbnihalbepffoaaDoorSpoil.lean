/- Drawn spots and spoilt texts: contracts of the model's functions. -/
import Derived.Test.YtbnihalbepffoaaDoorDraw
import Derived.Test.YtbnihalbepffoaaDoorSpotT
import Derived.Test.YtbnihalbepffoaaDoorA2
import Derived.Deep.RegionWith
namespace Go.Proofs.YtbnihalbepffoaaDoor.src
open Go.ChangeShapes Go.WideShapes Go.ChangeAt Go.RowKit

set_option maxRecDepth 100000 in
set_option maxHeartbeats 1000000 in
theorem A2Spot_any (w : World) (a : Option Addr) (len cap : Nat) (hb : Bytes w a len w.heap.size) :
    Calls Tryd.prog 9 #[.slice a len cap] w fun e w' => ∃ x y, e = .returned (.agg #[.int .i64 x, .int .i64 y]) ∧ Drawn x y ∧ Below w.heap.size w w' := by
  have HB := Lib.hid hb
  clear hb
  go_enter Tryd.func9, Tryd.ntmps9
  go_wp2_with fail
  refine (l00From_any _ a len cap).mono ?_
  rintro e w' ⟨rfl, rfl⟩
  go_wp2_with fail
  have hb2 : Bytes (w.alloc (.cells #[.int .i64 0, .int .i64 0] 25)) a len (w.heap.size + 1) := by
    obtain ⟨h1, h2, h3⟩ := HB.out
    refine ⟨h1, by simp, fun i hi => ?_⟩
    obtain ⟨b, off, z, e, hlt, hz, h4⟩ := h3 i hi
    exact ⟨b, off, z, e, by omega, by rw [World.cell?_alloc_past _ _ _ hlt]; exact hz, h4⟩
  refine (l02Draw_any _ (w.heap.size + 1) a len cap 0 (by simpa using src_start (w.alloc (.cells #[.int .i64 0, .int .i64 0] 25)) a len cap) (by decide) (bytes_below hb2 ((Below.refl _ _).alloc (by simp) _)) (by simp)).mono ?_
  rintro e w1 ⟨x, y, rfl, hd, _, hg⟩
  have R : w1.heap[w.heap.size]? = some (.cells #[.int .i64 0, .int .i64 0] 25 (0, 0)) := by
    rw [hg.block w.heap.size (by simp; omega) (by simp), Below.heap_alloc _ _ _ (by simp)]
    exact heap_alloc_new w _
  have r0 := cell_of_block R 0
  have r1 := cell_of_block R 1
  have f0 := frozen_plain R 0
  have f1 := frozen_plain R 1
  simp only [List.getElem?_toArray, List.getElem?_cons_zero, List.getElem?_cons_succ] at r0 r1
  have HG := Lib.hid hg
  have HD := Lib.hid hd
  clear R hg hb2 hd
  go_wp2
  exact bodyPost_ret (v := .agg #[.int .i64 x, .int .i64 y]) (by simp [results, Tryd.results9, go_sem, r0, r1]) rfl ⟨_, _, rfl, HD.out, ((((((Below.refl _ _).alloc (Nat.le_refl _) _).alloc (by simp) _).grown HG.out (by simp; omega) (fun k hk => by obtain rfl := Option.some.inj hk; omega))).setCell (Nat.le_refl _) _).setCell (Nat.le_refl _) _⟩

theorem grown_below {w w' : World} {B : Nat} (hb : Below w.heap.size w w') : w.grownBy w' (some B) := ⟨hb.os, hb.tape, hb.output, hb.size, fun j hj _ => hb.block j hj⟩
theorem st_below {W0 w w' : World} {B : Nat} {a : Option Addr} {len cap : Nat} {m : Int} (h : St W0 w B a len cap m) (hb : Below w.heap.size w w') : St W0 w' B a len cap m := by
  obtain ⟨⟨x, y, k1, k2⟩, h2, h3, h4⟩ := h
  have hB : B < w.heap.size := Nat.lt_of_lt_of_le h4 h2.size
  have hg : w.grownBy w' (some B) := grown_below hb
  exact ⟨⟨x, y, by rw [hb.block B hB]; exact k1, k2⟩, Lib.grownBy_trans h2 hg, bytes_grown h3 hg (Nat.le_refl _), h4⟩
theorem st_drewN {W0 w : World} {B : Nat} {a : Option Addr} {len cap : Nat} {m : Int} (h : St W0 w B a len cap m) (q : Nat) : St W0 (w.drewN q) B a len cap m :=
  st_below h ⟨rfl, rfl, rfl, Nat.le_refl _, fun _ _ => rfl⟩
theorem bdr2 {B : Nat} {a w : World} (h : Below B a w) (q : Nat) : Below B a (w.drewN q) := ⟨h.os, h.tape, h.output, h.size, h.block⟩
/-- One of the letters that spoil a text. -/
theorem letter_at {w : World} {L : Nat} {ty : TypeId} (R : w.heap[L]? = some (.cells #[.string ⟨#[32]⟩, .string ⟨#[48]⟩, .string ⟨#[45]⟩, .string ⟨#[120]⟩, .string ⟨#[49]⟩, .string ⟨#[57]⟩, .string ⟨#[46]⟩] ty (0, 0))) (k : Nat) (hk : k < 7) : ∃ x : ByteArray, w.cell? ⟨L, k, none⟩ = some (.string x) ∧ x.size ≤ 1 := by
  have : k = 0 ∨ k = 1 ∨ k = 2 ∨ k = 3 ∨ k = 4 ∨ k = 5 ∨ k = 6 := by omega
  rcases this with rfl | rfl | rfl | rfl | rfl | rfl | rfl
  · exact ⟨⟨#[32]⟩, by have := cell_of_block R 0; simpa using this, by decide⟩
  · exact ⟨⟨#[48]⟩, by have := cell_of_block R 1; simpa using this, by decide⟩
  · exact ⟨⟨#[45]⟩, by have := cell_of_block R 2; simpa using this, by decide⟩
  · exact ⟨⟨#[120]⟩, by have := cell_of_block R 3; simpa using this, by decide⟩
  · exact ⟨⟨#[49]⟩, by have := cell_of_block R 4; simpa using this, by decide⟩
  · exact ⟨⟨#[57]⟩, by have := cell_of_block R 5; simpa using this, by decide⟩
  · exact ⟨⟨#[46]⟩, by have := cell_of_block R 6; simpa using this, by decide⟩
set_option maxHeartbeats 400000 in
theorem text_any (W0 w : World) (B L : Nat) (a : Option Addr) (len cap : Nat) (m : Int) (ty : TypeId) (h : St W0 w B a len cap m) (hm : m ≤ 1000) (hL : L ≠ B) (R : w.heap[L]? = some (.cells #[.string ⟨#[32]⟩, .string ⟨#[48]⟩, .string ⟨#[45]⟩, .string ⟨#[120]⟩, .string ⟨#[49]⟩, .string ⟨#[57]⟩, .string ⟨#[46]⟩] ty (0, 0))) :
    Calls Tryd.prog 103 #[.pointer (some ⟨B, 0, none⟩), .slice (some ⟨L, 0, none⟩) 7 7] w fun e w' => ∃ x : ByteArray, e = .returned (.string x) ∧ x.size ≤ 1 ∧ St W0 w' B a len cap (m + 2) ∧ w.grownBy w' (some B) := by
  have H := Lib.hid h
  have HR := Lib.hid R
  have hLs : L < w.heap.size := (Array.getElem?_eq_some_iff.1 R).1
  clear h R
  go_enter Tryd.func103, Tryd.ntmps103
  go_wp2_with fail
  refine (pick_any w B a len cap m 7 H.out.1 (by omega) H.out.2.2.1 (by decide) (by decide)).mono ?_
  rintro e w1 ⟨v, rfl, hv0, hv1, hs1, hg1⟩
  obtain ⟨k, rfl⟩ := Int.eq_ofNat_of_zero_le hv0
  have hk : k < 7 := by omega
  obtain ⟨x, hx, hxs⟩ := letter_at (by rw [hg1.block L hLs (by simpa using hL)]; exact HR.out) k hk
  have HS := Lib.hid (show St W0 w1 B a len cap (m + 2) from ⟨hs1, Lib.grownBy_trans H.out.2.1 hg1, bytes_grown H.out.2.2.1 hg1 (Nat.le_refl _), H.out.2.2.2⟩)
  have HG := Lib.hid hg1
  clear hs1 hg1
  go_wp2
  go_ret
  exact ⟨x, rfl, hxs, HS.out, HG.out⟩
theorem heap_drew {w : World} {L : Nat} {o : Obj} (h : w.heap[L]? = some o) : w.drew.heap[L]? = some o := h
theorem text_in {W0 w W : World} {B : Nat} {a : Option Addr} {len cap : Nat} {m : Int} {ty : TypeId} (h : St W0 w B a len cap m) (hb : Below w.heap.size w W) (R : W.heap[w.heap.size]? = some (.cells #[.string ⟨#[32]⟩, .string ⟨#[48]⟩, .string ⟨#[45]⟩, .string ⟨#[120]⟩, .string ⟨#[49]⟩, .string ⟨#[57]⟩, .string ⟨#[46]⟩] ty (0, 0))) (hm : m ≤ 1000 := by omega) :
    Calls Tryd.prog 103 #[.pointer (some ⟨B, 0, none⟩), .slice (some ⟨w.heap.size, 0, none⟩) 7 7] W fun e w' => ∃ x : ByteArray, e = .returned (.string x) ∧ x.size ≤ 1 ∧ St W0 w' B a len cap (m + 2) := by
  have hL : B < w.heap.size := Nat.lt_of_lt_of_le h.2.2.2 h.2.1.size
  refine (text_any W0 W B w.heap.size a len cap m ty (st_below h hb) hm (by omega) R).mono ?_
  rintro e w' ⟨x, h1, h2, h3, _⟩
  exact ⟨x, h1, h2, h3⟩
theorem at_world {P Q : World → Prop} (W0 : World) (h0 : P W0) (h : ∀ W, P W → Q W) : Q W0 := h W0 h0
set_option maxRecDepth 100000 in
set_option maxHeartbeats 2000000 in
theorem l01Spoil_any (W0 w : World) (B : Nat) (a : Option Addr) (len cap : Nat) (m : Int) (t : ByteArray) (h : St W0 w B a len cap m) (hm : m ≤ 900) (ht : t.size ≤ 100) :
    Calls Tryd.prog 61 #[.pointer (some ⟨B, 0, none⟩), .string t] w fun e w' => ∃ r : ByteArray, e = .returned (.string r) ∧ r.size ≤ 101 ∧ W0.grownBy w' (some B) := by
  have H := Lib.hid h
  have htz := Lib.hid ht
  clear h
  go_enter Tryd.func61, Tryd.ntmps61
  go_wp2_with fail
  refine (pick_st 5 H.out (by omega) (by decide) (by decide)).mono ?_
  rintro e w1 ⟨v, rfl, hv0, hv1, s1⟩
  have S1 := Lib.hid s1
  clear s1
  by_cases h0 : v = 0
  · have HV := Lib.hid h0
    have hv : (v == 0) = true := by simpa using h0
    clear h0
    go_wp2_with fail
    refine (pick_st ((t.size : Int) + 1) S1.out (by omega) (by omega) (by omega)).mono ?_
    rintro e w2 ⟨u, rfl, hu0, hu1, s2⟩
    obtain ⟨k, rfl⟩ := Int.eq_ofNat_of_zero_le hu0
    have hk : (k : Int) ≤ (t.size : Int) := by omega
    obtain ⟨X1, hX1⟩ : ∃ x, Hid (t.extract 0 k = x) := ⟨_, Lib.hid rfl⟩
    obtain ⟨X2, hX2⟩ : ∃ x, Hid (t.extract k t.size = x) := ⟨_, Lib.hid rfl⟩
    have e1 : t.extract 0 k = X1 := hX1.out
    have e2 : t.extract k t.size = X2 := hX2.out
    have z : X1.size + X2.size = t.size := by rw [← hX1.out, ← hX2.out, ByteArray.size_extract, ByteArray.size_extract]; omega
    have S2 := Lib.hid s2
    clear s2
    have hLB : B < w2.heap.size := Nat.lt_of_lt_of_le S2.out.2.2.2 S2.out.2.1.size
    have n0 : X1.size ≤ 100 := by have := htz.out; omega
    have n01 : X2.size ≤ 100 := by have := htz.out; omega
    go_wp2_with fail
    go_region_with (go_at_call 103; refine (text_in S2.out (by repeat (first | exact Below.refl _ _ | refine Below.drew ?_ | refine Below.alloc ?_ (Nat.le_refl _) _)) (heap_drew (heap_alloc_new w2 _))).mono ?_; rintro e w3 ⟨x, rfl, hxs, s3⟩; have n1 : ¬ 9223372036854775807 < X1.size + x.size := (by omega); have n2 : ¬ 9223372036854775807 < X1.size + x.size + X2.size := (by omega); have S3 := Lib.hid s3; clear s3)
    all_goals go_wp2
    all_goals (go_ret; exact ⟨_, rfl, by (rw [ByteArray.size_append, ByteArray.size_append]; have := htz.out; omega), (st_below S3.out (by repeat (first | exact Below.refl _ _ | refine Below.drew ?_ | refine bdr2 ?_ _ | refine Below.alloc ?_ (by first | omega | (simp; done) | (simp; omega)) _))).2.1⟩)
  · have HV := Lib.hid h0
    have hv : (v == 0) = false := by simpa using h0
    clear h0
    by_cases h1 : v = 1
    · have hv1b : (v == 1) = true := by simpa using h1
      clear h1
      by_cases hz : t.size = 0
      · obtain rfl : t = ByteArray.empty := ByteArray.size_eq_zero_iff.1 hz
        go_wp2
        all_goals (go_ret; exact ⟨_, rfl, by simp, S1.out.2.1⟩)
      · have hne3 : ¬ t = ByteArray.empty := fun e => hz (by rw [e]; rfl)
        have hne2 : ¬ t.toList = [] := by
          rw [ByteArray.toList_eq]
          intro e
          have h3 : t.data.toList.length = t.size := by simp
          rw [e] at h3
          exact hz h3.symm
        have hne : t.toList.isEmpty = false := by simpa using hne2
        go_wp2_with fail
        refine (pick_st (t.size : Int) S1.out (by omega) (by omega) (by omega)).mono ?_
        rintro e w2 ⟨u, rfl, hu0, hu1, s2⟩
        obtain ⟨k, rfl⟩ := Int.eq_ofNat_of_zero_le hu0
        obtain ⟨j, hj⟩ : ∃ j : Nat, k + 1 = j := ⟨_, rfl⟩
        have hji : (k : Int) + 1 = (j : Int) := by omega
        have hk : (k : Int) ≤ (t.size : Int) := by omega
        have hjt : (j : Int) ≤ (t.size : Int) := by omega
        have hjw : IntKind.i64.wrap (j : Int) = (j : Int) := IntWalk.i64_in _ (by omega)
        obtain ⟨X1, hX1⟩ : ∃ x, Hid (t.extract 0 k = x) := ⟨_, Lib.hid rfl⟩
        obtain ⟨X2, hX2⟩ : ∃ x, Hid (t.extract j t.size = x) := ⟨_, Lib.hid rfl⟩
        have e1 : t.extract 0 k = X1 := hX1.out
        have e2 : t.extract j t.size = X2 := hX2.out
        have z : X1.size + X2.size + 1 = t.size := by rw [← hX1.out, ← hX2.out, ByteArray.size_extract, ByteArray.size_extract]; omega
        have n2 : ¬ 9223372036854775807 < X1.size + X2.size := by omega
        have S2 := Lib.hid s2
        clear s2 hj
        go_wp2_with fail
        go_region
        all_goals go_wp2
        all_goals (go_ret; exact ⟨_, rfl, by rw [ByteArray.size_append]; omega, (st_below S2.out (by repeat (first | exact Below.refl _ _ | refine Below.drew ?_ | refine bdr2 ?_ _ | refine Below.alloc ?_ (by first | omega | (simp; done) | (simp; omega)) _))).2.1⟩)
    · have hv1b : (v == 1) = false := by simpa using h1
      clear h1
      go_wp2
      all_goals (go_ret; exact ⟨t, rfl, by omega, S1.out.2.1⟩)

set_option maxRecDepth 100000 in
set_option maxHeartbeats 1000000 in
theorem DrawReadSpot_any (w : World) (a : Option Addr) (len cap : Nat) (hb : Bytes w a len w.heap.size) :
    Calls Tryd.prog 15 #[.slice a len cap] w fun e w' => ∃ r : ByteArray, e = .returned (.string r) ∧ r.size ≤ 101 ∧ Below w.heap.size w w' := by
  have HB := Lib.hid hb
  clear hb
  go_enter Tryd.func15, Tryd.ntmps15
  go_wp2_with fail
  refine (l00From_any _ a len cap).mono ?_
  rintro e w' ⟨rfl, rfl⟩
  obtain ⟨W0, hW0⟩ : ∃ W0, Hid (w.alloc (.cells #[.slice a len cap, .int .i64 0, .int .u64 0] 99) = W0) := ⟨_, Lib.hid rfl⟩
  have hz : w.heap.size < W0.heap.size := by rw [← hW0.out]; simp
  have hst : St W0 W0 w.heap.size a len cap 0 := by
    refine ⟨?_, ⟨rfl, rfl, rfl, Nat.le_refl _, fun _ _ _ => rfl⟩, ?_, hz⟩
    · rw [← hW0.out]; exact src_start w a len cap
    · rw [← hW0.out]; exact bytes_start HB.out _
  have HST := Lib.hid hst
  have HW := Lib.hid (show Below w.heap.size w W0 by rw [← hW0.out]; exact (Below.refl _ _).alloc (Nat.le_refl _) _)
  clear hst
  rw [hW0.out]
  go_wp2_with fail
  refine (l02Draw_any W0 w.heap.size a len cap 0 HST.out.1 (by decide) HST.out.2.2.1 hz).mono ?_
  rintro e w1 ⟨x, y, rfl, hd, hs1, hg1⟩
  have S1 := Lib.hid (show St W0 w1 w.heap.size a len cap (0 + 14) from ⟨hs1, hg1, bytes_grown HST.out.2.2.1 hg1 (Nat.le_refl _), hz⟩)
  obtain ⟨d1, d2, d3, d4⟩ := hd
  clear hs1 hg1
  have L1 := Lib.hid (bld.angL_len 110 115 x (by omega) (by omega))
  have L2 := Lib.hid (bld.angL_len 101 119 y (by omega) (by omega))
  go_wp2_with fail
  refine (bld.l02Text_any x y _ d1 d2 d3 d4).mono ?_
  rintro e w2 ⟨rfl, hb2⟩
  have S2 := Lib.hid (st_below (st_alloc S1.out (.cells #[.int .i64 x, .int .i64 y] 25)) hb2)
  clear hb2
  go_wp2_with fail
  refine (l01Spoil_any W0 _ w.heap.size a len cap (0 + 14) _ S2.out (by decide) (by
    show ByteArray.size ⟨(bld.spotL x y).toArray⟩ ≤ 100
    rw [bld.sz, bld.spotL]
    have := L1.out
    have := L2.out
    simp; omega)).mono ?_
  rintro e w3 ⟨r, rfl, hr, hg3⟩
  have HG := Lib.hid hg3
  clear hg3
  go_wp2
  go_ret
  exact ⟨r, rfl, hr, HW.out.grown HG.out (by have := HW.out.size; omega) (fun k hk => by obtain rfl := Option.some.inj hk; exact Nat.le_refl _)⟩
end Go.Proofs.YtbnihalbepffoaaDoor.src
