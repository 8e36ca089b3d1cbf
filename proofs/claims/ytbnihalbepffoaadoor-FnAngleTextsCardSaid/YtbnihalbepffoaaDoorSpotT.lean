/- The texts of spots: contracts of the program and of the model. -/
import Derived.Test.YtbnihalbepffoaaDoorSText
import Derived.Test.YtbnihalbepffoaaDoorSpots
import Derived.Deep.RegionHeld3
namespace Go.Proofs.YtbnihalbepffoaaDoor.bld
open Go.ChangeShapes Go.WideShapes Go.ChangeAt Go.RowKit Go.Proofs.YtbnihalbepffoaaDoor.dec Go.Proofs.YtbnihalbepffoaaDoor.spots

theorem l00Size_any (n : Int) (w : World) (h0 : -648000 ≤ n) (h1 : n ≤ 648000) :
    Calls Tryd.prog 126 #[.int .i64 n] w fun e w' => e = .returned (.int .i64 (max n (-n))) ∧ w = w' := by
  by_cases h : n < 0
  · have e : max n (-n) = -n := by omega
    have E := Lib.hid e
    clear e
    go_enter Tryd.func126, Tryd.ntmps126
    go_wp2
    go_ret
    exact ⟨ret_int (by rw [E.out]), rfl⟩
  · have e : max n (-n) = n := by omega
    have E := Lib.hid e
    clear e
    go_enter Tryd.func126, Tryd.ntmps126
    go_wp2
    go_ret
    exact ⟨ret_int (by rw [E.out]), rfl⟩
theorem size_cat (z : Int) : (⟨(Lib.itoa (z / 3600)).toArray⟩ : ByteArray) ++ ⟨#[46]⟩ ++ ⟨(pair (z / 60 % 60)).toArray⟩ ++ ⟨#[46]⟩ ++ ⟨(pair (z % 60)).toArray⟩ = ⟨(sizeL z).toArray⟩ := by
  rw [show (⟨#[46]⟩ : ByteArray) = ⟨[46].toArray⟩ from rfl, cat, cat, cat, cat, sizeL]
theorem sizeL_len (z : Int) (h0 : 0 ≤ z) (h1 : z ≤ 648000) : (sizeL z).length ≤ 30 := by
  have l1 := itoa_len (z / 3600) (by omega) (by omega)
  have l2 := pair_len (n := z / 60 % 60) (by omega) (by omega)
  have l3 := pair_len (n := z % 60) (by omega) (by omega)
  simp [sizeL]; omega
set_option maxRecDepth 100000 in
set_option maxHeartbeats 1000000 in
theorem l02Size_any (n : Int) (w : World) (h0 : -648000 ≤ n) (h1 : n ≤ 648000) :
    Calls Tryd.prog 104 #[.int .i64 n] w fun e w' => e = .returned (.string ⟨(sizeL (max n (-n))).toArray⟩) ∧ Below w.heap.size w w' := by
  go_enter Tryd.func104, Tryd.ntmps104
  go_wp2_with fail
  refine (l00Size_any n w h0 h1).mono ?_
  rintro e w' ⟨rfl, rfl⟩
  have z0 : 0 ≤ max n (-n) := by omega
  have z1 : max n (-n) ≤ 648000 := by omega
  generalize hz : max n (-n) = z at *
  have HZ := Lib.hid hz
  clear hz
  have l1 := itoa_len (z / 3600) (by omega) (by omega)
  have m2 := Nat.le_of_eq (pair_len (n := z / 60 % 60) (by omega) (by omega))
  have m3 := Nat.le_of_eq (pair_len (n := z % 60) (by omega) (by omega))
  go_wp2_with fail
  refine (l01Dec_any (z / 3600) w (by omega) (by omega)).mono ?_
  rintro e w1 ⟨rfl, hb1⟩
  go_wp2_with fail
  refine (l02Pair_any (z / 60 % 60) w1 (by omega) (by omega)).mono ?_
  rintro e w2 ⟨rfl, hb2⟩
  go_wp2_with fail
  refine (l02Pair_any (z % 60) w2 (by omega) (by omega)).mono ?_
  rintro e w3 ⟨rfl, hb3⟩
  go_wp2
  go_ret
  exact ⟨ret_sb (by rw [HZ.out]; exact size_cat z), (hb1.trans (hb2.mono hb1.size)).trans (hb3.mono (Nat.le_trans hb1.size hb2.size))⟩
/-- The text of a spot. -/
def spotL (a b : Int) : List UInt8 := angL 110 115 a ++ [32] ++ angL 101 119 b
theorem angL_len (p m : UInt8) (a : Int) (h0 : -648000 ≤ a) (h1 : a ≤ 648000) : (angL p m a).length ≤ 31 := by
  have := sizeL_len (max a (-a)) (by omega) (by omega)
  simp [angL]; omega

theorem cat_00 (a b : Int) (h1 : ¬ a < 0) (h2 : ¬ b < 0) : (⟨(sizeL (max a (-a))).toArray⟩ : ByteArray) ++ ⟨#[110, 32]⟩ ++ ⟨(sizeL (max b (-b))).toArray⟩ ++ ⟨#[101]⟩ = ⟨(spotL a b).toArray⟩ := by
  rw [show (⟨#[110, 32]⟩ : ByteArray) = ⟨[110, 32].toArray⟩ from rfl, show (⟨#[101]⟩ : ByteArray) = ⟨[101].toArray⟩ from rfl, cat, cat, cat]
  simp [spotL, angL, h1, h2]

theorem cat_01 (a b : Int) (h1 : ¬ a < 0) (h2 : b < 0) : (⟨(sizeL (max a (-a))).toArray⟩ : ByteArray) ++ ⟨#[110, 32]⟩ ++ ⟨(sizeL (max b (-b))).toArray⟩ ++ ⟨#[119]⟩ = ⟨(spotL a b).toArray⟩ := by
  rw [show (⟨#[110, 32]⟩ : ByteArray) = ⟨[110, 32].toArray⟩ from rfl, show (⟨#[119]⟩ : ByteArray) = ⟨[119].toArray⟩ from rfl, cat, cat, cat]
  simp [spotL, angL, h1, h2]

theorem cat_10 (a b : Int) (h1 : a < 0) (h2 : ¬ b < 0) : (⟨(sizeL (max a (-a))).toArray⟩ : ByteArray) ++ ⟨#[115, 32]⟩ ++ ⟨(sizeL (max b (-b))).toArray⟩ ++ ⟨#[101]⟩ = ⟨(spotL a b).toArray⟩ := by
  rw [show (⟨#[115, 32]⟩ : ByteArray) = ⟨[115, 32].toArray⟩ from rfl, show (⟨#[101]⟩ : ByteArray) = ⟨[101].toArray⟩ from rfl, cat, cat, cat]
  simp [spotL, angL, h1, h2]

theorem cat_11 (a b : Int) (h1 : a < 0) (h2 : b < 0) : (⟨(sizeL (max a (-a))).toArray⟩ : ByteArray) ++ ⟨#[115, 32]⟩ ++ ⟨(sizeL (max b (-b))).toArray⟩ ++ ⟨#[119]⟩ = ⟨(spotL a b).toArray⟩ := by
  rw [show (⟨#[115, 32]⟩ : ByteArray) = ⟨[115, 32].toArray⟩ from rfl, show (⟨#[119]⟩ : ByteArray) = ⟨[119].toArray⟩ from rfl, cat, cat, cat]
  simp [spotL, angL, h1, h2]

set_option maxRecDepth 100000 in
set_option maxHeartbeats 1000000 in
theorem l02Text_any (a b : Int) (w : World) (h1 : -324000 ≤ a) (h2 : a ≤ 324000) (h3 : -648000 ≤ b) (h4 : b ≤ 647999) :
    Calls Tryd.prog 62 #[.agg #[.int .i64 a, .int .i64 b]] w fun e w' => e = .returned (.string ⟨(spotL a b).toArray⟩) ∧ Below w.heap.size w w' := by
  have l1 := sizeL_len (max a (-a)) (by omega) (by omega)
  have l2 := sizeL_len (max b (-b)) (by omega) (by omega)
  by_cases ha : a < 0
  · by_cases hb : b < 0
    · go_enter Tryd.func62, Tryd.ntmps62
      go_wp2_with fail
      refine (l02Size_any a _ (by omega) (by omega)).mono ?_
      rintro e w1 ⟨rfl, hb1⟩
      have c0 : w1.cell? ⟨w.heap.size, 0, none⟩ = some (.int .i64 a) := (hb1.cell (p := ⟨w.heap.size, 0, none⟩) (by simp)).trans (by simp [go_sem])
      have c1 : w1.cell? ⟨w.heap.size, 1, none⟩ = some (.int .i64 b) := (hb1.cell (p := ⟨w.heap.size, 1, none⟩) (by simp)).trans (by simp [go_sem])
      have HB1 := Lib.hid (show Below w.heap.size w w1 from ((Below.refl _ _).alloc (Nat.le_refl _) _).trans (hb1.mono (by simp)))
      clear hb1
      go_wp2_with fail
      refine (l02Size_any b _ (by omega) (by omega)).mono ?_
      rintro e w2 ⟨rfl, hb2⟩
      have hs : w.heap.size < w1.heap.size := World.block_lt_of_cell? _ _ c0
      have c2 : w2.cell? ⟨w.heap.size, 1, none⟩ = some (.int .i64 b) := (hb2.cell (p := ⟨w.heap.size, 1, none⟩) hs).trans c1
      have HB2 := Lib.hid (HB1.out.trans (hb2.mono HB1.out.size))
      clear hb2
      go_wp2
      go_ret
      exact ⟨ret_sb (cat_11 a b ha hb), HB2.out⟩
    · go_enter Tryd.func62, Tryd.ntmps62
      go_wp2_with fail
      refine (l02Size_any a _ (by omega) (by omega)).mono ?_
      rintro e w1 ⟨rfl, hb1⟩
      have c0 : w1.cell? ⟨w.heap.size, 0, none⟩ = some (.int .i64 a) := (hb1.cell (p := ⟨w.heap.size, 0, none⟩) (by simp)).trans (by simp [go_sem])
      have c1 : w1.cell? ⟨w.heap.size, 1, none⟩ = some (.int .i64 b) := (hb1.cell (p := ⟨w.heap.size, 1, none⟩) (by simp)).trans (by simp [go_sem])
      have HB1 := Lib.hid (show Below w.heap.size w w1 from ((Below.refl _ _).alloc (Nat.le_refl _) _).trans (hb1.mono (by simp)))
      clear hb1
      go_wp2_with fail
      refine (l02Size_any b _ (by omega) (by omega)).mono ?_
      rintro e w2 ⟨rfl, hb2⟩
      have hs : w.heap.size < w1.heap.size := World.block_lt_of_cell? _ _ c0
      have c2 : w2.cell? ⟨w.heap.size, 1, none⟩ = some (.int .i64 b) := (hb2.cell (p := ⟨w.heap.size, 1, none⟩) hs).trans c1
      have HB2 := Lib.hid (HB1.out.trans (hb2.mono HB1.out.size))
      clear hb2
      go_wp2
      go_ret
      exact ⟨ret_sb (cat_10 a b ha (by omega)), HB2.out⟩
  · by_cases hb : b < 0
    · go_enter Tryd.func62, Tryd.ntmps62
      go_wp2_with fail
      refine (l02Size_any a _ (by omega) (by omega)).mono ?_
      rintro e w1 ⟨rfl, hb1⟩
      have c0 : w1.cell? ⟨w.heap.size, 0, none⟩ = some (.int .i64 a) := (hb1.cell (p := ⟨w.heap.size, 0, none⟩) (by simp)).trans (by simp [go_sem])
      have c1 : w1.cell? ⟨w.heap.size, 1, none⟩ = some (.int .i64 b) := (hb1.cell (p := ⟨w.heap.size, 1, none⟩) (by simp)).trans (by simp [go_sem])
      have HB1 := Lib.hid (show Below w.heap.size w w1 from ((Below.refl _ _).alloc (Nat.le_refl _) _).trans (hb1.mono (by simp)))
      clear hb1
      go_wp2_with fail
      refine (l02Size_any b _ (by omega) (by omega)).mono ?_
      rintro e w2 ⟨rfl, hb2⟩
      have hs : w.heap.size < w1.heap.size := World.block_lt_of_cell? _ _ c0
      have c2 : w2.cell? ⟨w.heap.size, 1, none⟩ = some (.int .i64 b) := (hb2.cell (p := ⟨w.heap.size, 1, none⟩) hs).trans c1
      have HB2 := Lib.hid (HB1.out.trans (hb2.mono HB1.out.size))
      clear hb2
      go_wp2
      go_ret
      exact ⟨ret_sb (cat_01 a b (by omega) hb), HB2.out⟩
    · go_enter Tryd.func62, Tryd.ntmps62
      go_wp2_with fail
      refine (l02Size_any a _ (by omega) (by omega)).mono ?_
      rintro e w1 ⟨rfl, hb1⟩
      have c0 : w1.cell? ⟨w.heap.size, 0, none⟩ = some (.int .i64 a) := (hb1.cell (p := ⟨w.heap.size, 0, none⟩) (by simp)).trans (by simp [go_sem])
      have c1 : w1.cell? ⟨w.heap.size, 1, none⟩ = some (.int .i64 b) := (hb1.cell (p := ⟨w.heap.size, 1, none⟩) (by simp)).trans (by simp [go_sem])
      have HB1 := Lib.hid (show Below w.heap.size w w1 from ((Below.refl _ _).alloc (Nat.le_refl _) _).trans (hb1.mono (by simp)))
      clear hb1
      go_wp2_with fail
      refine (l02Size_any b _ (by omega) (by omega)).mono ?_
      rintro e w2 ⟨rfl, hb2⟩
      have hs : w.heap.size < w1.heap.size := World.block_lt_of_cell? _ _ c0
      have c2 : w2.cell? ⟨w.heap.size, 1, none⟩ = some (.int .i64 b) := (hb2.cell (p := ⟨w.heap.size, 1, none⟩) hs).trans c1
      have HB2 := Lib.hid (HB1.out.trans (hb2.mono HB1.out.size))
      clear hb2
      go_wp2
      go_ret
      exact ⟨ret_sb (cat_00 a b (by omega) (by omega)), HB2.out⟩

/-- What 'SpotText' gives. -/
def spotT (a b : Int) : List UInt8 := if okB a b then spotL a b else []
theorem okB_of {a b : Int} (h : okB a b = true) : -324000 ≤ a ∧ a ≤ 324000 ∧ -648000 ≤ b ∧ b ≤ 647999 := by simpa [okB] using h
set_option maxHeartbeats 1000000 in
theorem specSpotText_any (a b : Int) (w : World) :
    Calls Tryd.prog 37 #[.agg #[.int .i64 a, .int .i64 b]] w fun e w' => e = .returned (.string ⟨(spotT a b).toArray⟩) ∧ Below w.heap.size w w' := by
  cases h : okB a b with
  | false =>
    have H := Lib.hid h
    go_enter Tryd.func37, Tryd.ntmps37
    go_wp2_with (go_at_call 63; refine (l02Ok_any _ _ _).mono ?_; rintro e w' ⟨rfl, o1, rfl⟩)
    go_ret
    exact ⟨ret_sb (a := ⟨[].toArray⟩) (by rw [spotT, H.out]; rfl), by repeat (first | exact Below.refl _ _ | refine Below.alloc ?_ (by first | omega | (simp; done) | (simp; omega)) _)⟩
  | true =>
    have H := Lib.hid h
    have HO := Lib.hid (okB_of h)
    go_enter Tryd.func37, Tryd.ntmps37
    go_wp2_with (first | (go_at_call 63; refine (l02Ok_any _ _ _).mono ?_; rintro e w' ⟨rfl, o1, rfl⟩) | (go_at_call 62; refine (l02Text_any a b _ HO.out.1 HO.out.2.1 HO.out.2.2.1 HO.out.2.2.2).mono ?_; rintro e w1 ⟨rfl, hb1⟩))
    go_ret
    exact ⟨ret_sb (by rw [spotT, H.out]; rfl), Below.trans (by repeat (first | exact Below.refl _ _ | refine Below.alloc ?_ (by first | omega | (simp; done) | (simp; omega)) _)) (hb1.mono (by simp; omega))⟩
theorem ns_any (w : World) : Calls Tryd.prog 51 #[] w fun e w' => e = .returned (.agg #[.int .i32 110, .int .i32 115]) ∧ ∃ o, w' = w.alloc o := by
  go_enter Tryd.func51, Tryd.ntmps51
  go_wp2
  exact bodyPost_ret (v := .agg #[.int .i32 110, .int .i32 115]) (by simp [results, Tryd.results51, go_sem]) rfl ⟨rfl, _, rfl⟩
theorem ew_any (w : World) : Calls Tryd.prog 53 #[] w fun e w' => e = .returned (.agg #[.int .i32 101, .int .i32 119]) ∧ ∃ o, w' = w.alloc o := by
  go_enter Tryd.func53, Tryd.ntmps53
  go_wp2
  exact bodyPost_ret (v := .agg #[.int .i32 101, .int .i32 119]) (by simp [results, Tryd.results53, go_sem]) rfl ⟨rfl, _, rfl⟩
set_option maxRecDepth 100000 in
set_option maxHeartbeats 1000000 in
theorem SpotText_any (a b : Int) (w : World) (ht : Lib.TabIs Tryd.prog w "internal/strconv.uint64pow10" .u64 Lib.pow10Tab) :
    Calls Tryd.prog 10 #[.agg #[.int .i64 a, .int .i64 b]] w fun e w' => e = .returned (.string ⟨(spotT a b).toArray⟩) ∧ Below w.heap.size w w' := by
  have HT := Lib.hid ht
  clear ht
  cases h : okB a b with
  | false =>
    have H := Lib.hid h
    go_enter Tryd.func10, Tryd.ntmps10
    go_wp2_with (go_at_call 50; refine (ValidSpot_any _ _ _).mono ?_; rintro e w' ⟨rfl, o1, rfl⟩)
    go_ret
    exact ⟨ret_sb (a := ⟨[].toArray⟩) (by rw [spotT, H.out]; rfl), by repeat (first | exact Below.refl _ _ | refine Below.alloc ?_ (by first | omega | (simp; done) | (simp; omega)) _)⟩
  | true =>
    have H := Lib.hid h
    obtain ⟨h1, h2, h3, h4⟩ := okB_of h
    have l1 := angL_len 110 115 a (by omega) (by omega)
    have l2 := angL_len 101 119 b (by omega) (by omega)
    have n1 : ¬ 9223372036854775807 < (angL 110 115 a).length + 1 := by omega
    have n2 : ¬ 9223372036854775807 < (angL 110 115 a).length + 1 + (angL 101 119 b).length := by omega
    go_enter Tryd.func10, Tryd.ntmps10
    go_wp2_with (go_at_call 50; refine (ValidSpot_any _ _ _).mono ?_; rintro e w' ⟨rfl, o1, rfl⟩)
    go_region_held3 (fun w' => w'.cell? ⟨w.heap.size, 0, none⟩ = some (.int .i64 a) ∧ w'.cell? ⟨w.heap.size, 1, none⟩ = some (.int .i64 b)) (first | exact ⟨c20, c21⟩ | exact ⟨c10, c11⟩ | (simp [go_sem, World.cell?_alloc_past]; done) | (refine ⟨?_, ?_⟩ <;> (rw [World.cell?_alloc_past _ _ _ (by first | omega | (simp; omega))]; assumption)))
      (first
        | (go_at_call 51; refine (ns_any _).mono ?_; rintro e w' ⟨rfl, o2, rfl⟩)
        | (go_at_call 53; refine (ew_any _).mono ?_; rintro e w' ⟨rfl, o2, rfl⟩)
        | (go_at_call 52; (with_reducible refine (textNS a _ (by omega) (by omega) (pow_below HT.out (by repeat (first | exact Below.refl _ _ | assumption | refine Below.drew ?_ | refine below_drewN ?_ _ | refine Below.alloc ?_ (by first | omega | (simp; done) | (simp; omega)) _)))).mono ?_); rintro e w1 ⟨rfl, hb1⟩; have hA1 : Below w.heap.size w w1 := Below.trans (by repeat (first | exact Below.refl _ _ | assumption | refine Below.drew ?_ | refine below_drewN ?_ _ | refine Below.alloc ?_ (by first | omega | (simp; done) | (simp; omega)) _)) (hb1.mono (by first | omega | (simp; done) | (simp; omega))); have c10 : w1.cell? ⟨w.heap.size, 0, none⟩ = some (.int .i64 a) := (hb1.cell (p := ⟨w.heap.size, 0, none⟩) (by first | omega | (simp; done) | (simp; omega))).trans (by first | assumption | (simp [go_sem, World.cell?_alloc_past]; done) | (rw [World.cell?_alloc_past _ _ _ (by first | omega | (simp; omega))]; assumption)); have c11 : w1.cell? ⟨w.heap.size, 1, none⟩ = some (.int .i64 b) := (hb1.cell (p := ⟨w.heap.size, 1, none⟩) (by first | omega | (simp; done) | (simp; omega))).trans (by first | assumption | (simp [go_sem, World.cell?_alloc_past]; done) | (rw [World.cell?_alloc_past _ _ _ (by first | omega | (simp; omega))]; assumption)); have hq1 : w.heap.size < w1.heap.size := World.block_lt_of_cell? _ _ c10; clear hb1)
        | (go_at_call 52; (with_reducible refine (textEW b _ (by omega) (by omega) (pow_below HT.out (by repeat (first | exact Below.refl _ _ | assumption | refine Below.drew ?_ | refine below_drewN ?_ _ | refine Below.alloc ?_ (by first | omega | (simp; done) | (simp; omega)) _)))).mono ?_); rintro e w2 ⟨rfl, hb2⟩; have hA2 : Below w.heap.size w w2 := Below.trans (by repeat (first | exact Below.refl _ _ | assumption | refine Below.drew ?_ | refine below_drewN ?_ _ | refine Below.alloc ?_ (by first | omega | (simp; done) | (simp; omega)) _)) (hb2.mono (by first | omega | (simp; done) | (simp; omega))); have c20 : w2.cell? ⟨w.heap.size, 0, none⟩ = some (.int .i64 a) := (hb2.cell (p := ⟨w.heap.size, 0, none⟩) (by first | omega | (simp; done) | (simp; omega))).trans (by first | assumption | (simp [go_sem, World.cell?_alloc_past]; done) | (rw [World.cell?_alloc_past _ _ _ (by first | omega | (simp; omega))]; assumption)); have c21 : w2.cell? ⟨w.heap.size, 1, none⟩ = some (.int .i64 b) := (hb2.cell (p := ⟨w.heap.size, 1, none⟩) (by first | omega | (simp; done) | (simp; omega))).trans (by first | assumption | (simp [go_sem, World.cell?_alloc_past]; done) | (rw [World.cell?_alloc_past _ _ _ (by first | omega | (simp; omega))]; assumption)); have hq2 : w.heap.size < w2.heap.size := World.block_lt_of_cell? _ _ c20; clear hb2))
    go_wp2
    go_ret
    exact ⟨ret_sb (by rw [spotT, H.out, show (⟨#[32]⟩ : ByteArray) = ⟨[32].toArray⟩ from rfl, cat, cat]; rfl), by repeat (first | assumption | refine Below.drew ?_ | refine below_drewN ?_ _ | refine Below.alloc ?_ (by first | omega | (simp; done) | (simp; omega)) _)⟩

end Go.Proofs.YtbnihalbepffoaaDoor.bld
