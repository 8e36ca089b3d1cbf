/- The text of a spot: contracts of the program and of the model. -/
import Derived.Test.YtbnihalbepffoaaDoorBld
namespace Go.Proofs.YtbnihalbepffoaaDoor.bld
open Go.ChangeShapes Go.WideShapes Go.ChangeAt Go.RowKit Go.Proofs.YtbnihalbepffoaaDoor.dec

def ltr (p m : UInt8) (a : Int) : ByteArray := ⟨[if a < 0 then m else p].toArray⟩
theorem ltr_size (p m : UInt8) (a : Int) : (ltr p m a).size = 1 := rfl
/-- The size of an angle. -/
def sizeL (n : Int) : List UInt8 := Lib.itoa (n / 3600) ++ [46] ++ pair (n / 60 % 60) ++ [46] ++ pair (n % 60)
theorem partsOf_any (n : Int) (w : World) (h0 : 0 ≤ n) (h1 : n ≤ 648000) :
    Calls Tryd.prog 90 #[.int .i64 n] w fun e w' => e = .returned (.agg #[.int .i64 (n / 3600), .int .i64 (n / 60 % 60), .int .i64 (n % 60)]) ∧ ∃ o, w' = w.alloc o := by
  have hm : n % 3600 / 60 = n / 60 % 60 := by omega
  go_enter Tryd.func90, Tryd.ntmps90
  go_wp2
  exact bodyPost_ret (v := .agg #[.int .i64 (n / 3600), .int .i64 (n / 60 % 60), .int .i64 (n % 60)]) (by simp [results, Tryd.results90, go_sem]) rfl ⟨rfl, _, rfl⟩

theorem letterNS (a : Int) (w : World) :
    Calls Tryd.prog 93 #[.agg #[.int .i32 110, .int .i32 115], .int .i64 a] w fun e w' => e = .returned (.string (ltr 110 115 a)) ∧ ∃ o, w' = w.alloc o := by
  have k1 : ∀ w, (convert 21 9 (.int .i32 110)).run Tryd.prog w = .ok (.string ⟨#[110]⟩) w := fun _ => by kernel_rfl
  have k2 : ∀ w, (convert 21 9 (.int .i32 115)).run Tryd.prog w = .ok (.string ⟨#[115]⟩) w := fun _ => by kernel_rfl
  by_cases h : a < 0
  · go_enter Tryd.func93, Tryd.ntmps93
    go_wp2
    go_ret
    exact ⟨ret_sb (by simp [ltr, h]), _, rfl⟩
  · go_enter Tryd.func93, Tryd.ntmps93
    go_wp2
    go_ret
    exact ⟨ret_sb (by simp [ltr, h]), _, rfl⟩

theorem letterEW (a : Int) (w : World) :
    Calls Tryd.prog 93 #[.agg #[.int .i32 101, .int .i32 119], .int .i64 a] w fun e w' => e = .returned (.string (ltr 101 119 a)) ∧ ∃ o, w' = w.alloc o := by
  have k1 : ∀ w, (convert 21 9 (.int .i32 101)).run Tryd.prog w = .ok (.string ⟨#[101]⟩) w := fun _ => by kernel_rfl
  have k2 : ∀ w, (convert 21 9 (.int .i32 119)).run Tryd.prog w = .ok (.string ⟨#[119]⟩) w := fun _ => by kernel_rfl
  by_cases h : a < 0
  · go_enter Tryd.func93, Tryd.ntmps93
    go_wp2
    go_ret
    exact ⟨ret_sb (by simp [ltr, h]), _, rfl⟩
  · go_enter Tryd.func93, Tryd.ntmps93
    go_wp2
    go_ret
    exact ⟨ret_sb (by simp [ltr, h]), _, rfl⟩

theorem sz (l : List UInt8) : ByteArray.size ⟨l.toArray⟩ = l.length := by simp [ByteArray.size]
/-- The receiver and the parts stay readable while the builder is written. -/
def Keep (w : World) (R P : Nat) (p m d1 d2 d3 : Int) : Prop :=
  w.cell? ⟨R, 0, none⟩ = some (.int .i32 p) ∧ w.cell? ⟨R, 1, none⟩ = some (.int .i32 m) ∧ w.cell? ⟨P, 0, none⟩ = some (.int .i64 d1) ∧ w.cell? ⟨P, 1, none⟩ = some (.int .i64 d2) ∧ w.cell? ⟨P, 2, none⟩ = some (.int .i64 d3)
theorem keep_below {w w' : World} {B R P : Nat} {p m d1 d2 d3 : Int} (h : Keep w R P p m d1 d2 d3) (hb : Below B w w') (hR : R < B) (hP : P < B) : Keep w' R P p m d1 d2 d3 := by
  obtain ⟨h1, h2, h3, h4, h5⟩ := h
  exact ⟨(hb.cell (p := ⟨R, 0, none⟩) hR).trans h1, (hb.cell (p := ⟨R, 1, none⟩) hR).trans h2, (hb.cell (p := ⟨P, 0, none⟩) hP).trans h3, (hb.cell (p := ⟨P, 1, none⟩) hP).trans h4, (hb.cell (p := ⟨P, 2, none⟩) hP).trans h5⟩
theorem holding_below {w w' : World} {B b : Nat} {l : List UInt8} (h : Holding w B b l) (hb : Below w.heap.size w w') : Holding w' B b l := by
  have key : ∀ p, Lib.BuilderAt 105 5 B b p (Lib.byteCells l) w → Lib.BuilderAt 105 5 B b p (Lib.byteCells l) w' := fun p hp => by
    obtain ⟨hB, v, hbk, hown, hne⟩ := hp
    have hlt : b < w.heap.size := (Array.getElem?_eq_some_iff.1 hbk).1
    refine ⟨hB, v, by rw [hb.block b hlt]; exact hbk, ?_, hne⟩
    refine ⟨hown.1, ?_⟩
    rcases hown.2 with hn | ⟨g, cap, cur, hv, hg1, hg2, hg3⟩
    · exact .inl hn
    · exact .inr ⟨g, cap, cur, hv, hg1, by rw [hb.block g (Array.getElem?_eq_some_iff.1 hg2).1]; exact hg2, hg3⟩
  exact ⟨h.1.imp (key _) (key _), Nat.le_trans h.2 hb.size⟩
/-- The text of an angle with a letter behind it. -/
def angL (p m : UInt8) (a : Int) : List UInt8 := sizeL (max a (-a)) ++ [if a < 0 then m else p]

set_option maxRecDepth 100000 in
set_option maxHeartbeats 1000000 in
theorem textNS (a : Int) (w : World) (h0 : -648000 ≤ a) (h1 : a ≤ 648000) (ht : Lib.TabIs Tryd.prog w "internal/strconv.uint64pow10" .u64 Lib.pow10Tab) :
    Calls Tryd.prog 52 #[.agg #[.int .i32 110, .int .i32 115], .int .i64 a] w fun e w' => e = .returned (.string ⟨(angL 110 115 a).toArray⟩) ∧ Below w.heap.size w w' := by
  have HT := Lib.hid ht
  have nb : IntKind.i64.wrap (-a) = -a := IntWalk.i64_in _ (by omega)
  have FIN : ∀ z, max a (-a) = z → sizeL z ++ [if a < 0 then 115 else 110] = angL 110 115 a := fun z hz => by rw [angL, hz]
  have HF := Lib.hid FIN
  clear ht FIN
  go_enter Tryd.func52, Tryd.ntmps52
  go_wp2_with fail
  have z0 : 0 ≤ max a (-a) := by omega
  have z1 : max a (-a) ≤ 648000 := by omega
  have HF2 := Lib.hid (HF.out _ rfl)
  generalize max a (-a) = z at *
  have l1 := itoa_len (z / 3600) (by omega) (by omega)
  have l2 := pair_len (n := z / 60 % 60) (by omega) (by omega)
  have l3 := pair_len (n := z % 60) (by omega) (by omega)
  have m2 := Nat.le_of_eq l2
  have m3 := Nat.le_of_eq l3
  clear nb l2 l3
  refine (partsOf_any z _ z0 z1).mono ?_
  rintro e w0 ⟨rfl, o, rfl⟩
  go_wp2_with fail
  refine (Decimal_any (z / 3600) _ (by omega) (by omega) (pow_below HT.out (by repeat (first | exact Below.refl _ _ | refine Below.drew ?_ | refine Below.alloc ?_ (by first | omega | (simp; done) | (simp; omega)) _)))).mono ?_
  rintro e w1 ⟨rfl, hb1⟩
  have K1 := Lib.hid (show Keep w1 w.heap.size (w.heap.size + 1 + 1) 110 115 (z / 3600) (z / 60 % 60) (z % 60) from
    keep_below (B := w.heap.size + 1 + 1 + 1) (w' := w1) (by refine ⟨?_, ?_, ?_, ?_, ?_⟩ <;> simp [go_sem, World.cell?_alloc_past]) (hb1.mono (by first | (simp; done) | (simp; omega))) (by omega) (by omega))
  have A1 := Lib.hid (show Below w.heap.size w w1 from Below.trans (by repeat (first | exact Below.refl _ _ | refine Below.drew ?_ | refine Below.alloc ?_ (by first | omega | (simp; done) | (simp; omega)) _)) (hb1.mono (by simp; omega)))
  have H1 := Lib.hid (show Holding w1 (w.heap.size + 1 + 1 + 1) (w.heap.size + 1 + 1 + 1) [] from by simpa using holding_below (holding_fresh (Nat.le_refl _)) hb1)
  clear hb1
  obtain ⟨k0, k1, k2, k3, k4⟩ := K1.out
  go_wp2_with fail
  refine (WriteString_any (w.heap.size + 1 + 1 + 1) (w.heap.size + 1 + 1 + 1) [] ⟨(Lib.itoa (z / 3600)).toArray⟩ w1 H1.out (by first | omega | (simp; done) | (simp; omega)) (by rw [sz]; omega)).mono ?_
  rintro e w2 ⟨rfl, hh2, hb2⟩
  have K2 := Lib.hid (keep_below K1.out hb2 (by omega) (by omega))
  have A2 := Lib.hid (A1.out.trans (hb2.mono (by omega)))
  have H2 := Lib.hid hh2
  clear hh2 hb2 k0 k1 k2 k3 k4
  obtain ⟨k0, k1, k2, k3, k4⟩ := K2.out
  go_wp2_with fail
  refine (WriteByte_any (w.heap.size + 1 + 1 + 1) (w.heap.size + 1 + 1 + 1) (Lib.itoa (z / 3600)) 46 46 rfl w2 H2.out (by first | omega | (simp; done) | (simp; omega))).mono ?_
  rintro e w3 ⟨rfl, hh3, hb3⟩
  have K3 := Lib.hid (keep_below K2.out hb3 (by omega) (by omega))
  have A3 := Lib.hid (A2.out.trans (hb3.mono (by omega)))
  have H3 := Lib.hid hh3
  clear hh3 hb3 k0 k1 k2 k3 k4
  obtain ⟨k0, k1, k2, k3, k4⟩ := K3.out
  go_wp2_with fail
  refine (twoDigits_any (z / 60 % 60) w3 (by omega) (by omega) (pow_below HT.out A3.out)).mono ?_
  rintro e w4 ⟨rfl, hbx⟩
  have hh4 := holding_below H3.out hbx
  have hb4 := hbx.mono (show w.heap.size + 1 + 1 + 1 ≤ w3.heap.size from by have := (H3.out.1.elim (fun h => h.lt) (fun h => h.lt)); omega)
  clear hbx
  have K4 := Lib.hid (keep_below K3.out hb4 (by omega) (by omega))
  have A4 := Lib.hid (A3.out.trans (hb4.mono (by omega)))
  have H4 := Lib.hid hh4
  clear hh4 hb4 k0 k1 k2 k3 k4
  obtain ⟨k0, k1, k2, k3, k4⟩ := K4.out
  go_wp2_with fail
  refine (WriteString_any (w.heap.size + 1 + 1 + 1) (w.heap.size + 1 + 1 + 1) (Lib.itoa (z / 3600) ++ [46]) ⟨(pair (z / 60 % 60)).toArray⟩ w4 H4.out (by first | omega | (simp; done) | (simp; omega)) (by rw [sz]; omega)).mono ?_
  rintro e w5 ⟨rfl, hh5, hb5⟩
  have K5 := Lib.hid (keep_below K4.out hb5 (by omega) (by omega))
  have A5 := Lib.hid (A4.out.trans (hb5.mono (by omega)))
  have H5 := Lib.hid hh5
  clear hh5 hb5 k0 k1 k2 k3 k4
  obtain ⟨k0, k1, k2, k3, k4⟩ := K5.out
  go_wp2_with fail
  refine (WriteByte_any (w.heap.size + 1 + 1 + 1) (w.heap.size + 1 + 1 + 1) (Lib.itoa (z / 3600) ++ [46] ++ pair (z / 60 % 60)) 46 46 rfl w5 H5.out (by first | omega | (simp; done) | (simp; omega))).mono ?_
  rintro e w6 ⟨rfl, hh6, hb6⟩
  have K6 := Lib.hid (keep_below K5.out hb6 (by omega) (by omega))
  have A6 := Lib.hid (A5.out.trans (hb6.mono (by omega)))
  have H6 := Lib.hid hh6
  clear hh6 hb6 k0 k1 k2 k3 k4
  obtain ⟨k0, k1, k2, k3, k4⟩ := K6.out
  go_wp2_with fail
  refine (twoDigits_any (z % 60) w6 (by omega) (by omega) (pow_below HT.out A6.out)).mono ?_
  rintro e w7 ⟨rfl, hbx⟩
  have hh7 := holding_below H6.out hbx
  have hb7 := hbx.mono (show w.heap.size + 1 + 1 + 1 ≤ w6.heap.size from by have := (H6.out.1.elim (fun h => h.lt) (fun h => h.lt)); omega)
  clear hbx
  have K7 := Lib.hid (keep_below K6.out hb7 (by omega) (by omega))
  have A7 := Lib.hid (A6.out.trans (hb7.mono (by omega)))
  have H7 := Lib.hid hh7
  clear hh7 hb7 k0 k1 k2 k3 k4
  obtain ⟨k0, k1, k2, k3, k4⟩ := K7.out
  go_wp2_with fail
  refine (WriteString_any (w.heap.size + 1 + 1 + 1) (w.heap.size + 1 + 1 + 1) (Lib.itoa (z / 3600) ++ [46] ++ pair (z / 60 % 60) ++ [46]) ⟨(pair (z % 60)).toArray⟩ w7 H7.out (by first | omega | (simp; done) | (simp; omega)) (by rw [sz]; omega)).mono ?_
  rintro e w8 ⟨rfl, hh8, hb8⟩
  have K8 := Lib.hid (keep_below K7.out hb8 (by omega) (by omega))
  have A8 := Lib.hid (A7.out.trans (hb8.mono (by omega)))
  have H8 := Lib.hid hh8
  clear hh8 hb8 k0 k1 k2 k3 k4
  obtain ⟨k0, k1, k2, k3, k4⟩ := K8.out
  go_wp2_with fail
  refine (letterNS a w8).mono ?_
  rintro e w9 ⟨rfl, o9, rfl⟩
  have hbx : Below w8.heap.size w8 (w8.alloc o9) := (Below.refl _ _).alloc (Nat.le_refl _) _
  have H9 := Lib.hid (holding_below H8.out hbx)
  have A9 := Lib.hid (A8.out.trans (hbx.mono A8.out.size))
  clear hbx k0 k1 k2 k3 k4
  go_wp2_with fail
  refine (WriteString_any (w.heap.size + 1 + 1 + 1) (w.heap.size + 1 + 1 + 1) (Lib.itoa (z / 3600) ++ [46] ++ pair (z / 60 % 60) ++ [46] ++ pair (z % 60)) (ltr 110 115 a) _ H9.out (by first | omega | (simp; done) | (simp; omega)) (by rw [ltr_size]; decide)).mono ?_
  rintro e w10 ⟨rfl, hh10, hb10⟩
  have A10 := Lib.hid (A9.out.trans (hb10.mono (by omega)))
  have H10 := Lib.hid hh10
  clear hh10 hb10
  go_wp2_with fail
  refine (Tryd.Builder_String_any (w.heap.size + 1 + 1 + 1) (w.heap.size + 1 + 1 + 1) _ w10 H10.out.1 H10.out.2).mono ?_
  rintro e w11 ⟨rfl, hb11⟩
  go_wp2
  go_ret
  exact ⟨ret_sb (by rw [← HF2.out, sizeL]; simp [ltr]), A10.out.trans (hb11.mono (by omega))⟩

set_option maxRecDepth 100000 in
set_option maxHeartbeats 1000000 in
theorem textEW (a : Int) (w : World) (h0 : -648000 ≤ a) (h1 : a ≤ 648000) (ht : Lib.TabIs Tryd.prog w "internal/strconv.uint64pow10" .u64 Lib.pow10Tab) :
    Calls Tryd.prog 52 #[.agg #[.int .i32 101, .int .i32 119], .int .i64 a] w fun e w' => e = .returned (.string ⟨(angL 101 119 a).toArray⟩) ∧ Below w.heap.size w w' := by
  have HT := Lib.hid ht
  have nb : IntKind.i64.wrap (-a) = -a := IntWalk.i64_in _ (by omega)
  have FIN : ∀ z, max a (-a) = z → sizeL z ++ [if a < 0 then 119 else 101] = angL 101 119 a := fun z hz => by rw [angL, hz]
  have HF := Lib.hid FIN
  clear ht FIN
  go_enter Tryd.func52, Tryd.ntmps52
  go_wp2_with fail
  have z0 : 0 ≤ max a (-a) := by omega
  have z1 : max a (-a) ≤ 648000 := by omega
  have HF2 := Lib.hid (HF.out _ rfl)
  generalize max a (-a) = z at *
  have l1 := itoa_len (z / 3600) (by omega) (by omega)
  have l2 := pair_len (n := z / 60 % 60) (by omega) (by omega)
  have l3 := pair_len (n := z % 60) (by omega) (by omega)
  have m2 := Nat.le_of_eq l2
  have m3 := Nat.le_of_eq l3
  clear nb l2 l3
  refine (partsOf_any z _ z0 z1).mono ?_
  rintro e w0 ⟨rfl, o, rfl⟩
  go_wp2_with fail
  refine (Decimal_any (z / 3600) _ (by omega) (by omega) (pow_below HT.out (by repeat (first | exact Below.refl _ _ | refine Below.drew ?_ | refine Below.alloc ?_ (by first | omega | (simp; done) | (simp; omega)) _)))).mono ?_
  rintro e w1 ⟨rfl, hb1⟩
  have K1 := Lib.hid (show Keep w1 w.heap.size (w.heap.size + 1 + 1) 101 119 (z / 3600) (z / 60 % 60) (z % 60) from
    keep_below (B := w.heap.size + 1 + 1 + 1) (w' := w1) (by refine ⟨?_, ?_, ?_, ?_, ?_⟩ <;> simp [go_sem, World.cell?_alloc_past]) (hb1.mono (by first | (simp; done) | (simp; omega))) (by omega) (by omega))
  have A1 := Lib.hid (show Below w.heap.size w w1 from Below.trans (by repeat (first | exact Below.refl _ _ | refine Below.drew ?_ | refine Below.alloc ?_ (by first | omega | (simp; done) | (simp; omega)) _)) (hb1.mono (by simp; omega)))
  have H1 := Lib.hid (show Holding w1 (w.heap.size + 1 + 1 + 1) (w.heap.size + 1 + 1 + 1) [] from by simpa using holding_below (holding_fresh (Nat.le_refl _)) hb1)
  clear hb1
  obtain ⟨k0, k1, k2, k3, k4⟩ := K1.out
  go_wp2_with fail
  refine (WriteString_any (w.heap.size + 1 + 1 + 1) (w.heap.size + 1 + 1 + 1) [] ⟨(Lib.itoa (z / 3600)).toArray⟩ w1 H1.out (by first | omega | (simp; done) | (simp; omega)) (by rw [sz]; omega)).mono ?_
  rintro e w2 ⟨rfl, hh2, hb2⟩
  have K2 := Lib.hid (keep_below K1.out hb2 (by omega) (by omega))
  have A2 := Lib.hid (A1.out.trans (hb2.mono (by omega)))
  have H2 := Lib.hid hh2
  clear hh2 hb2 k0 k1 k2 k3 k4
  obtain ⟨k0, k1, k2, k3, k4⟩ := K2.out
  go_wp2_with fail
  refine (WriteByte_any (w.heap.size + 1 + 1 + 1) (w.heap.size + 1 + 1 + 1) (Lib.itoa (z / 3600)) 46 46 rfl w2 H2.out (by first | omega | (simp; done) | (simp; omega))).mono ?_
  rintro e w3 ⟨rfl, hh3, hb3⟩
  have K3 := Lib.hid (keep_below K2.out hb3 (by omega) (by omega))
  have A3 := Lib.hid (A2.out.trans (hb3.mono (by omega)))
  have H3 := Lib.hid hh3
  clear hh3 hb3 k0 k1 k2 k3 k4
  obtain ⟨k0, k1, k2, k3, k4⟩ := K3.out
  go_wp2_with fail
  refine (twoDigits_any (z / 60 % 60) w3 (by omega) (by omega) (pow_below HT.out A3.out)).mono ?_
  rintro e w4 ⟨rfl, hbx⟩
  have hh4 := holding_below H3.out hbx
  have hb4 := hbx.mono (show w.heap.size + 1 + 1 + 1 ≤ w3.heap.size from by have := (H3.out.1.elim (fun h => h.lt) (fun h => h.lt)); omega)
  clear hbx
  have K4 := Lib.hid (keep_below K3.out hb4 (by omega) (by omega))
  have A4 := Lib.hid (A3.out.trans (hb4.mono (by omega)))
  have H4 := Lib.hid hh4
  clear hh4 hb4 k0 k1 k2 k3 k4
  obtain ⟨k0, k1, k2, k3, k4⟩ := K4.out
  go_wp2_with fail
  refine (WriteString_any (w.heap.size + 1 + 1 + 1) (w.heap.size + 1 + 1 + 1) (Lib.itoa (z / 3600) ++ [46]) ⟨(pair (z / 60 % 60)).toArray⟩ w4 H4.out (by first | omega | (simp; done) | (simp; omega)) (by rw [sz]; omega)).mono ?_
  rintro e w5 ⟨rfl, hh5, hb5⟩
  have K5 := Lib.hid (keep_below K4.out hb5 (by omega) (by omega))
  have A5 := Lib.hid (A4.out.trans (hb5.mono (by omega)))
  have H5 := Lib.hid hh5
  clear hh5 hb5 k0 k1 k2 k3 k4
  obtain ⟨k0, k1, k2, k3, k4⟩ := K5.out
  go_wp2_with fail
  refine (WriteByte_any (w.heap.size + 1 + 1 + 1) (w.heap.size + 1 + 1 + 1) (Lib.itoa (z / 3600) ++ [46] ++ pair (z / 60 % 60)) 46 46 rfl w5 H5.out (by first | omega | (simp; done) | (simp; omega))).mono ?_
  rintro e w6 ⟨rfl, hh6, hb6⟩
  have K6 := Lib.hid (keep_below K5.out hb6 (by omega) (by omega))
  have A6 := Lib.hid (A5.out.trans (hb6.mono (by omega)))
  have H6 := Lib.hid hh6
  clear hh6 hb6 k0 k1 k2 k3 k4
  obtain ⟨k0, k1, k2, k3, k4⟩ := K6.out
  go_wp2_with fail
  refine (twoDigits_any (z % 60) w6 (by omega) (by omega) (pow_below HT.out A6.out)).mono ?_
  rintro e w7 ⟨rfl, hbx⟩
  have hh7 := holding_below H6.out hbx
  have hb7 := hbx.mono (show w.heap.size + 1 + 1 + 1 ≤ w6.heap.size from by have := (H6.out.1.elim (fun h => h.lt) (fun h => h.lt)); omega)
  clear hbx
  have K7 := Lib.hid (keep_below K6.out hb7 (by omega) (by omega))
  have A7 := Lib.hid (A6.out.trans (hb7.mono (by omega)))
  have H7 := Lib.hid hh7
  clear hh7 hb7 k0 k1 k2 k3 k4
  obtain ⟨k0, k1, k2, k3, k4⟩ := K7.out
  go_wp2_with fail
  refine (WriteString_any (w.heap.size + 1 + 1 + 1) (w.heap.size + 1 + 1 + 1) (Lib.itoa (z / 3600) ++ [46] ++ pair (z / 60 % 60) ++ [46]) ⟨(pair (z % 60)).toArray⟩ w7 H7.out (by first | omega | (simp; done) | (simp; omega)) (by rw [sz]; omega)).mono ?_
  rintro e w8 ⟨rfl, hh8, hb8⟩
  have K8 := Lib.hid (keep_below K7.out hb8 (by omega) (by omega))
  have A8 := Lib.hid (A7.out.trans (hb8.mono (by omega)))
  have H8 := Lib.hid hh8
  clear hh8 hb8 k0 k1 k2 k3 k4
  obtain ⟨k0, k1, k2, k3, k4⟩ := K8.out
  go_wp2_with fail
  refine (letterEW a w8).mono ?_
  rintro e w9 ⟨rfl, o9, rfl⟩
  have hbx : Below w8.heap.size w8 (w8.alloc o9) := (Below.refl _ _).alloc (Nat.le_refl _) _
  have H9 := Lib.hid (holding_below H8.out hbx)
  have A9 := Lib.hid (A8.out.trans (hbx.mono A8.out.size))
  clear hbx k0 k1 k2 k3 k4
  go_wp2_with fail
  refine (WriteString_any (w.heap.size + 1 + 1 + 1) (w.heap.size + 1 + 1 + 1) (Lib.itoa (z / 3600) ++ [46] ++ pair (z / 60 % 60) ++ [46] ++ pair (z % 60)) (ltr 101 119 a) _ H9.out (by first | omega | (simp; done) | (simp; omega)) (by rw [ltr_size]; decide)).mono ?_
  rintro e w10 ⟨rfl, hh10, hb10⟩
  have A10 := Lib.hid (A9.out.trans (hb10.mono (by omega)))
  have H10 := Lib.hid hh10
  clear hh10 hb10
  go_wp2_with fail
  refine (Tryd.Builder_String_any (w.heap.size + 1 + 1 + 1) (w.heap.size + 1 + 1 + 1) _ w10 H10.out.1 H10.out.2).mono ?_
  rintro e w11 ⟨rfl, hb11⟩
  go_wp2
  go_ret
  exact ⟨ret_sb (by rw [← HF2.out, sizeL]; simp [ltr]), A10.out.trans (hb11.mono (by omega))⟩

end Go.Proofs.YtbnihalbepffoaaDoor.bld
