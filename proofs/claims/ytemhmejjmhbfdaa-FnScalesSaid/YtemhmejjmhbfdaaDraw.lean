/- Drawn spots: contracts of the model's functions. -/
import Derived.Test.YtemhmejjmhbfdaaSrc
namespace Go.Proofs.Ytemhmejjmhbfdaa.src
open Go.ChangeShapes Go.WideShapes Go.ChangeAt Go.RowKit

/-- A source under way since the world W0. -/
def St (W0 w : World) (B : Nat) (a : Option Addr) (len cap : Nat) (m : Int) : Prop := Src w B a len cap m ∧ W0.grownBy w (some B) ∧ Bytes w a len B ∧ B < W0.heap.size
theorem st_le {W0 w : World} {B : Nat} {a : Option Addr} {len cap : Nat} {m m' : Int} (h : St W0 w B a len cap m) (hm : m ≤ m') : St W0 w B a len cap m' := by
  obtain ⟨⟨x, y, k1, k2, k3, k4⟩, h2⟩ := h
  exact ⟨⟨x, y, k1, k2, by omega, k4⟩, h2⟩
theorem st_alloc {W0 w : World} {B : Nat} {a : Option Addr} {len cap : Nat} {m : Int} (h : St W0 w B a len cap m) (o : Obj) : St W0 (w.alloc o) B a len cap m := by
  obtain ⟨⟨x, y, k1, k2⟩, h2, h3, h4⟩ := h
  have hB : B < w.heap.size := Nat.lt_of_lt_of_le h4 h2.size
  refine ⟨⟨x, y, by rw [Below.heap_alloc w o B hB]; exact k1, k2⟩, ?_, bytes_grown h3 (World.grownBy_alloc w o (some B)) (Nat.le_refl _), h4⟩
  exact Lib.grownBy_trans h2 (World.grownBy_alloc w o (some B))
theorem pick_st {W0 w : World} {B : Nat} {a : Option Addr} {len cap : Nat} {m : Int} (n : Int) (h : St W0 w B a len cap m) (hm : m ≤ 4611686018427387000) (hn0 : 1 ≤ n) (hn1 : n ≤ 65536) :
    Calls Try.prog 105 #[.pointer (some ⟨B, 0, none⟩), .int .i64 n] w fun e w' => ∃ v, e = .returned (.int .i64 v) ∧ 0 ≤ v ∧ v < n ∧ St W0 w' B a len cap (m + 2) := by
  refine (pick_any w B a len cap m n h.1 hm h.2.2.1 hn0 hn1).mono ?_
  rintro e w' ⟨v, h1, h2, h3, h4, h5⟩
  exact ⟨v, h1, h2, h3, h4, Lib.grownBy_trans h.2.1 h5, bytes_grown h.2.2.1 h5 (Nat.le_refl _), h.2.2.2⟩
theorem one_st {W0 w : World} {B : Nat} {a : Option Addr} {len cap : Nat} {m : Int} (n : Int) (h : St W0 w B a len cap m) (hm : m ≤ 4611686018427387000) (hn0 : 1 ≤ n) (hn1 : n ≤ 65536) :
    Calls Try.prog 93 #[.pointer (some ⟨B, 0, none⟩), .int .i64 n] w fun e w' => ∃ b, e = .returned (.bool b) ∧ St W0 w' B a len cap (m + 2) := by
  have H := Lib.hid h
  clear h
  go_enter Try.func93, Try.ntmps93
  go_wp2_with fail
  refine (pick_st n H.out hm hn0 hn1).mono ?_
  rintro e w1 ⟨v, rfl, _, _, h2⟩
  have H2 := Lib.hid h2
  clear h2
  go_wp2_with fail
  go_ret
  exact ⟨_, rfl, H2.out⟩
/-- A list of numbers that the call has made. -/
def ListAt (w : World) (L n : Nat) (P : Int → Prop) : Prop := ∀ i, i < n → ∃ z, w.cell? ⟨L, i, none⟩ = some (.int .i64 z) ∧ P z
set_option maxRecDepth 100000 in
theorem among_st {W0 w : World} {B L : Nat} {a : Option Addr} {len cap n : Nat} {m : Int} (P : Int → Prop) (h : St W0 w B a len cap m) (hm : m ≤ 4611686018427387000) (hn0 : 1 ≤ n) (hn1 : n ≤ 65536) (hl : ListAt w L n P) (hL : L ≠ B) :
    Calls Try.prog 106 #[.pointer (some ⟨B, 0, none⟩), .slice (some ⟨L, 0, none⟩) n n] w fun e w' => ∃ v, e = .returned (.int .i64 v) ∧ P v ∧ St W0 w' B a len cap (m + 2) := by
  have H := Lib.hid h
  have HL := Lib.hid hl
  clear h hl
  have hn2 : 1 ≤ (n : Int) := by omega
  have hn3 : (n : Int) ≤ 65536 := by omega
  go_enter Try.func106, Try.ntmps106
  go_wp2_with fail
  have HG := Lib.hid (show ∀ w', w.grownBy w' (some B) → ListAt w' L n P from fun w' g i hi => by
    obtain ⟨z, hz, hp⟩ := HL.out i hi
    exact ⟨z, g.cell hz (by simp; omega), hp⟩)
  refine (pick_any w B a len cap m n (H.out).1 hm (H.out).2.2.1 hn2 hn3).mono ?_
  rintro e w1 ⟨v, rfl, hv0, hv1, hs1, hg1⟩
  obtain ⟨k, rfl⟩ := Int.eq_ofNat_of_zero_le hv0
  obtain ⟨z, hz, hp⟩ := HG.out w1 hg1 k (by omega)
  have HP2 := Lib.hid hp
  have H2 := Lib.hid (show St W0 w1 B a len cap (m + 2) from ⟨hs1, Lib.grownBy_trans (H.out).2.1 hg1, bytes_grown (H.out).2.2.1 hg1 (Nat.le_refl _), (H.out).2.2.2⟩)
  clear hp hs1 hg1
  have hk1 : k < n := by omega
  go_wp2_with fail
  go_ret
  exact ⟨_, rfl, HP2.out, H2.out⟩
theorem frozen_plain {w : World} {B : Nat} {cs : Array Value} {t : TypeId} (h : w.heap[B]? = some (.cells cs t (0, 0))) (i : Nat) : w.frozen? ⟨B, i, none⟩ = false := by simp [World.frozen?, h]
theorem list_of {w w' : World} {cs : Array Value} {t : TypeId} {n : Nat} {P : Int → Prop} (hw : w' = w.alloc (.cells cs t)) (h : ∀ i, i < n → ∃ z, cs[i]? = some (.int .i64 z) ∧ P z) : ListAt w' w.heap.size n P := by
  subst hw
  intro i hi
  obtain ⟨z, hz, hp⟩ := h i hi
  exact ⟨z, by rw [cell_of_block (heap_alloc_new w _)]; exact hz, hp⟩
theorem result_cells {w0 w : World} {B : Nat} {a : Option Addr} {len cap : Nat} {m : Int} {cs : Array Value} {t : TypeId} (h : St (w0.alloc (.cells cs t)) w B a len cap m) (hB : B < w0.heap.size) :
    w.heap[w0.heap.size]? = some (.cells cs t (0, 0)) := by
  rw [h.2.1.block w0.heap.size (by simp) (by simp; omega)]
  exact heap_alloc_new w0 _
theorem draw_end {w w6 w' : World} {B : Nat} {a : Option Addr} {len cap : Nat} {m : Int} {o : Obj} {x y : Value} (h : St (w.alloc o) w6 B a len cap m) (hB : B < w.heap.size)
    (hw : w' = (w6.setCell ⟨w.heap.size, 0, none⟩ x).setCell ⟨w.heap.size, 1, none⟩ y) : Src w' B a len cap m ∧ w.grownBy w' (some B) := by
  subst hw
  obtain ⟨⟨p, q, k1, k2⟩, hg, _, _⟩ := h
  have e : ∀ k, k < w.heap.size → ((w6.setCell ⟨w.heap.size, 0, none⟩ x).setCell ⟨w.heap.size, 1, none⟩ y).heap[k]? = w6.heap[k]? := fun k hk => by
    rw [Below.heap_setCell _ _ _ _ (by simp; omega), Below.heap_setCell _ _ _ _ (by simp; omega)]
  have hs := hg.size
  simp at hs
  refine ⟨⟨p, q, by rw [e B hB]; exact k1, k2⟩, hg.os, hg.tape, hg.output, by simp [World.setCell]; omega, fun k hk hne => ?_⟩
  rw [e k hk, hg.block k (by simp; omega) hne, Below.heap_alloc _ _ _ hk]
/-- What a drawn spot is. -/
def Drawn (x y : Int) : Prop := -324000 ≤ x ∧ x ≤ 324000 ∧ -648000 ≤ y ∧ y ≤ 647999
set_option maxRecDepth 100000 in
set_option maxHeartbeats 4000000 in
theorem l02Draw_any (w : World) (B : Nat) (a : Option Addr) (len cap : Nat) (m : Int) (hs : Src w B a len cap m) (hm : m ≤ 1000000) (hb : Bytes w a len B) (hB : B < w.heap.size) :
    Calls Try.prog 151 #[.pointer (some ⟨B, 0, none⟩)] w fun e w' => ∃ x y, e = .returned (.agg #[.int .i64 x, .int .i64 y]) ∧ Drawn x y ∧ Src w' B a len cap (m + 14) ∧ w.grownBy w' (some B) := by
  have S0 := Lib.hid (show St (w.alloc (.cells #[.int .i64 0, .int .i64 0] 25)) (w.alloc (.cells #[.int .i64 0, .int .i64 0] 25)) B a len cap m from by
    have h := st_alloc (W0 := w) (w := w) ⟨hs, ⟨rfl, rfl, rfl, Nat.le_refl _, fun _ _ _ => rfl⟩, hb, hB⟩ (.cells #[.int .i64 0, .int .i64 0] 25)
    exact ⟨h.1, ⟨rfl, rfl, rfl, Nat.le_refl _, fun _ _ _ => rfl⟩, h.2.2.1, by simp; omega⟩)
  have HB := Lib.hid hB
  clear hs hb hB
  go_enter Try.func151, Try.ntmps151
  go_wp2_with fail
  refine (pick_st 181 S0.out (by omega) (by decide) (by decide)).mono ?_
  rintro e w1 ⟨v1, rfl, a1, b1, s1⟩
  have S1 := Lib.hid s1
  clear s1
  go_wp2_with fail
  refine (pick_st 180 S1.out (by omega) (by decide) (by decide)).mono ?_
  rintro e w2 ⟨v2, rfl, a2, b2, s2⟩
  have S2 := Lib.hid s2
  clear s2
  go_wp2_with fail
  refine (one_st 3 S2.out (by omega) (by decide) (by decide)).mono ?_
  rintro e w3 ⟨b, rfl, s3⟩
  have S3 := Lib.hid s3
  clear s3
  cases b with
  | false =>
    go_wp2_with fail
    refine (pick_st 12 S3.out (by omega) (by decide) (by decide)).mono ?_
    rintro e w5 ⟨v5, rfl, a5, b5, s5⟩
    have S5 := Lib.hid s5
    clear s5
    by_cases c0 : v5 = 0
    · have e0 : (v5 == 0) = true := by simp [c0]
      clear c0
      go_wp2_with fail
      refine (among_st (n := 3) (fun z => -324000 ≤ z ∧ z ≤ 324000) (st_alloc S5.out _) (by omega) (by decide) (by decide) (list_of rfl (by intro i hi; rcases i with _ | _ | _ | i <;> first | exact ⟨_, rfl, by decide⟩ | omega)) (by have := (S5.out).2.1.size; have := (S5.out).2.2.2; omega)).mono ?_
      rintro e w6 ⟨v6, rfl, p6, s6⟩
      have S6 := Lib.hid s6
      have P6 := Lib.hid p6
      clear s6 p6
      have R := result_cells S6.out HB.out
      have r0 := cell_of_block R 0
      have r1 := cell_of_block R 1
      have f0 := frozen_plain R 0
      have f1 := frozen_plain R 1
      simp only [List.getElem?_toArray, List.getElem?_cons_zero, List.getElem?_cons_succ] at r0 r1
      clear R
      go_wp2
      exact bodyPost_ret (v := .agg #[.int .i64 (v6), .int .i64 (3600 * (v2 - 90))]) (by simp [results, Try.results151, go_sem, r0, r1]) rfl ⟨_, _, rfl, ⟨P6.out.1, P6.out.2, by omega, by omega⟩, draw_end (st_le S6.out (by omega)) HB.out rfl⟩
    have e0 : (v5 == 0) = false := by simpa using c0
    clear c0
    by_cases c1 : v5 = 1
    · have e1 : (v5 == 1) = true := by simp [c1]
      clear c1
      go_wp2_with fail
      refine (among_st (n := 5) (fun z => -648000 ≤ z ∧ z ≤ 647999) (st_alloc S5.out _) (by omega) (by decide) (by decide) (list_of rfl (by intro i hi; rcases i with _ | _ | _ | _ | _ | i <;> first | exact ⟨_, rfl, by decide⟩ | omega)) (by have := (S5.out).2.1.size; have := (S5.out).2.2.2; omega)).mono ?_
      rintro e w6 ⟨v6, rfl, p6, s6⟩
      have S6 := Lib.hid s6
      have P6 := Lib.hid p6
      clear s6 p6
      have R := result_cells S6.out HB.out
      have r0 := cell_of_block R 0
      have r1 := cell_of_block R 1
      have f0 := frozen_plain R 0
      have f1 := frozen_plain R 1
      simp only [List.getElem?_toArray, List.getElem?_cons_zero, List.getElem?_cons_succ] at r0 r1
      clear R
      go_wp2
      exact bodyPost_ret (v := .agg #[.int .i64 (1800 * (v1 - 90)), .int .i64 (v6)]) (by simp [results, Try.results151, go_sem, r0, r1]) rfl ⟨_, _, rfl, ⟨by omega, by omega, P6.out.1, P6.out.2⟩, draw_end (st_le S6.out (by omega)) HB.out rfl⟩
    have e1 : (v5 == 1) = false := by simpa using c1
    clear c1
    have R := result_cells S5.out HB.out
    have r0 := cell_of_block R 0
    have r1 := cell_of_block R 1
    have f0 := frozen_plain R 0
    have f1 := frozen_plain R 1
    simp only [List.getElem?_toArray, List.getElem?_cons_zero, List.getElem?_cons_succ] at r0 r1
    clear R
    go_wp2
    exact bodyPost_ret (v := .agg #[.int .i64 (1800 * (v1 - 90)), .int .i64 (3600 * (v2 - 90))]) (by simp [results, Try.results151, go_sem, r0, r1]) rfl ⟨_, _, rfl, ⟨by omega, by omega, by omega, by omega⟩, draw_end (st_le S5.out (by omega)) HB.out rfl⟩
  | true =>
    go_wp2_with fail
    refine (pick_st 120 S3.out (by omega) (by decide) (by decide)).mono ?_
    rintro e w4 ⟨v3, rfl, a3, b3, s4⟩
    have S4 := Lib.hid s4
    clear s4
    go_wp2_with fail
    refine (pick_st 200 S4.out (by omega) (by decide) (by decide)).mono ?_
    rintro e w4' ⟨v4, rfl, a4, b4, s4⟩
    have S4' := Lib.hid s4
    clear s4
    go_wp2_with fail
    refine (pick_st 12 S4'.out (by omega) (by decide) (by decide)).mono ?_
    rintro e w5 ⟨v5, rfl, a5, b5, s5⟩
    have S5 := Lib.hid s5
    clear s5
    by_cases c0 : v5 = 0
    · have e0 : (v5 == 0) = true := by simp [c0]
      clear c0
      go_wp2_with fail
      refine (among_st (n := 3) (fun z => -324000 ≤ z ∧ z ≤ 324000) (st_alloc S5.out _) (by omega) (by decide) (by decide) (list_of rfl (by intro i hi; rcases i with _ | _ | _ | i <;> first | exact ⟨_, rfl, by decide⟩ | omega)) (by have := (S5.out).2.1.size; have := (S5.out).2.2.2; omega)).mono ?_
      rintro e w6 ⟨v6, rfl, p6, s6⟩
      have S6 := Lib.hid s6
      have P6 := Lib.hid p6
      clear s6 p6
      have R := result_cells S6.out HB.out
      have r0 := cell_of_block R 0
      have r1 := cell_of_block R 1
      have f0 := frozen_plain R 0
      have f1 := frozen_plain R 1
      simp only [List.getElem?_toArray, List.getElem?_cons_zero, List.getElem?_cons_succ] at r0 r1
      clear R
      go_wp2
      exact bodyPost_ret (v := .agg #[.int .i64 (v6), .int .i64 (3600 * (v2 - 90) + 60 * v4)]) (by simp [results, Try.results151, go_sem, r0, r1]) rfl ⟨_, _, rfl, ⟨P6.out.1, P6.out.2, by omega, by omega⟩, draw_end (st_le S6.out (by omega)) HB.out rfl⟩
    have e0 : (v5 == 0) = false := by simpa using c0
    clear c0
    by_cases c1 : v5 = 1
    · have e1 : (v5 == 1) = true := by simp [c1]
      clear c1
      go_wp2_with fail
      refine (among_st (n := 5) (fun z => -648000 ≤ z ∧ z ≤ 647999) (st_alloc S5.out _) (by omega) (by decide) (by decide) (list_of rfl (by intro i hi; rcases i with _ | _ | _ | _ | _ | i <;> first | exact ⟨_, rfl, by decide⟩ | omega)) (by have := (S5.out).2.1.size; have := (S5.out).2.2.2; omega)).mono ?_
      rintro e w6 ⟨v6, rfl, p6, s6⟩
      have S6 := Lib.hid s6
      have P6 := Lib.hid p6
      clear s6 p6
      have R := result_cells S6.out HB.out
      have r0 := cell_of_block R 0
      have r1 := cell_of_block R 1
      have f0 := frozen_plain R 0
      have f1 := frozen_plain R 1
      simp only [List.getElem?_toArray, List.getElem?_cons_zero, List.getElem?_cons_succ] at r0 r1
      clear R
      go_wp2
      exact bodyPost_ret (v := .agg #[.int .i64 (1800 * (v1 - 90) + (v3 - 60)), .int .i64 (v6)]) (by simp [results, Try.results151, go_sem, r0, r1]) rfl ⟨_, _, rfl, ⟨by omega, by omega, P6.out.1, P6.out.2⟩, draw_end (st_le S6.out (by omega)) HB.out rfl⟩
    have e1 : (v5 == 1) = false := by simpa using c1
    clear c1
    have R := result_cells S5.out HB.out
    have r0 := cell_of_block R 0
    have r1 := cell_of_block R 1
    have f0 := frozen_plain R 0
    have f1 := frozen_plain R 1
    simp only [List.getElem?_toArray, List.getElem?_cons_zero, List.getElem?_cons_succ] at r0 r1
    clear R
    go_wp2
    exact bodyPost_ret (v := .agg #[.int .i64 (1800 * (v1 - 90) + (v3 - 60)), .int .i64 (3600 * (v2 - 90) + 60 * v4)]) (by simp [results, Try.results151, go_sem, r0, r1]) rfl ⟨_, _, rfl, ⟨by omega, by omega, by omega, by omega⟩, draw_end (st_le S5.out (by omega)) HB.out rfl⟩

end Go.Proofs.Ytemhmejjmhbfdaa.src
