/- Drawn scales, places and flat places of maps: contracts of the model's functions. -/
import Derived.Test.YtemhmejjmhbfdaaPDraw
import Derived.Test.YtemhmejjmhbfdaaGDraw
import Derived.Test.YtemhmejjmhbfdaaPlatesX
namespace Go.Proofs.Ytemhmejjmhbfdaa.src
open Go.ChangeShapes Go.WideShapes Go.ChangeAt Go.RowKit Go.Proofs.Ytemhmejjmhbfdaa.irows Go.Proofs.Ytemhmejjmhbfdaa.pairs Go.Proofs.Ytemhmejjmhbfdaa.spots Go.Proofs.Ytemhmejjmhbfdaa.sines
set_option linter.unusedSimpArgs false
set_option linter.unusedVariables false

set_option maxRecDepth 100000 in
set_option maxHeartbeats 400000 in
theorem l08DrawScale_any (W0 w : World) (B : Nat) (a : Option Addr) (len cap : Nat) (m : Int) (h : St W0 w B a len cap m) (hm : m ≤ 1000000) :
    Calls Try.prog 92 #[.pointer (some ⟨B, 0, none⟩)] w fun e w' => ∃ v, e = .returned (.int .i64 v) ∧ St W0 w' B a len cap (m + 4) := by
  have S0 := Lib.hid h
  clear h
  go_enter Try.func92, Try.ntmps92
  go_wp2_with fail
  refine (one_st 10 S0.out (by omega) (by decide) (by decide)).mono ?_
  rintro e w2 ⟨b4, rfl, s3⟩
  have S1 := Lib.hid s3
  clear s3
  cases b4 with
  | true =>
    go_wp2_with fail
    refine (among_st (n := 6) (fun z => True) (st_alloc S1.out _) (by omega) (by decide) (by decide) (list_of rfl (by intro i hi; rcases i with _ | _ | _ | _ | _ | _ | i <;> first | exact ⟨_, rfl, trivial⟩ | omega)) (by have := (S1.out).2.1.size; have := (S1.out).2.2.2; omega)).mono ?_
    rintro e w6 ⟨v, rfl, pv, s7⟩
    have S5 := Lib.hid s7
    clear s7
    clear pv
    go_wp2
    go_ret
    exact ⟨_, rfl, st_le S5.out (by omega)⟩
  | false =>
    go_wp2_with fail
    refine (among_st (n := 8) (fun z => True) (st_alloc S1.out _) (by omega) (by decide) (by decide) (list_of rfl (by intro i hi; rcases i with _ | _ | _ | _ | _ | _ | _ | _ | i <;> first | exact ⟨_, rfl, trivial⟩ | omega)) (by have := (S1.out).2.1.size; have := (S1.out).2.2.2; omega)).mono ?_
    rintro e w9 ⟨v, rfl, pv, s10⟩
    have S8 := Lib.hid s10
    clear s10
    clear pv
    go_wp2
    go_ret
    exact ⟨_, rfl, st_le S8.out (by omega)⟩

theorem st_here {W0 w : World} {B : Nat} {a : Option Addr} {len cap : Nat} {m : Int} (h : St W0 w B a len cap m) : St w w B a len cap m := ⟨h.1, World.grownBy.refl w (some B), h.2.2.1, Nat.lt_of_lt_of_le h.2.2.2 h.2.1.size⟩
theorem st_there {W0 w w' : World} {B : Nat} {a : Option Addr} {len cap : Nat} {m m' : Int} (h : St W0 w B a len cap m) (h2 : St w w' B a len cap m') : St W0 w' B a len cap m' ∧ w.grownBy w' (some B) := ⟨⟨h2.1, Lib.grownBy_trans h.2.1 h2.2.1, h2.2.2.1, h.2.2.2⟩, h2.2.1⟩
theorem grown_below' {w w' : World} {r : Option Nat} (hb : Below w.heap.size w w') : w.grownBy w' r := ⟨hb.os, hb.tape, hb.output, hb.size, fun k hk _ => hb.block k hk⟩
theorem st_belowM {W0 w w' : World} {B : Nat} {a : Option Addr} {len cap : Nat} {m : Int} (h : St W0 w B a len cap m) (hb : Below w.heap.size w w') : St W0 w' B a len cap m := by
  obtain ⟨⟨x, y, k1, k2⟩, h2, h3, h4⟩ := h
  have hB : B < w.heap.size := Nat.lt_of_lt_of_le h4 h2.size
  have hg : w.grownBy w' (some B) := grown_below' hb
  exact ⟨⟨x, y, by rw [hb.block B hB]; exact k1, k2⟩, Lib.grownBy_trans h2 hg, bytes_grown h3 hg (Nat.le_refl _), h4⟩
theorem bytes_upM {w : World} {a : Option Addr} {len B : Nat} (h : Bytes w a len B) : Bytes w a len w.heap.size := by
  obtain ⟨h1, h2, h3⟩ := h
  refine ⟨h1, Nat.le_refl _, fun i hi => ?_⟩
  obtain ⟨b, off, z, e, hlt, hz, h4⟩ := h3 i hi
  exact ⟨b, off, z, e, by omega, hz, h4⟩
theorem blockM {w w' : World} {B k : Nat} {ob : Obj} (h : w.heap[k]? = some ob) (hk : k ≠ B) (hg : w.grownBy w' (some B)) : w'.heap[k]? = some ob := by
  rw [hg.block k (Array.getElem?_eq_some_iff.1 h).1 (by simp; exact hk)]
  exact h

theorem scale_keep {W0 w : World} {B : Nat} {a : Option Addr} {len cap : Nat} {m : Int} (h : St W0 w B a len cap m) (hm : m ≤ 1000000) :
    Calls Try.prog 92 #[.pointer (some ⟨B, 0, none⟩)] w fun e w' => ∃ v, e = .returned (.int .i64 v) ∧ St W0 w' B a len cap (m + 4) ∧ w.grownBy w' (some B) := by
  refine (l08DrawScale_any w w B a len cap m (st_here h) hm).mono ?_
  rintro e w' ⟨v, rfl, s⟩
  exact ⟨v, rfl, st_there h s⟩
set_option maxRecDepth 100000 in
set_option maxHeartbeats 4000000 in
theorem l08DrawFlat_any (w : World) (B : Nat) (a : Option Addr) (len cap : Nat) (m : Int) (h : St w w B a len cap m) (hm : m ≤ 900000) (s : Int) :
    Calls Try.prog 150 #[.pointer (some ⟨B, 0, none⟩), .int .i64 s] w fun e w' => ∃ x y, e = .returned (.agg #[.int .i64 x, .int .i64 y]) ∧ St w w' B a len cap (m + 20) := by
  have S0 := Lib.hid (st_alloc h (.cells #[.int .i64 0, .int .i64 0] 29))
  have R0 := Lib.hid (heap_alloc_new w (.cells #[.int .i64 0, .int .i64 0] 29))
  have hBR : w.heap.size ≠ B := by have := h.2.2.2; omega
  clear h
  go_enter Try.func150, Try.ntmps150
  go_wp2_with fail
  generalize w.alloc (.cells #[.int .i64 0, .int .i64 0] 29) = V at *
  refine (one_keep 10 S0.out (by omega) (by decide) (by decide)).mono ?_
  rintro e w1 ⟨b, rfl, s1, hg1⟩
  have S1 := Lib.hid s1
  have R1 := Lib.hid (blockM R0.out hBR hg1)
  clear s1 hg1
  cases b with
  | true =>
    go_wp2_with fail
    refine (among_st (n := 4) (fun z => True) (st_alloc (st_here S1.out) _) (by omega) (by decide) (by decide) (list_of rfl (by intro i hi; rcases i with _ | _ | _ | _ | i <;> first | exact ⟨_, rfl, trivial⟩ | omega)) (by have := (st_here S1.out).2.2.2; omega)).mono ?_
    rintro e w2 ⟨x, rfl, _, s2⟩
    have S2 := Lib.hid (st_there S1.out s2).1
    have R2 := Lib.hid (blockM R1.out hBR (st_there S1.out s2).2)
    clear s2
    go_wp2_with fail
    refine (among_st (n := 4) (fun z => True) (st_alloc (st_here S2.out) _) (by omega) (by decide) (by decide) (list_of rfl (by intro i hi; rcases i with _ | _ | _ | _ | i <;> first | exact ⟨_, rfl, trivial⟩ | omega)) (by have := (st_here S2.out).2.2.2; omega)).mono ?_
    rintro e w3 ⟨y, rfl, _, s3⟩
    have S3 := Lib.hid (st_there S2.out s3).1
    have R3 := Lib.hid (blockM R2.out hBR (st_there S2.out s3).2)
    clear s3
    obtain ⟨z1, q0, q1, g0, g1⟩ := two_cells R3.out
    obtain ⟨p0, p1, p2⟩ := stored2 R3.out (.int .i64 x) (.int .i64 y)
    go_wp2
    exact bodyPost_ret (v := .agg #[.int .i64 x, .int .i64 y]) (by simp [results, Try.results150, go_sem, p0, p1, p2]) rfl ⟨_, _, rfl, st_le (st_own S3.out (Lib.grownBy_setB (Lib.grownBy_setB (World.grownBy.refl w3 (some w.heap.size)) _ _) _ _) (fun k hk => by cases hk; exact Nat.le_refl _)) (by omega)⟩
  | false =>
    go_wp2_with fail
    refine (draw_keep S1.out (by omega)).mono ?_
    rintro e w2 ⟨lat, lon, rfl, hD, s2, hg2⟩
    have S2 := Lib.hid s2
    have R2 := Lib.hid (blockM R1.out hBR hg2)
    have OK := Lib.hid (show okB lat lon = true by obtain ⟨d1, d2, d3, d4⟩ := hD; simp [okB]; omega)
    clear s2 hg2 hD
    go_wp2_with fail
    refine (l00MinP_any _ _ _).mono ?_
    rintro e w' ⟨rfl, rfl⟩
    go_wp2_with fail
    refine (l00MaxP_any _ _ _).mono ?_
    rintro e w' ⟨rfl, rfl⟩
    obtain ⟨t, ht, t0, t1⟩ : ∃ t, max 1 (min s 100000) = t ∧ 1 ≤ t ∧ t ≤ 100000 := ⟨_, rfl, by omega, by omega⟩
    rw [ht]
    clear ht
    go_wp2_with fail
    refine (one_keep 2 S2.out (by omega) (by decide) (by decide)).mono ?_
    rintro e w3 ⟨b3, rfl, s3, hg3⟩
    have S3 := Lib.hid s3
    have R3 := Lib.hid (blockM R2.out hBR hg3)
    clear s3 hg3
    go_wp2_with fail
    refine (l08Draw_any lat lon t b3 _ OK.out t0 t1).mono ?_
    rintro e w4 ⟨rfl, hb4⟩
    have S4 := Lib.hid (st_belowM S3.out hb4)
    have R4 := Lib.hid ((hb4.block _ (Array.getElem?_eq_some_iff.1 R3.out).1).trans R3.out)
    clear hb4
    generalize drX lat lon t b3 = x
    generalize near lat t = y
    obtain ⟨z1, q0, q1, g0, g1⟩ := two_cells R4.out
    obtain ⟨p0, p1, p2⟩ := stored2 R4.out (.int .i64 x) (.int .i64 y)
    go_wp2
    exact bodyPost_ret (v := .agg #[.int .i64 x, .int .i64 y]) (by simp [results, Try.results150, go_sem, p0, p1, p2]) rfl ⟨_, _, rfl, st_le (st_own S4.out (Lib.grownBy_setB (Lib.grownBy_setB (World.grownBy.refl w4 (some w.heap.size)) _ _) _ _) (fun k hk => by cases hk; exact Nat.le_refl _)) (by omega)⟩
theorem flat_keep {W0 w : World} {B : Nat} {a : Option Addr} {len cap : Nat} {m : Int} (h : St W0 w B a len cap m) (hm : m ≤ 900000) (s : Int) :
    Calls Try.prog 150 #[.pointer (some ⟨B, 0, none⟩), .int .i64 s] w fun e w' => ∃ x y, e = .returned (.agg #[.int .i64 x, .int .i64 y]) ∧ St W0 w' B a len cap (m + 20) ∧ w.grownBy w' (some B) := by
  refine (l08DrawFlat_any w B a len cap m (st_here h) hm s).mono ?_
  rintro e w' ⟨x, y, rfl, s⟩
  exact ⟨x, y, rfl, st_there h s⟩

set_option maxRecDepth 100000 in
set_option maxHeartbeats 4000000 in
theorem l08Spot_any (w : World) (a : Option Addr) (len cap : Nat) (hb : Bytes w a len w.heap.size) :
    Calls Try.prog 77 #[.slice a len cap] w fun e w' => ∃ x y v, e = .returned (.tuple #[.agg #[.int .i64 x, .int .i64 y], .int .i64 v]) ∧ Below w.heap.size w w' := by
  have HB := Lib.hid hb
  clear hb
  go_enter Try.func77, Try.ntmps77
  go_wp2_with fail
  refine (l00From_any _ a len cap).mono ?_
  rintro e w' ⟨rfl, rfl⟩
  have hb2 : Bytes (w.alloc (.cells #[.int .i64 0, .int .i64 0] 25)) a len (w.alloc (.cells #[.int .i64 0, .int .i64 0] 25)).heap.size := by
    obtain ⟨h1, h2, h3⟩ := HB.out
    refine ⟨h1, Nat.le_refl _, fun i hi => ?_⟩
    obtain ⟨b, off, z, e, hlt, hz, h4⟩ := h3 i hi
    exact ⟨b, off, z, e, by simp; omega, by rw [World.cell?_alloc_past _ _ _ hlt]; exact hz, h4⟩
  have S0 := Lib.hid (show St ((w.alloc (.cells #[.int .i64 0, .int .i64 0] 25)).alloc (.cells #[.slice a len cap, .int .i64 0, .int .u64 0] 162)) ((w.alloc (.cells #[.int .i64 0, .int .i64 0] 25)).alloc (.cells #[.slice a len cap, .int .i64 0, .int .u64 0] 162)) (w.heap.size + 1) a len cap 0 from by
    have h := src_start (w.alloc (.cells #[.int .i64 0, .int .i64 0] 25)) a len cap
    rw [show (w.alloc (.cells #[.int .i64 0, .int .i64 0] 25)).heap.size = w.heap.size + 1 by simp] at h
    refine ⟨h, ⟨rfl, rfl, rfl, Nat.le_refl _, fun _ _ _ => rfl⟩, ?_, by simp⟩
    have := bytes_start hb2 (.cells #[.slice a len cap, .int .i64 0, .int .u64 0] 162)
    simpa using this)
  have R0 := Lib.hid (show ((w.alloc (.cells #[.int .i64 0, .int .i64 0] 25)).alloc (.cells #[.slice a len cap, .int .i64 0, .int .u64 0] 162)).heap[w.heap.size]? = some (.cells #[.int .i64 0, .int .i64 0] 25 (0, 0)) from by
    rw [Below.heap_alloc _ _ _ (by simp)]
    exact heap_alloc_new w _)
  have BW := Lib.hid (show ∀ wx, ((w.alloc (.cells #[.int .i64 0, .int .i64 0] 25)).alloc (.cells #[.slice a len cap, .int .i64 0, .int .u64 0] 162)).grownBy wx (some (w.heap.size + 1)) → Below w.heap.size w wx from fun wx hg => (((Below.refl _ _).alloc (Nat.le_refl _) _).alloc (by simp) _).grown hg (by simp; omega) (fun k hk => by obtain rfl := Option.some.inj hk; omega))
  have W1z : w.heap.size + 1 < ((w.alloc (.cells #[.int .i64 0, .int .i64 0] 25)).alloc (.cells #[.slice a len cap, .int .i64 0, .int .u64 0] 162)).heap.size := by simp
  clear hb2
  generalize ((w.alloc (.cells #[.int .i64 0, .int .i64 0] 25)).alloc (.cells #[.slice a len cap, .int .i64 0, .int .u64 0] 162)) = W1 at S0 R0 BW W1z ⊢
  go_wp2_with fail
  refine (bent_keep S0.out (by omega)).mono ?_
  rintro e w1 ⟨x, y, rfl, s1, hg1⟩
  have S1 := Lib.hid (st_alloc s1 (.cells #[.int .i64 x, .int .i64 y] 25))
  have hw1 : W1.heap.size ≤ w1.heap.size := s1.2.1.size
  have R1 := Lib.hid (show (w1.alloc (.cells #[.int .i64 x, .int .i64 y] 25)).heap[w.heap.size]? = _ from (Below.heap_alloc _ _ _ (Array.getElem?_eq_some_iff.1 (blockM R0.out (by omega) hg1)).1).trans (blockM R0.out (by omega) hg1))
  have P1 := Lib.hid (heap_alloc_new w1 (.cells #[.int .i64 x, .int .i64 y] 25))
  obtain ⟨z1, r0, r1, f0, f1⟩ := two_cells P1.out
  clear s1 hg1
  go_wp2_with fail
  generalize w1.alloc (.cells #[.int .i64 x, .int .i64 y] 25) = V1 at *
  go_region_with (go_at_call 92; refine (scale_keep (st_belowM S1.out (Below.drew (Below.refl _ _))) (by omega)).mono ?_; rintro e w2 ⟨v, rfl, s2, hg2⟩; have R2 := blockM (w := V1) R1.out (by omega) ⟨hg2.os, hg2.tape, hg2.output, hg2.size, hg2.block⟩; have P2 := blockM (w := V1) P1.out (by omega) ⟨hg2.os, hg2.tape, hg2.output, hg2.size, hg2.block⟩; obtain ⟨z2, p0, p1, _, _⟩ := two_cells P2; obtain ⟨z3, q0, q1, g0, g1⟩ := two_cells R2; have G2 := BW.out _ s2.2.1)
  all_goals
    obtain ⟨e0, e1, e2⟩ := stored2 R2 (.int .i64 x) (.int .i64 y)
    clear s2 hg2
    go_wp2
    exact bodyPost_ret (v := .tuple #[.agg #[.int .i64 x, .int .i64 y], .int .i64 v]) (by simp [results, Try.results77, go_sem, e0, e1, e2]) rfl ⟨_, _, _, rfl, (G2.setCell (Nat.le_refl _) _).setCell (Nat.le_refl _) _⟩

set_option maxRecDepth 100000 in
set_option maxHeartbeats 4000000 in
theorem DrawPlateOf_any (w : World) (a : Option Addr) (len cap : Nat) (hb : Bytes w a len w.heap.size) :
    Calls Try.prog 15 #[.slice a len cap] w fun e w' => ∃ x y v, e = .returned (.tuple #[.agg #[.int .i64 x, .int .i64 y], .int .i64 v]) ∧ Below w.heap.size w w' := by
  have HB := Lib.hid hb
  clear hb
  go_enter Try.func15, Try.ntmps15
  go_wp2_with fail
  have hb2 : Bytes (w.alloc (.cells #[.int .i64 0, .int .i64 0] 25)) a len (w.alloc (.cells #[.int .i64 0, .int .i64 0] 25)).heap.size := by
    obtain ⟨h1, h2, h3⟩ := HB.out
    refine ⟨h1, Nat.le_refl _, fun i hi => ?_⟩
    obtain ⟨b, off, z, e, hlt, hz, h4⟩ := h3 i hi
    exact ⟨b, off, z, e, by simp; omega, by rw [World.cell?_alloc_past _ _ _ hlt]; exact hz, h4⟩
  refine (l08Spot_any _ a len cap hb2).mono ?_
  rintro e w1 ⟨x, y, v, rfl, hb⟩
  have h1 : w.heap.size < (w.alloc (.cells #[.int .i64 0, .int .i64 0] 25)).heap.size := by simp
  have R1 := (hb.block _ h1).trans (heap_alloc_new w _)
  have G1 := ((Below.refl w.heap.size w).alloc (Nat.le_refl _) (.cells #[.int .i64 0, .int .i64 0] 25)).trans (hb.mono (by simp))
  obtain ⟨z3, q0, q1, g0, g1⟩ := two_cells R1
  obtain ⟨e0, e1, e2⟩ := stored2 R1 (.int .i64 x) (.int .i64 y)
  clear hb hb2
  go_wp2
  exact bodyPost_ret (v := .tuple #[.agg #[.int .i64 x, .int .i64 y], .int .i64 v]) (by simp [results, Try.results15, go_sem, e0, e1, e2]) rfl ⟨_, _, _, rfl, (G1.setCell (Nat.le_refl _) _).setCell (Nat.le_refl _) _⟩

set_option maxRecDepth 100000 in
set_option maxHeartbeats 4000000 in
theorem l08Back_any (w : World) (a : Option Addr) (len cap : Nat) (hb : Bytes w a len w.heap.size) :
    Calls Try.prog 83 #[.slice a len cap] w fun e w' => ∃ x y v, e = .returned (.tuple #[.agg #[.int .i64 x, .int .i64 y], .int .i64 v]) ∧ Below w.heap.size w w' := by
  have HB := Lib.hid hb
  clear hb
  go_enter Try.func83, Try.ntmps83
  go_wp2_with fail
  refine (l00From_any _ a len cap).mono ?_
  rintro e w' ⟨rfl, rfl⟩
  have hb2 : Bytes (w.alloc (.cells #[.int .i64 0, .int .i64 0] 29)) a len (w.alloc (.cells #[.int .i64 0, .int .i64 0] 29)).heap.size := by
    obtain ⟨h1, h2, h3⟩ := HB.out
    refine ⟨h1, Nat.le_refl _, fun i hi => ?_⟩
    obtain ⟨b, off, z, e, hlt, hz, h4⟩ := h3 i hi
    exact ⟨b, off, z, e, by simp; omega, by rw [World.cell?_alloc_past _ _ _ hlt]; exact hz, h4⟩
  have S0 := Lib.hid (show St ((w.alloc (.cells #[.int .i64 0, .int .i64 0] 29)).alloc (.cells #[.slice a len cap, .int .i64 0, .int .u64 0] 162)) ((w.alloc (.cells #[.int .i64 0, .int .i64 0] 29)).alloc (.cells #[.slice a len cap, .int .i64 0, .int .u64 0] 162)) (w.heap.size + 1) a len cap 0 from by
    have h := src_start (w.alloc (.cells #[.int .i64 0, .int .i64 0] 29)) a len cap
    rw [show (w.alloc (.cells #[.int .i64 0, .int .i64 0] 29)).heap.size = w.heap.size + 1 by simp] at h
    refine ⟨h, ⟨rfl, rfl, rfl, Nat.le_refl _, fun _ _ _ => rfl⟩, ?_, by simp⟩
    have := bytes_start hb2 (.cells #[.slice a len cap, .int .i64 0, .int .u64 0] 162)
    simpa using this)
  have R0 := Lib.hid (show ((w.alloc (.cells #[.int .i64 0, .int .i64 0] 29)).alloc (.cells #[.slice a len cap, .int .i64 0, .int .u64 0] 162)).heap[w.heap.size]? = some (.cells #[.int .i64 0, .int .i64 0] 29 (0, 0)) from by
    rw [Below.heap_alloc _ _ _ (by simp)]
    exact heap_alloc_new w _)
  have BW := Lib.hid (show ∀ wx, ((w.alloc (.cells #[.int .i64 0, .int .i64 0] 29)).alloc (.cells #[.slice a len cap, .int .i64 0, .int .u64 0] 162)).grownBy wx (some (w.heap.size + 1)) → Below w.heap.size w wx from fun wx hg => (((Below.refl _ _).alloc (Nat.le_refl _) _).alloc (by simp) _).grown hg (by simp; omega) (fun k hk => by obtain rfl := Option.some.inj hk; omega))
  have W1z : w.heap.size + 1 < ((w.alloc (.cells #[.int .i64 0, .int .i64 0] 29)).alloc (.cells #[.slice a len cap, .int .i64 0, .int .u64 0] 162)).heap.size := by simp
  clear hb2
  generalize ((w.alloc (.cells #[.int .i64 0, .int .i64 0] 29)).alloc (.cells #[.slice a len cap, .int .i64 0, .int .u64 0] 162)) = W1 at S0 R0 BW W1z ⊢
  go_wp2_with fail
  refine (scale_keep S0.out (by omega)).mono ?_
  rintro e w1 ⟨sc, rfl, s1, hg1⟩
  have S1 := Lib.hid s1
  have R1 := Lib.hid (blockM R0.out (by omega) hg1)
  clear s1 hg1
  go_wp2_with fail
  refine (flat_keep S1.out (by omega) sc).mono ?_
  rintro e w2 ⟨x, y, rfl, s2, hg2⟩
  have S2 := Lib.hid (st_alloc s2 (.cells #[.int .i64 x, .int .i64 y] 29))
  have hw2 : W1.heap.size ≤ w2.heap.size := s2.2.1.size
  have R2 := Lib.hid (show (w2.alloc (.cells #[.int .i64 x, .int .i64 y] 29)).heap[w.heap.size]? = _ from (Below.heap_alloc _ _ _ (Array.getElem?_eq_some_iff.1 (blockM R1.out (by omega) hg2)).1).trans (blockM R1.out (by omega) hg2))
  have P2 := Lib.hid (heap_alloc_new w2 (.cells #[.int .i64 x, .int .i64 y] 29))
  clear s2 hg2
  go_wp2_with fail
  generalize w2.alloc (.cells #[.int .i64 x, .int .i64 y] 29) = V2 at *
  go_wp2_with fail
  refine (one_keep 4 S2.out (by omega) (by decide) (by decide)).mono ?_
  rintro e w3 ⟨b, rfl, s3, hg3⟩
  have S3 := Lib.hid s3
  have R3 := Lib.hid (blockM R2.out (by omega) hg3)
  have P3 := Lib.hid (blockM P2.out (by omega) hg3)
  clear s3 hg3
  obtain ⟨z1, r0, r1, f0, f1⟩ := two_cells P3.out
  have zne : w.heap.size ≠ w2.heap.size := by omega
  cases b with
  | true =>
    go_wp2_with fail
    go_region_with (go_at_call 105; refine (pick_keep 400 (st_belowM S3.out (Below.drew (Below.refl _ _))) (by omega) (by decide) (by decide)).mono ?_; rintro e w4 ⟨v, rfl, v0, v1, s4, hg4⟩; have R4 := blockM (w := w3) R3.out (by omega) ⟨hg4.os, hg4.tape, hg4.output, hg4.size, hg4.block⟩; have P4 := blockM (w := w3) P3.out (by omega) ⟨hg4.os, hg4.tape, hg4.output, hg4.size, hg4.block⟩; obtain ⟨z2, p0, p1, p2, p3⟩ := two_cells P4; have G4 := BW.out _ s4.2.1; have kv : IntKind.i64.wrap (v - 200) = v - 200 := IntWalk.i64_in _ (by omega))
    all_goals
      have PU := heap_setCell_same w4 w2.heap.size 0 _ _ (.int .i64 (IntKind.i64.wrap (x + (v - 200)))) P4
      have RU := (heap_setCell_other w4 ⟨w2.heap.size, 0, none⟩ w.heap.size (.int .i64 (IntKind.i64.wrap (x + (v - 200)))) zne).trans R4
      have GU := G4.setCell (p := ⟨w2.heap.size, 0, none⟩) (show w.heap.size ≤ w2.heap.size by omega) (.int .i64 (IntKind.i64.wrap (x + (v - 200))))
      simp only [List.setIfInBounds_toArray, List.set_cons_zero] at PU
      clear s4 hg4 p0 p1 p2 p3 z2 R4 P4 G4
      generalize (IntKind.i64.wrap (x + (v - 200))) = X at *
      generalize w4.setCell ⟨w2.heap.size, 0, none⟩ (.int .i64 X) = U at *
      obtain ⟨z2, p0, p1, _, _⟩ := two_cells PU
      obtain ⟨z3, q0, q1, g0, g1⟩ := two_cells RU
      obtain ⟨e0, e1, e2⟩ := stored2 RU (.int .i64 X) (.int .i64 y)
      go_wp2
      exact bodyPost_ret (v := .tuple #[.agg #[.int .i64 X, .int .i64 y], .int .i64 sc]) (by simp [results, Try.results83, go_sem, e0, e1, e2]) rfl ⟨_, _, _, rfl, (GU.setCell (Nat.le_refl _) _).setCell (Nat.le_refl _) _⟩
  | false =>
    have PU := P3.out
    have RU := R3.out
    have GU := BW.out _ S3.out.2.1
    clear r0 r1 f0 f1
    obtain ⟨z2, p0, p1, _, _⟩ := two_cells PU
    obtain ⟨z3, q0, q1, g0, g1⟩ := two_cells RU
    obtain ⟨e0, e1, e2⟩ := stored2 RU (.int .i64 x) (.int .i64 y)
    go_wp2
    exact bodyPost_ret (v := .tuple #[.agg #[.int .i64 x, .int .i64 y], .int .i64 sc]) (by simp [results, Try.results83, go_sem, e0, e1, e2]) rfl ⟨_, _, _, rfl, (GU.setCell (Nat.le_refl _) _).setCell (Nat.le_refl _) _⟩

set_option maxRecDepth 100000 in
set_option maxHeartbeats 4000000 in
theorem DrawPlateBack_any (w : World) (a : Option Addr) (len cap : Nat) (hb : Bytes w a len w.heap.size) :
    Calls Try.prog 20 #[.slice a len cap] w fun e w' => ∃ x y v, e = .returned (.tuple #[.agg #[.int .i64 x, .int .i64 y], .int .i64 v]) ∧ Below w.heap.size w w' := by
  have HB := Lib.hid hb
  clear hb
  go_enter Try.func20, Try.ntmps20
  go_wp2_with fail
  have hb2 : Bytes (w.alloc (.cells #[.int .i64 0, .int .i64 0] 29)) a len (w.alloc (.cells #[.int .i64 0, .int .i64 0] 29)).heap.size := by
    obtain ⟨h1, h2, h3⟩ := HB.out
    refine ⟨h1, Nat.le_refl _, fun i hi => ?_⟩
    obtain ⟨b, off, z, e, hlt, hz, h4⟩ := h3 i hi
    exact ⟨b, off, z, e, by simp; omega, by rw [World.cell?_alloc_past _ _ _ hlt]; exact hz, h4⟩
  refine (l08Back_any _ a len cap hb2).mono ?_
  rintro e w1 ⟨x, y, v, rfl, hb⟩
  have h1 : w.heap.size < (w.alloc (.cells #[.int .i64 0, .int .i64 0] 29)).heap.size := by simp
  have R1 := (hb.block _ h1).trans (heap_alloc_new w _)
  have G1 := ((Below.refl w.heap.size w).alloc (Nat.le_refl _) (.cells #[.int .i64 0, .int .i64 0] 29)).trans (hb.mono (by simp))
  obtain ⟨z3, q0, q1, g0, g1⟩ := two_cells R1
  obtain ⟨e0, e1, e2⟩ := stored2 R1 (.int .i64 x) (.int .i64 y)
  clear hb hb2
  go_wp2
  exact bodyPost_ret (v := .tuple #[.agg #[.int .i64 x, .int .i64 y], .int .i64 v]) (by simp [results, Try.results20, go_sem, e0, e1, e2]) rfl ⟨_, _, _, rfl, (G1.setCell (Nat.le_refl _) _).setCell (Nat.le_refl _) _⟩

set_option maxRecDepth 100000 in
set_option maxHeartbeats 4000000 in
theorem DrawLossOf_any (w : World) (a : Option Addr) (len cap : Nat) (hb : Bytes w a len w.heap.size) :
    Calls Try.prog 35 #[.slice a len cap] w fun e w' => ∃ x y v b, e = .returned (.tuple #[.agg #[.int .i64 x, .int .i64 y], .int .i64 v, .bool b]) ∧ Below w.heap.size w w' := by
  have HB := Lib.hid hb
  clear hb
  go_enter Try.func35, Try.ntmps35
  go_wp2_with fail
  refine (l00From_any _ a len cap).mono ?_
  rintro e w' ⟨rfl, rfl⟩
  have hb2 : Bytes (w.alloc (.cells #[.int .i64 0, .int .i64 0] 25)) a len (w.alloc (.cells #[.int .i64 0, .int .i64 0] 25)).heap.size := by
    obtain ⟨h1, h2, h3⟩ := HB.out
    refine ⟨h1, Nat.le_refl _, fun i hi => ?_⟩
    obtain ⟨b, off, z, e, hlt, hz, h4⟩ := h3 i hi
    exact ⟨b, off, z, e, by simp; omega, by rw [World.cell?_alloc_past _ _ _ hlt]; exact hz, h4⟩
  have S0 := Lib.hid (show St ((w.alloc (.cells #[.int .i64 0, .int .i64 0] 25)).alloc (.cells #[.slice a len cap, .int .i64 0, .int .u64 0] 162)) ((w.alloc (.cells #[.int .i64 0, .int .i64 0] 25)).alloc (.cells #[.slice a len cap, .int .i64 0, .int .u64 0] 162)) (w.heap.size + 1) a len cap 0 from by
    have h := src_start (w.alloc (.cells #[.int .i64 0, .int .i64 0] 25)) a len cap
    rw [show (w.alloc (.cells #[.int .i64 0, .int .i64 0] 25)).heap.size = w.heap.size + 1 by simp] at h
    refine ⟨h, ⟨rfl, rfl, rfl, Nat.le_refl _, fun _ _ _ => rfl⟩, ?_, by simp⟩
    have := bytes_start hb2 (.cells #[.slice a len cap, .int .i64 0, .int .u64 0] 162)
    simpa using this)
  have R0 := Lib.hid (show ((w.alloc (.cells #[.int .i64 0, .int .i64 0] 25)).alloc (.cells #[.slice a len cap, .int .i64 0, .int .u64 0] 162)).heap[w.heap.size]? = some (.cells #[.int .i64 0, .int .i64 0] 25 (0, 0)) from by
    rw [Below.heap_alloc _ _ _ (by simp)]
    exact heap_alloc_new w _)
  have BW := Lib.hid (show ∀ wx, ((w.alloc (.cells #[.int .i64 0, .int .i64 0] 25)).alloc (.cells #[.slice a len cap, .int .i64 0, .int .u64 0] 162)).grownBy wx (some (w.heap.size + 1)) → Below w.heap.size w wx from fun wx hg => (((Below.refl _ _).alloc (Nat.le_refl _) _).alloc (by simp) _).grown hg (by simp; omega) (fun k hk => by obtain rfl := Option.some.inj hk; omega))
  have W1z : w.heap.size + 1 < ((w.alloc (.cells #[.int .i64 0, .int .i64 0] 25)).alloc (.cells #[.slice a len cap, .int .i64 0, .int .u64 0] 162)).heap.size := by simp
  clear hb2
  generalize ((w.alloc (.cells #[.int .i64 0, .int .i64 0] 25)).alloc (.cells #[.slice a len cap, .int .i64 0, .int .u64 0] 162)) = W1 at S0 R0 BW W1z ⊢
  go_wp2_with fail
  refine (bent_keep S0.out (by omega)).mono ?_
  rintro e w1 ⟨x, y, rfl, s1, hg1⟩
  have S1 := Lib.hid (st_alloc s1 (.cells #[.int .i64 x, .int .i64 y] 25))
  have hw1 : W1.heap.size ≤ w1.heap.size := s1.2.1.size
  have R1 := Lib.hid (show (w1.alloc (.cells #[.int .i64 x, .int .i64 y] 25)).heap[w.heap.size]? = _ from (Below.heap_alloc _ _ _ (Array.getElem?_eq_some_iff.1 (blockM R0.out (by omega) hg1)).1).trans (blockM R0.out (by omega) hg1))
  have P1 := Lib.hid (heap_alloc_new w1 (.cells #[.int .i64 x, .int .i64 y] 25))
  clear s1 hg1
  go_wp2_with fail
  generalize w1.alloc (.cells #[.int .i64 x, .int .i64 y] 25) = V1 at *
  refine (scale_keep S1.out (by omega)).mono ?_
  rintro e w2 ⟨v, rfl, s2, hg2⟩
  have S2 := Lib.hid s2
  have R2 := Lib.hid (blockM R1.out (by omega) hg2)
  have P2 := Lib.hid (blockM P1.out (by omega) hg2)
  clear s2 hg2
  obtain ⟨z1, r0, r1, f0, f1⟩ := two_cells P2.out
  go_wp2_with fail
  go_region_with (go_at_call 93; refine (one_keep 2 (st_belowM S2.out (Below.drew (Below.refl _ _))) (by omega) (by decide) (by decide)).mono ?_; rintro e w3 ⟨b, rfl, s3, hg3⟩; have R3 := blockM (w := w2) R2.out (by omega) ⟨hg3.os, hg3.tape, hg3.output, hg3.size, hg3.block⟩; have P3 := blockM (w := w2) P2.out (by omega) ⟨hg3.os, hg3.tape, hg3.output, hg3.size, hg3.block⟩; obtain ⟨z2, p0, p1, _, _⟩ := two_cells P3; obtain ⟨z3, q0, q1, g0, g1⟩ := two_cells R3; have G3 := BW.out _ s3.2.1)
  all_goals
    obtain ⟨e0, e1, e2⟩ := stored2 R3 (.int .i64 x) (.int .i64 y)
    clear s3 hg3
    go_wp2
    exact bodyPost_ret (v := .tuple #[.agg #[.int .i64 x, .int .i64 y], .int .i64 v, .bool b]) (by simp [results, Try.results35, go_sem, e0, e1, e2]) rfl ⟨_, _, _, _, rfl, (G3.setCell (Nat.le_refl _) _).setCell (Nat.le_refl _) _⟩

set_option maxRecDepth 100000 in
set_option maxHeartbeats 4000000 in
theorem DrawOnMap_any (w : World) (a : Option Addr) (len cap : Nat) (hb : Bytes w a len w.heap.size) :
    Calls Try.prog 28 #[.slice a len cap] w fun e w' => ∃ x y v b, e = .returned (.tuple #[.agg #[.int .i64 x, .int .i64 y], .int .i64 v, .bool b]) ∧ Below w.heap.size w w' := by
  have HB := Lib.hid hb
  clear hb
  go_enter Try.func28, Try.ntmps28
  go_wp2_with fail
  have hb2 : Bytes (w.alloc (.cells #[.int .i64 0, .int .i64 0] 29)) a len (w.alloc (.cells #[.int .i64 0, .int .i64 0] 29)).heap.size := by
    obtain ⟨h1, h2, h3⟩ := HB.out
    refine ⟨h1, Nat.le_refl _, fun i hi => ?_⟩
    obtain ⟨b, off, z, e, hlt, hz, h4⟩ := h3 i hi
    exact ⟨b, off, z, e, by simp; omega, by rw [World.cell?_alloc_past _ _ _ hlt]; exact hz, h4⟩
  refine (l08Back_any _ a len cap hb2).mono ?_
  rintro e w1 ⟨x, y, v, rfl, hb⟩
  have h1 : w.heap.size < (w.alloc (.cells #[.int .i64 0, .int .i64 0] 29)).heap.size := by simp
  have R1 := (hb.block _ h1).trans (heap_alloc_new w _)
  have z1 := (Array.getElem?_eq_some_iff.1 R1).1
  have G1 := ((Below.refl w.heap.size w).alloc (Nat.le_refl _) (.cells #[.int .i64 0, .int .i64 0] 29)).trans (hb.mono (by simp))
  have R2 := Lib.hid ((Below.heap_alloc w1 (.cells #[.int .i64 x, .int .i64 y] 29) w.heap.size z1).trans R1)
  have P2 := Lib.hid (heap_alloc_new w1 (.cells #[.int .i64 x, .int .i64 y] 29))
  have G2 := Lib.hid (G1.alloc G1.size (.cells #[.int .i64 x, .int .i64 y] 29))
  have B2 := Lib.hid (bytes_below HB.out G2.out)
  clear hb hb2 R1 G1
  go_wp2_with fail
  generalize w1.alloc (.cells #[.int .i64 x, .int .i64 y] 29) = V at *
  refine (l00From_any _ a len cap).mono ?_
  rintro e w' ⟨rfl, rfl⟩
  have zV : w.heap.size < V.heap.size := (Array.getElem?_eq_some_iff.1 R2.out).1
  have zP : w1.heap.size < V.heap.size := (Array.getElem?_eq_some_iff.1 P2.out).1
  have S0 := Lib.hid (show St (V.alloc (.cells #[.slice a len cap, .int .i64 0, .int .u64 0] 162)) (V.alloc (.cells #[.slice a len cap, .int .i64 0, .int .u64 0] 162)) V.heap.size a len cap 0 from ⟨src_start V a len cap, ⟨rfl, rfl, rfl, Nat.le_refl _, fun _ _ _ => rfl⟩, bytes_start (bytes_upM B2.out) _, by simp⟩)
  have R3 := Lib.hid ((Below.heap_alloc V (.cells #[.slice a len cap, .int .i64 0, .int .u64 0] 162) w.heap.size zV).trans R2.out)
  have P3 := Lib.hid ((Below.heap_alloc V (.cells #[.slice a len cap, .int .i64 0, .int .u64 0] 162) w1.heap.size zP).trans P2.out)
  have G3 := Lib.hid (G2.out.alloc G2.out.size (.cells #[.slice a len cap, .int .i64 0, .int .u64 0] 162))
  generalize V.alloc (.cells #[.slice a len cap, .int .i64 0, .int .u64 0] 162) = V3 at *
  obtain ⟨_, r0, r1, f0, f1⟩ := two_cells P3.out
  go_wp2_with fail
  go_region_with (go_at_call 93; refine (one_keep 2 (st_belowM S0.out (Below.drew (Below.refl _ _))) (by omega) (by decide) (by decide)).mono ?_; rintro e w3 ⟨b, rfl, s3, hg3⟩; have R4 := blockM (w := V3) R3.out (by omega) ⟨hg3.os, hg3.tape, hg3.output, hg3.size, hg3.block⟩; have P4 := blockM (w := V3) P3.out (by omega) ⟨hg3.os, hg3.tape, hg3.output, hg3.size, hg3.block⟩; obtain ⟨z2, p0, p1, _, _⟩ := two_cells P4; obtain ⟨z3, q0, q1, g0, g1⟩ := two_cells R4; have G4 := G3.out.grown s3.2.1 G3.out.size (fun k hk => by obtain rfl := Option.some.inj hk; omega))
  all_goals
    obtain ⟨e0, e1, e2⟩ := stored2 R4 (.int .i64 x) (.int .i64 y)
    clear s3 hg3
    go_wp2
    exact bodyPost_ret (v := .tuple #[.agg #[.int .i64 x, .int .i64 y], .int .i64 v, .bool b]) (by simp [results, Try.results28, go_sem, e0, e1, e2]) rfl ⟨_, _, _, _, rfl, (G4.setCell (Nat.le_refl _) _).setCell (Nat.le_refl _) _⟩

set_option maxRecDepth 100000 in
set_option maxHeartbeats 400000 in
theorem DrawStretchAt_any (w : World) (a : Option Addr) (len cap : Nat) (hb : Bytes w a len w.heap.size) :
    Calls Try.prog 38 #[.slice a len cap] w fun e w' => ∃ x0, e = .returned (.int .i64 x0) ∧ Below w.heap.size w w' := by
  have HB := Lib.hid hb
  clear hb
  go_enter Try.func38, Try.ntmps38
  go_wp2_with fail
  refine (l00From_any _ a len cap).mono ?_
  rintro e w' ⟨rfl, rfl⟩
  have S0 := Lib.hid (show St (w.alloc (.cells #[.slice a len cap, .int .i64 0, .int .u64 0] 162)) (w.alloc (.cells #[.slice a len cap, .int .i64 0, .int .u64 0] 162)) w.heap.size a len cap 0 from ⟨src_start w a len cap, ⟨rfl, rfl, rfl, Nat.le_refl _, fun _ _ _ => rfl⟩, bytes_start HB.out _, by simp⟩)
  go_wp2_with fail
  refine (l04Lat_any _ _ w.heap.size a len cap _ S0.out (by omega)).mono ?_
  rintro e w2 ⟨x, rfl, s3⟩
  have S1 := Lib.hid s3
  clear s3
  go_wp2
  go_ret
  exact ⟨_, rfl, below_src S1.out.2.1⟩

end Go.Proofs.Ytemhmejjmhbfdaa.src
