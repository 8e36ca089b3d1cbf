/- The program's tour of a list of places. -/
import Derived.Test.YtkiimdfnobcdpaaTour
import Derived.Test.YtkiimdfnobcdpaaTourZ
namespace Go.Proofs.Ytkiimdfnobcdpaa.sines
open Go.ChangeShapes Go.WideShapes Go.ChangeAt Go.RowKit Go.Proofs.Ytkiimdfnobcdpaa.spots Go.Proofs.Ytkiimdfnobcdpaa.irows Go.Proofs.Ytkiimdfnobcdpaa.pairs Go.Proofs.Ytkiimdfnobcdpaa.trows

theorem zeroT_facts (u : Value) : (Try.zeroCells86.setIfInBounds 0 u).size = 897 ∧ (Try.zeroCells86.setIfInBounds 0 u)[0]? = some u ∧ ∀ v l, v < 128 → l < 7 → (Try.zeroCells86.setIfInBounds 0 u)[1 + v * 7 + l]? = some (.int .i64 0) := by
  rw [zero_tour]
  have hs : (#[Value.slice none 0 0] ++ Array.replicate 896 (Value.int .i64 0)).size = 897 := by simp
  refine ⟨by rw [Array.size_setIfInBounds, hs], by rw [Array.getElem?_setIfInBounds_self_of_lt (by rw [hs]; decide)], fun v l hv hl => ?_⟩
  rw [Array.getElem?_setIfInBounds_ne (by omega), Array.getElem?_append_right (by simp; omega), Array.getElem?_replicate, if_pos (by simp; omega)]
theorem all_bits : ∀ n : Nat, n < 8 → 0 < n → IntKind.u64.wrap (IntKind.u64.wrap (2 ^ n) - 1) = ((2 ^ n - 1 : Nat) : Int) := by decide +kernel
theorem two_pow_facts : ∀ n : Nat, n < 8 → 0 < n → 2 ^ n ≤ 128 ∧ 2 ≤ 2 ^ n := by decide +kernel
theorem TT_bounds (ps : List (Int × Int)) (v l : Nat) (hn : ps.length < 8) : 0 ≤ TT (dd ps) ps.length v l ∧ TT (dd ps) ps.length v l ≤ 100000000 := by
  have hl : (free ps.length v).length ≤ 7 := by
    have := List.length_filter_le (fun i => !v.testBit i) (List.range ps.length)
    rw [List.length_range] at this
    unfold free
    omega
  have h1 := TF_nonneg (d := dd ps) (fun i j => (dd_bounds ps i j).1) ps.length (free ps.length v).length v l
  have h2 := TF_le (d := dd ps) (D := 648000) (fun i j => (dd_bounds ps i j).2) (by omega) ps.length (free ps.length v).length v l
  unfold TT
  omega
theorem small_upd {R : Nat → Nat → Int} {v l : Nat} {x : Int} (h : Small R) (h0 : 0 ≤ x) (h1 : x ≤ 100000000) : Small (upd R v l x) := fun a b => by
  unfold upd
  split
  · exact ⟨h0, h1⟩
  · exact h a b
theorem lens_TT {ps : List (Int × Int)} {R : Nat → Nat → Int} {V l : Nat} (hn : ps.length < 8) (hv : V < 2 ^ ps.length) (hne : V ≠ 2 ^ ps.length - 1) (hR : ∀ x, V < x → x < 2 ^ ps.length → ∀ i, i < ps.length → R x i = TT (dd ps) ps.length x i) :
    at0 (lensK ps R V l ps.length) (fminL (lensK ps R V l ps.length)) = TT (dd ps) ps.length V l ∧ 0 < (lensK ps R V l ps.length).length := by
  have hf := free_none ps.length hn V hv hne
  have e : lensK ps R V l ps.length = (free ps.length V).map (HH (dd ps) ps.length V l) := by
    rw [lensK_free]
    apply List.map_congr_left
    intro i hi
    obtain ⟨h1, h2⟩ := free_mem.1 hi
    obtain ⟨_, f2, f3⟩ := free_facts ps.length hn V hv i h1 h2
    show dd ps l i + R (V ||| 2 ^ i) i = dd ps l i + TT (dd ps) ps.length (V ||| 2 ^ i) i
    rw [hR _ f2 f3 i h1]
  rw [e]
  exact ⟨TT_list hn hv hf, by rw [List.length_map]; exact List.length_pos_iff.2 hf⟩
/-- What the tour keeps, for all sets above one. -/
def Kept (ps : List (Int × Int)) (R : Nat → Nat → Int) (V : Nat) : Prop := ∀ x, V < x → x < 2 ^ ps.length → ∀ i, i < ps.length → R x i = TT (dd ps) ps.length x i

theorem lengths_rel (g v l : Nat) (u : Value) (R : Nat → Nat → Int) (ps : List (Int × Int)) (W w : World) (h : Below W.heap.size W w) (hT : TourB W g u R) (hD : DAt W W.heap.size u ps) (hR : Small R) (hv : v < 128) (hl : l < ps.length) (hn : ps.length ≤ 7) :
    Calls Try.prog 49 #[.pointer (some ⟨g, 0, none⟩), .int .u64 (v : Int), .int .i64 (l : Int)] w fun e w' => ∃ x, e = .returned x ∧ IRow w' W.heap.size x (lensK ps R v l ps.length) ∧ Below W.heap.size W w' :=
  (lengths_any g v l u R ps w (tour_keep hT h) (dat_up (dat_keep hD h) h.size) hR hv hl hn).mono fun _ _ ⟨x, h1, h2, h3⟩ => ⟨x, h1, irow_up h2 h.size, h.trans (h3.mono h.size)⟩

theorem kept_upd {ps : List (Int × Int)} {R : Nat → Nat → Int} {V l : Nat} {x : Int} (h : Kept ps R V) : Kept ps (upd R V l x) V := fun a ha h2 i hi => by
  unfold upd
  rw [if_neg (by omega)]
  exact h a ha h2 i hi
theorem row_upd {ps : List (Int × Int)} {R : Nat → Nat → Int} {V k : Nat} {y : Int} (h : ∀ l, l < k → R V l = TT (dd ps) ps.length V l) (hy : TT (dd ps) ps.length V k = y) : ∀ l, l < k + 1 → upd R V k y V l = TT (dd ps) ps.length V l := fun l hl => by
  unfold upd
  by_cases e : l = k
  · subst e
    rw [if_pos ⟨rfl, rfl⟩, hy]
  · rw [if_neg (by omega)]
    exact h l (by omega)
theorem kept_next {ps : List (Int × Int)} {R : Nat → Nat → Int} {V : Nat} (h : Kept ps R V) (hr : ∀ l, l < ps.length → R V l = TT (dd ps) ps.length V l) (h0 : 0 < V) : Kept ps R (V - 1) := fun a ha h2 i hi => by
  by_cases e : a = V
  · subst e; exact hr i hi
  · exact h a (by omega) h2 i hi

set_option maxRecDepth 100000 in
set_option maxHeartbeats 4000000 in
theorem tourOf_any (v : Value) (ps : List (Int × Int)) (w : World) (hv : PAt w w.heap.size v ps) (hl : ps.length < 8) (h0 : 0 < ps.length) (hk : okL ps = true) :
    Calls Try.prog 30 #[v] w fun e w' => ∃ g u R, e = .returned (.pointer (some ⟨g, 0, none⟩)) ∧ TourB w' g u R ∧ DAt w' g u ps ∧ Small R ∧ Kept ps R 0 ∧ Below w.heap.size w w' := by
  have HV := Lib.hid hv
  have HK := Lib.hid hk
  obtain ⟨ar, c, rfl, _⟩ := hv
  have hn2 : (ps.length : Int) ≤ 7 := by omega
  have hn3 : 1 ≤ (ps.length : Int) := by omega
  obtain ⟨tp1, tp2⟩ := two_pow_facts ps.length hl h0
  have AB := all_bits ps.length hl h0
  obtain ⟨P, hP⟩ : ∃ P : Nat, Hid (2 ^ ps.length = P) := ⟨_, Lib.hid rfl⟩
  rw [hP.out] at tp1 tp2 AB
  have aw : IntKind.u64.wrap (((P - 1 : Nat) : Int) - 1) = ((P - 2 : Nat) : Int) := by
    rw [show ((P - 1 : Nat) : Int) - 1 = ((P - 2 : Nat) : Int) by omega]
    have : ∀ m : Nat, m < 128 → IntKind.u64.wrap (m : Int) = (m : Int) := by decide +kernel
    exact this _ (by omega)
  clear hk
  go_enter Try.func30, Try.ntmps30
  go_wp2_with fail
  refine (distancesOf_any _ ps w HV.out (by omega) HK.out).mono ?_
  rintro e w1 ⟨u, rfl, hr, hb⟩
  obtain ⟨au, cu, rfl, hd⟩ := dat_of (trow_at hr)
  have HD := Lib.hid (show DAt w1 w1.heap.size (.slice au ps.length cu) ps from ⟨au, cu, rfl, hd⟩)
  have HB := Lib.hid hb
  clear hr hb hd
  obtain ⟨z1, z2, z3⟩ := zeroT_facts (.slice au ps.length cu)
  obtain ⟨g, hg⟩ : ∃ g, Hid (w1.heap.size = g) := ⟨_, Lib.hid rfl⟩
  obtain ⟨wa, hwa⟩ : ∃ wa, Hid (w1.alloc (.cells (Try.zeroCells86.setIfInBounds 0 (.slice au ps.length cu)) 86) = wa) := ⟨_, Lib.hid rfl⟩
  have T0 := Lib.hid (show TourB wa g (.slice au ps.length cu) (fun _ _ => 0) from by rw [← hwa.out, ← hg.out]; exact ⟨_, heap_alloc_new w1 _, z1, z2, z3⟩)
  have B0 := Lib.hid (show Below g w1 wa from by rw [← hwa.out, ← hg.out]; exact (Below.refl _ _).alloc (Nat.le_refl _) _)
  have HD1 := Lib.hid (show DAt wa g (.slice au ps.length cu) ps from dat_keep (by rw [← hg.out]; exact HD.out) B0.out)
  have HB1 := Lib.hid (show Below w.heap.size w wa from HB.out.trans (B0.out.mono (by rw [← hg.out]; exact HB.out.size)))
  have hgz : w.heap.size ≤ g := by rw [← hg.out]; exact HB.out.size
  clear z1 z2 z3
  go_wp2
  rw [hg.out, hwa.out]
  go_loopw [5] (fun x wr => ∃ (V : Nat) (R : Nat → Nat → Int), V + 2 ≤ P ∧ x = .int .u64 (V : Int) ∧ TourB wr g (.slice au ps.length cu) R ∧ Small R ∧ Kept ps R V ∧ Below g wa wr) (fun x _ => (intOf x).toNat)
  case atStart => exact ⟨P - 2, fun _ _ => 0, by omega, rfl, T0.out, fun _ _ => ⟨Int.le_refl _, by show (0 : Int) ≤ 100000000; decide⟩, fun x h1 h2 i hi => by
    have e : x = 2 ^ ps.length - 1 := by rw [hP.out] at h2 ⊢; omega
    subst e
    exact (TT_none (free_all ps.length hl)).symm, Below.refl _ _⟩
  case round =>
    obtain ⟨V, R, hV, rfl, ht, hs, hkp, hb⟩ := hrel
    have HT := Lib.hid ht
    have HS := Lib.hid hs
    have HKP := Lib.hid hkp
    have HBV := Lib.hid hb
    clear ht hs hkp hb
    by_cases hV0 : 0 < V
    · have v0 : 0 < (V : Int) := by omega
      have v1 : (V : Int) < 128 := by omega
      have vw : IntKind.u64.wrap ((V : Int) - 1) = ((V - 1 : Nat) : Int) := by
        rw [show (V : Int) - 1 = ((V - 1 : Nat) : Int) by omega]
        have : ∀ m : Nat, m < 128 → IntKind.u64.wrap (m : Int) = (m : Int) := by decide +kernel
        exact this _ (by omega)
      go_wp2
      go_loopw [23] (fun i wr => ∃ (k : Nat) (R : Nat → Nat → Int), k ≤ ps.length ∧ i = .int .i64 (k : Int) ∧ TourB wr g (.slice au ps.length cu) R ∧ Small R ∧ Kept ps R V ∧ (∀ l, l < k → R V l = TT (dd ps) ps.length V l) ∧ Below g wa wr) (fun i _ => ps.length - (intOf i).toNat)
      case atStart => exact ⟨0, R, Nat.zero_le _, rfl, HT.out, HS.out, HKP.out, fun l h => by omega, HBV.out⟩
      case round =>
        obtain ⟨k, R2, hk, rfl, ht, hs, hkp, hrow, hb⟩ := hrel
        have HT2 := Lib.hid ht
        have HS2 := Lib.hid hs
        have HK2 := Lib.hid hkp
        have HR2 := Lib.hid hrow
        have HB2 := Lib.hid hb
        have hgl := (tour_cell ht).1
        clear ht hs hkp hrow hb
        by_cases hlt : k < ps.length
        · have k0 : 0 ≤ (k : Int) := by omega
          have k1 : (k : Int) < (ps.length : Int) := by omega
          have k2 : (k : Int) < 7 := by omega
          have v2 : 0 ≤ (V : Int) := by omega
          have LT := Lib.hid (lens_TT (l := k) hl (show V < 2 ^ ps.length by rw [hP.out]; omega) (by rw [hP.out]; omega) HK2.out)
          obtain ⟨t0, t1⟩ := TT_bounds ps V k hl
          have LL := Lib.hid (lensK_len ps R2 V k ps.length)
          obtain ⟨zs, hzs⟩ : ∃ zs, Hid (lensK ps R2 V k ps.length = zs) := ⟨_, Lib.hid rfl⟩
          obtain ⟨y, hy⟩ : ∃ y, Hid (TT (dd ps) ps.length V k = y) := ⟨_, Lib.hid rfl⟩
          rw [hzs.out, hy.out] at LT
          rw [hzs.out] at LL
          rw [hy.out] at t0 t1
          have tc := tour_cell HT2.out
          have GC := Lib.hid (tc.2.2.2 V k (by omega) (by omega))
          have GF := Lib.hid (tc.2.2.1 (1 + V * 7 + k))
          clear tc
          go_wp2_with fail
          go_region_with (first | (go_at_call 49; refine (lengths_rel g V k _ R2 ps wr _ (by repeat (first | assumption | exact Below.refl _ _ | refine Below.drew ?_ | refine bdq ?_ _ | refine Below.alloc ?_ (by first | exact Nat.le_refl _ | omega | (simp; done) | (simp; omega)) _ | refine Below.setCell ?_ (by first | exact Nat.le_refl _ | omega | (simp; done) | (simp; omega)) _)) HT2.out (dat_up (dat_keep HD1.out HB2.out) (by omega)) HS2.out (by omega) hlt (by omega)).mono ?_; rw [hzs.out]; rintro e w2 ⟨x, rfl, hrx, hbx⟩; have RX := Lib.hid hrx; have BX := Lib.hid hbx; clear hrx; have hxz := hbx.size) | (go_at_call 36; refine (firstLeast_any _ _ zs _ (irow_heap RX.out rfl) LT.out.2 (by have := LL.out; omega)).mono ?_; rw [LT.out.1]; rintro e w3 ⟨rfl, q, rfl⟩; have c3 := (BX.out.cell (p := ⟨g, 1 + V * 7 + k, none⟩) hgl).trans GC.out; have f3 := (BX.out.frozen (p := ⟨g, 1 + V * 7 + k, none⟩) hgl).trans GF.out))
          have BQ := Lib.hid (bdq BX.out q)
          go_wp2
          go_roundw
          case rel => exact ⟨k + 1, upd R2 V k y, by omega, by go_num, tour_store y (tour_keep HT2.out BQ.out) (by omega) (by omega), small_upd HS2.out t0 t1, kept_upd HK2.out, row_upd HR2.out hy.out, (HB2.out.trans (BQ.out.mono (by omega))).setCell (Nat.le_refl _) _⟩
          case measure => simp [intOf]; omega
        · obtain rfl : k = ps.length := by omega
          have KN := Lib.hid (kept_next HK2.out HR2.out hV0)
          go_wp2
          go_roundw
          case rel => exact ⟨V - 1, R2, by omega, rfl, HT2.out, HS2.out, KN.out, HB2.out⟩
          case measure => simp [intOf]; omega
    · obtain rfl : V = 0 := by omega
      go_wp2
      go_ret
      exact ⟨g, _, R, rfl, HT.out, dat_keep HD1.out HBV.out, HS.out, HKP.out, HB1.out.trans (HBV.out.mono hgz)⟩

end Go.Proofs.Ytkiimdfnobcdpaa.sines
