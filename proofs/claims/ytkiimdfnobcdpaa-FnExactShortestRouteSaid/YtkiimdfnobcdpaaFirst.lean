/- The program's first shortest order. -/
import Derived.Test.YtkiimdfnobcdpaaTourOf
import Derived.Deep.LoopGhost
namespace Go.Proofs.Ytkiimdfnobcdpaa.sines
open Go.ChangeShapes Go.WideShapes Go.ChangeAt Go.RowKit Go.Proofs.Ytkiimdfnobcdpaa.spots Go.Proofs.Ytkiimdfnobcdpaa.irows Go.Proofs.Ytkiimdfnobcdpaa.pairs Go.Proofs.Ytkiimdfnobcdpaa.trows

theorem drew_assoc (w : World) (a b c : Nat) : (w.drewN (a + b)).drewN c = w.drewN (a + (b + c)) := by rw [World.drewN_drewN, Nat.add_assoc]
def nz (os : List Nat) : List Int := os.map fun x : Nat => (x : Int)
theorem nz_snoc (os : List Nat) (x : Nat) : nz (os ++ [x]) = nz os ++ [(x : Int)] := by simp [nz]
theorem nz_len (os : List Nat) : (nz os).length = os.length := by simp [nz]
/-- Where the order stands: its set, its last spot, and what is still to come. -/
def At (ps : List (Int × Int)) (k v l : Nat) (os : List Nat) : Prop :=
  0 < v ∧ v < 2 ^ ps.length ∧ l < ps.length ∧ (free ps.length v).length + k + 1 = ps.length ∧ os.length = k + 1 ∧ os ++ GF (dd ps) ps.length (free ps.length v).length v l = 0 :: GF (dd ps) ps.length (ps.length - 1) 1 0
theorem at_start {ps : List (Int × Int)} (hl : ps.length < 8) (h0 : 0 < ps.length) : At ps 0 1 0 [0] := by
  obtain ⟨f1, f2⟩ := free_one ps.length hl h0
  exact ⟨by decide, f2, h0, by omega, rfl, by rw [f1]; rfl⟩
/-- The next spot is the first one through which the rest is shortest. -/
theorem at_next {ps : List (Int × Int)} {k v l q : Nat} {os : List Nat} (hl : ps.length < 8) (h : At ps k v l os) (hq : q < ps.length) (hb : v.testBit q = false) (he : HH (dd ps) ps.length v l q = TT (dd ps) ps.length v l)
    (hno : ∀ y, y < q → v.testBit y = false → HH (dd ps) ps.length v l y ≠ TT (dd ps) ps.length v l) : At ps (k + 1) (v ||| 2 ^ q) q (os ++ [q]) := by
  obtain ⟨a1, a2, a3, a4, a5, a6⟩ := h
  have hm : q ∈ free ps.length v := free_mem.2 ⟨hq, hb⟩
  obtain ⟨x, _, hx, hT, hG, _, hF⟩ := TT_step (d := dd ps) (l := l) hl a2 (List.ne_nil_of_mem hm)
  have exq : x = q := by
    obtain ⟨x1, x2⟩ := free_mem.1 hx
    rcases Nat.lt_trichotomy x q with h | h | h
    · exact absurd hT.symm (hno x h x2)
    · exact h
    · have := hF q hm h
      omega
  subst exq
  obtain ⟨f1, f2, f3⟩ := free_facts ps.length hl v a2 x hq hb
  refine ⟨by omega, f3, hq, by omega, by simp [a5], ?_⟩
  rw [← a6, hG]
  simp
theorem at_some {ps : List (Int × Int)} {k v l : Nat} {os : List Nat} (hl : ps.length < 8) (h : At ps k v l os) (hk : k + 1 < ps.length) : ∃ x, x < ps.length ∧ v.testBit x = false ∧ HH (dd ps) ps.length v l x = TT (dd ps) ps.length v l := by
  obtain ⟨a1, a2, a3, a4, a5, a6⟩ := h
  have hf : free ps.length v ≠ [] := fun e => by rw [e] at a4; simp at a4; omega
  obtain ⟨x, _, hx, hT, _⟩ := TT_step (d := dd ps) (l := l) hl a2 hf
  obtain ⟨x1, x2⟩ := free_mem.1 hx
  exact ⟨x, x1, x2, hT.symm⟩
theorem at_end {ps : List (Int × Int)} {k v l : Nat} {os : List Nat} (h : At ps k v l os) (hk : k + 1 = ps.length) : os = 0 :: GF (dd ps) ps.length (ps.length - 1) 1 0 := by
  obtain ⟨a1, a2, a3, a4, a5, a6⟩ := h
  have hf : (free ps.length v).length = 0 := by omega
  rw [hf] at a6
  simpa [GF] using a6
theorem hh_kept {ps : List (Int × Int)} {R : Nat → Nat → Int} {v l q : Nat} (hl : ps.length < 8) (hv : v < 2 ^ ps.length) (h : Kept ps R 0) (hq : q < ps.length) (hb : v.testBit q = false) : dd ps l q + R (v ||| 2 ^ q) q = HH (dd ps) ps.length v l q := by
  obtain ⟨f1, f2, f3⟩ := free_facts ps.length hl v hv q hq hb
  show _ = dd ps l q + TT (dd ps) ps.length (v ||| 2 ^ q) q
  rw [h _ (by omega) f3 q hq]
theorem own_zero (w : World) : IRow (w.alloc (.cells #[.int .i64 0] 2)) w.heap.size (.slice (some ⟨w.heap.size, 0, none⟩) 1 1) (nz [0]) :=
  World.ownsRow_lit w #[.int .i64 0] 1 (Nat.le_refl _) (by decide) rfl

theorem with_zero (w : World) : Calls Try.prog 50 #[.int .u64 0, .int .i64 0] w fun e w' => e = .returned (.int .u64 1) ∧ w = w' := by simpa using with_any 0 0 w (by decide) (by decide)

theorem through_rel (g v l i : Nat) (u : Value) (R : Nat → Nat → Int) (ps : List (Int × Int)) (W : World) (hT : TourB W g u R) (hD : DAt W W.heap.size u ps) (hR : Small R) (hv : v < 128) (hl : l < ps.length) (hi : i < ps.length) (hn : ps.length ≤ 7) (q : Nat) :
    Calls Try.prog 52 #[.pointer (some ⟨g, 0, none⟩), .int .u64 (v : Int), .int .i64 (l : Int), .int .i64 (i : Int)] (W.drewN q) fun e w' => e = .returned (.int .i64 (dd ps l i + R (v ||| 2 ^ i) i)) ∧ ∃ p, w' = (W.drewN q).drewN p :=
  through_any g v l i u R ps (W.drewN q) (tour_keep hT (below_drawn W q)) (dat_up (dat_keep hD (below_drawn W q)) (Nat.le_refl _)) hR hv hl hi hn

set_option maxRecDepth 100000 in
set_option maxHeartbeats 4000000 in
theorem firstShortest_any (g : Nat) (u : Value) (R : Nat → Nat → Int) (ps : List (Int × Int)) (w : World) (hT : TourB w g u R) (hD : DAt w w.heap.size u ps) (hR : Small R) (hK : Kept ps R 0) (hl : ps.length < 8) (h0 : 0 < ps.length) :
    Calls Try.prog 31 #[.pointer (some ⟨g, 0, none⟩)] w fun e w' => ∃ x, e = .returned (.tuple #[x, .int .i64 (TT (dd ps) ps.length 1 0)]) ∧ IRow w' w.heap.size x (nz (0 :: GF (dd ps) ps.length (ps.length - 1) 1 0)) ∧ Below w.heap.size w w' := by
  obtain ⟨i0, hi, hz0, hz1, hz2⟩ := info_parts info_int
  have hn2 : (ps.length : Int) ≤ 7 := by omega
  have hn3 : 1 ≤ (ps.length : Int) := by omega
  have HD := Lib.hid hD
  obtain ⟨au, cu, rfl, _⟩ := hD
  have HT := Lib.hid hT
  have HK := Lib.hid hK
  have HS := Lib.hid hR
  obtain ⟨tp1, tp2⟩ := two_pow_facts ps.length hl h0
  have A0 := Lib.hid (at_start hl h0)
  have RT := Lib.hid (hK 1 (by decide) (by omega) 0 h0)
  obtain ⟨t0, t1⟩ := TT_bounds ps 1 0 hl
  obtain ⟨W1, hW1⟩ : ∃ W1, Hid (w.alloc (.cells #[.int .i64 0] 2) = W1) := ⟨_, Lib.hid rfl⟩
  have O1 := Lib.hid (show IRow W1 w.heap.size (.slice (some ⟨w.heap.size, 0, none⟩) 1 1) (nz [0]) by rw [← hW1.out]; exact own_zero w)
  have B1 := Lib.hid (show Below w.heap.size w W1 by rw [← hW1.out]; exact (Below.refl _ _).alloc (Nat.le_refl _) _)
  have T1 := Lib.hid (tour_keep HT.out B1.out)
  have tc := tour_cell T1.out
  have c10 := tc.2.2.2 1 0 (by decide) (by decide)
  rw [RT.out] at c10
  have c00 := tc.2.1
  obtain ⟨t, ht⟩ : ∃ t, Hid (TT (dd ps) ps.length 1 0 = t) := ⟨_, Lib.hid rfl⟩
  rw [ht.out] at c10 t0 t1 ⊢
  clear hT hR hK tc
  go_enter Try.func31, Try.ntmps31
  go_wp2
  go_step3
  go_wp2_with fail
  rw [hW1.out]
  refine (with_zero W1).mono ?_
  rintro e w' ⟨rfl, rfl⟩
  have c18 : W1.cell? ⟨g, 8, none⟩ = some (.int .i64 t) := c10
  have hm1 : IntKind.i64.wrap ((ps.length : Int) - 1) = ((ps.length - 1 : Nat) : Int) := by rw [IntWalk.i64_in _ (by omega)]; omega
  have hm2 : (ps.length : Int) - 1 = ((ps.length - 1 : Nat) : Int) := by omega
  clear c10
  go_wp2
  go_step3
  go_wp2
  go_loopg [4, 5, 6, 26] (ps.length - 1) (fun gk u4 xl xv i wr => ∃ (k v l : Nat) (os : List Nat), k + gk = ps.length - 1 ∧ i = .int .i64 (k : Int) ∧ xl = .int .i64 (l : Int) ∧ xv = .int .u64 (v : Int) ∧ IRow wr w.heap.size u4 (nz os) ∧ At ps k v l os ∧ Below w.heap.size w wr)
  case atStart => exact ⟨0, 1, 0, [0], by omega, rfl, rfl, rfl, O1.out, A0.out, B1.out⟩
  case round =>
    obtain ⟨k, v, l, os, hkg, rfl, rfl, rfl, hr, ha, hb⟩ := hrel
    have hsz := hb.size
    have HR := Lib.hid hr
    have HA := Lib.hid ha
    have HB := Lib.hid hb
    have KG := Lib.hid hkg
    clear hr ha hb hkg
    cases gk with
    | zero =>
      have hkz : ¬ ((k : Int) < ((ps.length - 1 : Nat) : Int)) := by have := KG.out; omega
      have OE := Lib.hid (at_end HA.out (by have := KG.out; omega))
      go_wp2
      try rw [Exit.noGoto_ret]
      go_ret2
      exact ⟨_, rfl, by rw [← OE.out]; exact HR.out, HB.out⟩
    | succ gq =>
      have hkz : (k : Int) < ((ps.length - 1 : Nat) : Int) := by have := KG.out; omega
      have kw : IntKind.i64.wrap ((k : Int) + 1) = (k : Int) + 1 := IntWalk.i64_in _ (by omega)
      have TB := Lib.hid (tour_keep HT.out HB.out)
      have DB := Lib.hid (dat_up (dat_keep HD.out HB.out) hsz)
      have c01 := (tour_cell TB.out).2.1
      obtain ⟨a1, a2, a3, _, a5, _⟩ := HA.out
      have A5 := Lib.hid a5
      clear a5
      obtain ⟨W2, rfl⟩ : ∃ W2, W2 = wr := ⟨wr, rfl⟩
      have R2 := Lib.hid (HK.out v a1 a2 l a3)
      obtain ⟨b0, b1⟩ := TT_bounds ps v l hl
      have v7 : v < 128 := by omega
      have c2 := (tour_cell TB.out).2.2.2 v l v7 (by omega)
      rw [R2.out] at c2
      obtain ⟨t2, ht2⟩ : ∃ t, Hid (TT (dd ps) ps.length v l = t) := ⟨_, Lib.hid rfl⟩
      rw [ht2.out] at c2 b0 b1
      have l0 : 0 ≤ (l : Int) := by omega
      have l1 : (l : Int) < (ps.length : Int) := by omega
      have l2 : (l : Int) < 7 := by omega
      have v0 : 0 ≤ (v : Int) := by omega
      have v1' : (v : Int) < 128 := by omega
      have V2 := Lib.hid a2
      have L3 := Lib.hid a3
      clear a1 a2 a3
      go_wp2
      go_loopg [4, 5, 6, 33] ps.length (fun g2 x4 xl xv i2 wr => ∃ (q p : Nat), q + g2 = ps.length ∧ i2 = .int .i64 (q : Int) ∧ x4 = u4 ∧ xl = .int .i64 (l : Int) ∧ xv = .int .u64 (v : Int) ∧ (∀ y, y < q → v.testBit y = false → HH (dd ps) ps.length v l y ≠ TT (dd ps) ps.length v l) ∧ wr = W2.drewN p)
      case atStart => exact ⟨0, 0, by omega, rfl, rfl, rfl, rfl, fun y h => by omega, rfl⟩
      case round =>
        obtain ⟨q, p, hqg, rfl, rfl, rfl, rfl, hno, rfl⟩ := hrel
        have HN := Lib.hid hno
        have QG := Lib.hid hqg
        clear hno hqg
        cases gk with
        | zero =>
          exfalso
          obtain ⟨x, x1, x2, x3⟩ := at_some hl HA.out (by have := KG.out; omega)
          exact HN.out x (by have := QG.out; omega) x2 x3
        | succ g2 =>
          have hlt : q < ps.length := by have := QG.out; omega
          have q0 : 0 ≤ (q : Int) := by omega
          have q1 : (q : Int) < (ps.length : Int) := by omega
          cases hbit : v.testBit q with
          | true =>
            have NX := Lib.hid (show ∀ y, y < q + 1 → v.testBit y = false → HH (dd ps) ps.length v l y ≠ TT (dd ps) ps.length v l from fun y hy hb => by
              by_cases e : y = q
              · subst e; rw [hbit] at hb; cases hb
              · exact HN.out y (by omega) hb)
            have HQB := Lib.hid (show ∀ W : World, Calls Try.prog 51 #[.int .u64 (v : Int), .int .i64 (q : Int)] W fun e w' => e = .returned (.bool true) ∧ W = w' from fun W => by rw [← hbit]; exact has_any v q W v7 (by omega))
            go_wp2_with fail
            go_quiet ((go_at_call 51; exact (HQB.out _).mono fun _ _ h => ⟨h.1, _, h.2.symm⟩))
            all_goals go_wp2
            all_goals go_roundg g2
            all_goals first
              | exact ⟨q + 1, _, by have := QG.out; omega, by go_num, rfl, rfl, rfl, NX.out, rfl⟩
              | omega
          | false =>
            have HQB := Lib.hid (show ∀ W : World, Calls Try.prog 51 #[.int .u64 (v : Int), .int .i64 (q : Int)] W fun e w' => e = .returned (.bool false) ∧ W = w' from fun W => by rw [← hbit]; exact has_any v q W v7 (by omega))
            have HQ := Lib.hid (hh_kept (l := l) hl V2.out HK.out hlt hbit)
            obtain ⟨d, hd⟩ : ∃ d, Hid (HH (dd ps) ps.length v l q = d) := ⟨_, Lib.hid rfl⟩
            rw [hd.out] at HQ
            have THQ := Lib.hid (show ∀ m : Nat, Calls Try.prog 52 #[.pointer (some ⟨g, 0, none⟩), .int .u64 (v : Int), .int .i64 (l : Int), .int .i64 (q : Int)] (W2.drewN m) fun e w' => e = .returned (.int .i64 d) ∧ ∃ p, w' = (W2.drewN m).drewN p from fun m => by rw [← HQ.out]; exact through_rel g v l q _ R ps W2 TB.out DB.out HS.out v7 L3.out hlt (by omega) m)
            by_cases he : d = t2
            · have AN := Lib.hid (at_next hl HA.out hlt hbit (by rw [hd.out, ht2.out]; exact he) HN.out)
              subst he
              obtain ⟨ns, hns⟩ : ∃ ns, Hid (nz os = ns) := ⟨_, Lib.hid rfl⟩
              have NL := Lib.hid (show ns.length = k + 1 by rw [← hns.out, nz_len]; exact A5.out)
              have nl2 : ns.length ≤ 7 := by have := NL.out; have := KG.out; omega
              have HR2 := HR
              rw [hns.out] at HR2
              have SN := Lib.hid (show nz (os ++ [q]) = ns ++ [(q : Int)] by rw [nz_snoc, hns.out])
              go_wp2_with fail
              go_quiet (first | (go_at_call 51; exact (HQB.out _).mono fun _ _ h => ⟨h.1, _, h.2.symm⟩) | (go_at_call 52; exact (THQ.out _).mono fun _ _ ⟨h1, m, h2⟩ => ⟨h1, _, h2.trans (drew_assoc _ _ _ _)⟩))
              obtain ⟨W4, hW4⟩ : ∃ W4, Hid ((W2.drewN p).drewN nq = W4) := ⟨_, Lib.hid rfl⟩
              rw [hW4.out]
              have HR4 := Lib.hid (show IRow W4 w.heap.size u4 ns by rw [← hW4.out]; exact irow_drew (irow_drew HR2.out p) nq)
              have HB4 := Lib.hid (show Below w.heap.size w W4 by rw [← hW4.out]; exact bdq (bdq HB.out p) nq)
              have hz4 := HB4.out.size
              go_wp2_with (first | (at_builtin; refine wpList_append_own _ rfl _ _ 29 rfl (w.heap.size) 2 i0 (.int .i64 0) 1 8 Try.underlying29 hi hz0 hz1 hz2 rfl (by decide) _ ns.length _ rfl (HR4.out.alloc _) ⟨W4.heap.size, 0, none⟩ 1 1 [.int .i64 (q : Int)] rfl rfl (newI _ _ _ (by first | rfl | simp)) (cellI _) (by unfold maxLen; omega) (by omega) (by simp; omega) ?_; intro v1 w1 hown1 hg1 _) | (go_at_call 50; refine (with_any v q _ v7 (by omega)).mono ?_; rintro e w' ⟨rfl, rfl⟩))
              go_roundg gq
              case measure => omega
              case rel => exact ⟨k + 1, v ||| 2 ^ q, q, os ++ [q], by have := KG.out; omega, by go_num, rfl, rfl, by rw [SN.out]; exact snocI hown1, AN.out, (HB4.out.alloc hz4 _).grown hg1 (by simp; omega) (fun j hj => (HR4.out.lt j hj).1)⟩
            · have NX := Lib.hid (show ∀ y, y < q + 1 → v.testBit y = false → HH (dd ps) ps.length v l y ≠ TT (dd ps) ps.length v l from fun y hy hb => by
                by_cases e : y = q
                · subst e; rw [hd.out, ht2.out]; exact he
                · exact HN.out y (by omega) hb)
              have e1 : (d == t2) = false := by simpa using he
              clear he
              go_wp2_with fail
              go_quiet (first | (go_at_call 51; exact (HQB.out _).mono fun _ _ h => ⟨h.1, _, h.2.symm⟩) | (go_at_call 52; exact (THQ.out _).mono fun _ _ ⟨h1, m, h2⟩ => ⟨h1, _, h2.trans (drew_assoc _ _ _ _)⟩))
              all_goals go_wp2
              all_goals go_roundg g2
              all_goals first
                | exact ⟨q + 1, _, by have := QG.out; omega, by go_num, rfl, rfl, rfl, NX.out, rfl⟩
                | omega

end Go.Proofs.Ytkiimdfnobcdpaa.sines
