/- ShortestRoute of the model. -/
import Derived.Test.YtkiimdfnobcdpaaWalkS
namespace Go.Proofs.Ytkiimdfnobcdpaa.sines
open Go.ChangeShapes Go.WideShapes Go.ChangeAt Go.RowKit Go.Proofs.Ytkiimdfnobcdpaa.spots Go.Proofs.Ytkiimdfnobcdpaa.irows Go.Proofs.Ytkiimdfnobcdpaa.pairs Go.Proofs.Ytkiimdfnobcdpaa.trows
theorem inset_one {n : Nat} (hn : n < 8) : InSet n 1 [0] := fun i hi => by
  have : ∀ i : Nat, i < 8 → ((1 : Nat).testBit i = true ↔ i ∈ [0]) := by decide
  exact this i (by omega)
theorem walk_all {ps : List (Int × Int)} (hl : ps.length < 8) (h0 : 0 < ps.length) : walkF (dd ps) ps.length (ps.length - 1) [0] 0 ([], -1) = (0 :: GF (dd ps) ps.length (ps.length - 1) 1 0, TT (dd ps) ps.length 1 0) := by
  obtain ⟨f1, f2⟩ := free_one ps.length hl h0
  have := walkF_eq (d := dd ps) (fun i j => (dd_bounds ps i j).1) hl (ps.length - 1) 1 [0] 0 ([], -1) f2 f1 (inset_one hl) (by omega)
  rw [this, if_pos (.inl (by decide))]
  simp
theorem walk_row {w : World} {B g : Nat} {v : Value} {zs : List Int} (h : IRow w (g + 1) v zs) (hB : B ≤ g + 1) : IRow w B v zs := irow_up h hB

set_option maxRecDepth 100000 in
set_option maxHeartbeats 4000000 in
theorem specShort_any (v : Value) (ps : List (Int × Int)) (w : World) (hv : PAt w w.heap.size v ps) (hl : ps.length ≤ 1048576) :
    Calls Try.prog 19 #[v] w fun e w' => ∃ u, e = .returned (.tuple #[u, .int .i64 (shortL ps), .int .i64 (codeL ps 0 7)]) ∧ IRow w' w.heap.size u (shortV ps) ∧ Below w.heap.size w w' := by
  have HV := Lib.hid hv
  obtain ⟨ar, c, rfl, _⟩ := hv
  by_cases hc : codeL ps 0 7 = 0
  · obtain ⟨k1, k2, k3⟩ := codeL_ok hc
    have HC := Lib.hid hc
    have K1 := Lib.hid k1
    have hl2 : (ps.length : Int) ≤ 7 := by omega
    by_cases hn : ps.length = 0
    · obtain ⟨e1, e2⟩ := short_no (ps := ps) (fun k => by omega)
      rw [e1, e2, hc]
      have hz : (((ps.length : Int)) == 0) = true := by rw [hn]; rfl
      clear hc k1 k2 k3 e1 e2 hn
      go_enter Try.func19, Try.ntmps19
      go_wp2_with fail
      refine (l05Code_any _ ps 0 7 _ HV.out hl).mono ?_
      rw [HC.out]
      rintro e w2 ⟨rfl, hb⟩
      have HB := Lib.hid hb
      clear hb
      go_wp2
      exact bodyPost_ret (v := .tuple #[.slice (some ⟨w2.heap.size, 0, none⟩) 0 0, .int .i64 0, .int .i64 0]) (by simp [results, Try.results19, go_sem]) rfl ⟨_, rfl, irow_made w2 _ HB.out.size, HB.out.alloc HB.out.size _⟩
    · have h0 : 0 < ps.length := by omega
      obtain ⟨e1, e2⟩ := short_yes hc h0
      rw [e1, e2, hc]
      have hz : (((ps.length : Int)) == 0) = false := beq_eq_false_iff_ne.2 (by omega)
      have WA := Lib.hid (walk_all (show ps.length < 8 by omega) h0)
      obtain ⟨T, hT⟩ : ∃ T, Hid (TT (dd ps) ps.length 1 0 = T) := ⟨_, Lib.hid rfl⟩
      obtain ⟨L, hL⟩ : ∃ L, Hid (0 :: GF (dd ps) ps.length (ps.length - 1) 1 0 = L) := ⟨_, Lib.hid rfl⟩
      rw [hT.out, hL.out] at WA
      rw [hT.out, hL.out]
      clear hc k1 k2 k3 e1 e2 hn
      go_enter Try.func19, Try.ntmps19
      go_wp2_with fail
      refine (l05Code_any _ ps 0 7 _ HV.out hl).mono ?_
      rw [HC.out]
      rintro e w2 ⟨rfl, hb⟩
      have HB := Lib.hid hb
      clear hb
      go_wp2_with fail
      refine (l05Table_any _ ps _ (pat_up (pat_keep HV.out HB.out) HB.out.size) (by omega) K1.out).mono ?_
      rintro e w3 ⟨u, rfl, hr, hb⟩
      have HB2 := Lib.hid (HB.out.trans (hb.mono HB.out.size))
      have HD := Lib.hid (dat_of (trow_at hr))
      obtain ⟨at_, ct, rfl⟩ := (show ∃ a c, u = .slice a ps.length c from by obtain ⟨a, c, e, _⟩ := dat_of (trow_at hr); exact ⟨a, c, e⟩)
      clear hb hr
      obtain ⟨g, hg⟩ : ∃ g, Hid (w3.heap.size = g) := ⟨_, Lib.hid rfl⟩
      obtain ⟨W4, hW4⟩ : ∃ W4, Hid (w3.alloc (.cells #[.slice at_ ps.length ct, .slice none 0 0, .int .i64 (-1)] 73) = W4) := ⟨_, Lib.hid rfl⟩
      have Z4 := Lib.hid (show W4.heap.size = g + 1 by rw [← hW4.out, ← hg.out]; simp)
      have B4 := Lib.hid (show Below g w3 W4 by rw [← hW4.out, ← hg.out]; exact (Below.refl _ _).alloc (Nat.le_refl _) _)
      have S4 := Lib.hid (show WSt W4 g (.slice at_ ps.length ct) (.slice none 0 0) [] (-1) from ⟨by rw [← hW4.out, ← hg.out]; exact heap_alloc_new w3 _, irow_nil _ _⟩)
      obtain ⟨W5, hW5⟩ : ∃ W5, Hid (W4.alloc (.cells #[.int .i64 0] 2) = W5) := ⟨_, Lib.hid rfl⟩
      have B5 := Lib.hid (show Below W4.heap.size W4 W5 by rw [← hW5.out]; exact (Below.refl _ _).alloc (Nat.le_refl _) _)
      have O5 := Lib.hid (show IRow W5 (g + 1) (.slice (some ⟨g + 1, 0, none⟩) 1 1) (nz [0]) from by
        have := own_zero W4
        rw [hW5.out, Z4.out] at this
        exact this)
      have S5 := Lib.hid (wst_keep S4.out B5.out)
      have D5 := Lib.hid (show DAt W5 g (.slice at_ ps.length ct) ps from dat_keep (dat_keep (by rw [← hg.out]; exact HD.out) B4.out) (B5.out.mono (by rw [Z4.out]; omega)))
      have HB5 := Lib.hid (show Below w.heap.size w W5 from (HB2.out.trans (B4.out.mono (by rw [← hg.out]; exact HB2.out.size))).trans (B5.out.mono (by rw [Z4.out, ← hg.out]; have := HB2.out.size; omega)))
      have gz : w.heap.size ≤ g := by rw [← hg.out]; exact HB2.out.size
      go_wp2_with fail
      rw [hg.out, hW4.out, hW5.out]
      refine (walk_any g _ ps (by omega) (ps.length - 1) [0] [] 0 (-1) (.slice (some ⟨g + 1, 0, none⟩) 1 1) _ W5 S5.out O5.out D5.out (by simp) (by simp; omega) (fun i hi => by rw [List.mem_singleton.1 hi]; exact h0) (by omega) (by simp)).mono ?_
      rw [WA.out]
      rintro e w6 ⟨⟨r, rfl⟩, vb, hst, hgr⟩
      have HB6 := Lib.hid (HB5.out.grown hgr HB5.out.size (fun k hk => by cases hk; exact gz))
      obtain ⟨q0, _, q1, q2, _⟩ := wst_cells hst
      obtain ⟨⟨ab, cb, rfl⟩, _⟩ := irow_shape hst.2
      have RB := Lib.hid (irow_up hst.2 (show w.heap.size ≤ g + 1 by omega))
      clear hst hgr
      go_wp2
      go_quiet (fail)
      all_goals go_wp2
      all_goals exact bodyPost_ret (v := .tuple #[.slice ab (nz L).length cb, .int .i64 T, .int .i64 0]) (by simp [results, Try.results19, go_sem]) rfl ⟨_, rfl, irow_drew RB.out _, bdq HB6.out _⟩
  · obtain ⟨e1, e2⟩ := short_no (ps := ps) (fun k => hc k.1)
    rw [e1, e2]
    obtain ⟨C, HC⟩ : ∃ C, Hid (codeL ps 0 7 = C) := ⟨_, Lib.hid rfl⟩
    rw [HC.out] at hc ⊢
    have hc1 : (C != 0) = true := by simpa using hc
    clear hc e1 e2
    go_enter Try.func19, Try.ntmps19
    go_wp2_with fail
    refine (l05Code_any _ ps 0 7 _ HV.out hl).mono ?_
    rw [HC.out]
    rintro e w2 ⟨rfl, hb⟩
    have HB := Lib.hid hb
    clear hb
    go_wp2
    exact bodyPost_ret (v := .tuple #[.slice none 0 0, .int .i64 0, .int .i64 C]) (by simp [results, Try.results19, go_sem]) rfl ⟨_, rfl, irow_nil _ _, HB.out⟩

theorem GF_len (d : Nat → Nat → Int) (n : Nat) : ∀ k v l, (GF d n k v l).length ≤ k
  | 0, _, _ => Nat.le_refl _
  | k + 1, v, l => by
    unfold GF
    split
    · have := GF_len d n k
      simp
      exact this _ _
    · simp
theorem shortV_len (ps : List (Int × Int)) : (shortV ps).length ≤ ps.length := by
  unfold shortV
  split
  · rename_i h
    have h2 : 0 < ps.length := by simp [shortOk] at h; omega
    have := GF_len (dd ps) ps.length (ps.length - 1) 1 0
    rw [nz_len, List.length_cons]
    omega
  · simp

end Go.Proofs.Ytkiimdfnobcdpaa.sines
