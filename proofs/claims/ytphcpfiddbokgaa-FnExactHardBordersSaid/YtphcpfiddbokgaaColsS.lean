/- The model's search for colours: one land more. -/
import Derived.Test.YtphcpfiddbokgaaColsR
namespace Go.Proofs.Ytphcpfiddbokgaa.sines
open Go.ChangeShapes Go.WideShapes Go.ChangeAt Go.RowKit Go.Proofs.Ytphcpfiddbokgaa.spots Go.Proofs.Ytphcpfiddbokgaa.irows Go.Proofs.Ytphcpfiddbokgaa.pairsBorder
set_option linter.unusedSimpArgs false
set_option linter.unusedVariables false

/-- What the walk leaves. -/
def PostW (w : World) (g : Nat) (n : Int) (lv : Value) (m : Int) (vo : Value) (cs : List Int) (R : Option (List Int)) (w' : World) : Prop :=
  IRow w' (g + 1) vo cs ∧ Off w w' g vo.ownBlock ∧ (R = none → CSt w' g n lv m (.slice none 0 0) false) ∧ ∀ zs, R = some zs → ∃ fv, CSt w' g n lv m fv true ∧ IRow w' (g + 1) fv zs
/-- The search among the first k colours. -/
def upTo (F : Nat → Option (List Int)) (k : Nat) : Option (List Int) := (List.range k).findSome? F
theorem upTo_none {F : Nat → Option (List Int)} {k : Nat} (h : upTo F k = none) : upTo F (k + 1) = F k := by
  unfold upTo at *
  rw [List.range_succ, List.findSome?_append, h]
  simp
theorem upTo_some {F : Nat → Option (List Int)} {k : Nat} {zs : List Int} (h : upTo F k = some zs) : ∀ d, upTo F (k + d) = some zs
  | 0 => h
  | d + 1 => by
    have := upTo_some h d
    unfold upTo at *
    rw [show k + (d + 1) = (k + d) + 1 by omega, List.range_succ, List.findSome?_append, this]
    rfl
theorem row_shrink {w1 w2 : World} {B : Nat} {v v1 : Value} {cs : List Int} {x : Int} (h : IRow w1 B v cs) (h1 : IRow w1 B v1 (cs ++ [x])) (h2 : IRow w2 B v1 (cs ++ [x])) (hb : v1.ownBlock = v.ownBlock) : IRow w2 B v cs := by
  refine ⟨h.1, ?_⟩
  rcases h.2 with ⟨e1, e2⟩ | ⟨b, cap, cur, rfl, hB, hc, hn, hm, hs, ht⟩
  · exact .inl ⟨e1, e2⟩
  · rcases h1.2 with ⟨e1, e2⟩ | ⟨b1, cap1, cur1, rfl, hB1, hc1, hn1, hm1, hs1, ht1⟩
    · simp at e2
    · obtain rfl : b1 = b := by simpa [Value.ownBlock] using hb
      rw [hc] at hc1
      obtain rfl : cur = cur1 := by simpa using hc1
      rcases h2.2 with ⟨e1, e2⟩ | ⟨b2, cap2, cur2, e, hB2, hc2, hn2, hm2, hs2, ht2⟩
      · simp at e2
      · simp at e
        obtain ⟨rfl, rfl⟩ := e
        refine .inr ⟨b1, cap, cur2, rfl, hB, hc2, hn, hm, by omega, ?_⟩
        have := congrArg (List.take (cs.length * 1)) ht2
        rw [List.take_take] at this
        simp only [ints, List.map_append, List.length_append, List.length_cons, List.length_nil] at this ⊢
        rw [show min (cs.length * 1) ((cs.length + (0 + 1)) * 1) = cs.length * 1 by omega] at this
        rw [this, List.take_append_of_le_length (by simp), List.take_of_length_le (by simp)]
theorem own_lt {w : World} {g : Nat} {v : Value} {zs : List Int} (h : IRow w (g + 1) v zs) : ∀ b, v.ownBlock = some b → g ≤ b ∧ b < w.heap.size := fun b e => by have := World.ownsRow.lt h b e; omega

set_option maxRecDepth 100000 in
set_option maxHeartbeats 8000000 in
theorem walk9_succ (g N M r : Nat) (lv : Value) (ps : List (Int × Int)) (hN : N ≤ 10) (hM : M ≤ 10) (hl : ps.length ≤ 30) (hp : ∀ i, i < ps.length → 0 ≤ (bAt ps i).1 ∧ (bAt ps i).1 < (bAt ps i).2)
    (ih : ∀ (cs : List Int) (vo : Value) (w : World), CSt w g N lv M (.slice none 0 0) false → IRow w (g + 1) vo cs → PAt w g lv ps → cs.length + r = N →
      Calls Try.prog 54 #[.pointer (some ⟨g, 0, none⟩), vo] w fun e w' => (∃ x, e = .returned x) ∧ PostW w g N lv M vo cs (search ps M r cs) w')
    (cs : List Int) (vo : Value) (w : World) (h1 : CSt w g N lv M (.slice none 0 0) false) (h2 : IRow w (g + 1) vo cs) (h3 : PAt w g lv ps) (h4 : cs.length + (r + 1) = N) :
    Calls Try.prog 54 #[.pointer (some ⟨g, 0, none⟩), vo] w fun e w' => (∃ x, e = .returned x) ∧ PostW w g N lv M vo cs (search ps M (r + 1) cs) w' := by
  obtain ⟨i0, hi, hz0, hz1, hz2⟩ := info_parts info_int
  obtain ⟨g0, c0, c1, c2, c3, c4, fz⟩ := cst_cells h1
  have H1 := Lib.hid h1
  have H2 := Lib.hid h2
  have H3 := Lib.hid h3
  have HP := Lib.hid hp
  have IH := Lib.hid ih
  obtain ⟨F, hF⟩ : ∃ F : Nat → Option (List Int), Hid ((fun (c : Nat) => if freeC ps cs c = true then search ps M r (cs ++ [(c : Int)]) else none) = F) := ⟨_, Lib.hid rfl⟩
  have EE := Lib.hid (show search ps M (r + 1) cs = upTo F M by rw [← hF.out]; rfl)
  rw [EE.out]
  obtain ⟨⟨ao, co, rfl⟩, _⟩ := irow_shape h2
  have hq : ((cs.length : Int) == (N : Int)) = false := beq_eq_false_iff_ne.2 (by omega)
  have hM0 : (M : Int) ≤ 10 := by omega
  clear h1 h2 h3 hp ih c1 c2 c3 c4 fz
  go_enter Try.func54, Try.ntmps54
  go_wp2
  go_loopw [4] (fun i wr => ∃ k : Nat, k ≤ M ∧ i = .int .i64 (k : Int) ∧ PostW w g N lv M (.slice ao cs.length co) cs (upTo F k) wr) (fun i _ => M - (intOf i).toNat)
  case atStart => exact ⟨0, Nat.zero_le _, rfl, H2.out, off_refl _ _ _, fun _ => H1.out, fun zs h => by simp [upTo] at h⟩
  case round =>
    obtain ⟨k, hk, rfl, hro, hof, hno, hso⟩ := hrel
    have RO := Lib.hid hro
    have OF := Lib.hid hof
    have hk0 : 0 ≤ (k : Int) := by omega
    cases hS : upTo F k with
    | some zs =>
      obtain ⟨fv, hst, hfr⟩ := hso zs hS
      have ST := Lib.hid hst
      have FR := Lib.hid hfr
      obtain ⟨_, _, _, d2, _, d4, _⟩ := cst_cells hst
      have SM := Lib.hid (show upTo F M = some zs by have := upTo_some hS (M - k); rwa [show k + (M - k) = M by omega] at this)
      have PM := Lib.hid (show PostW w g N lv M (.slice ao cs.length co) cs (upTo F M) wr from ⟨RO.out, OF.out, fun h => (by rw [SM.out] at h; cases h), fun ys h => (by rw [SM.out] at h; cases h; exact ⟨fv, ST.out, FR.out⟩)⟩)
      clear hro hof hno hso hst hfr
      by_cases hlt : k < M
      · have hk1 : (k : Int) < (M : Int) := by omega
        go_wp2
        exact bodyPost_end (v := .tuple #[]) (by simp [results, Try.results54, go_sem]) rfl ⟨⟨_, rfl⟩, PM.out⟩
      · obtain rfl : k = M := by omega
        go_wp2
        exact bodyPost_end (v := .tuple #[]) (by simp [results, Try.results54, go_sem]) rfl ⟨⟨_, rfl⟩, PM.out⟩
    | none =>
      have hst := hno hS
      have ST := Lib.hid hst
      obtain ⟨gr, d0, d1, d2, d3, d4, _⟩ := cst_cells hst
      have PT := Lib.hid (pat_keep H3.out (off_below OF.out (Nat.le_of_lt g0) (fun b e => (own_lt H2.out b e).1)))
      have NS := Lib.hid (upTo_none hS)
      clear hro hof hno hso hst
      by_cases hlt : k < M
      · have hk1 : (k : Int) < (M : Int) := by omega
        have kw : IntKind.i64.wrap ((k : Int) + 1) = (k : Int) + 1 := IntWalk.i64_in _ (by omega)
        go_wp2_with fail
        refine (free_any g _ _ ps cs (k : Int) _ d1 (pat_up PT.out (Nat.le_of_lt gr)) (iat_of_row RO.out) hl (by omega) HP.out).mono ?_
        cases hf : freeC ps cs (k : Int) with
        | false =>
          rintro e w' ⟨rfl, rfl⟩
          have NN := Lib.hid (show upTo F (k + 1) = none by rw [NS.out, ← hF.out]; simp [hf])
          go_wp2
          go_roundw
          case rel => exact ⟨k + 1, by omega, by go_num, RO.out, OF.out, fun _ => ST.out, fun ys h => by rw [NN.out] at h; cases h⟩
          case measure => simp [intOf]; omega
        | true =>
          rintro e w' ⟨rfl, rfl⟩
          have NN := Lib.hid (show upTo F (k + 1) = search ps M r (cs ++ [(k : Int)]) by rw [NS.out, ← hF.out]; simp [hf])
          have gb := (own_lt RO.out)
          go_wp2_with (at_builtin; refine wpList_append_keep _ rfl _ _ 29 rfl (g + 1) 2 i0 (.int .i64 0) Try.underlying29 hi hz0 (by rw [hz1]; rfl) (by rw [hz1]; decide) _ cs.length _ rfl (by rw [hz1]; exact RO.out.alloc _) ⟨wr.heap.size, 0, none⟩ 1 1 [.int .i64 (k : Int)] rfl (by rw [hz1]; rfl) (newI _ _ _ rfl) (cellI _) (by unfold maxLen; omega) (by rw [hz2]; omega) (by simp; omega) ?_; intro v1 w1 hown1 hold1 hg1 hat)
          rw [hz1] at hown1 hold1
          have I1 := Lib.hid (snocI hown1)
          have O1 := Lib.hid (show IRow w1 (g + 1) (.slice ao cs.length co) cs from hold1)
          have HG1 := Lib.hid (show Off wr w1 g (Value.slice ao cs.length co).ownBlock from off_trans (off_new ((Below.refl _ _).alloc (Nat.le_refl _) _)) (off_grown hg1) (.inl rfl))
          have S1 := Lib.hid (show CSt w1 g N lv M (.slice none 0 0) false by
            unfold CSt
            rw [hg1.block g (by simp; omega) (fun e => by have := (own_lt RO.out g e.symm).1; have h9 := (World.ownsRow.lt RO.out g e.symm).1; omega), heap_alloc_old wr _ gr]
            exact ST.out)
          have P1 := Lib.hid (pat_keep PT.out (off_below HG1.out (Nat.le_of_lt gr) (fun b e => (own_lt RO.out b e).1)))
          have HAT := Lib.hid (show v1.ownBlock = (Value.slice ao cs.length co).ownBlock ∨ v1.ownBlock = some (wr.heap.size + 1) by
            rcases hat with e | e
            · exact .inl e
            · exact .inr (by simpa using e))
          clear hown1 hold1 hg1 hat d0 d1 d2 d3 d4
          refine (IH.out (cs ++ [(k : Int)]) v1 w1 S1.out I1.out P1.out (by simp; omega)).mono ?_
          rintro e w2 ⟨⟨x, rfl⟩, q1, q2, q3, q4⟩
          have Q1 := Lib.hid (show IRow w2 (g + 1) (.slice ao cs.length co) cs from by
            rcases HAT.out with e | e
            · exact row_shrink O1.out I1.out q1 e
            · refine row_far O1.out q2 (.inr fun h => ?_)
              have := (own_lt RO.out (wr.heap.size + 1) (h.trans e)).2
              omega)
          have Q2 := Lib.hid (show Off w w2 g (Value.slice ao cs.length co).ownBlock from off_trans OF.out (off_trans HG1.out q2 (by
            rcases HAT.out with e | e
            · exact .inl e
            · exact .inr ⟨_, e, by omega⟩)) (.inl rfl))
          have Q3 := Lib.hid q3
          have Q4 := Lib.hid q4
          clear q1 q2 q3 q4
          go_wp2
          go_roundw
          case rel => exact ⟨k + 1, by omega, by go_num, Q1.out, Q2.out, fun h => Q3.out (by rw [← NN.out]; exact h), fun ys h => Q4.out ys (by rw [← NN.out]; exact h)⟩
          case measure => simp [intOf]; omega
      · obtain rfl : k = M := by omega
        go_wp2
        exact bodyPost_end (v := .tuple #[]) (by simp [results, Try.results54, go_sem]) rfl ⟨⟨_, rfl⟩, RO.out, OF.out, fun _ => ST.out, fun ys h => by rw [hS] at h; cases h⟩

theorem walk9_any (g N M : Nat) (lv : Value) (ps : List (Int × Int)) (hN : N ≤ 10) (hN0 : 0 < N) (hM : M ≤ 10) (hl : ps.length ≤ 30) (hp : ∀ i, i < ps.length → 0 ≤ (bAt ps i).1 ∧ (bAt ps i).1 < (bAt ps i).2) :
    ∀ (r : Nat) (cs : List Int) (vo : Value) (w : World), CSt w g N lv M (.slice none 0 0) false → IRow w (g + 1) vo cs → PAt w g lv ps → cs.length + r = N →
      Calls Try.prog 54 #[.pointer (some ⟨g, 0, none⟩), vo] w fun e w' => (∃ x, e = .returned x) ∧ PostW w g N lv M vo cs (search ps M r cs) w'
  | 0, cs, vo, w, h1, h2, h3, h4 => (walk9_zero g N M lv vo cs w h1 h2 (by omega) (by omega) (by omega)).mono fun _ _ ⟨a, b, c, fv, d1, d2⟩ => ⟨a, b, c, fun h => by simp [search] at h, fun zs h => by simp only [search, Option.some.injEq] at h; subst h; exact ⟨fv, d1, d2⟩⟩
  | r + 1, cs, vo, w, h1, h2, h3, h4 => walk9_succ g N M r lv ps hN hM hl hp (walk9_any g N M lv ps hN hN0 hM hl hp r) cs vo w h1 h2 h3 h4
end Go.Proofs.Ytphcpfiddbokgaa.sines
