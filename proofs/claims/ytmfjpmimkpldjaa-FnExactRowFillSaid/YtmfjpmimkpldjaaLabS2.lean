/- The model's labels: overlaps: contracts. -/
import Derived.Test.YtmfjpmimkpldjaaLabS1
import Derived.Deep.RegionHeld3
namespace Go.Proofs.Ytmfjpmimkpldjaa.ltab
open Go.ChangeShapes Go.WideShapes Go.ChangeAt Go.RowKit Go.Proofs.Ytmfjpmimkpldjaa.irows Go.Proofs.Ytmfjpmimkpldjaa.sines
set_option linter.unusedSimpArgs false
set_option linter.unusedVariables false

def meetL (p q : Lb) (x y : Int) : Bool := decide (p.1 = q.1) && (decide (x < y + q.2.1) && decide (y < x + p.2.1))
def codeM2 (p q : Lb) (x y : Int) : Int := if (oneL p && oneL q) = false then 1 else if (inB x 0 1000 && inB y 0 1000) = false then 2 else 0
def valM2 (p q : Lb) (x y : Int) : Bool := if codeM2 p q x y = 0 then meetL p q x y else false
theorem ret2L {a c : Bool} {b d : Int} (h : a = c) (k : b = d) : Ending.returned (.tuple #[.bool a, .int .i64 b]) = .returned (.tuple #[.bool c, .int .i64 d]) := by rw [h, k]
set_option maxRecDepth 100000 in
set_option maxHeartbeats 1000000 in
theorem l11Meet_any (ba oa bb ob : Nat) (p q : Lb) (x y : Int) (w : World) (hp : LCell w w.heap.size ba oa p) (hq : LCell w w.heap.size bb ob q) (x0 : 0 ≤ x) (x1 : x ≤ 1000) (y0 : 0 ≤ y) (y1 : y ≤ 1000) (p0 : 1 ≤ p.2.1) (p1 : p.2.1 ≤ 1000) (q0 : 1 ≤ q.2.1) (q1 : q.2.1 ≤ 1000) :
    Calls Try.prog 109 #[.pointer (some ⟨ba, oa, none⟩), .pointer (some ⟨bb, ob, none⟩), .int .i64 x, .int .i64 y] w fun e w' => e = .returned (.bool (meetL p q x y)) ∧ ∃ n, w' = w.drewN n := by
  obtain ⟨va, a1, a2, _, _, _, _⟩ := hp
  obtain ⟨vb, b1, b2, _, _, _, _⟩ := hq
  obtain ⟨r, wd, zs, t⟩ := p
  obtain ⟨r', wd', zs', t'⟩ := q
  simp only at a1 a2 b1 b2 p0 p1 q0 q1
  have k1 : IntKind.i64.wrap (y + wd') = y + wd' := IntWalk.i64_in _ (by omega)
  have k2 : IntKind.i64.wrap (x + wd) = x + wd := IntWalk.i64_in _ (by omega)
  have E : meetL (r, wd, zs, t) (r', wd', zs', t') x y = (decide (r = r') && (decide (x < y + wd') && decide (y < x + wd))) := rfl
  rw [E]
  clear E
  by_cases h1 : r = r'
  · subst h1
    by_cases h2 : x < y + wd'
    · by_cases h3 : y < x + wd
      · have d2 : decide (x < y + wd') = true := by simpa using h2
        have d3 : decide (y < x + wd) = true := by simpa using h3
        rw [d2, d3]
        go_enter Try.func109, Try.ntmps109
        go_wp2_with fail
        go_quiet (fail)
        all_goals
          go_wp2
          go_ret
          exact ⟨by first | rfl | simp, _, rfl⟩
      · have d2 : decide (x < y + wd') = true := by simpa using h2
        have d3 : decide (y < x + wd) = false := by simpa using h3
        rw [d2, d3]
        go_enter Try.func109, Try.ntmps109
        go_wp2_with fail
        go_quiet (fail)
        all_goals
          go_wp2
          go_ret
          exact ⟨by first | rfl | simp, _, rfl⟩
    · have d2 : decide (x < y + wd') = false := by simpa using h2
      rw [d2]
      go_enter Try.func109, Try.ntmps109
      go_wp2_with fail
      go_quiet (fail)
      all_goals
        go_wp2
        go_ret
        exact ⟨by first | rfl | simp, _, rfl⟩
  · have d1 : decide (r = r') = false := by simpa using h1
    have d1' : (r == r') = false := by simpa using h1
    rw [d1]
    go_enter Try.func109, Try.ntmps109
    go_wp2_with fail
    go_quiet (fail)
    all_goals
      go_wp2
      go_ret
      exact ⟨by first | rfl | simp, _, rfl⟩
set_option maxRecDepth 100000 in
set_option maxHeartbeats 2000000 in
theorem specLabelsMeet_any (p q : Lb) (va vb : Value) (x y : Int) (w : World) (ha : IAt w w.heap.size va p.2.2.1) (ca : CapL va) (hb : IAt w w.heap.size vb q.2.2.1) (cb : CapL vb) (hp : p.2.2.1.length ≤ 1048576) (hq : q.2.2.1.length ≤ 1048576) :
    Calls Try.prog 52 #[.agg #[.int .i64 p.1, .int .i64 p.2.1, va, .int .i64 p.2.2.2], .agg #[.int .i64 q.1, .int .i64 q.2.1, vb, .int .i64 q.2.2.2], .int .i64 x, .int .i64 y] w fun e w' => e = .returned (.tuple #[.bool (valM2 p q x y), .int .i64 (codeM2 p q x y)]) ∧ Below w.heap.size w w' := by
  have BW : Below w.heap.size w ((w.alloc (.cells #[.int .i64 p.1, .int .i64 p.2.1, va, .int .i64 p.2.2.2] 36)).alloc (.cells #[.int .i64 q.1, .int .i64 q.2.1, vb, .int .i64 q.2.2.2] 36)) := ((Below.refl _ _).alloc (Nat.le_refl _) _).alloc (by simp) _
  have CA : LCell ((w.alloc (.cells #[.int .i64 p.1, .int .i64 p.2.1, va, .int .i64 p.2.2.2] 36)).alloc (.cells #[.int .i64 q.1, .int .i64 q.2.1, vb, .int .i64 q.2.2.2] 36)) ((w.alloc (.cells #[.int .i64 p.1, .int .i64 p.2.1, va, .int .i64 p.2.2.2] 36)).alloc (.cells #[.int .i64 q.1, .int .i64 q.2.1, vb, .int .i64 q.2.2.2] 36)).heap.size w.heap.size 0 p := ⟨va, by simp [go_sem], by simp [go_sem], by simp [go_sem], by simp [go_sem], iat_up (iat_keep ha BW) BW.size, ca⟩
  have CB : LCell ((w.alloc (.cells #[.int .i64 p.1, .int .i64 p.2.1, va, .int .i64 p.2.2.2] 36)).alloc (.cells #[.int .i64 q.1, .int .i64 q.2.1, vb, .int .i64 q.2.2.2] 36)) ((w.alloc (.cells #[.int .i64 p.1, .int .i64 p.2.1, va, .int .i64 p.2.2.2] 36)).alloc (.cells #[.int .i64 q.1, .int .i64 q.2.1, vb, .int .i64 q.2.2.2] 36)).heap.size (w.heap.size + 1) 0 q := ⟨vb, by simp [go_sem], by simp [go_sem], by simp [go_sem], by simp [go_sem], iat_up (iat_keep hb BW) BW.size, cb⟩
  have HBW := Lib.hid BW
  have HCA := Lib.hid CA
  have HCB := Lib.hid CB
  clear BW CA CB ha hb ca cb
  obtain ⟨o1, h1⟩ : ∃ c, oneL p = c := ⟨_, rfl⟩
  obtain ⟨o2, h2⟩ : ∃ c, oneL q = c := ⟨_, rfl⟩
  obtain ⟨i1, h3⟩ : ∃ c, inB x 0 1000 = c := ⟨_, rfl⟩
  obtain ⟨i2, h4⟩ : ∃ c, inB y 0 1000 = c := ⟨_, rfl⟩
  have EC := Lib.hid (show codeM2 p q x y = if (o1 && o2) = false then 1 else if (i1 && i2) = false then 2 else 0 by unfold codeM2; rw [h1, h2, h3, h4])
  have EV := Lib.hid (show valM2 p q x y = if codeM2 p q x y = 0 then meetL p q x y else false from rfl)
  have H1 := Lib.hid h1
  have H2 := Lib.hid h2
  cases o1 with
  | false =>
    have ZC := Lib.hid (show codeM2 p q x y = 1 by rw [EC.out]; rfl)
    have ZV := Lib.hid (show valM2 p q x y = false by rw [EV.out, ZC.out]; rfl)
    rw [ZV.out, ZC.out]
    go_enter Try.func52, Try.ntmps52
    go_wp2_with fail
    generalize ((w.alloc (.cells #[.int .i64 p.1, .int .i64 p.2.1, va, .int .i64 p.2.2.2] 36)).alloc (.cells #[.int .i64 q.1, .int .i64 q.2.1, vb, .int .i64 q.2.2.2] 36)) = W at HBW HCA HCB ⊢
    refine (l11One_any _ _ p W HCA.out hp).mono ?_
    rw [H1.out]
    rintro e w1 ⟨rfl, n1, rfl⟩
    go_wp2
    exact bodyPost_ret (v := .tuple #[.bool false, .int .i64 1]) (by simp [results, Try.results52, go_sem]) rfl ⟨rfl, by repeat (first | exact HBW.out | refine bdr ?_ _)⟩
  | true =>
    cases o2 with
    | false =>
      have ZC := Lib.hid (show codeM2 p q x y = 1 by rw [EC.out]; rfl)
      have ZV := Lib.hid (show valM2 p q x y = false by rw [EV.out, ZC.out]; rfl)
      rw [ZV.out, ZC.out]
      go_enter Try.func52, Try.ntmps52
      go_wp2_with fail
      generalize ((w.alloc (.cells #[.int .i64 p.1, .int .i64 p.2.1, va, .int .i64 p.2.2.2] 36)).alloc (.cells #[.int .i64 q.1, .int .i64 q.2.1, vb, .int .i64 q.2.2.2] 36)) = W at HBW HCA HCB ⊢
      refine (l11One_any _ _ p W HCA.out hp).mono ?_
      rw [H1.out]
      rintro e w1 ⟨rfl, n1, rfl⟩
      go_wp2_with fail
      refine (l11One_any _ _ q (W.drewN n1) (lcell_keep HCB.out (bdr (Below.refl _ _) _) (by have := World.block_lt_of_cell? _ _ HCB.out.choose_spec.1; simpa using this)) hq).mono ?_
      rw [H2.out]
      rintro e w1 ⟨rfl, n2, rfl⟩
      go_wp2
      exact bodyPost_ret (v := .tuple #[.bool false, .int .i64 1]) (by simp [results, Try.results52, go_sem]) rfl ⟨rfl, by repeat (first | exact HBW.out | refine bdr ?_ _)⟩
    | true =>
      cases i1 with
      | false =>
        have ZC := Lib.hid (show codeM2 p q x y = 2 by rw [EC.out]; rfl)
        have ZV := Lib.hid (show valM2 p q x y = false by rw [EV.out, ZC.out]; rfl)
        rw [ZV.out, ZC.out]
        go_enter Try.func52, Try.ntmps52
        go_wp2_with fail
        generalize ((w.alloc (.cells #[.int .i64 p.1, .int .i64 p.2.1, va, .int .i64 p.2.2.2] 36)).alloc (.cells #[.int .i64 q.1, .int .i64 q.2.1, vb, .int .i64 q.2.2.2] 36)) = W at HBW HCA HCB ⊢
        refine (l11One_any _ _ p W HCA.out hp).mono ?_
        rw [H1.out]
        rintro e w1 ⟨rfl, n1, rfl⟩
        go_wp2_with fail
        refine (l11One_any _ _ q (W.drewN n1) (lcell_keep HCB.out (bdr (Below.refl _ _) _) (by have := World.block_lt_of_cell? _ _ HCB.out.choose_spec.1; simpa using this)) hq).mono ?_
        rw [H2.out]
        rintro e w1 ⟨rfl, n2, rfl⟩
        go_wp2_with fail
        refine (l00InL _ h3).mono ?_
        rintro e w1 ⟨rfl, rfl⟩
        go_wp2
        exact bodyPost_ret (v := .tuple #[.bool false, .int .i64 2]) (by simp [results, Try.results52, go_sem]) rfl ⟨rfl, by repeat (first | exact HBW.out | refine bdr ?_ _)⟩
      | true =>
        cases i2 with
        | false =>
          have ZC := Lib.hid (show codeM2 p q x y = 2 by rw [EC.out]; rfl)
          have ZV := Lib.hid (show valM2 p q x y = false by rw [EV.out, ZC.out]; rfl)
          rw [ZV.out, ZC.out]
          go_enter Try.func52, Try.ntmps52
          go_wp2_with fail
          generalize ((w.alloc (.cells #[.int .i64 p.1, .int .i64 p.2.1, va, .int .i64 p.2.2.2] 36)).alloc (.cells #[.int .i64 q.1, .int .i64 q.2.1, vb, .int .i64 q.2.2.2] 36)) = W at HBW HCA HCB ⊢
          refine (l11One_any _ _ p W HCA.out hp).mono ?_
          rw [H1.out]
          rintro e w1 ⟨rfl, n1, rfl⟩
          go_wp2_with fail
          refine (l11One_any _ _ q (W.drewN n1) (lcell_keep HCB.out (bdr (Below.refl _ _) _) (by have := World.block_lt_of_cell? _ _ HCB.out.choose_spec.1; simpa using this)) hq).mono ?_
          rw [H2.out]
          rintro e w1 ⟨rfl, n2, rfl⟩
          go_wp2_with fail
          refine (l00InL _ h3).mono ?_
          rintro e w1 ⟨rfl, rfl⟩
          go_wp2_with fail
          refine (l00InL _ h4).mono ?_
          rintro e w1 ⟨rfl, rfl⟩
          go_wp2
          exact bodyPost_ret (v := .tuple #[.bool false, .int .i64 2]) (by simp [results, Try.results52, go_sem]) rfl ⟨rfl, by repeat (first | exact HBW.out | refine bdr ?_ _)⟩
        | true =>
          have F1 := oneL_facts H1.out
          have F2 := oneL_facts H2.out
          have G3 := inB_of h3
          have G4 := inB_of h4
          have MT := Lib.hid (fun W hA hB => l11Meet_any w.heap.size 0 (w.heap.size + 1) 0 p q x y W hA hB G3.1 G3.2 G4.1 G4.2 F1.2.2.1.1 F1.2.2.1.2 F2.2.2.1.1 F2.2.2.1.2)
          have ZC := Lib.hid (show codeM2 p q x y = 0 by rw [EC.out]; rfl)
          have ZV := Lib.hid (show valM2 p q x y = meetL p q x y by rw [EV.out, ZC.out]; rfl)
          rw [ZV.out, ZC.out]
          clear ZV ZC EV EC
          generalize meetL p q x y = m at MT ⊢
          clear F1 F2 G3 G4
          go_enter Try.func52, Try.ntmps52
          go_wp2_with fail
          generalize ((w.alloc (.cells #[.int .i64 p.1, .int .i64 p.2.1, va, .int .i64 p.2.2.2] 36)).alloc (.cells #[.int .i64 q.1, .int .i64 q.2.1, vb, .int .i64 q.2.2.2] 36)) = W at HBW HCA HCB ⊢
          refine (l11One_any _ _ p W HCA.out hp).mono ?_
          rw [H1.out]
          rintro e w1 ⟨rfl, n1, rfl⟩
          go_wp2_with fail
          refine (l11One_any _ _ q (W.drewN n1) (lcell_keep HCB.out (bdr (Below.refl _ _) _) (by have := World.block_lt_of_cell? _ _ HCB.out.choose_spec.1; simpa using this)) hq).mono ?_
          rw [H2.out]
          rintro e w1 ⟨rfl, n2, rfl⟩
          go_wp2_with fail
          refine (l00InL _ h3).mono ?_
          rintro e w1 ⟨rfl, rfl⟩
          go_wp2_with fail
          refine (l00InL _ h4).mono ?_
          rintro e w1 ⟨rfl, rfl⟩
          have la := World.block_lt_of_cell? _ _ HCA.out.choose_spec.1
          have lb := World.block_lt_of_cell? _ _ HCB.out.choose_spec.1
          have HCA2 := Lib.hid (lcell_keep HCA.out (bdr (Below.refl _ _) (n1 + n2)) la)
          have HCB2 := Lib.hid (lcell_keep HCB.out (bdr (Below.refl _ _) (n1 + n2)) lb)
          clear la lb
          go_wp2_with fail
          refine (MT.out _ HCA2.out HCB2.out).mono ?_
          rintro e w1 ⟨rfl, n3, rfl⟩
          go_wp2
          exact bodyPost_ret (v := .tuple #[.bool m, .int .i64 0]) (by simp [results, Try.results52, go_sem]) rfl ⟨rfl, by repeat (first | exact HBW.out | refine bdr ?_ _)⟩
end Go.Proofs.Ytmfjpmimkpldjaa.ltab
