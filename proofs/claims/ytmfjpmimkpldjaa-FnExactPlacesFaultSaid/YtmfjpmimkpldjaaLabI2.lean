/- The program's labels: overlaps: contracts. -/
import Derived.Test.YtmfjpmimkpldjaaLabI1
import Derived.Test.YtmfjpmimkpldjaaLabS2
namespace Go.Proofs.Ytmfjpmimkpldjaa.ltab
open Go.ChangeShapes Go.WideShapes Go.ChangeAt Go.RowKit Go.Proofs.Ytmfjpmimkpldjaa.irows Go.Proofs.Ytmfjpmimkpldjaa.sines
set_option linter.unusedSimpArgs false
set_option linter.unusedVariables false

/-- What a label covers: its row, from, to. -/
abbrev Sp := Int × Int × Int
def spanL (p : Lb) (x : Int) : Sp := (p.1, x, x + p.2.1)
def meetS (s o : Sp) : Bool := decide (s.1 = o.1) && (decide (s.2.1 < o.2.2) && decide (o.2.1 < s.2.2))
theorem meetS_span (p q : Lb) (x y : Int) : meetS (spanL p x) (spanL q y) = meetL p q x y := rfl
def sv (s : Sp) : Value := .agg #[.int .i64 s.1, .int .i64 s.2.1, .int .i64 s.2.2]
set_option maxHeartbeats 400000 in
theorem spanFrom_any (p : Lb) (v : Value) (x : Int) (w : World) (hv : ∃ a n c, v = .slice a n c) (p0 : 0 ≤ p.2.1) (p1 : p.2.1 ≤ 1000) (x0 : 0 ≤ x) (x1 : x ≤ 1000) :
    Calls Try.prog 73 #[.agg #[.int .i64 p.1, .int .i64 p.2.1, v, .int .i64 p.2.2.2], .int .i64 x] w fun e w' => e = .returned (sv (spanL p x)) ∧ ∃ o1 o2 : Obj, w' = (w.alloc o1).alloc o2 := by
  obtain ⟨r, wd, zs, t⟩ := p
  obtain ⟨a, n, c, rfl⟩ := hv
  simp only at p0 p1
  have k1 : IntKind.i64.wrap (x + wd) = x + wd := IntWalk.i64_in _ (by omega)
  go_enter Try.func73, Try.ntmps73
  go_wp2
  exact bodyPost_ret (v := .agg #[.int .i64 r, .int .i64 x, .int .i64 (x + wd)]) (by simp [results, Try.results73, go_sem]) rfl ⟨rfl, _, _, rfl⟩
set_option maxRecDepth 100000 in
set_option maxHeartbeats 1000000 in
theorem meets_any (s o : Sp) (w : World) :
    Calls Try.prog 82 #[sv s, sv o] w fun e w' => e = .returned (.bool (meetS s o)) ∧ ∃ o1 o2 : Obj, w' = (w.alloc o1).alloc o2 := by
  obtain ⟨r, a, b⟩ := s
  obtain ⟨r', a', b'⟩ := o
  have E : meetS (r, a, b) (r', a', b') = (decide (r = r') && (decide (a < b') && decide (a' < b))) := rfl
  rw [E]
  clear E
  unfold sv
  by_cases h1 : r = r'
  · subst h1
    by_cases h2 : a < b'
    · by_cases h3 : a' < b
      · have d2 : decide (a < b') = true := by simpa using h2
        have d3 : decide (a' < b) = true := by simpa using h3
        rw [d2, d3]
        go_enter Try.func82, Try.ntmps82
        go_wp2
        go_ret
        exact ⟨by first | rfl | simp, _, _, rfl⟩
      · have d2 : decide (a < b') = true := by simpa using h2
        have d3 : decide (a' < b) = false := by simpa using h3
        rw [d2, d3]
        go_enter Try.func82, Try.ntmps82
        go_wp2
        go_ret
        exact ⟨by first | rfl | simp, _, _, rfl⟩
    · have d2 : decide (a < b') = false := by simpa using h2
      rw [d2]
      go_enter Try.func82, Try.ntmps82
      go_wp2
      go_ret
      exact ⟨by first | rfl | simp, _, _, rfl⟩
  · have d1 : decide (r = r') = false := by simpa using h1
    have d1' : (r == r') = false := by simpa using h1
    rw [d1]
    go_enter Try.func82, Try.ntmps82
    go_wp2
    go_ret
    exact ⟨by first | rfl | simp, _, _, rfl⟩
theorem rel_alloc2 {P : Program} {f : FuncId} {args : Array Value} {w0 U : World} {r : Ending} (h : Below w0.heap.size w0 U) (hc : Calls P f args U fun e w' => e = r ∧ ∃ o1 o2 : Obj, w' = (U.alloc o1).alloc o2) : Calls P f args U fun e w' => e = r ∧ Below w0.heap.size w0 w' :=
  hc.mono fun e w' ⟨h1, o1, o2, hw⟩ => ⟨h1, h.trans (by rw [hw]; exact ((Below.refl _ _).alloc h.size _).alloc (by have := h.size; simp; omega) _)⟩
theorem two_lat {w : World} {B n : Nat} {va vb : Value} {p q : Lb} {T : TypeId} (ha : IAt w B va p.2.2.1) (ca : CapL va) (hb : IAt w B vb q.2.2.1) (cb : CapL vb) (hn : n < B)
    (h : w.heap[n]? = some (.cells #[.int .i64 p.1, .int .i64 p.2.1, va, .int .i64 p.2.2.2, .int .i64 q.1, .int .i64 q.2.1, vb, .int .i64 q.2.2.2] T (0, 0))) : LAt w B (.slice (some ⟨n, 0, none⟩) 2 2) [p, q] := by
  have c : ∀ i v, #[Value.int .i64 p.1, .int .i64 p.2.1, va, .int .i64 p.2.2.2, .int .i64 q.1, .int .i64 q.2.1, vb, .int .i64 q.2.2.2][i]? = some v → w.cell? ⟨n, i, none⟩ = some v := fun i v hv => by
    simp only [World.cell?, h]; exact hv
  refine ⟨_, _, rfl, Nat.le_refl _, fun k hk => ⟨n, 0, rfl, hn, ?_⟩⟩
  have hk2 : k = 0 ∨ k = 1 := by have : k < 2 := hk; omega
  rcases hk2 with rfl | rfl
  · exact ⟨va, c _ _ rfl, c _ _ rfl, c _ _ rfl, c _ _ rfl, ha, ca⟩
  · exact ⟨vb, c _ _ rfl, c _ _ rfl, c _ _ rfl, c _ _ rfl, hb, cb⟩
set_option maxRecDepth 100000 in
set_option maxHeartbeats 2000000 in
theorem implLabelsMeet_any (p q : Lb) (va vb : Value) (x y : Int) (w : World) (ha : IAt w w.heap.size va p.2.2.1) (ca : CapL va) (hb : IAt w w.heap.size vb q.2.2.1) (cb : CapL vb) (hp : p.2.2.1.length ≤ 1048576) (hq : q.2.2.1.length ≤ 1048576) :
    Calls Try.prog 27 #[.agg #[.int .i64 p.1, .int .i64 p.2.1, va, .int .i64 p.2.2.2], .agg #[.int .i64 q.1, .int .i64 q.2.1, vb, .int .i64 q.2.2.2], .int .i64 x, .int .i64 y] w fun e w' => e = .returned (.tuple #[.bool (valM2 p q x y), .int .i64 (codeM2 p q x y)]) ∧ Below w.heap.size w w' := by
  have AL := Lib.hid (fun W v h => areLabels_any v [p, q] W h (by simp) (fun i hi => by
    have hk2 : i = 0 ∨ i = 1 := by have : i < 2 := hi; omega
    rcases hk2 with rfl | rfl
    · exact hp
    · exact hq))
  obtain ⟨o1, h1⟩ : ∃ c, [p, q].all oneL = c := ⟨_, rfl⟩
  obtain ⟨i1, h3⟩ : ∃ c, inB x 0 1000 = c := ⟨_, rfl⟩
  obtain ⟨i2, h4⟩ : ∃ c, inB y 0 1000 = c := ⟨_, rfl⟩
  have EC := Lib.hid (show codeM2 p q x y = if o1 = false then 1 else if (i1 && i2) = false then 2 else 0 by unfold codeM2; rw [← h1, h3, h4]; simp)
  have EV := Lib.hid (show valM2 p q x y = if codeM2 p q x y = 0 then meetL p q x y else false from rfl)
  rw [h1] at AL
  have HA := Lib.hid ha
  have HB := Lib.hid hb
  obtain ⟨aa, la, rfl, _⟩ := ha
  obtain ⟨ab, lb, rfl, _⟩ := hb
  have H1 := Lib.hid h1
  have CO := Lib.hid (fun W' => codeOf_any o1 (i1 && i2) W')
  have CO2 : (if o1 = false then 1 else if (i1 && i2) = false then 2 else 0 : Int) = codeM2 p q x y := EC.out.symm
  rw [CO2] at CO
  clear CO2
  by_cases hz : codeM2 p q x y = 0
  · have H0 : o1 = true ∧ (i1 && i2) = true := by
      have e := EC.out
      rw [hz] at e
      cases o1 with
      | false => simp at e
      | true =>
        cases h : (i1 && i2) with
        | false => rw [h] at e; simp at e
        | true => exact ⟨rfl, rfl⟩
    obtain ⟨rfl, h12⟩ := H0
    rw [Bool.and_eq_true] at h12
    obtain ⟨rfl, rfl⟩ := h12
    have ZV := Lib.hid (show valM2 p q x y = meetL p q x y by rw [EV.out, if_pos hz])
    rw [ZV.out]
    rw [hz] at CO ⊢
    have hall := H1.out
    simp only [List.all_cons, List.all_nil, Bool.and_true, Bool.and_eq_true] at hall
    have F1 := oneL_facts hall.1
    have F2 := oneL_facts hall.2
    have G3 := inB_of h3
    have G4 := inB_of h4
    have SA := Lib.hid (fun W => spanFrom_any p (.slice aa p.2.2.1.length la) x W ⟨_, _, _, rfl⟩ (by omega) F1.2.2.1.2 G3.1 G3.2)
    have SB := Lib.hid (fun W => spanFrom_any q (.slice ab q.2.2.1.length lb) y W ⟨_, _, _, rfl⟩ (by omega) F2.2.2.1.2 G4.1 G4.2)
    have MM := Lib.hid (fun W => meets_any (spanL p x) (spanL q y) W)
    rw [meetS_span] at MM
    generalize meetL p q x y = m at MM ⊢
    generalize spanL p x = sp at SA MM
    generalize spanL q y = sq at SB MM
    clear F1 F2 G3 G4 hall EC EV ZV hz
    go_enter Try.func27, Try.ntmps27
    go_wp2_with fail
    have BW : Below w.heap.size w (((w.alloc (.cells #[.int .i64 p.1, .int .i64 p.2.1, .slice aa p.2.2.1.length la, .int .i64 p.2.2.2] 36)).alloc (.cells #[.int .i64 q.1, .int .i64 q.2.1, .slice ab q.2.2.1.length lb, .int .i64 q.2.2.2] 36)).alloc (.cells #[.int .i64 p.1, .int .i64 p.2.1, .slice aa p.2.2.1.length la, .int .i64 p.2.2.2, .int .i64 q.1, .int .i64 q.2.1, .slice ab q.2.2.1.length lb, .int .i64 q.2.2.2] 36)) := (((Below.refl _ _).alloc (Nat.le_refl _) _).alloc (by simp) _).alloc (by simp <;> omega) _
    have LW : LAt (((w.alloc (.cells #[.int .i64 p.1, .int .i64 p.2.1, .slice aa p.2.2.1.length la, .int .i64 p.2.2.2] 36)).alloc (.cells #[.int .i64 q.1, .int .i64 q.2.1, .slice ab q.2.2.1.length lb, .int .i64 q.2.2.2] 36)).alloc (.cells #[.int .i64 p.1, .int .i64 p.2.1, .slice aa p.2.2.1.length la, .int .i64 p.2.2.2, .int .i64 q.1, .int .i64 q.2.1, .slice ab q.2.2.1.length lb, .int .i64 q.2.2.2] 36)) (((w.alloc (.cells #[.int .i64 p.1, .int .i64 p.2.1, .slice aa p.2.2.1.length la, .int .i64 p.2.2.2] 36)).alloc (.cells #[.int .i64 q.1, .int .i64 q.2.1, .slice ab q.2.2.1.length lb, .int .i64 q.2.2.2] 36)).alloc (.cells #[.int .i64 p.1, .int .i64 p.2.1, .slice aa p.2.2.1.length la, .int .i64 p.2.2.2, .int .i64 q.1, .int .i64 q.2.1, .slice ab q.2.2.1.length lb, .int .i64 q.2.2.2] 36)).heap.size (.slice (some ⟨w.heap.size + 1 + 1, 0, none⟩) 2 2) [p, q] := two_lat (iat_up (iat_keep HA.out BW) BW.size) ca (iat_up (iat_keep HB.out BW) BW.size) cb (by simp) (by rw [show w.heap.size + 1 + 1 = ((w.alloc (.cells #[.int .i64 p.1, .int .i64 p.2.1, .slice aa p.2.2.1.length la, .int .i64 p.2.2.2] 36)).alloc (.cells #[.int .i64 q.1, .int .i64 q.2.1, .slice ab q.2.2.1.length lb, .int .i64 q.2.2.2] 36)).heap.size by simp]; exact heap_alloc_new _ _)
    have HBW := Lib.hid BW
    have HLW := Lib.hid LW
    have a0 : (((w.alloc (.cells #[.int .i64 p.1, .int .i64 p.2.1, .slice aa p.2.2.1.length la, .int .i64 p.2.2.2] 36)).alloc (.cells #[.int .i64 q.1, .int .i64 q.2.1, .slice ab q.2.2.1.length lb, .int .i64 q.2.2.2] 36)).alloc (.cells #[.int .i64 p.1, .int .i64 p.2.1, .slice aa p.2.2.1.length la, .int .i64 p.2.2.2, .int .i64 q.1, .int .i64 q.2.1, .slice ab q.2.2.1.length lb, .int .i64 q.2.2.2] 36)).cell? ⟨w.heap.size, 0, none⟩ = some (.int .i64 p.1) := by simp [go_sem]
    have a1 : (((w.alloc (.cells #[.int .i64 p.1, .int .i64 p.2.1, .slice aa p.2.2.1.length la, .int .i64 p.2.2.2] 36)).alloc (.cells #[.int .i64 q.1, .int .i64 q.2.1, .slice ab q.2.2.1.length lb, .int .i64 q.2.2.2] 36)).alloc (.cells #[.int .i64 p.1, .int .i64 p.2.1, .slice aa p.2.2.1.length la, .int .i64 p.2.2.2, .int .i64 q.1, .int .i64 q.2.1, .slice ab q.2.2.1.length lb, .int .i64 q.2.2.2] 36)).cell? ⟨w.heap.size, 1, none⟩ = some (.int .i64 p.2.1) := by simp [go_sem]
    have a2 : (((w.alloc (.cells #[.int .i64 p.1, .int .i64 p.2.1, .slice aa p.2.2.1.length la, .int .i64 p.2.2.2] 36)).alloc (.cells #[.int .i64 q.1, .int .i64 q.2.1, .slice ab q.2.2.1.length lb, .int .i64 q.2.2.2] 36)).alloc (.cells #[.int .i64 p.1, .int .i64 p.2.1, .slice aa p.2.2.1.length la, .int .i64 p.2.2.2, .int .i64 q.1, .int .i64 q.2.1, .slice ab q.2.2.1.length lb, .int .i64 q.2.2.2] 36)).cell? ⟨w.heap.size, 2, none⟩ = some (.slice aa p.2.2.1.length la) := by simp [go_sem]
    have a3 : (((w.alloc (.cells #[.int .i64 p.1, .int .i64 p.2.1, .slice aa p.2.2.1.length la, .int .i64 p.2.2.2] 36)).alloc (.cells #[.int .i64 q.1, .int .i64 q.2.1, .slice ab q.2.2.1.length lb, .int .i64 q.2.2.2] 36)).alloc (.cells #[.int .i64 p.1, .int .i64 p.2.1, .slice aa p.2.2.1.length la, .int .i64 p.2.2.2, .int .i64 q.1, .int .i64 q.2.1, .slice ab q.2.2.1.length lb, .int .i64 q.2.2.2] 36)).cell? ⟨w.heap.size, 3, none⟩ = some (.int .i64 p.2.2.2) := by simp [go_sem]
    have b0 : (((w.alloc (.cells #[.int .i64 p.1, .int .i64 p.2.1, .slice aa p.2.2.1.length la, .int .i64 p.2.2.2] 36)).alloc (.cells #[.int .i64 q.1, .int .i64 q.2.1, .slice ab q.2.2.1.length lb, .int .i64 q.2.2.2] 36)).alloc (.cells #[.int .i64 p.1, .int .i64 p.2.1, .slice aa p.2.2.1.length la, .int .i64 p.2.2.2, .int .i64 q.1, .int .i64 q.2.1, .slice ab q.2.2.1.length lb, .int .i64 q.2.2.2] 36)).cell? ⟨w.heap.size + 1, 0, none⟩ = some (.int .i64 q.1) := by simp [go_sem]
    have b1 : (((w.alloc (.cells #[.int .i64 p.1, .int .i64 p.2.1, .slice aa p.2.2.1.length la, .int .i64 p.2.2.2] 36)).alloc (.cells #[.int .i64 q.1, .int .i64 q.2.1, .slice ab q.2.2.1.length lb, .int .i64 q.2.2.2] 36)).alloc (.cells #[.int .i64 p.1, .int .i64 p.2.1, .slice aa p.2.2.1.length la, .int .i64 p.2.2.2, .int .i64 q.1, .int .i64 q.2.1, .slice ab q.2.2.1.length lb, .int .i64 q.2.2.2] 36)).cell? ⟨w.heap.size + 1, 1, none⟩ = some (.int .i64 q.2.1) := by simp [go_sem]
    have b2 : (((w.alloc (.cells #[.int .i64 p.1, .int .i64 p.2.1, .slice aa p.2.2.1.length la, .int .i64 p.2.2.2] 36)).alloc (.cells #[.int .i64 q.1, .int .i64 q.2.1, .slice ab q.2.2.1.length lb, .int .i64 q.2.2.2] 36)).alloc (.cells #[.int .i64 p.1, .int .i64 p.2.1, .slice aa p.2.2.1.length la, .int .i64 p.2.2.2, .int .i64 q.1, .int .i64 q.2.1, .slice ab q.2.2.1.length lb, .int .i64 q.2.2.2] 36)).cell? ⟨w.heap.size + 1, 2, none⟩ = some (.slice ab q.2.2.1.length lb) := by simp [go_sem]
    have b3 : (((w.alloc (.cells #[.int .i64 p.1, .int .i64 p.2.1, .slice aa p.2.2.1.length la, .int .i64 p.2.2.2] 36)).alloc (.cells #[.int .i64 q.1, .int .i64 q.2.1, .slice ab q.2.2.1.length lb, .int .i64 q.2.2.2] 36)).alloc (.cells #[.int .i64 p.1, .int .i64 p.2.1, .slice aa p.2.2.1.length la, .int .i64 p.2.2.2, .int .i64 q.1, .int .i64 q.2.1, .slice ab q.2.2.1.length lb, .int .i64 q.2.2.2] 36)).cell? ⟨w.heap.size + 1, 3, none⟩ = some (.int .i64 q.2.2.2) := by simp [go_sem]
    have hWs : w.heap.size + 2 < (((w.alloc (.cells #[.int .i64 p.1, .int .i64 p.2.1, .slice aa p.2.2.1.length la, .int .i64 p.2.2.2] 36)).alloc (.cells #[.int .i64 q.1, .int .i64 q.2.1, .slice ab q.2.2.1.length lb, .int .i64 q.2.2.2] 36)).alloc (.cells #[.int .i64 p.1, .int .i64 p.2.1, .slice aa p.2.2.1.length la, .int .i64 p.2.2.2, .int .i64 q.1, .int .i64 q.2.1, .slice ab q.2.2.1.length lb, .int .i64 q.2.2.2] 36)).heap.size := by simp
    clear BW LW
    generalize (((w.alloc (.cells #[.int .i64 p.1, .int .i64 p.2.1, .slice aa p.2.2.1.length la, .int .i64 p.2.2.2] 36)).alloc (.cells #[.int .i64 q.1, .int .i64 q.2.1, .slice ab q.2.2.1.length lb, .int .i64 q.2.2.2] 36)).alloc (.cells #[.int .i64 p.1, .int .i64 p.2.1, .slice aa p.2.2.1.length la, .int .i64 p.2.2.2, .int .i64 q.1, .int .i64 q.2.1, .slice ab q.2.2.1.length lb, .int .i64 q.2.2.2] 36)) = W at HBW HLW a0 a1 a2 a3 b0 b1 b2 b3 hWs ⊢
    refine (AL.out W _ HLW.out).mono ?_
    rintro e w1 ⟨rfl, hbw⟩
    have HBX := Lib.hid (HBW.out.trans (hbw.mono HBW.out.size))
    have hs := hbw.size
    have A0 := (hbw.cell (p := ⟨w.heap.size, 0, none⟩) (by show w.heap.size < _; omega)).trans a0
    have A1 := (hbw.cell (p := ⟨w.heap.size, 1, none⟩) (by show w.heap.size < _; omega)).trans a1
    have A2 := (hbw.cell (p := ⟨w.heap.size, 2, none⟩) (by show w.heap.size < _; omega)).trans a2
    have A3 := (hbw.cell (p := ⟨w.heap.size, 3, none⟩) (by show w.heap.size < _; omega)).trans a3
    have B0 := (hbw.cell (p := ⟨w.heap.size + 1, 0, none⟩) (by show w.heap.size + 1 < _; omega)).trans b0
    have B1 := (hbw.cell (p := ⟨w.heap.size + 1, 1, none⟩) (by show w.heap.size + 1 < _; omega)).trans b1
    have B2 := (hbw.cell (p := ⟨w.heap.size + 1, 2, none⟩) (by show w.heap.size + 1 < _; omega)).trans b2
    have B3 := (hbw.cell (p := ⟨w.heap.size + 1, 3, none⟩) (by show w.heap.size + 1 < _; omega)).trans b3
    have sA : w.heap.size + 2 < w1.heap.size := by omega
    clear a0 a1 a2 a3 b0 b1 b2 b3 hWs hbw HBW HLW hs ca cb
    obtain ⟨r, wd, zs, t⟩ := p
    obtain ⟨r', wd', zs', t'⟩ := q
    obtain ⟨s1, s2, s3⟩ := sp
    obtain ⟨t1, t2, t3⟩ := sq
    simp only [sv] at A0 A1 A2 A3 B0 B1 B2 B3 SA SB MM ⊢
    generalize zs.length = L1 at A2 SA
    generalize zs'.length = L2 at B2 SB
    have CX := CO.out
    clear CO
    go_wp2_with fail
    refine (isAlongL _ h3).mono ?_
    rintro e w2 ⟨rfl, rfl⟩
    go_wp2_with fail
    refine (isAlongL _ h4).mono ?_
    rintro e w2 ⟨rfl, rfl⟩
    go_wp2_with fail
    refine (CX _).mono ?_
    rintro e w2 ⟨rfl, rfl⟩
    go_wp2_with fail
    go_region_held3 (fun U => U.cell? ⟨w.heap.size, 0, none⟩ = some (.int .i64 r) ∧ U.cell? ⟨w.heap.size, 1, none⟩ = some (.int .i64 wd) ∧ U.cell? ⟨w.heap.size, 2, none⟩ = some (.slice aa L1 la) ∧ U.cell? ⟨w.heap.size, 3, none⟩ = some (.int .i64 t) ∧ U.cell? ⟨w.heap.size + 1, 0, none⟩ = some (.int .i64 r') ∧ U.cell? ⟨w.heap.size + 1, 1, none⟩ = some (.int .i64 wd') ∧ U.cell? ⟨w.heap.size + 1, 2, none⟩ = some (.slice ab L2 lb) ∧ U.cell? ⟨w.heap.size + 1, 3, none⟩ = some (.int .i64 t')) (first | exact ⟨A0, A1, A2, A3, B0, B1, B2, B3⟩ | exact ⟨n0, n1, n2, n3, n4, n5, n6, n7⟩ | (simp [go_sem]; first | exact ⟨A0, A1, A2, A3, B0, B1, B2, B3⟩ | exact ⟨n0, n1, n2, n3, n4, n5, n6, n7⟩)) (first | (go_at_call 73; with_reducible refine (rel_alloc2 (w0 := w2) (by repeat (first | assumption | exact Below.refl _ _ | refine Below.drew ?_ | refine bdr ?_ _)) (SA.out _)).mono ?_; rintro e w3 ⟨rfl, hb3⟩; have n0 := (hb3.cell (p := ⟨w.heap.size, 0, none⟩) (by show w.heap.size < _; omega)).trans A0; have n1 := (hb3.cell (p := ⟨w.heap.size, 1, none⟩) (by show w.heap.size < _; omega)).trans A1; have n2 := (hb3.cell (p := ⟨w.heap.size, 2, none⟩) (by show w.heap.size < _; omega)).trans A2; have n3 := (hb3.cell (p := ⟨w.heap.size, 3, none⟩) (by show w.heap.size < _; omega)).trans A3; have n4 := (hb3.cell (p := ⟨w.heap.size + 1, 0, none⟩) (by show w.heap.size + 1 < _; omega)).trans B0; have n5 := (hb3.cell (p := ⟨w.heap.size + 1, 1, none⟩) (by show w.heap.size + 1 < _; omega)).trans B1; have n6 := (hb3.cell (p := ⟨w.heap.size + 1, 2, none⟩) (by show w.heap.size + 1 < _; omega)).trans B2; have n7 := (hb3.cell (p := ⟨w.heap.size + 1, 3, none⟩) (by show w.heap.size + 1 < _; omega)).trans B3) | (go_at_call 73; with_reducible refine (rel_alloc2 (w0 := w2) (by repeat (first | assumption | exact Below.refl _ _ | refine Below.drew ?_ | refine bdr ?_ _)) (SB.out _)).mono ?_; rintro e w3 ⟨rfl, hb3⟩; have n0 := (hb3.cell (p := ⟨w.heap.size, 0, none⟩) (by show w.heap.size < _; omega)).trans A0; have n1 := (hb3.cell (p := ⟨w.heap.size, 1, none⟩) (by show w.heap.size < _; omega)).trans A1; have n2 := (hb3.cell (p := ⟨w.heap.size, 2, none⟩) (by show w.heap.size < _; omega)).trans A2; have n3 := (hb3.cell (p := ⟨w.heap.size, 3, none⟩) (by show w.heap.size < _; omega)).trans A3; have n4 := (hb3.cell (p := ⟨w.heap.size + 1, 0, none⟩) (by show w.heap.size + 1 < _; omega)).trans B0; have n5 := (hb3.cell (p := ⟨w.heap.size + 1, 1, none⟩) (by show w.heap.size + 1 < _; omega)).trans B1; have n6 := (hb3.cell (p := ⟨w.heap.size + 1, 2, none⟩) (by show w.heap.size + 1 < _; omega)).trans B2; have n7 := (hb3.cell (p := ⟨w.heap.size + 1, 3, none⟩) (by show w.heap.size + 1 < _; omega)).trans B3) | (go_at_call 82; with_reducible refine (rel_alloc2 (w0 := w2) (by repeat (first | assumption | exact Below.refl _ _ | refine Below.drew ?_ | refine bdr ?_ _)) (MM.out _)).mono ?_; rintro e w3 ⟨rfl, hb3⟩; have n0 := (hb3.cell (p := ⟨w.heap.size, 0, none⟩) (by show w.heap.size < _; omega)).trans A0; have n1 := (hb3.cell (p := ⟨w.heap.size, 1, none⟩) (by show w.heap.size < _; omega)).trans A1; have n2 := (hb3.cell (p := ⟨w.heap.size, 2, none⟩) (by show w.heap.size < _; omega)).trans A2; have n3 := (hb3.cell (p := ⟨w.heap.size, 3, none⟩) (by show w.heap.size < _; omega)).trans A3; have n4 := (hb3.cell (p := ⟨w.heap.size + 1, 0, none⟩) (by show w.heap.size + 1 < _; omega)).trans B0; have n5 := (hb3.cell (p := ⟨w.heap.size + 1, 1, none⟩) (by show w.heap.size + 1 < _; omega)).trans B1; have n6 := (hb3.cell (p := ⟨w.heap.size + 1, 2, none⟩) (by show w.heap.size + 1 < _; omega)).trans B2; have n7 := (hb3.cell (p := ⟨w.heap.size + 1, 3, none⟩) (by show w.heap.size + 1 < _; omega)).trans B3))
    all_goals
      have HB3 := Lib.hid (HBX.out.trans (hb3.mono HBX.out.size))
      clear hb3
      go_wp2
      exact bodyPost_ret (v := .tuple #[.bool m, .int .i64 0]) (by simp [results, Try.results27, go_sem]) rfl ⟨rfl, by repeat (first | assumption | exact HB3.out | refine Below.drew ?_ | refine bdr ?_ _)⟩
  · have ZV := Lib.hid (show valM2 p q x y = false by rw [EV.out, if_neg hz])
    rw [ZV.out]
    have hz1 : decide (codeM2 p q x y = 0) = false := by simpa using hz
    have hz2 : (codeM2 p q x y == 0) = false := by simpa using hz
    generalize codeM2 p q x y = C at hz hz1 hz2 CO ⊢
    clear EC EV ZV
    go_enter Try.func27, Try.ntmps27
    go_wp2_with fail
    have BW : Below w.heap.size w (((w.alloc (.cells #[.int .i64 p.1, .int .i64 p.2.1, .slice aa p.2.2.1.length la, .int .i64 p.2.2.2] 36)).alloc (.cells #[.int .i64 q.1, .int .i64 q.2.1, .slice ab q.2.2.1.length lb, .int .i64 q.2.2.2] 36)).alloc (.cells #[.int .i64 p.1, .int .i64 p.2.1, .slice aa p.2.2.1.length la, .int .i64 p.2.2.2, .int .i64 q.1, .int .i64 q.2.1, .slice ab q.2.2.1.length lb, .int .i64 q.2.2.2] 36)) := (((Below.refl _ _).alloc (Nat.le_refl _) _).alloc (by simp) _).alloc (by simp <;> omega) _
    have LW : LAt (((w.alloc (.cells #[.int .i64 p.1, .int .i64 p.2.1, .slice aa p.2.2.1.length la, .int .i64 p.2.2.2] 36)).alloc (.cells #[.int .i64 q.1, .int .i64 q.2.1, .slice ab q.2.2.1.length lb, .int .i64 q.2.2.2] 36)).alloc (.cells #[.int .i64 p.1, .int .i64 p.2.1, .slice aa p.2.2.1.length la, .int .i64 p.2.2.2, .int .i64 q.1, .int .i64 q.2.1, .slice ab q.2.2.1.length lb, .int .i64 q.2.2.2] 36)) (((w.alloc (.cells #[.int .i64 p.1, .int .i64 p.2.1, .slice aa p.2.2.1.length la, .int .i64 p.2.2.2] 36)).alloc (.cells #[.int .i64 q.1, .int .i64 q.2.1, .slice ab q.2.2.1.length lb, .int .i64 q.2.2.2] 36)).alloc (.cells #[.int .i64 p.1, .int .i64 p.2.1, .slice aa p.2.2.1.length la, .int .i64 p.2.2.2, .int .i64 q.1, .int .i64 q.2.1, .slice ab q.2.2.1.length lb, .int .i64 q.2.2.2] 36)).heap.size (.slice (some ⟨w.heap.size + 1 + 1, 0, none⟩) 2 2) [p, q] := two_lat (iat_up (iat_keep HA.out BW) BW.size) ca (iat_up (iat_keep HB.out BW) BW.size) cb (by simp) (by rw [show w.heap.size + 1 + 1 = ((w.alloc (.cells #[.int .i64 p.1, .int .i64 p.2.1, .slice aa p.2.2.1.length la, .int .i64 p.2.2.2] 36)).alloc (.cells #[.int .i64 q.1, .int .i64 q.2.1, .slice ab q.2.2.1.length lb, .int .i64 q.2.2.2] 36)).heap.size by simp]; exact heap_alloc_new _ _)
    have HBW := Lib.hid BW
    have HLW := Lib.hid LW
    have a0 : (((w.alloc (.cells #[.int .i64 p.1, .int .i64 p.2.1, .slice aa p.2.2.1.length la, .int .i64 p.2.2.2] 36)).alloc (.cells #[.int .i64 q.1, .int .i64 q.2.1, .slice ab q.2.2.1.length lb, .int .i64 q.2.2.2] 36)).alloc (.cells #[.int .i64 p.1, .int .i64 p.2.1, .slice aa p.2.2.1.length la, .int .i64 p.2.2.2, .int .i64 q.1, .int .i64 q.2.1, .slice ab q.2.2.1.length lb, .int .i64 q.2.2.2] 36)).cell? ⟨w.heap.size, 0, none⟩ = some (.int .i64 p.1) := by simp [go_sem]
    have a1 : (((w.alloc (.cells #[.int .i64 p.1, .int .i64 p.2.1, .slice aa p.2.2.1.length la, .int .i64 p.2.2.2] 36)).alloc (.cells #[.int .i64 q.1, .int .i64 q.2.1, .slice ab q.2.2.1.length lb, .int .i64 q.2.2.2] 36)).alloc (.cells #[.int .i64 p.1, .int .i64 p.2.1, .slice aa p.2.2.1.length la, .int .i64 p.2.2.2, .int .i64 q.1, .int .i64 q.2.1, .slice ab q.2.2.1.length lb, .int .i64 q.2.2.2] 36)).cell? ⟨w.heap.size, 1, none⟩ = some (.int .i64 p.2.1) := by simp [go_sem]
    have a2 : (((w.alloc (.cells #[.int .i64 p.1, .int .i64 p.2.1, .slice aa p.2.2.1.length la, .int .i64 p.2.2.2] 36)).alloc (.cells #[.int .i64 q.1, .int .i64 q.2.1, .slice ab q.2.2.1.length lb, .int .i64 q.2.2.2] 36)).alloc (.cells #[.int .i64 p.1, .int .i64 p.2.1, .slice aa p.2.2.1.length la, .int .i64 p.2.2.2, .int .i64 q.1, .int .i64 q.2.1, .slice ab q.2.2.1.length lb, .int .i64 q.2.2.2] 36)).cell? ⟨w.heap.size, 2, none⟩ = some (.slice aa p.2.2.1.length la) := by simp [go_sem]
    have a3 : (((w.alloc (.cells #[.int .i64 p.1, .int .i64 p.2.1, .slice aa p.2.2.1.length la, .int .i64 p.2.2.2] 36)).alloc (.cells #[.int .i64 q.1, .int .i64 q.2.1, .slice ab q.2.2.1.length lb, .int .i64 q.2.2.2] 36)).alloc (.cells #[.int .i64 p.1, .int .i64 p.2.1, .slice aa p.2.2.1.length la, .int .i64 p.2.2.2, .int .i64 q.1, .int .i64 q.2.1, .slice ab q.2.2.1.length lb, .int .i64 q.2.2.2] 36)).cell? ⟨w.heap.size, 3, none⟩ = some (.int .i64 p.2.2.2) := by simp [go_sem]
    have b0 : (((w.alloc (.cells #[.int .i64 p.1, .int .i64 p.2.1, .slice aa p.2.2.1.length la, .int .i64 p.2.2.2] 36)).alloc (.cells #[.int .i64 q.1, .int .i64 q.2.1, .slice ab q.2.2.1.length lb, .int .i64 q.2.2.2] 36)).alloc (.cells #[.int .i64 p.1, .int .i64 p.2.1, .slice aa p.2.2.1.length la, .int .i64 p.2.2.2, .int .i64 q.1, .int .i64 q.2.1, .slice ab q.2.2.1.length lb, .int .i64 q.2.2.2] 36)).cell? ⟨w.heap.size + 1, 0, none⟩ = some (.int .i64 q.1) := by simp [go_sem]
    have b1 : (((w.alloc (.cells #[.int .i64 p.1, .int .i64 p.2.1, .slice aa p.2.2.1.length la, .int .i64 p.2.2.2] 36)).alloc (.cells #[.int .i64 q.1, .int .i64 q.2.1, .slice ab q.2.2.1.length lb, .int .i64 q.2.2.2] 36)).alloc (.cells #[.int .i64 p.1, .int .i64 p.2.1, .slice aa p.2.2.1.length la, .int .i64 p.2.2.2, .int .i64 q.1, .int .i64 q.2.1, .slice ab q.2.2.1.length lb, .int .i64 q.2.2.2] 36)).cell? ⟨w.heap.size + 1, 1, none⟩ = some (.int .i64 q.2.1) := by simp [go_sem]
    have b2 : (((w.alloc (.cells #[.int .i64 p.1, .int .i64 p.2.1, .slice aa p.2.2.1.length la, .int .i64 p.2.2.2] 36)).alloc (.cells #[.int .i64 q.1, .int .i64 q.2.1, .slice ab q.2.2.1.length lb, .int .i64 q.2.2.2] 36)).alloc (.cells #[.int .i64 p.1, .int .i64 p.2.1, .slice aa p.2.2.1.length la, .int .i64 p.2.2.2, .int .i64 q.1, .int .i64 q.2.1, .slice ab q.2.2.1.length lb, .int .i64 q.2.2.2] 36)).cell? ⟨w.heap.size + 1, 2, none⟩ = some (.slice ab q.2.2.1.length lb) := by simp [go_sem]
    have b3 : (((w.alloc (.cells #[.int .i64 p.1, .int .i64 p.2.1, .slice aa p.2.2.1.length la, .int .i64 p.2.2.2] 36)).alloc (.cells #[.int .i64 q.1, .int .i64 q.2.1, .slice ab q.2.2.1.length lb, .int .i64 q.2.2.2] 36)).alloc (.cells #[.int .i64 p.1, .int .i64 p.2.1, .slice aa p.2.2.1.length la, .int .i64 p.2.2.2, .int .i64 q.1, .int .i64 q.2.1, .slice ab q.2.2.1.length lb, .int .i64 q.2.2.2] 36)).cell? ⟨w.heap.size + 1, 3, none⟩ = some (.int .i64 q.2.2.2) := by simp [go_sem]
    have hWs : w.heap.size + 2 < (((w.alloc (.cells #[.int .i64 p.1, .int .i64 p.2.1, .slice aa p.2.2.1.length la, .int .i64 p.2.2.2] 36)).alloc (.cells #[.int .i64 q.1, .int .i64 q.2.1, .slice ab q.2.2.1.length lb, .int .i64 q.2.2.2] 36)).alloc (.cells #[.int .i64 p.1, .int .i64 p.2.1, .slice aa p.2.2.1.length la, .int .i64 p.2.2.2, .int .i64 q.1, .int .i64 q.2.1, .slice ab q.2.2.1.length lb, .int .i64 q.2.2.2] 36)).heap.size := by simp
    clear BW LW
    generalize (((w.alloc (.cells #[.int .i64 p.1, .int .i64 p.2.1, .slice aa p.2.2.1.length la, .int .i64 p.2.2.2] 36)).alloc (.cells #[.int .i64 q.1, .int .i64 q.2.1, .slice ab q.2.2.1.length lb, .int .i64 q.2.2.2] 36)).alloc (.cells #[.int .i64 p.1, .int .i64 p.2.1, .slice aa p.2.2.1.length la, .int .i64 p.2.2.2, .int .i64 q.1, .int .i64 q.2.1, .slice ab q.2.2.1.length lb, .int .i64 q.2.2.2] 36)) = W at HBW HLW a0 a1 a2 a3 b0 b1 b2 b3 hWs ⊢
    refine (AL.out W _ HLW.out).mono ?_
    rintro e w1 ⟨rfl, hbw⟩
    have HBX := Lib.hid (HBW.out.trans (hbw.mono HBW.out.size))
    have hs := hbw.size
    have A0 := (hbw.cell (p := ⟨w.heap.size, 0, none⟩) (by show w.heap.size < _; omega)).trans a0
    have A1 := (hbw.cell (p := ⟨w.heap.size, 1, none⟩) (by show w.heap.size < _; omega)).trans a1
    have A2 := (hbw.cell (p := ⟨w.heap.size, 2, none⟩) (by show w.heap.size < _; omega)).trans a2
    have A3 := (hbw.cell (p := ⟨w.heap.size, 3, none⟩) (by show w.heap.size < _; omega)).trans a3
    have B0 := (hbw.cell (p := ⟨w.heap.size + 1, 0, none⟩) (by show w.heap.size + 1 < _; omega)).trans b0
    have B1 := (hbw.cell (p := ⟨w.heap.size + 1, 1, none⟩) (by show w.heap.size + 1 < _; omega)).trans b1
    have B2 := (hbw.cell (p := ⟨w.heap.size + 1, 2, none⟩) (by show w.heap.size + 1 < _; omega)).trans b2
    have B3 := (hbw.cell (p := ⟨w.heap.size + 1, 3, none⟩) (by show w.heap.size + 1 < _; omega)).trans b3
    have sA : w.heap.size + 2 < w1.heap.size := by omega
    clear a0 a1 a2 a3 b0 b1 b2 b3 hWs hbw HBW HLW hs ca cb
    cases i1 <;> cases i2 <;>
    · go_wp2_with fail
      refine (isAlongL _ h3).mono ?_
      rintro e w2 ⟨rfl, rfl⟩
      first
        | (go_wp2_with fail; refine (isAlongL _ h4).mono ?_; rintro e w2 ⟨rfl, rfl⟩; go_wp2_with fail; refine (CO.out _).mono ?_; rintro e w2 ⟨rfl, rfl⟩)
        | (go_wp2_with fail; refine (CO.out _).mono ?_; rintro e w2 ⟨rfl, rfl⟩)
      go_wp2
      exact bodyPost_ret (v := .tuple #[.bool false, .int .i64 C]) (by simp [results, Try.results27, go_sem]) rfl ⟨rfl, HBX.out⟩
end Go.Proofs.Ytmfjpmimkpldjaa.ltab
