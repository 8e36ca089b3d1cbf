/- Lists of chains of the call's own: opened, compared, marked and looked at again. -/
import Derived.Test.YtemhmejjmhbfdabCTab
import Derived.Test.YtemhmejjmhbfdabMarkK
import Derived.Test.YtemhmejjmhbfdabIArgs
namespace Go.Proofs.Ytemhmejjmhbfdab.ctab
open Go.ChangeShapes Go.WideShapes Go.ChangeAt Go.RowKit Go.Proofs.Ytemhmejjmhbfdab.irows Go.Proofs.Ytemhmejjmhbfdab.pairsPlace Go.Proofs.Ytemhmejjmhbfdab.sines
set_option linter.unusedSimpArgs false
set_option linter.unusedVariables false

/-- An argument is such a list of lists. -/
theorem open_clist {H : Type} {enc : TypeId × Value → H} {W : World} {base : Nat} {spare : Nat → Bool} {held : Bool} {fuel : Nat} {v : Value} {x : DataW H × List MemPlace} (h : DataW.trod enc Try.prog W base spare held fuel 51 v.cells.toList = some x) (hv : ∃ a l c, v = .slice a l c) :
    ∃ rows, CAt W W.heap.size v rows ∧ rows.length ≤ maxLen ∧ ∀ i, (hi : i < rows.length) → rows[i].length ≤ maxLen := by
  obtain ⟨a0, l0, c0, rfl⟩ := hv
  rcases Go.Deep.open_slice1 (t := 51) Try.underlying51 (by kernel_rfl) h with ⟨hcs, _⟩ | ⟨a, len, cap, m, n, V, D, Pq, hcs, _, hl, hm, hmm, _, hx⟩
  · simp [Value.cells] at hcs
    obtain ⟨rfl, rfl, rfl⟩ := hcs
    exact ⟨[], ⟨none, 0, rfl, fun k hk => by simp at hk⟩, Nat.zero_le _, fun i hi => by simp at hi⟩
  · simp [Value.cells] at hcs
    obtain ⟨rfl, rfl, rfl⟩ := hcs
    have hlm : l0 ≤ m := by rw [hmm]; split <;> omega
    have each : ∀ i, i < l0 → ∃ q : List Pl, W.cell? (a.add i) = some (V i) ∧ PAt W W.heap.size (V i) q ∧ CapOk (V i) ∧ q.length ≤ maxLen := fun i hi => by
      obtain ⟨c1, t1⟩ := hx i (by omega)
      have hsl : ∃ a l c, V i = .slice a l c ∧ l ≤ c := by
        rcases Go.Deep.open_slice (t := 58) Try.underlying58 t1 with ⟨e, _⟩ | ⟨a', l', c', _, _, _, _, e, _, hlc, _⟩
        · exact ⟨none, 0, 0, by simpa using e, Nat.le_refl _⟩
        · exact ⟨_, _, _, by simpa using e, hlc⟩
      obtain ⟨a', l', c', e, hlc⟩ := hsl
      have t2 : DataW.trod enc Try.prog W base spare held n 58 (V i).cells.toList = some (D i, Pq i) := by rw [e] at t1 ⊢; exact t1
      obtain ⟨ps, hp, hpl⟩ := open_list t2 ⟨a', l', c', e⟩
      exact ⟨ps, c1, hp, (fun a n c e2 => by rw [e] at e2; cases e2; exact hlc), hpl⟩
    obtain ⟨q, hq⟩ := Go.Deep.choose_lt each
    obtain ⟨b, off, spot⟩ := a
    refine ⟨(List.range l0).map q, ⟨some ⟨b, off, spot⟩, c0, by simp, fun k hk => ?_⟩, by simp; omega, fun i hi => ?_⟩
    · have hk' : k < l0 := by simpa using hk
      obtain ⟨c1, c2, c3, _⟩ := hq k hk'
      have hspot : spot = none := by simpa [Addr.add] using World.cell?_spot (hq 0 (by omega)).1
      subst hspot
      rw [add_plain'] at c1
      exact ⟨b, off, V k, rfl, World.block_lt_of_cell? _ _ c1, c1, by simpa using c2, c3⟩
    · have hi' : i < l0 := by simpa using hi
      simpa using (hq i hi').2.2.2
theorem szQ_no (v : Value) (ps : List (Int × Int)) (w : World) (B : Nat) (l : Int) (h : PAt w B v ps) (hm : ps.length ≤ maxLen) (l0 : 0 ≤ l) (l1 : l ≤ 1048576) (hl : l < (ps.length : Int)) :
    Calls Try.prog 32 #[v, .int .i64 l] w fun e w' => e = .returned (.int .i64 (-1)) ∧ w = w' := szP_no v ps w B l h hm l0 l1 hl
set_option maxRecDepth 100000 in
set_option maxHeartbeats 1000000 in
theorem szC_any (v : Value) (rows : List (List Pl)) (w : World) (h : CAt w w.heap.size v rows) (hm : rows.length ≤ maxLen) (hr : ∀ i, (hi : i < rows.length) → rows[i].length ≤ maxLen) :
    Calls Try.prog 27 #[v, .int .i64 1048576] w fun e w' => e = .returned (.int .i64 (if fitC rows = true then 1048576 - (rows.length : Int) - (totP rows rows.length : Int) else -1)) ∧ w = w' := by
  obtain ⟨a, c, rfl, hc⟩ := h
  have HC := Lib.hid hc
  have HM := Lib.hid hr
  unfold maxLen at hm
  by_cases hbig : 1048576 < rows.length
  · have hf : fitC rows = false := by simp [fitC]; omega
    have h1 : 1048576 < (rows.length : Int) := by omega
    have h2 : (rows.length : Int) ≤ 9223372036854775807 := by omega
    rw [hf]
    simp only [Bool.false_eq_true, if_false]
    clear hc hr
    go_enter Try.func27, Try.ntmps27
    go_wp2
    go_ret
    exact ⟨rfl, rfl⟩
  · have h1 : (rows.length : Int) ≤ 1048576 := by omega
    have k1 : IntKind.i64.wrap (1048576 - (rows.length : Int)) = 1048576 - (rows.length : Int) := IntWalk.i64_in _ (by omega)
    have h3 : decide (1048576 - (rows.length : Int) < 0) = false := by simp; omega
    obtain ⟨R, hR⟩ : ∃ R, Hid ((if fitC rows = true then 1048576 - (rows.length : Int) - (totP rows rows.length : Int) else -1) = R) := ⟨_, Lib.hid rfl⟩
    rw [hR.out]
    clear hc hr hbig
    go_enter Try.func27, Try.ntmps27
    go_wp2
    go_loopw [1, 5] (fun l i wr => ∃ k : Nat, k ≤ rows.length ∧ i = .int .i64 (k : Int) ∧ (rows.length : Int) + (totP rows k : Int) ≤ 1048576 ∧ l = .int .i64 (1048576 - (rows.length : Int) - (totP rows k : Int)) ∧ w = wr) (fun _ i _ => rows.length - (intOf i).toNat)
    case atStart => exact ⟨0, Nat.zero_le _, rfl, by simp [totP]; omega, by simp [totP], rfl⟩
    case round =>
      obtain ⟨k, hk, rfl, hle, rfl, rfl⟩ := hrel
      by_cases hlt : k < rows.length
      · obtain ⟨b, off, x, rfl, hbs, c1, hx, _⟩ := HC.out k hlt
        have hml := HM.out k hlt
        have hk0 : 0 ≤ (k : Int) := by omega
        have hk1 : (k : Int) < (rows.length : Int) := by omega
        have ET := Lib.hid (show totP rows (k + 1) = totP rows k + rows[k].length by rw [totP, List.getD_eq_getElem?_getD, List.getElem?_eq_getElem hlt]; rfl)
        have LE := Lib.hid (totP_le rows (show k + 1 ≤ rows.length by omega))
        have HX := Lib.hid hx
        obtain ⟨ax, cx, rfl, _⟩ := hx
        have HLE := Lib.hid hle
        by_cases hb2 : 1048576 - (rows.length : Int) - (totP rows k : Int) < (rows[k].length : Int)
        · have SZ := Lib.hid (szQ_no _ rows[k] w _ _ HX.out hml (by omega) (by omega) hb2)
          have RR := Lib.hid (show R = -1 by
            rw [← hR.out, if_neg]
            simp [fitC]
            have := ET.out; have := LE.out
            omega)
          obtain rfl := RR.out
          clear hle hb2 hml
          go_wp2_with fail
          refine SZ.out.mono ?_
          rintro e w' ⟨rfl, rfl⟩
          go_wp2
          go_ret
          exact ⟨rfl, by trivial⟩
        · have SZ := Lib.hid (szP_yes _ rows[k] w _ (1048576 - (rows.length : Int) - (totP rows k : Int)) HX.out (by omega) (by omega))
          have DN := Lib.hid (show decide (1048576 - (rows.length : Int) - (totP rows k : Int) - (rows[k].length : Int) < 0) = false by simp; omega)
          have NL := Lib.hid (show (rows.length : Int) + (totP rows (k + 1) : Int) ≤ 1048576 by rw [ET.out]; omega)
          have NE := Lib.hid (show 1048576 - (rows.length : Int) - (totP rows k : Int) - (rows[k].length : Int) = 1048576 - (rows.length : Int) - (totP rows (k + 1) : Int) by rw [ET.out]; omega)
          rw [NE.out] at SZ DN
          clear hle hb2 hml
          have dn := DN.out
          go_wp2_with fail
          refine SZ.out.mono ?_
          rintro e w' ⟨rfl, rfl⟩
          go_wp2
          go_roundw
          case rel => exact ⟨k + 1, by omega, by go_num, NL.out, rfl, by trivial⟩
          case measure => simp [intOf]; omega
      · obtain rfl : k = rows.length := by omega
        have RR := Lib.hid (show 1048576 - (rows.length : Int) - (totP rows rows.length : Int) = R by
          rw [← hR.out, if_pos]
          simp [fitC]
          omega)
        clear hle
        go_wp2
        go_ret
        exact ⟨retI RR.out, by trivial⟩
theorem eqS_rel (v u : Value) (ps : List (Int × Int)) (W w : World) (hb : Below W.heap.size W w) (hv : PAt W W.heap.size v ps) (hu : PAt W W.heap.size u ps) (hl : ps.length ≤ 1048576) :
    Calls Try.prog 36 #[v, u] w fun e w' => e = .returned (.bool true) ∧ Below W.heap.size W w' :=
  (eqS_same v u ps w (pat_up (pat_keep hv hb) hb.size) (pat_up (pat_keep hu hb) hb.size) hl).mono fun _ _ ⟨h1, h2⟩ => ⟨h1, hb.trans (h2.mono hb.size)⟩
set_option maxRecDepth 100000 in
set_option maxHeartbeats 1000000 in
theorem eqC_same (va vb : Value) (rows : List (List Pl)) (w : World) (ha : CAt w w.heap.size va rows) (hb : CAt w w.heap.size vb rows) (hn : rows.length ≤ 1048576) (hm : ∀ i, (hi : i < rows.length) → rows[i].length ≤ 1048576) :
    Calls Try.prog 31 #[va, vb] w fun e w' => e = .returned (.bool true) ∧ Below w.heap.size w w' := by
  obtain ⟨aa, ca, rfl, hca⟩ := ha
  obtain ⟨ab, cb, rfl, hcb⟩ := hb
  have HA := Lib.hid hca
  have HB := Lib.hid hcb
  have HM := Lib.hid hm
  have hn2 : (rows.length : Int) ≤ 1048576 := by omega
  clear hca hcb hm
  go_enter Try.func31, Try.ntmps31
  go_wp2
  go_loopw [5] (fun i wr => ∃ k : Nat, k ≤ rows.length ∧ i = .int .i64 (k : Int) ∧ Below w.heap.size w wr) (fun i _ => rows.length - (intOf i).toNat)
  case atStart => exact ⟨0, Nat.zero_le _, rfl, Below.refl _ _⟩
  case round =>
    obtain ⟨k, hk, rfl, hbw⟩ := hrel
    have hsz := hbw.size
    by_cases hlt : k < rows.length
    · obtain ⟨ba, oa, x, rfl, ha1, ha2, hx, _⟩ := HA.out k hlt
      obtain ⟨bb, ob, y, rfl, hb1, hb2, hy, _⟩ := HB.out k hlt
      have cx := (hbw.cell (p := ⟨ba, oa + k, none⟩) ha1).trans ha2
      have cy := (hbw.cell (p := ⟨bb, ob + k, none⟩) hb1).trans hb2
      have HX := Lib.hid (pat_up (pat_keep hx hbw) hsz)
      have HY := Lib.hid (pat_up (pat_keep hy hbw) hsz)
      have ML := HM.out k hlt
      have HW := Lib.hid hbw
      have hk0 : 0 ≤ (k : Int) := by omega
      have hk1 : (k : Int) < (rows.length : Int) := by omega
      obtain ⟨ax, cx', rfl, hjx⟩ := hx
      obtain ⟨ay, cy', rfl, hjy⟩ := hy
      clear hjx hjy
      have EQ := Lib.hid (fun W' (h : Below wr.heap.size wr W') => eqS_rel _ _ rows[k] wr W' h HX.out HY.out ML)
      obtain ⟨L, hL⟩ : ∃ L, Hid (rows[k].length = L) := ⟨_, Lib.hid rfl⟩
      rw [hL.out] at cx cy EQ
      clear ha2 hb2 hbw ML
      go_wp2_with fail
      go_region_held3 (fun W => W.cell? ⟨ba, oa + k, none⟩ = some (.slice ax L cx') ∧ W.cell? ⟨bb, ob + k, none⟩ = some (.slice ay L cy')) (first | exact ⟨cx, cy⟩ | exact ⟨n1, n2⟩ | (simp [go_sem]; first | exact ⟨cx, cy⟩ | exact ⟨n1, n2⟩)) (first | (go_at_call 36; refine (EQ.out _ (by repeat (first | assumption | exact Below.refl _ _ | refine Below.drew ?_ | refine bdP ?_ _))).mono ?_; rintro e w2 ⟨rfl, hb2⟩; have n1 := (hb2.cell (p := ⟨ba, oa + k, none⟩) (World.block_lt_of_cell? _ _ cx)).trans cx; have n2 := (hb2.cell (p := ⟨bb, ob + k, none⟩) (World.block_lt_of_cell? _ _ cy)).trans cy))
      all_goals
        have HW2 := Lib.hid (HW.out.trans (hb2.mono hsz))
        clear hb2
        go_wp2
        go_roundw
        case rel => exact ⟨k + 1, by omega, by go_num, (by first | exact HW2.out | exact bdP HW2.out _ | exact bdrew HW2.out)⟩
        case measure => simp [intOf]; omega
    · obtain rfl : k = rows.length := by omega
      go_wp2
      go_ret
      exact ⟨rfl, hbw⟩
/-- The first rows marked, the others as they were. -/
def mixC (rows : List (List Pl)) (i : Nat) : List (List Pl) := (List.range rows.length).map fun k => if k < i then marksK (1 + 2 * totP rows k) (rows.getD k []).length else rows.getD k []
theorem mixC_len (rows : List (List Pl)) (i : Nat) : (mixC rows i).length = rows.length := by simp [mixC]
theorem mixC_at (rows : List (List Pl)) (i k : Nat) (h : k < rows.length) : (mixC rows i)[k]? = some (if k < i then marksK (1 + 2 * totP rows k) (rows.getD k []).length else rows.getD k []) := by
  simp [mixC, h]
theorem mixC_zero (rows : List (List Pl)) : mixC rows 0 = rows := by
  apply List.ext_getElem?
  intro k
  by_cases h : k < rows.length
  · rw [mixC_at rows 0 k h, if_neg (by omega), List.getD_eq_getElem?_getD, List.getElem?_eq_getElem h]; rfl
  · rw [List.getElem?_eq_none (by rw [mixC_len]; omega), List.getElem?_eq_none (by omega)]
theorem mixC_set (rows : List (List Pl)) (i : Nat) (h : i < rows.length) : (mixC rows i).set i (marksK (1 + 2 * totP rows i) (rows.getD i []).length) = mixC rows (i + 1) := by
  apply List.ext_getElem?
  intro k
  by_cases hk : k < rows.length
  · rw [mixC_at rows (i + 1) k hk, List.getElem?_set]
    by_cases e : i = k
    · subst e
      rw [if_pos rfl, if_pos (by rw [mixC_len]; exact h), if_pos (by omega)]
    · rw [if_neg e, mixC_at rows i k hk]
      by_cases h2 : k < i
      · rw [if_pos h2, if_pos (by omega)]
      · rw [if_neg h2, if_neg (by omega)]
  · rw [List.getElem?_eq_none (by rw [List.length_set, mixC_len]; omega), List.getElem?_eq_none (by rw [mixC_len]; omega)]
/-- One row is written, the others stay. -/
theorem cv_set {w w' : World} {B C : Nat} {v x : Value} {vs : List Value} {rows : List (List Pl)} {zs : List Pl} {i : Nat} (h : CV w B C v vs rows) (hx : vs[i]? = some x) (hg : w.grownBy w' x.ownBlock) (hn : PRow w' B x zs) : CV w' B C v vs (rows.set i zs) := by
  obtain ⟨h1, h2, h3, h4, h5, h6⟩ := h
  have hv : v.ownBlock = none ∨ v.ownBlock ≠ x.ownBlock := by
    rcases (h5 i x hx).2 with e | e
    · cases hvb : v.ownBlock with
      | none => exact .inl rfl
      | some b => exact .inr (by rw [e]; simp)
    · exact .inr fun e2 => e e2.symm
  refine ⟨by rw [List.length_set]; exact World.ownsRow.kept h1 hg hv, by rw [List.length_set]; exact h2, h3, ⟨fun k y ys hy hz => ?_, h5, h6⟩⟩
  rw [List.getElem?_set] at hz
  by_cases e : i = k
  · subst e
    rw [hx] at hy
    cases hy
    rw [if_pos rfl] at hz
    split at hz
    · cases hz; exact hn
    · cases hz
  · rw [if_neg e] at hz
    refine World.ownsRow.kept (h4 k y ys hy hz) hg ?_
    rcases Nat.lt_or_gt_of_ne e with h | h
    · rcases h6 i k x y h hx hy with e2 | e2
      · cases hyb : y.ownBlock with
        | none => exact .inl rfl
        | some b => exact .inr (by rw [e2]; simp)
      · exact .inr fun e3 => e2 e3.symm
    · exact h6 k i y x h hy hx
end Go.Proofs.Ytemhmejjmhbfdab.ctab
