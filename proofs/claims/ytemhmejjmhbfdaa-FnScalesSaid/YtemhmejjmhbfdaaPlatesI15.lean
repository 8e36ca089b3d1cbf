/- The program's boxes of places: the contract of FlatBox. -/
import Derived.Test.YtemhmejjmhbfdaaPlatesI14
import Derived.Shelf.Abstract
namespace Go.Proofs.Ytemhmejjmhbfdaa.sines
open Go.ChangeShapes Go.WideShapes Go.ChangeAt Go.RowKit Go.Proofs.Ytemhmejjmhbfdaa.spots Go.Proofs.Ytemhmejjmhbfdaa.pairs
set_option linter.unusedSimpArgs false
set_option linter.unusedVariables false

/-- The boxes of FlatBox's call. -/
def Bx (w W : World) (g : Nat) (T : TypeId) (s : Int) : Prop := W.heap[w.heap.size]? = some (cel 0 0) ∧ W.heap[w.heap.size + 1]? = some (cel 0 0) ∧ W.heap[g]? = some (.cells #[.iface T (.agg #[]), .int .i64 s] 98 (0, 0)) ∧ w.heap.size + 1 < g ∧ Below w.heap.size w W
theorem bx_keep {w W W' : World} {g : Nat} {T : TypeId} {s : Int} (h : Bx w W g T s) (hb : Below W.heap.size W W') : Bx w W' g T s :=
  ⟨(hb.block _ (lt_of h.1)).trans h.1, (hb.block _ (lt_of h.2.1)).trans h.2.1, (hb.block _ (lt_of h.2.2.1)).trans h.2.2.1, h.2.2.2.1, h.2.2.2.2.trans (hb.mono h.2.2.2.2.size)⟩
theorem bx_alloc {w w1 : World} (r1 : w1.heap[w.heap.size]? = some (cel 0 0)) (r2 : w1.heap[w.heap.size + 1]? = some (cel 0 0)) (r3 : Below w.heap.size w w1) (T : TypeId) (s : Int) : Bx w (w1.alloc (.cells #[.iface T (.agg #[]), .int .i64 s] 98)) w1.heap.size T s :=
  ⟨(Below.heap_alloc w1 _ _ (lt_of r1)).trans r1, (Below.heap_alloc w1 _ _ (lt_of r2)).trans r2, heap_alloc_new w1 _, lt_of r2, r3.alloc r3.size _⟩
theorem prow_cap {w : World} {B : Nat} {v : Value} {ps : List (Int × Int)} (h : PRow w B v ps) : ∃ ar cp, v = .slice ar ps.length cp ∧ ps.length ≤ cp := by
  rcases h.2 with ⟨hv, h0⟩ | ⟨g, cap, cur, hv, hB, hc, hle, _⟩
  · exact ⟨none, 0, by rw [hv, h0], by omega⟩
  · exact ⟨_, cap, hv, hle⟩
/-- Which of the two corners a function tells. -/
def Cor (ps : List (Int × Int)) (s : Int) (wave : Bool) (g : Nat) (x y : Int) : Prop := (g = 96 ∧ x = minN (fX ps s wave) (ps.length - 1) ∧ y = minN (fY ps s) (ps.length - 1)) ∨ (g = 97 ∧ x = maxN (fX ps s wave) (ps.length - 1) ∧ y = maxN (fY ps s) (ps.length - 1))
theorem corners_any (ps : List (Int × Int)) (s : Int) (wave : Bool) (ar : Option Addr) (cp : Nat) (g : Nat) (x y : Int) (h : Cor ps s wave g x y) (w : World)
    (hv : PAt w w.heap.size (.slice ar ps.length cp) ps) (hn : 0 < ps.length) (hl : ps.length ≤ 1048576) (hc : ps.length ≤ cp) (hok : okL ps = true) (s0 : 1 ≤ s) (s1 : s ≤ 100000) :
    Calls Try.prog 95 #[.agg #[.iface (projT wave) (.agg #[]), .int .i64 s], .slice ar ps.length cp, .func (.func g) #[] #[]] w fun e w' => e = .returned (.agg #[.int .i64 x, .int .i64 y]) ∧ Below w.heap.size w w' := by
  rcases h with ⟨rfl, rfl, rfl⟩ | ⟨rfl, rfl, rfl⟩
  · exact corner_any 96 (fun a b => min a b) _ _ ps s wave ar cp w (enters_of Try.func96 (by kernel_rfl) rfl) (fun a b c d W => sw_any a b c d W) rfl rfl (fun k => rfl) (fun k => rfl) hv hn hl hc hok s0 s1
  · exact corner_any 97 (fun a b => max a b) _ _ ps s wave ar cp w (enters_of Try.func97 (by kernel_rfl) rfl) (fun a b c d W => ne_any a b c d W) rfl rfl (fun k => rfl) (fun k => rfl) hv hn hl hc hok s0 s1
set_option maxRecDepth 100000 in
set_option maxHeartbeats 2000000 in
theorem implFlat_bad (v : Value) (ps : List (Int × Int)) (s : Int) (wave : Bool) (w : World) (hv : PAt w w.heap.size v ps) (hl : ps.length ≤ 1048576) (c : Int) (h0 : c ≠ 0) (hc : codeP ps s (decide (ps.length ≤ 100)) = c) :
    Calls Try.prog 26 #[v, .int .i64 s, .bool wave] w fun e w' => e = .returned (.tuple #[.agg #[.int .i64 0, .int .i64 0], .agg #[.int .i64 0, .int .i64 0], .int .i64 c]) ∧ Below w.heap.size w w' := by
  have MP := Lib.hid (fun W => mapOf_any s wave W)
  have CD := Lib.hid (fun W (h : PAt W W.heap.size v ps) => code_any (projT wave) s (decide (ps.length ≤ 100)) v ps W h hl)
  rw [hc] at CD
  generalize projT wave = T at MP CD
  have HV := Lib.hid hv
  obtain ⟨ar, cp, rfl, _⟩ := hv
  have hl2 : (ps.length : Int) ≤ 1048576 := by omega
  have hn : (c == 0) = false := by simpa using h0
  have hd : decide ((ps.length : Int) ≤ 100) = decide (ps.length ≤ 100) := by rw [decide_eq_decide]; omega
  rw [← hd] at CD
  clear hc
  cases h1 : decide ((ps.length : Int) ≤ 100)
  all_goals
    rw [h1] at CD
    clear hd
    go_enter Try.func26, Try.ntmps26
    go_wp2_with fail
    refine (MP.out _).mono ?_
    rintro e w1 ⟨rfl, hb⟩
    obtain ⟨r1, r2, r3⟩ := two_results hb
    have BX := Lib.hid (bx_alloc r1 r2 r3 T s)
    clear hb r1 r2 r3
    have AL := Lib.hid (heap_alloc_new w1 (.cells #[.iface T (.agg #[]), .int .i64 s] 98))
    obtain ⟨m1, m2, _, _⟩ := cel2_cells AL.out
    go_wp2_with fail
    generalize w1.alloc (.cells #[.iface T (.agg #[]), .int .i64 s] 98) = W1 at *
    have PV := pat_up (pat_keep HV.out BX.out.2.2.2.2) BX.out.2.2.2.2.size
    refine (CD.out _ PV).mono ?_
    rintro e w2 ⟨rfl, hb⟩
    have B2 := Lib.hid (bx_keep BX.out hb)
    clear hb PV m1 m2 AL
    obtain ⟨⟨k1, k2, k3⟩, _⟩ := both_stored B2.out.1 B2.out.2.1 B2.out.2.2.2.2 0 0 0 0
    obtain ⟨c1, c2, c3, c4⟩ := cel_cells B2.out.1
    obtain ⟨d1, d2, d3, d4⟩ := cel_cells B2.out.2.1
    go_wp2
    generalize (((w2.setCell ⟨w.heap.size, 0, none⟩ (.int .i64 0)).setCell ⟨w.heap.size, 1, none⟩ (.int .i64 0)).setCell ⟨w.heap.size + 1, 0, none⟩ (.int .i64 0)).setCell ⟨w.heap.size + 1, 1, none⟩ (.int .i64 0) = VF at *
    obtain ⟨e1, e2, _, _⟩ := cel_cells k1
    obtain ⟨f1, f2, _, _⟩ := cel_cells k2
    exact bodyPost_ret (v := .tuple #[.agg #[.int .i64 0, .int .i64 0], .agg #[.int .i64 0, .int .i64 0], .int .i64 c]) (by simp [results, Try.results26, go_sem, e1, e2, f1, f2]) rfl ⟨rfl, k3⟩
set_option maxRecDepth 100000 in
set_option maxHeartbeats 2000000 in
theorem implFlat_none (v : Value) (ps : List (Int × Int)) (s : Int) (wave : Bool) (w : World) (hv : PAt w w.heap.size v ps) (hl : ps.length = 0) (hc : codeP ps s true = 0) :
    Calls Try.prog 26 #[v, .int .i64 s, .bool wave] w fun e w' => e = .returned (.tuple #[.agg #[.int .i64 0, .int .i64 0], .agg #[.int .i64 0, .int .i64 0], .int .i64 3]) ∧ Below w.heap.size w w' := by
  have MP := Lib.hid (fun W => mapOf_any s wave W)
  have CD := Lib.hid (fun W (h : PAt W W.heap.size v ps) => code_any (projT wave) s true v ps W h (by omega))
  rw [hc] at CD
  generalize projT wave = T at MP CD
  have HV := Lib.hid hv
  obtain ⟨ar, cp, rfl, _⟩ := hv
  clear hc
  rw [hl] at CD HV ⊢
  clear hl
  go_enter Try.func26, Try.ntmps26
  go_wp2_with fail
  refine (MP.out _).mono ?_
  rintro e w1 ⟨rfl, hb⟩
  obtain ⟨r1, r2, r3⟩ := two_results hb
  have BX := Lib.hid (bx_alloc r1 r2 r3 T s)
  clear hb r1 r2 r3
  have AL := Lib.hid (heap_alloc_new w1 (.cells #[.iface T (.agg #[]), .int .i64 s] 98))
  obtain ⟨m1, m2, _, _⟩ := cel2_cells AL.out
  go_wp2_with fail
  generalize w1.alloc (.cells #[.iface T (.agg #[]), .int .i64 s] 98) = W1 at *
  have PV := pat_up (pat_keep HV.out BX.out.2.2.2.2) BX.out.2.2.2.2.size
  refine (CD.out _ PV).mono ?_
  rintro e w2 ⟨rfl, hb⟩
  have B2 := Lib.hid (bx_keep BX.out hb)
  clear hb PV m1 m2 AL
  obtain ⟨⟨k1, k2, k3⟩, _⟩ := both_stored B2.out.1 B2.out.2.1 B2.out.2.2.2.2 0 0 0 0
  obtain ⟨c1, c2, c3, c4⟩ := cel_cells B2.out.1
  obtain ⟨d1, d2, d3, d4⟩ := cel_cells B2.out.2.1
  go_wp2
  generalize (((w2.setCell ⟨w.heap.size, 0, none⟩ (.int .i64 0)).setCell ⟨w.heap.size, 1, none⟩ (.int .i64 0)).setCell ⟨w.heap.size + 1, 0, none⟩ (.int .i64 0)).setCell ⟨w.heap.size + 1, 1, none⟩ (.int .i64 0) = VF at *
  obtain ⟨e1, e2, _, _⟩ := cel_cells k1
  obtain ⟨f1, f2, _, _⟩ := cel_cells k2
  exact bodyPost_ret (v := .tuple #[.agg #[.int .i64 0, .int .i64 0], .agg #[.int .i64 0, .int .i64 0], .int .i64 3]) (by simp [results, Try.results26, go_sem, e1, e2, f1, f2]) rfl ⟨rfl, k3⟩

set_option maxRecDepth 100000 in
set_option maxHeartbeats 2000000 in
theorem implFlat_good (ar : Option Addr) (cp : Nat) (ps : List (Int × Int)) (s : Int) (wave : Bool) (w : World) (hv : PAt w w.heap.size (.slice ar ps.length cp) ps) (hl : ps.length ≤ 100) (hn : 0 < ps.length) (hcp : ps.length ≤ cp) (hok : okL ps = true) (s0 : 1 ≤ s) (s1 : s ≤ 100000) :
    Calls Try.prog 26 #[.slice ar ps.length cp, .int .i64 s, .bool wave] w fun e w' => e = .returned (.tuple #[.agg #[.int .i64 (minN (fX ps s wave) (ps.length - 1)), .int .i64 (minN (fY ps s) (ps.length - 1))], .agg #[.int .i64 (maxN (fX ps s wave) (ps.length - 1)), .int .i64 (maxN (fY ps s) (ps.length - 1))], .int .i64 0]) ∧ Below w.heap.size w w' := by
  have MP := Lib.hid (fun W => mapOf_any s wave W)
  have CD := Lib.hid (fun W (h : PAt W W.heap.size (.slice ar ps.length cp) ps) => code_any (projT wave) s true (.slice ar ps.length cp) ps W h (by omega))
  have hsi : inB s 1 100000 = true := by simp [inB]; omega
  rw [show codeP ps s true = 0 by simp [codeP, hok, hsi]] at CD
  have CO := Lib.hid (fun g x y (h : Cor ps s wave g x y) W (hW : PAt W W.heap.size (.slice ar ps.length cp) ps) => corners_any ps s wave ar cp g x y h W hW hn (by omega) hcp hok s0 s1)
  have K1 := Lib.hid (show Cor ps s wave 96 (minN (fX ps s wave) (ps.length - 1)) (minN (fY ps s) (ps.length - 1)) from .inl ⟨rfl, rfl, rfl⟩)
  have K2 := Lib.hid (show Cor ps s wave 97 (maxN (fX ps s wave) (ps.length - 1)) (maxN (fY ps s) (ps.length - 1)) from .inr ⟨rfl, rfl, rfl⟩)
  generalize projT wave = T at MP CD CO
  generalize minN (fX ps s wave) (ps.length - 1) = xa at K1 ⊢
  generalize minN (fY ps s) (ps.length - 1) = ya at K1 ⊢
  generalize maxN (fX ps s wave) (ps.length - 1) = xb at K2 ⊢
  generalize maxN (fY ps s) (ps.length - 1) = yb at K2 ⊢
  have HV := Lib.hid hv
  have hl2 : (ps.length : Int) ≤ 100 := by omega
  have h1 : decide ((ps.length : Int) ≤ 100) = true := by simpa using hl2
  have h2 : decide (ps.length ≤ 100) = true := by simpa using hl
  have h0' : ((ps.length : Int) == 0) = false := by rw [beq_eq_false_iff_ne]; omega
  have h0i : ¬ (ps.length : Int) = 0 := by omega
  have h0n : ¬ ps.length = 0 := by omega
  clear hv hl hn hcp hok s0 s1 hsi
  go_enter Try.func26, Try.ntmps26
  go_wp2_with fail
  refine (MP.out _).mono ?_
  rintro e w1 ⟨rfl, hb⟩
  obtain ⟨r1, r2, r3⟩ := two_results hb
  have BX := Lib.hid (bx_alloc r1 r2 r3 T s)
  clear hb r1 r2 r3
  have AL := Lib.hid (heap_alloc_new w1 (.cells #[.iface T (.agg #[]), .int .i64 s] 98))
  obtain ⟨m1, m2, _, _⟩ := cel2_cells AL.out
  go_wp2_with fail
  generalize w1.alloc (.cells #[.iface T (.agg #[]), .int .i64 s] 98) = W1 at *
  have PV := pat_up (pat_keep HV.out BX.out.2.2.2.2) BX.out.2.2.2.2.size
  refine (CD.out _ PV).mono ?_
  rintro e w2 ⟨rfl, hb⟩
  have B2 := Lib.hid (bx_keep BX.out hb)
  clear hb PV m1 m2 AL
  obtain ⟨m1, m2, _, _⟩ := cel2_cells B2.out.2.2.1
  obtain ⟨c1, c2, c3, c4⟩ := cel_cells B2.out.1
  obtain ⟨d1, d2, d3, d4⟩ := cel_cells B2.out.2.1
  have hg := B2.out.2.2.2.1
  have hne1 : w1.heap.size ≠ w.heap.size := by omega
  have hne2 : w1.heap.size ≠ w.heap.size + 1 := by omega
  clear hg
  have CO2 := Lib.hid (fun g x y (h : Cor ps s wave g x y) W (hW : Below w2.heap.size w2 W) => (CO.out g x y h W (pat_up (pat_keep HV.out (B2.out.2.2.2.2.trans (hW.mono B2.out.2.2.2.2.size))) (Nat.le_trans B2.out.2.2.2.2.size hW.size))).mono fun e w' k => (⟨k.1, hW.trans (k.2.mono hW.size)⟩ : e = .returned (.agg #[.int .i64 x, .int .i64 y]) ∧ Below w2.heap.size w2 w'))
  go_wp2_with fail
  first | (go_region_held3 (fun W => W.cell? ⟨w1.heap.size, 0, none⟩ = some (.iface T (.agg #[])) ∧ W.cell? ⟨w1.heap.size, 1, none⟩ = some (.int .i64 s)) (first | with_reducible exact ⟨n1, n2⟩ | with_reducible exact ⟨sc_cell hne1 (sc_cell hne1 n1), sc_cell hne1 (sc_cell hne1 n2)⟩ | with_reducible exact ⟨sc_cell hne2 (sc_cell hne2 (sc_cell hne1 (sc_cell hne1 n1))), sc_cell hne2 (sc_cell hne2 (sc_cell hne1 (sc_cell hne1 n2)))⟩ | exact ⟨m1, m2⟩) ((go_at_call 95; refine (CO2.out _ _ _ (by first | exact K1.out | exact K2.out) _ (by repeat (first | assumption | exact Below.refl _ _ | refine Below.drew ?_ | refine bdQ ?_ _ | refine Below.alloc ?_ (by first | exact Nat.le_refl _ | exact hv1.size | (simp; done) | (simp; omega)) _))).mono ?_; rintro e wa ⟨rfl, hv1⟩; have b3 := Lib.hid (bx_keep B2.out hv1); obtain ⟨n1, n2, _, _⟩ := cel2_cells b3.out.2.2.1; obtain ⟨f1, f2, f3, f4⟩ := cel_cells b3.out.1; obtain ⟨g1, g2, g3, g4⟩ := cel_cells b3.out.2.1; obtain ⟨s1, s2, s3, s4⟩ := cel_cells (two_other b3.out.1 b3.out.2.1 (Nat.ne_of_gt (Nat.lt_succ_self _)) (.int .i64 xa) (.int .i64 ya)).2))) | fail
  all_goals
    obtain ⟨⟨k1, k2, k3⟩, _⟩ := both_stored b3.out.1 b3.out.2.1 b3.out.2.2.2.2 xa ya xb yb
    clear n1 n2 f1 f2 f3 f4 g1 g2 g3 g4 s1 s2 s3 s4 hv1 m1 m2 c1 c2 c3 c4 d1 d2 d3 d4 CO CO2
    go_wp2
    generalize (((wa.setCell ⟨w.heap.size, 0, none⟩ (.int .i64 xa)).setCell ⟨w.heap.size, 1, none⟩ (.int .i64 ya)).setCell ⟨w.heap.size + 1, 0, none⟩ (.int .i64 xb)).setCell ⟨w.heap.size + 1, 1, none⟩ (.int .i64 yb) = VF at *
    obtain ⟨e1, e2, _, _⟩ := cel_cells k1
    obtain ⟨f1, f2, _, _⟩ := cel_cells k2
    exact bodyPost_ret (v := .tuple #[.agg #[.int .i64 xa, .int .i64 ya], .agg #[.int .i64 xb, .int .i64 yb], .int .i64 0]) (by simp [results, Try.results26, go_sem, e1, e2, f1, f2]) rfl ⟨rfl, k3⟩
theorem implFlatBox_any (v : Value) (ps : List (Int × Int)) (s : Int) (wave : Bool) (w : World) {B : Nat} (hr : PRow w B v ps) (hl : ps.length ≤ 1048576) :
    Calls Try.prog 26 #[v, .int .i64 s, .bool wave] w fun e w' => e = .returned (.tuple #[.agg #[.int .i64 (boxV ps s (minN (fX ps s wave) (ps.length - 1))), .int .i64 (boxV ps s (minN (fY ps s) (ps.length - 1)))], .agg #[.int .i64 (boxV ps s (maxN (fX ps s wave) (ps.length - 1))), .int .i64 (boxV ps s (maxN (fY ps s) (ps.length - 1)))], .int .i64 (codeFB ps s)]) ∧ Below w.heap.size w w' := by
  have hv := prow_at hr
  by_cases hc : codeFB ps s = 0
  · obtain ⟨hok, h1, hn, h2, h3⟩ := codeFB_of hc
    simp only [boxV, hc, if_true]
    obtain ⟨ar, cp, rfl, hcp⟩ := prow_cap hr
    exact implFlat_good ar cp ps s wave w hv h1 hn hcp hok h2 h3
  · simp only [boxV, hc, if_false]
    by_cases hp : codeP ps s (decide (ps.length ≤ 100)) = 0
    · have h3 : ps.length = 0 ∧ codeFB ps s = 3 ∧ codeP ps s true = 0 := by
        unfold codeP at hp
        unfold codeFB at hc ⊢
        cases h1 : okL ps with
        | false => rw [h1] at hp; simp at hp
        | true =>
          rw [h1] at hp hc
          simp only [if_true] at hp hc ⊢
          cases h2 : inB s 1 100000 with
          | false => rw [h2] at hp; simp at hp
          | true =>
            rw [h2] at hp hc
            simp only [Bool.true_and] at hp
            by_cases h4 : ps.length ≤ 100
            · simp only [h4, true_and, if_true] at hc ⊢
              by_cases h5 : ps.length = 0
              · simp [h5, codeP, h1, h2]
              · exact absurd (by simp [h5]) hc
            · simp [h4] at hp
      rw [h3.2.1]
      exact implFlat_none v ps s wave w hv h3.1 h3.2.2
    · have he : codeP ps s (decide (ps.length ≤ 100)) = codeFB ps s := by
        unfold codeP codeFB at *
        cases h1 : okL ps with
        | false => simp
        | true =>
          rw [h1] at hp
          simp only [if_true] at hp ⊢
          cases h2 : inB s 1 100000 with
          | false => simp
          | true =>
            rw [h2] at hp
            simp only [Bool.true_and] at hp ⊢
            by_cases h4 : ps.length ≤ 100
            · simp [h4] at hp
            · simp [h4]
      exact implFlat_bad v ps s wave w hv hl _ hc he
end Go.Proofs.Ytemhmejjmhbfdaa.sines
