/- The program's best scale: its contract. -/
import Derived.Test.YtemhmejjmhbfdaaPlatesI11
namespace Go.Proofs.Ytemhmejjmhbfdaa.sines
open Go.ChangeShapes Go.WideShapes Go.ChangeAt Go.RowKit Go.Proofs.Ytemhmejjmhbfdaa.spots Go.Proofs.Ytemhmejjmhbfdaa.pairs
set_option linter.unusedSimpArgs false
set_option linter.unusedVariables false

set_option maxRecDepth 100000 in
set_option maxHeartbeats 2000000 in
theorem implBest_bad (v : Value) (ps : List (Int × Int)) (most : Int) (wave : Bool) (w : World) (hv : PAt w w.heap.size v ps) (hl : ps.length ≤ 1048576) (c : Int) (h0 : c ≠ 0) (hc : codeP ps 1000 (inB most 0 1000 && decide (ps.length ≤ 20)) = c) :
    Calls Try.prog 33 #[v, .int .i64 most, .bool wave] w fun e w' => e = .returned (.tuple #[.int .i64 0, .int .i64 c]) ∧ Below w.heap.size w w' := by
  have MP := Lib.hid (fun W => mapOf_any 1000 wave W)
  have WI := Lib.hid (fun W => within_any most 0 1000 W)
  have CD := Lib.hid (fun (T : TypeId) W (h : PAt W W.heap.size v ps) => code_any T 1000 (inB most 0 1000 && decide (ps.length ≤ 20)) v ps W h hl)
  rw [hc] at CD
  replace CD := Lib.hid (CD.out (projT wave))
  generalize projT wave = T at MP CD
  have HV := Lib.hid hv
  obtain ⟨ar, cp, rfl, _⟩ := hv
  have hl2 : (ps.length : Int) ≤ 1048576 := by omega
  have hn : (c == 0) = false := by simpa using h0
  have hd : decide ((ps.length : Int) ≤ 20) = decide (ps.length ≤ 20) := by rw [decide_eq_decide]; omega
  clear hc
  generalize inB most 0 1000 = g at WI CD
  cases g with
  | false =>
    simp only [Bool.false_and] at CD
    go_enter Try.func33, Try.ntmps33
    go_wp2_with fail
    refine (MP.out _).mono ?_
    rintro e w1 ⟨rfl, hb⟩
    have U1 := Lib.hid hb
    have BA := (Below.refl w1.heap.size w1).alloc (Nat.le_refl _) (.cells #[.iface T (.agg #[]), .int .i64 1000] 98)
    have M0 := Lib.hid (heap_alloc_new w1 (.cells #[.iface T (.agg #[]), .int .i64 1000] 98))
    have V1 := Lib.hid (U1.out.trans (BA.mono U1.out.size))
    have LEn : w.heap.size ≤ w1.heap.size := hb.size
    obtain ⟨m1, m2, _, _⟩ := cel2_cells M0.out
    clear hb BA
    go_wp2_with fail
    generalize w1.alloc (.cells #[.iface T (.agg #[]), .int .i64 1000] 98) = W1 at *
    have CD2 := Lib.hid (fun W (hW : Below W1.heap.size W1 W) => (CD.out W (pat_up (pat_keep HV.out (V1.out.trans (hW.mono V1.out.size))) (Nat.le_trans V1.out.size hW.size))).mono fun e w' h => (⟨h.1, hW.trans (h.2.mono hW.size)⟩ : e = .returned (.int .i64 c) ∧ Below W1.heap.size W1 w'))
    first | (go_region_with (first | (go_at_call 107; refine (WI.out _).mono ?_; rintro e w' ⟨rfl, rfl⟩) | (go_at_call 94; refine (CD2.out _ (by repeat (first | assumption | exact Below.refl _ _ | refine Below.drew ?_ | refine bdQ ?_ _ | refine Below.alloc ?_ (by first | exact Nat.le_refl _ | exact hv1.size | (simp; done) | (simp; omega)) _))).mono ?_; rintro e w2 ⟨rfl, hv2⟩; have o0 := (hv2.block _ (lt_of M0.out)).trans M0.out; obtain ⟨o1, o2, o3, o4⟩ := cel2_cells o0))) | fail
    all_goals
      have HB := Lib.hid (V1.out.trans (hv2.mono V1.out.size))
      clear hv2 o0 o1 o2 o3 o4 m1 m2
      go_wp2
      exact bodyPost_ret (v := .tuple #[.int .i64 0, .int .i64 c]) (by simp [results, Try.results33, go_sem]) rfl ⟨rfl, HB.out⟩
  | true =>
    simp only [Bool.true_and] at CD
    rw [← hd] at CD
    cases h20 : decide ((ps.length : Int) ≤ 20) with
    | false =>
      rw [h20] at CD
      clear hd
      go_enter Try.func33, Try.ntmps33
      go_wp2_with fail
      refine (MP.out _).mono ?_
      rintro e w1 ⟨rfl, hb⟩
      have U1 := Lib.hid hb
      have BA := (Below.refl w1.heap.size w1).alloc (Nat.le_refl _) (.cells #[.iface T (.agg #[]), .int .i64 1000] 98)
      have M0 := Lib.hid (heap_alloc_new w1 (.cells #[.iface T (.agg #[]), .int .i64 1000] 98))
      have V1 := Lib.hid (U1.out.trans (BA.mono U1.out.size))
      have LEn : w.heap.size ≤ w1.heap.size := hb.size
      obtain ⟨m1, m2, _, _⟩ := cel2_cells M0.out
      clear hb BA
      go_wp2_with fail
      generalize w1.alloc (.cells #[.iface T (.agg #[]), .int .i64 1000] 98) = W1 at *
      have CD2 := Lib.hid (fun W (hW : Below W1.heap.size W1 W) => (CD.out W (pat_up (pat_keep HV.out (V1.out.trans (hW.mono V1.out.size))) (Nat.le_trans V1.out.size hW.size))).mono fun e w' h => (⟨h.1, hW.trans (h.2.mono hW.size)⟩ : e = .returned (.int .i64 c) ∧ Below W1.heap.size W1 w'))
      first | (go_region_held3 (fun W => W.cell? ⟨w1.heap.size, 0, none⟩ = some (.iface T (.agg #[])) ∧ W.cell? ⟨w1.heap.size, 1, none⟩ = some (.int .i64 1000)) (first | exact ⟨m1, m2⟩ | exact ⟨o1, o2⟩ | (simp [go_sem]; first | exact ⟨m1, m2⟩ | exact ⟨o1, o2⟩)) (first | (go_at_call 107; refine (WI.out _).mono ?_; rintro e w' ⟨rfl, rfl⟩) | (go_at_call 94; refine (CD2.out _ (by repeat (first | assumption | exact Below.refl _ _ | refine Below.drew ?_ | refine bdQ ?_ _ | refine Below.alloc ?_ (by first | exact Nat.le_refl _ | exact hv1.size | (simp; done) | (simp; omega)) _))).mono ?_; rintro e w2 ⟨rfl, hv2⟩; have o0 := (hv2.block _ (lt_of M0.out)).trans M0.out; obtain ⟨o1, o2, o3, o4⟩ := cel2_cells o0))) | fail
      all_goals
        have HB := Lib.hid (V1.out.trans (hv2.mono V1.out.size))
        clear hv2 o0 o1 o2 o3 o4 m1 m2
        go_wp2
        exact bodyPost_ret (v := .tuple #[.int .i64 0, .int .i64 c]) (by simp [results, Try.results33, go_sem]) rfl ⟨rfl, HB.out⟩
    | true =>
      rw [h20] at CD
      clear hd
      go_enter Try.func33, Try.ntmps33
      go_wp2_with fail
      refine (MP.out _).mono ?_
      rintro e w1 ⟨rfl, hb⟩
      have U1 := Lib.hid hb
      have BA := (Below.refl w1.heap.size w1).alloc (Nat.le_refl _) (.cells #[.iface T (.agg #[]), .int .i64 1000] 98)
      have M0 := Lib.hid (heap_alloc_new w1 (.cells #[.iface T (.agg #[]), .int .i64 1000] 98))
      have V1 := Lib.hid (U1.out.trans (BA.mono U1.out.size))
      have LEn : w.heap.size ≤ w1.heap.size := hb.size
      obtain ⟨m1, m2, _, _⟩ := cel2_cells M0.out
      clear hb BA
      go_wp2_with fail
      generalize w1.alloc (.cells #[.iface T (.agg #[]), .int .i64 1000] 98) = W1 at *
      have CD2 := Lib.hid (fun W (hW : Below W1.heap.size W1 W) => (CD.out W (pat_up (pat_keep HV.out (V1.out.trans (hW.mono V1.out.size))) (Nat.le_trans V1.out.size hW.size))).mono fun e w' h => (⟨h.1, hW.trans (h.2.mono hW.size)⟩ : e = .returned (.int .i64 c) ∧ Below W1.heap.size W1 w'))
      first | (go_region_held3 (fun W => W.cell? ⟨w1.heap.size, 0, none⟩ = some (.iface T (.agg #[])) ∧ W.cell? ⟨w1.heap.size, 1, none⟩ = some (.int .i64 1000)) (first | exact ⟨m1, m2⟩ | exact ⟨o1, o2⟩ | (simp [go_sem]; first | exact ⟨m1, m2⟩ | exact ⟨o1, o2⟩)) (first | (go_at_call 107; refine (WI.out _).mono ?_; rintro e w' ⟨rfl, rfl⟩) | (go_at_call 94; refine (CD2.out _ (by repeat (first | assumption | exact Below.refl _ _ | refine Below.drew ?_ | refine bdQ ?_ _ | refine Below.alloc ?_ (by first | exact Nat.le_refl _ | exact hv1.size | (simp; done) | (simp; omega)) _))).mono ?_; rintro e w2 ⟨rfl, hv2⟩; have o0 := (hv2.block _ (lt_of M0.out)).trans M0.out; obtain ⟨o1, o2, o3, o4⟩ := cel2_cells o0))) | fail
      all_goals
        have HB := Lib.hid (V1.out.trans (hv2.mono V1.out.size))
        clear hv2 o0 o1 o2 o3 o4 m1 m2
        go_wp2
        exact bodyPost_ret (v := .tuple #[.int .i64 0, .int .i64 c]) (by simp [results, Try.results33, go_sem]) rfl ⟨rfl, HB.out⟩
def bestCells (T : TypeId) (k : Nat) : Obj := .cells #[.iface T (.agg #[]), .int .i64 (k : Int)] 98 (0, 0)
theorem best_store {W : World} {n k : Nat} {T : TypeId} (h : W.heap[n]? = some (bestCells T (k + 1))) : (W.setCell ⟨n, 1, none⟩ (.int .i64 (k : Int))).heap[n]? = some (bestCells T k) := by
  have e1 := heap_setCell_same W n 1 _ _ (.int .i64 (k : Int)) h
  simpa [bestCells] using e1
theorem best_cells {W : World} {n k : Nat} {T : TypeId} (h : W.heap[n]? = some (bestCells T k)) : W.cell? ⟨n, 0, none⟩ = some (.iface T (.agg #[])) ∧ W.cell? ⟨n, 1, none⟩ = some (.int .i64 (k : Int)) ∧ W.frozen? ⟨n, 0, none⟩ = false ∧ W.frozen? ⟨n, 1, none⟩ = false := cel2_cells h
set_option maxRecDepth 100000 in
set_option maxHeartbeats 2000000 in
theorem implBest_good (v : Value) (ps : List (Int × Int)) (most : Int) (wave : Bool) (w : World) (hv : PAt w w.heap.size v ps) (hl : ps.length ≤ 20) (hok : okL ps = true) (hm : inB most 0 1000 = true) :
    Calls Try.prog 33 #[v, .int .i64 most, .bool wave] w fun e w' => e = .returned (.tuple #[.int .i64 (bestN ps most wave : Nat), .int .i64 (if bestN ps most wave = 0 then 3 else 0)]) ∧ Below w.heap.size w w' := by
  obtain ⟨mo0, mo1⟩ := inB_of hm
  have hl1 : ps.length ≤ 1048576 := by omega
  have MP := Lib.hid (fun W => mapOf_any 1000 wave W)
  have WI := Lib.hid (fun W => within_any most 0 1000 W)
  have CD := Lib.hid (fun (T : TypeId) W (h : PAt W W.heap.size v ps) => code_any T 1000 true v ps W h hl1)
  have CX := Lib.hid (fun (k : Nat) (k0 : 1 ≤ k) (k1 : k ≤ 1000) W (h : PAt W W.heap.size v ps) => containsEx_any v ps (k : Int) most wave W h hl1 hok (by omega) (by omega) mo0 mo1)
  have BN := Lib.hid (show ∀ k : Nat, k ≤ 1000 → (∀ t : Nat, k < t → t ≤ 1000 → fitsB ps (t : Int) most wave = false) → (k = 0 ∨ fitsB ps (k : Int) most wave = true) → bestN ps most wave = k from fun k h1 h2 h3 => bestD_at 1000 k h1 h2 h3)
  rw [show codeP ps 1000 true = 0 by simp [codeP, hok, inB]] at CD
  replace CD := Lib.hid (CD.out (projT wave))
  rw [hm] at WI
  generalize projT wave = T at MP CD CX
  generalize bestN ps most wave = N at BN ⊢
  have HV := Lib.hid hv
  obtain ⟨ar, cp, rfl, _⟩ := hv
  have hl2 : (ps.length : Int) ≤ 20 := by omega
  have h20 : decide ((ps.length : Int) ≤ 20) = true := by simpa using hl2
  have h20' : decide (ps.length ≤ 20) = true := by simpa using hl
  have hmf : ∀ (fn : Fn) (first cap : Array Value) (w : World), (Instr.makeFunc fn first cap).run Try.prog w = .ok (.func fn first cap) w := fun _ _ _ _ => rfl
  clear hm mo0 mo1 hok hl
  go_enter Try.func33, Try.ntmps33
  go_wp2_with fail
  refine (MP.out _).mono ?_
  rintro e w1 ⟨rfl, hb⟩
  have U1 := Lib.hid hb
  have BA := (Below.refl w1.heap.size w1).alloc (Nat.le_refl _) (.cells #[.iface T (.agg #[]), .int .i64 1000] 98)
  have M0 := Lib.hid (heap_alloc_new w1 (.cells #[.iface T (.agg #[]), .int .i64 1000] 98))
  have V1 := Lib.hid (U1.out.trans (BA.mono U1.out.size))
  have LEn : w.heap.size ≤ w1.heap.size := hb.size
  obtain ⟨m1, m2, _, _⟩ := cel2_cells M0.out
  clear hb BA
  go_wp2_with fail
  generalize w1.alloc (.cells #[.iface T (.agg #[]), .int .i64 1000] 98) = W1 at *
  have CD2 := Lib.hid (fun W (hW : Below W1.heap.size W1 W) => (CD.out W (pat_up (pat_keep HV.out (V1.out.trans (hW.mono V1.out.size))) (Nat.le_trans V1.out.size hW.size))).mono fun e w' h => (⟨h.1, hW.trans (h.2.mono hW.size)⟩ : e = .returned (.int .i64 0) ∧ Below W1.heap.size W1 w'))
  first | (go_region_held3 (fun W => W.cell? ⟨w1.heap.size, 0, none⟩ = some (.iface T (.agg #[])) ∧ W.cell? ⟨w1.heap.size, 1, none⟩ = some (.int .i64 1000)) (first | exact ⟨m1, m2⟩ | exact ⟨o1, o2⟩ | (simp [go_sem]; first | exact ⟨m1, m2⟩ | exact ⟨o1, o2⟩)) (first | (go_at_call 107; refine (WI.out _).mono ?_; rintro e w' ⟨rfl, rfl⟩) | (go_at_call 94; refine (CD2.out _ (by repeat (first | assumption | exact Below.refl _ _ | refine Below.drew ?_ | refine bdQ ?_ _ | refine Below.alloc ?_ (by first | exact Nat.le_refl _ | exact hv1.size | (simp; done) | (simp; omega)) _))).mono ?_; rintro e w2 ⟨rfl, hv2⟩; have o0 := (hv2.block _ (lt_of M0.out)).trans M0.out; obtain ⟨o1, o2, o3, o4⟩ := cel2_cells o0))) | fail
  all_goals
    have HB := Lib.hid (V1.out.trans (hv2.mono V1.out.size))
    have O0 := Lib.hid (show w2.heap[w1.heap.size]? = some (bestCells T 1000) from o0)
    clear hv2 o0 o1 o2 o3 o4 m1 m2 CD CD2 MP WI h20 h20'
    go_wp2
    go_loopg [] 1000 (fun k wr => k ≤ 1000 ∧ wr.heap[w1.heap.size]? = some (bestCells T k) ∧ (∀ t : Nat, k < t → t ≤ 1000 → fitsB ps (t : Int) most wave = false) ∧ Below w.heap.size w wr)
    case atStart => exact ⟨Nat.le_refl _, O0.out, fun t h1 h2 => by omega, HB.out⟩
    case round =>
      obtain ⟨hk, h0, ha, hb⟩ := hrel
      have HA := Lib.hid ha
      have HBr := Lib.hid hb
      have hsz := hb.size
      clear ha
      by_cases hk1 : 1 ≤ gk
      · obtain ⟨k, rfl⟩ : ∃ k, gk = k + 1 := ⟨gk - 1, by omega⟩
        obtain ⟨c1, c2, c3, c4⟩ := best_cells h0
        have H0 := Lib.hid h0
        have FT := Lib.hid (CX.out (k + 1) (by omega) hk wr (pat_up (pat_keep HV.out hb) hsz))
        obtain ⟨r, hr⟩ : ∃ r, Hid (fitsB ps ((k + 1 : Nat) : Int) most wave = r) := ⟨_, Lib.hid rfl⟩
        rw [hr.out] at FT
        have KK : ∃ K : Int, ((k + 1 : Nat) : Int) = K ∧ 1 ≤ K ∧ K ≤ 1000 ∧ IntKind.i64.wrap (K - 1) = (k : Int) := ⟨_, rfl, by omega, by omega, by rw [IntWalk.i64_in _ (by omega)]; omega⟩
        obtain ⟨K, eK, K1, K2, kw⟩ := KK
        have EK := Lib.hid eK
        rw [eK] at FT c2
        clear eK hb h0
        cases r with
        | true =>
          have E := Lib.hid (BN.out (k + 1) hk HA.out (.inr hr.out))
          have hN : ¬ N = 0 := by rw [E.out]; omega
          go_wp2_with fail
          refine FT.out.mono ?_
          rintro e w5 ⟨rfl, hb5⟩
          obtain ⟨d1, d2, d3, d4⟩ := best_cells ((hb5.block _ (lt_of H0.out)).trans H0.out)
          rw [EK.out] at d2
          have HB5 := Lib.hid (HBr.out.trans (hb5.mono hsz))
          clear c1 c2 c3 c4 hb5
          go_wp2
          exact bodyPost_ret (v := .tuple #[.int .i64 K, .int .i64 0]) (by simp [results, Try.results33, go_sem]) rfl ⟨ret2q (by rw [E.out, EK.out]) (by first | rfl | rw [if_neg hN]), HB5.out⟩
        | false =>
          have A2 := Lib.hid (show ∀ t : Nat, k < t → t ≤ 1000 → fitsB ps (t : Int) most wave = false from fun t h1 h2 => by
            by_cases e : t = k + 1
            · subst e; exact hr.out
            · exact HA.out t (by omega) h2)
          go_wp2_with fail
          refine FT.out.mono ?_
          rintro e w5 ⟨rfl, hb5⟩
          have D0 := Lib.hid ((hb5.block _ (lt_of H0.out)).trans H0.out)
          obtain ⟨d1, d2, d3, d4⟩ := best_cells D0.out
          rw [EK.out] at d2
          have HB5 := Lib.hid (HBr.out.trans (hb5.mono hsz))
          clear c1 c2 c3 c4 hb5
          go_wp2
          go_roundg k
          case measure => omega
          case rel => exact ⟨by omega, best_store D0.out, A2.out, HB5.out.setCell LEn _⟩
      · obtain rfl : gk = 0 := by omega
        obtain ⟨c1, c2, c3, c4⟩ := best_cells h0
        have E := Lib.hid (BN.out 0 (by omega) HA.out (.inl rfl))
        clear hb h0
        go_wp2
        exact bodyPost_ret (v := .tuple #[.int .i64 0, .int .i64 3]) (by simp [results, Try.results33, go_sem]) rfl ⟨ret2q (by first | rfl | (rw [E.out]; rfl)) (by first | rfl | (rw [E.out]; rfl)), HBr.out⟩
theorem implBestScale_any (v : Value) (ps : List (Int × Int)) (most : Int) (wave : Bool) (w : World) (hv : PAt w w.heap.size v ps) (hl : ps.length ≤ 1048576) :
    Calls Try.prog 33 #[v, .int .i64 most, .bool wave] w fun e w' => e = .returned (.tuple #[.int .i64 (bestV ps most wave), .int .i64 (codeBS ps most wave)]) ∧ Below w.heap.size w w' := by
  by_cases hg : okL ps = true ∧ ps.length ≤ 20 ∧ inB most 0 1000 = true
  · obtain ⟨h1, h2, h3⟩ := hg
    have e1 : codeBS ps most wave = if bestN ps most wave = 0 then 3 else 0 := by simp [codeBS, h1, h2, h3]
    have e2 : bestV ps most wave = (bestN ps most wave : Int) := by
      unfold bestV
      rw [e1]
      by_cases h0 : bestN ps most wave = 0 <;> simp [h0]
    rw [e1, e2]
    exact implBest_good v ps most wave w hv h2 h1 h3
  · have e1 : codeP ps 1000 (inB most 0 1000 && decide (ps.length ≤ 20)) = codeBS ps most wave ∧ codeBS ps most wave ≠ 0 := by
      unfold codeP codeBS
      cases h1 : okL ps with
      | false => simp
      | true =>
        have h2 : ¬ (ps.length ≤ 20 ∧ inB most 0 1000 = true) := fun h => hg ⟨h1, h⟩
        rw [if_pos rfl, if_pos rfl, if_neg h2]
        have h3 : (inB 1000 1 100000 && (inB most 0 1000 && decide (ps.length ≤ 20))) = false := by
          cases hm : inB most 0 1000 with
          | false => simp
          | true =>
            rw [hm] at h2
            have : ¬ ps.length ≤ 20 := fun h => h2 ⟨h, rfl⟩
            simp [this]
        rw [h3]
        simp
    have e2 : bestV ps most wave = 0 := by simp [bestV, e1.2]
    rw [e2]
    exact implBest_bad v ps most wave w hv hl _ e1.2 e1.1
end Go.Proofs.Ytemhmejjmhbfdaa.sines
