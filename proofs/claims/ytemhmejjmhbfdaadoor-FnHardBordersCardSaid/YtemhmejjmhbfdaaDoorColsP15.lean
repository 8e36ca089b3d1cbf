/- The neighbours of a land: contract of the program. -/
import Derived.Test.YtemhmejjmhbfdaaDoorColsP14
import Derived.Test.YtemhmejjmhbfdaaDoorColsN
import Derived.Maps.AppendAt
namespace Go.Proofs.YtemhmejjmhbfdaaDoor.sines
open Go.ChangeShapes Go.WideShapes Go.ChangeAt Go.RowKit Go.Shelf Go.Proofs.YtemhmejjmhbfdaaDoor.spots Go.Proofs.YtemhmejjmhbfdaaDoor.irows Go.Proofs.YtemhmejjmhbfdaaDoor.pairsBorder
attribute [local go_sem] Oper.semAt_some
set_option linter.unusedSimpArgs false
set_option linter.unusedVariables false
theorem bits_next {n : Int} {ps : List (Int × Int)} {A : Nat} (h : validC n ps = true) : (bitsL (maskN ps A)).map (fun x : Nat => (x : Int)) = nextOf n ps (A : Int) := by
  obtain ⟨n0, n1, _⟩ := validC_facts h
  obtain ⟨h1, h2⟩ := okPs_of h
  have key : ∀ x : Nat, x < 10 → (maskN ps A).testBit x = nbr ps (A : Int) (x : Int) := fun x hx => maskN_bit ps A x hx
  have hno : ∀ x : Nat, n.toNat ≤ x → nbr ps (A : Int) (x : Int) = false := fun x hx => by
    cases e : nbr ps (A : Int) (x : Int) with
    | false => rfl
    | true =>
      rw [nbr, List.any_eq_true] at e
      obtain ⟨p, hp, hj⟩ := e
      have := h1 p hp
      have := h2 p hp
      simp only [joins, Bool.or_eq_true, decide_eq_true_eq] at hj
      omega
  have e1 : bitsL (maskN ps A) = (List.range n.toNat).filter fun x : Nat => nbr ps (A : Int) (x : Int) := by
    have hr : List.range 10 = List.range n.toNat ++ (List.range (10 - n.toNat)).map (n.toNat + ·) := by
      rw [← List.range_add]; congr 1; omega
    rw [bitsL, List.filter_congr (q := fun x : Nat => nbr ps (A : Int) (x : Int)) (fun x hx => key x (List.mem_range.1 hx)), hr, List.filter_append]
    have e2 : ((List.range (10 - n.toNat)).map (n.toNat + ·)).filter (fun x : Nat => nbr ps (A : Int) (x : Int)) = [] := List.filter_eq_nil_iff.2 (fun x hx => by
      obtain ⟨y, _, rfl⟩ := List.mem_map.1 hx
      rw [hno _ (by omega)]; simp)
    rw [e2, List.append_nil]
  rw [e1, nextOf, nextN, List.filter_map]
  rfl
set_option maxRecDepth 100000 in
set_option maxHeartbeats 1000000 in
theorem implNb_bad (n : Int) (v : Value) (ps : List (Int × Int)) (a : Int) (w : World) (hv : PAt w w.heap.size v ps) (hl : ps.length ≤ 1048576) (hc : codeNb n ps a ≠ 0) :
    Calls Tryd.prog 10 #[.int .i64 n, v, .int .i64 a] w fun e w' => ∃ u, e = .returned (.tuple #[u, .int .i64 (codeNb n ps a)]) ∧ IRow w' w.heap.size u [] ∧ Below w.heap.size w w' := by
  have CD := Lib.hid (fun b => bordersCode_any n v ps b w hv hl)
  have IL := Lib.hid (isLandU_any n a w)
  have E := Lib.hid (show codeNb n ps a = (if validC n ps = true then (if inB a 0 (n - 1) = true then 0 else 2) else 1) from rfl)
  rw [E.out] at hc ⊢
  obtain ⟨av, c, rfl, _⟩ := hv
  clear E
  generalize validC n ps = R at CD hc ⊢
  cases hi : inB a 0 (n - 1) <;> cases R <;> rw [hi] at hc IL <;> simp only [Bool.false_eq_true, if_false, if_true] at hc ⊢
  case' true.true => exact absurd rfl hc
  all_goals
    go_enter Tryd.func10, Tryd.ntmps10
    go_wp2_with fail
    refine IL.out.mono ?_
    rintro e w0 ⟨rfl, hw0⟩
    subst hw0
    go_wp2_with fail
    refine (CD.out _).mono ?_
    rintro e w1 ⟨rfl, hb⟩
    have HB := Lib.hid hb
    clear hb
    go_wp2
    first | exact bodyPost_ret (v := .tuple #[.slice none 0 0, .int .i64 1]) (by simp [results, Tryd.results10, go_sem]) rfl ⟨_, rfl, irow_nil _ _, HB.out⟩ | exact bodyPost_ret (v := .tuple #[.slice none 0 0, .int .i64 2]) (by simp [results, Tryd.results10, go_sem]) rfl ⟨_, rfl, irow_nil _ _, HB.out⟩
set_option maxRecDepth 100000 in
set_option maxHeartbeats 4000000 in
theorem implNb_good (N A : Nat) (v : Value) (ps : List (Int × Int)) (w : World) (hv : PAt w w.heap.size v ps) (hl : ps.length ≤ 1048576) (hok : validC (N : Int) ps = true) (hA : A < N) (hT : TBl w) :
    Calls Tryd.prog 10 #[.int .i64 (N : Int), v, .int .i64 (A : Int)] w fun e w' => ∃ u, e = .returned (.tuple #[u, .int .i64 0]) ∧ IRow w' w.heap.size u (nextOf (N : Int) ps (A : Int)) ∧ Below w.heap.size w w' := by
  obtain ⟨i0, hi, hz0, hz1, hz2⟩ := info_parts info_int
  obtain ⟨n0, n1, _⟩ := validC_facts hok
  have CD := Lib.hid (bordersCode_any N v ps true w hv hl)
  rw [hok] at CD
  simp only [if_true] at CD
  have IL := Lib.hid (isLandU_any (N : Int) (A : Int) w)
  rw [show inB (A : Int) 0 ((N : Int) - 1) = true by simp [inB]; omega] at IL
  have LM := Lib.hid (fun W (hb : Below w.heap.size w W) => landMapOf_any (N : Int) v ps W (pat_up (pat_keep hv hb) hb.size) hok)
  rw [Int.toNat_natCast] at LM
  have NX := Lib.hid (bits_next (A := A) hok)
  have HT := Lib.hid hT
  have gT := TBl_lt hT
  have MLT := nbM_lt ps ps.length A
  rw [show nbM ps ps.length A = maskN ps A from rfl] at MLT
  obtain ⟨av, c, rfl, _⟩ := hv
  have a0 : 0 ≤ (A : Int) := by omega
  have a1 : (A : Int) < (N : Int) := by omega
  refine (callsIn_wide (n := 5)).1 ?_
  refine callsIn_of_wp_marks Tryd.func10 rfl trivial ?_ rfl
  simp only [Tryd.ntmps10, List.size_toArray, List.length_cons, List.length_nil, Nat.reduceAdd, Nat.reduceSub, Array.replicate_succ, Array.replicate_zero, List.push_toArray, List.append_toArray, List.nil_append, List.cons_append]
  refine wpIn_wide.2 ?_
  go_wp2_with fail
  refine IL.out.mono ?_
  rintro e w0 ⟨rfl, hw0⟩
  subst hw0
  go_wp2_with fail
  refine CD.out.mono ?_
  rintro e w1 ⟨rfl, hb⟩
  have B1 := Lib.hid hb
  clear hb CD IL hT
  go_wp2_with fail
  have B2 := Lib.hid (B1.out.alloc B1.out.size (.cells #[.slice none 0 0] 27))
  have bO := Lib.hid (Boxed.new w1 27 (.slice none 0 0))
  have gn1 := B1.out.size
  generalize w1.alloc (.cells #[.slice none 0 0] 27) = w2 at *
  generalize w1.heap.size = gn at *
  refine (LM.out w2 B2.out).mono ?_
  rintro e w3 ⟨u, rfl, hm, hb3⟩
  have B3 := Lib.hid (B2.out.trans (hb3.mono B2.out.size))
  have b3 := Lib.hid (bO.out.kept (grown_of hb3) (by simp))
  obtain ⟨gm, rfl, hgm, hc3⟩ := mown_at hm
  have u3 := hc3 A hA
  clear hm hb3 LM bO B2 hc3
  generalize maskN ps A = S at *
  go_wp2_with fail
  refine (members_any S _).mono ?_
  rintro e w4 ⟨rfl, hw4⟩
  have B4 := Lib.hid (show Below w.heap.size w w4 by rw [hw4]; exact B3.out.alloc B3.out.size _)
  have b4 := Lib.hid (show Boxed w4 gn 27 (.slice none 0 0) by rw [hw4]; exact b3.out.alloc _)
  have s4 : w4.cell? ⟨w3.heap.size, 0, none⟩ = some (.int .u64 (S : Int)) := by rw [hw4]; simp
  clear hw4 u3
  go_wp2
  refine (wpIn_wide (n := 5)).1 ?_
  refine' wpIn_rangeFunc_ownF (F := Fence.wide) (n := 5) rfl (by omega) (gf := 27) (lb := #[.pointer (some ⟨w3.heap.size, 0, none⟩)]) rfl trivial (enters_of Tryd.func27 (by kernel_rfl) rfl)
    (mem_stops (5 - 1) w3.heap.size w.heap.size S MLT gT w4 B4.out.size s4 (TBl_keep HT.out B4.out)) belowK_t (belowK_b B4.out.size) (Below.refl _ _) (fun _ => rfl)
    (fun pre W => (∃ v, Boxed W gn 27 v ∧ W.ownsRow w.heap.size 2 1 v pre.length (ints (pre.map fun x => (x.1 : Int))) ∧ True) ∧ Below w.heap.size w W)
    (fun _ _ _ => False)
    (OwnFrom.and (Own.from (fun s X Y row hs hg hr => holdsRow_own w.heap.size gn 27 2 1 (fun pre : List { x : Nat // x ∈ bitsL S } => pre.length) (fun pre => ints (pre.map fun x => (x.1 : Int))) (fun _ _ => True) s X Y row hs hg hr) _) (ownFrom_below (Nat.le_refl _) B4.out.size))
    (fun _ _ _ _ _ hs _ _ => hs)
    ⟨⟨_, b4.out, World.ownsRow_nil _ _ _ _, trivial⟩, B4.out⟩
    _ ?assign ?body ?done ?stop
  case assign =>
    intro l x W K hK
    gi_wp2
    exact hK
  case body =>
    rintro l pre x W ⟨⟨v, hv, hrow, -⟩, hB⟩ hlt
    have hcv := hv.cell
    have hsz := hB.size
    have hmL : pre.length + 1 ≤ maxLen := by unfold maxLen; omega
    gi_wp2_with (gi_at_builtin; refine wpListIn_append_own _ rfl _ _ 27 rfl w.heap.size 2 i0 (.int .i64 0) 1 8 Tryd.underlying27 hi hz0 hz1 hz2 rfl (by decide) _ _ _ rfl (hrow.alloc _) ⟨W.heap.size, 0, none⟩ 1 1 [.int .i64 (x.1 : Int)] rfl rfl (cell_one_new _ _ _) (by simp [Value.oneCell']) (by omega) (by omega) (by simp; omega) ?_; intro v' w1 hown' hgrow _; obtain ⟨g', cap', rfl⟩ := ownsRow_succ hown'; obtain ⟨hv1, hv2, hr2, hk2, hb2⟩ := hv.appended (by decide) hrow hsz gn1 hown' hgrow; have hc1 := hv1.cell; have hf1 := hv1.frozen)
    have e1 : ints ((pre ++ [x]).map fun x => (x.1 : Int)) = ints (pre.map fun x => (x.1 : Int)) ++ [.int .i64 (x.1 : Int)] := by
      rw [List.map_append]; simp [ints]
    have e2 : (pre ++ [x]).length = pre.length + 1 := by rw [List.length_append]; rfl
    refine ⟨hk2, hb2, ⟨⟨_, hv2, ?_, trivial⟩, hB.trans hb2⟩⟩
    rw [e1, e2]
    exact hr2
  case done =>
    rintro D ys W hD hys ⟨⟨v, hv, hrow, -⟩, hB⟩ hK
    have hcv := hv.cell
    have e : ys.map (fun x => (x.1 : Int)) = nextOf (N : Int) ps (A : Int) := by
      have h9 := congrArg (List.map fun x : Nat => (x : Int)) (show ys.map Subtype.val = bitsL S from hys)
      rw [List.map_map] at h9
      exact h9.trans NX.out
    rw [e] at hrow
    have hlen : ys.length = (nextOf (N : Int) ps (A : Int)).length := by rw [← e, List.length_map]
    rw [hlen] at hrow
    obtain ⟨av', cv', ev⟩ := (irow_shape (show IRow W w.heap.size v (nextOf (N : Int) ps (A : Int)) from hrow)).1
    subst ev
    have HROW := Lib.hid hrow
    clear hrow e hlen
    go_wp2
    refine ⟨by simp, .inl ⟨_, _, rfl, run_takeDeferred hK, ?_⟩⟩
    refine ⟨.tuple #[.slice av' (nextOf (N : Int) ps (A : Int)).length cv', .int .i64 0], by simp [results, Tryd.results10, go_sem], _, rfl, ?_, hB.trans (belowK_b (w := w4) B4.out.size W D _ _ hD hK rfl rfl)⟩
    exact ownsRow_putObj HROW.out _ hK rfl
  case stop =>
    rintro D c pre W _ _ hh _
    exact hh.elim
theorem implNb_any (n : Int) (v : Value) (ps : List (Int × Int)) (a : Int) (w : World) (hv : PAt w w.heap.size v ps) (hl : ps.length ≤ 1048576) (hT : TBl w) :
    Calls Tryd.prog 10 #[.int .i64 n, v, .int .i64 a] w fun e w' => ∃ u, e = .returned (.tuple #[u, .int .i64 (codeNb n ps a)]) ∧ IRow w' w.heap.size u (valNb n ps a) ∧ Below w.heap.size w w' := by
  by_cases hc : codeNb n ps a = 0
  · have h := hc
    rw [codeNb] at h
    split at h
    · rename_i hok
      split at h
      · rename_i hi
        obtain ⟨n0, n1, _⟩ := validC_facts hok
        obtain ⟨b0, b1⟩ := inB_of hi
        obtain ⟨N, rfl⟩ : ∃ N : Nat, n = (N : Int) := ⟨n.toNat, by omega⟩
        obtain ⟨A, rfl⟩ : ∃ A : Nat, a = (A : Int) := ⟨a.toNat, by omega⟩
        rw [valNb, if_pos hc, hc]
        exact implNb_good N A v ps w hv hl hok (by omega) hT
      · omega
    · omega
  · rw [valNb, if_neg hc]
    exact implNb_bad n v ps a w hv hl hc
end Go.Proofs.YtemhmejjmhbfdaaDoor.sines
