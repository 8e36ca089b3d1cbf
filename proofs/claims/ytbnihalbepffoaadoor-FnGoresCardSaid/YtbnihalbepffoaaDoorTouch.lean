/- GoresTouched of the model: a rising list of numbers. -/
import Derived.Test.YtbnihalbepffoaaDoorGoreF
import Derived.Test.YtbnihalbepffoaaDoorOkl
import Derived.Maps.AppendAt
namespace Go.Proofs.YtbnihalbepffoaaDoor.sines
open Go.ChangeShapes Go.WideShapes Go.ChangeAt Go.RowKit Go.Proofs.YtbnihalbepffoaaDoor.spots Go.Proofs.YtbnihalbepffoaaDoor.irows Go.Proofs.YtbnihalbepffoaaDoor.pairs

/-- The model's way to put a number into a rising list. -/
def putF (n : Int) (s : List Int × Bool) (x : Int) : List Int × Bool :=
  if s.2 = false ∧ n ≤ x then (if n < x then s.1 ++ [n] ++ [x] else s.1 ++ [x], true) else (s.1 ++ [x], s.2)
def putS (zs : List Int) (n : Int) : List Int × Bool := zs.foldl (putF n) ([], false)
def putL (zs : List Int) (n : Int) : List Int := if (putS zs n).2 = true then (putS zs n).1 else (putS zs n).1 ++ [n]
def putR (n : Int) : List Int → List Int
  | [] => [n]
  | x :: xs => if x < n then x :: putR n xs else if n < x then n :: x :: xs else x :: xs
theorem putF_true (n : Int) (xs : List Int) : ∀ o, xs.foldl (putF n) (o, true) = (o ++ xs, true) := by
  induction xs with
  | nil => intro o; simp
  | cons x xs ih => intro o; simp [putF, ih]
theorem putF_false (n : Int) (xs : List Int) : ∀ o, (if (xs.foldl (putF n) (o, false)).2 = true then (xs.foldl (putF n) (o, false)).1 else (xs.foldl (putF n) (o, false)).1 ++ [n]) = o ++ putR n xs := by
  induction xs with
  | nil => intro o; simp [putR]
  | cons x xs ih =>
    intro o
    by_cases h1 : x < n
    · have e : putF n (o, false) x = (o ++ [x], false) := by simp [putF]; omega
      simp only [List.foldl_cons, e, ih, putR, if_pos h1]
      simp
    · by_cases h2 : n < x
      · have e : putF n (o, false) x = (o ++ [n] ++ [x], true) := by simp [putF, h2]; omega
        simp only [List.foldl_cons, e, putF_true, putR, if_neg h1, if_pos h2]
        simp
      · have e : putF n (o, false) x = (o ++ [x], true) := by simp [putF, h2]; omega
        simp only [List.foldl_cons, e, putF_true, putR, if_neg h1, if_neg h2]
        simp
theorem putL_eq (zs : List Int) (n : Int) : putL zs n = putR n zs := by
  have := putF_false n zs []
  rw [List.nil_append] at this
  exact this
theorem putR_mem (n : Int) (zs : List Int) (z : Int) : z ∈ putR n zs ↔ z = n ∨ z ∈ zs := by
  induction zs with
  | nil => simp [putR]
  | cons x xs ih =>
    simp only [putR]
    split
    · simp only [List.mem_cons, ih]; constructor <;> (rintro (h | h | h) <;> simp [h])
    · split
      · simp
      · have : x = n := by omega
        subst this
        simp
theorem putR_rises (n : Int) (zs : List Int) (h : zs.Pairwise (· < ·)) : (putR n zs).Pairwise (· < ·) := by
  induction zs with
  | nil => simp [putR]
  | cons x xs ih =>
    obtain ⟨h1, h2⟩ := List.pairwise_cons.1 h
    simp only [putR]
    split
    · rename_i hx
      refine List.pairwise_cons.2 ⟨fun y hy => ?_, ih h2⟩
      rcases (putR_mem n xs y).1 hy with rfl | hy
      · exact hx
      · exact h1 y hy
    · split
      · rename_i hx
        refine List.pairwise_cons.2 ⟨fun y hy => ?_, h⟩
        rcases List.mem_cons.1 hy with rfl | hy
        · exact hx
        · have := h1 y hy; omega
      · exact h
theorem putR_len (n : Int) (zs : List Int) : (putR n zs).length ≤ zs.length + 1 := by
  induction zs with
  | nil => simp [putR]
  | cons x xs ih => simp only [putR]; split <;> (try split) <;> simp <;> omega
theorem rises_ext : ∀ (xs ys : List Int), xs.Pairwise (· < ·) → ys.Pairwise (· < ·) → (∀ z, z ∈ xs ↔ z ∈ ys) → xs = ys := by
  intro xs
  induction xs with
  | nil =>
    intro ys _ _ h
    cases ys with
    | nil => rfl
    | cons y ys => exact absurd ((h y).2 (by simp)) (by simp)
  | cons x xs ih =>
    intro ys hx hy h
    cases ys with
    | nil => exact absurd ((h x).1 (by simp)) (by simp)
    | cons y ys =>
      obtain ⟨a1, a2⟩ := List.pairwise_cons.1 hx
      obtain ⟨b1, b2⟩ := List.pairwise_cons.1 hy
      have e : x = y := by
        rcases List.mem_cons.1 ((h x).1 (by simp)) with e | e
        · exact e
        · rcases List.mem_cons.1 ((h y).2 (by simp)) with e2 | e2
          · exact e2.symm
          · have := a1 y e2; have := b1 x e; omega
      subst e
      rw [ih ys a2 b2 fun z => ?_]
      constructor
      · intro hz
        rcases List.mem_cons.1 ((h z).1 (by simp [hz])) with e | e
        · subst e; have := a1 z hz; omega
        · exact e
      · intro hz
        rcases List.mem_cons.1 ((h z).2 (by simp [hz])) with e | e
        · subst e; have := b1 z hz; omega
        · exact e
/-- The gores that places touch, the model's way and the program's. -/
def touchL (g : Int) (ps : List (Int × Int)) : List Int := ps.foldl (fun o p => putL o (goreAtL g p.2)) []
def touchN (g : Int) (ps : List (Int × Int)) (k : Nat) : List Int := ((List.range k).map fun i : Nat => (i : Int)).filter fun j => ps.any fun p => decide (goreAtL g p.2 = j)
theorem touchL_snoc (g : Int) (ps : List (Int × Int)) (p : Int × Int) : touchL g (ps ++ [p]) = putL (touchL g ps) (goreAtL g p.2) := by simp [touchL]
theorem fold_facts (g : Int) (ps : List (Int × Int)) : ∀ o : List Int, o.Pairwise (· < ·) → (ps.foldl (fun o p => putL o (goreAtL g p.2)) o).Pairwise (· < ·) ∧ (∀ z, z ∈ ps.foldl (fun o p => putL o (goreAtL g p.2)) o ↔ z ∈ o ∨ ∃ p ∈ ps, goreAtL g p.2 = z) ∧ (ps.foldl (fun o p => putL o (goreAtL g p.2)) o).length ≤ o.length + ps.length := by
  induction ps with
  | nil => intro o h; simp [h]
  | cons p ps ih =>
    intro o h
    have h2 : (putL o (goreAtL g p.2)).Pairwise (· < ·) := by rw [putL_eq]; exact putR_rises _ _ h
    obtain ⟨i1, i2, i3⟩ := ih _ h2
    refine ⟨i1, fun z => ?_, ?_⟩
    · rw [List.foldl_cons, i2 z, putL_eq, putR_mem]
      constructor
      · rintro ((rfl | h) | ⟨q, hq, e⟩)
        · exact .inr ⟨p, by simp, rfl⟩
        · exact .inl h
        · exact .inr ⟨q, by simp [hq], e⟩
      · rintro (h | ⟨q, hq, e⟩)
        · exact .inl (.inr h)
        · rcases List.mem_cons.1 hq with rfl | hq
          · exact .inl (.inl e.symm)
          · exact .inr ⟨q, hq, e⟩
    · have := putR_len (goreAtL g p.2) o
      rw [putL_eq] at i3
      rw [List.foldl_cons, putL_eq]
      simp only [List.length_cons]
      omega
theorem touchL_facts (g : Int) (ps : List (Int × Int)) : (touchL g ps).Pairwise (· < ·) ∧ (∀ z, z ∈ touchL g ps ↔ ∃ p ∈ ps, goreAtL g p.2 = z) ∧ (touchL g ps).length ≤ ps.length := by
  obtain ⟨h1, h2, h3⟩ := fold_facts g ps [] List.Pairwise.nil
  exact ⟨h1, fun z => by simpa [touchL] using h2 z, by simpa [touchL] using h3⟩
theorem range_rises (k : Nat) : ((List.range k).map fun i : Nat => (i : Int)).Pairwise (· < ·) := by
  rw [List.pairwise_map]
  exact List.Pairwise.imp (fun h => by omega) List.pairwise_lt_range
theorem touchN_all (g : Int) (ps : List (Int × Int)) (m : Nat) (hb : ∀ p ∈ ps, 0 ≤ goreAtL g p.2 ∧ goreAtL g p.2 < (m : Int)) : touchN g ps m = touchL g ps := by
  obtain ⟨h1, h2, _⟩ := touchL_facts g ps
  refine rises_ext _ _ ((range_rises m).filter _) h1 fun z => ?_
  rw [h2]
  simp only [touchN, List.mem_filter, List.mem_map, List.mem_range, List.any_eq_true, decide_eq_true_eq]
  constructor
  · rintro ⟨_, p, hp, e⟩; exact ⟨p, hp, e⟩
  · rintro ⟨p, hp, rfl⟩
    obtain ⟨b1, b2⟩ := hb p hp
    exact ⟨⟨(goreAtL g p.2).toNat, by omega, by omega⟩, p, hp, rfl⟩
theorem touchN_len (g : Int) (ps : List (Int × Int)) (k : Nat) : (touchN g ps k).length ≤ k := by
  have := List.length_filter_le (fun j => ps.any fun p => decide (goreAtL g p.2 = j)) ((List.range k).map fun i : Nat => (i : Int))
  simpa [touchN] using this
theorem touchN_yes (g : Int) (ps : List (Int × Int)) (k : Nat) (h : ∃ p ∈ ps, goreAtL g p.2 = (k : Int)) : touchN g ps (k + 1) = touchN g ps k ++ [(k : Int)] := by
  obtain ⟨p, hp, e⟩ := h
  simp only [touchN, List.range_succ, List.map_append, List.filter_append, List.map_cons, List.map_nil]
  congr 1
  rw [List.filter_cons_of_pos (by simp only [List.any_eq_true, decide_eq_true_eq]; exact ⟨p, hp, e⟩)]
  rfl
theorem touchN_no (g : Int) (ps : List (Int × Int)) (k : Nat) (h : ∀ p ∈ ps, goreAtL g p.2 ≠ (k : Int)) : touchN g ps (k + 1) = touchN g ps k := by
  simp only [touchN, List.range_succ, List.map_append, List.filter_append, List.map_cons, List.map_nil]
  rw [List.filter_cons_of_neg (by simp only [List.any_eq_true, decide_eq_true_eq]; rintro ⟨p, hp, e⟩; exact h p hp e)]
  simp

theorem one_new (w : World) (s : Int) : ∀ j u, ([.int .i64 s] : List Value)[j]? = some u → (w.alloc (.cells #[.int .i64 s] 2)).cell? ((⟨w.heap.size, 0, none⟩ : Addr).add j) = some u := fun j u hj => by
  match j, hj with
  | 0, hj => simp at hj; subst hj; simp [Addr.add]
theorem one_cell (s : Int) : ∀ u ∈ ([.int .i64 s] : List Value), u.oneCell' = true := fun u hu => by simp at hu; subst hu; rfl
theorem ints_snoc (o : List Int) (x : Int) : ints (o ++ [x]) = ints o ++ [.int .i64 x] := by simp [ints]
theorem row_snoc {w : World} {B : Nat} {v : Value} {o : List Int} {x : Int} (h : w.ownsRow B 2 1 v (o.length + 1) (ints o ++ [.int .i64 x])) : IRow w B v (o ++ [x]) := by
  unfold IRow
  rw [ints_snoc, List.length_append]
  exact h
theorem putS_len (zs : List Int) (n : Int) (k : Nat) : (putS (zs.take k) n).1.length ≤ zs.length + 1 := by
  have h : (putL (zs.take k) n).length ≤ zs.length + 1 := by rw [putL_eq]; have := putR_len n (zs.take k); simp at this; omega
  unfold putL at h
  split at h
  · exact h
  · simp at h; omega
theorem putS_step (zs : List Int) (n : Int) (k : Nat) (hk : k < zs.length) : putS (zs.take (k + 1)) n = putF n (putS (zs.take k) n) zs[k] := by
  rw [putS, List.take_add_one, List.getElem?_eq_getElem hk, List.foldl_append]
  rfl
set_option maxRecDepth 100000 in
set_option maxHeartbeats 2000000 in
theorem l00Put_any (zs : List Int) (n : Int) (v : Value) (B : Nat) (w : World) (hv : IRow w B v zs) (hl : zs.length ≤ 100000) :
    Calls Tryd.prog 82 #[v, .int .i64 n] w fun e w' => ∃ u, e = .returned u ∧ IRow w' w.heap.size u (putL zs n) ∧ Below w.heap.size w w' := by
  obtain ⟨i0, hi, hz0, hz1, hz2⟩ := info_parts info_int
  obtain ⟨⟨a, c, rfl⟩, _⟩ := irow_shape hv
  have HV := Lib.hid hv
  have hl2 : (zs.length : Int) ≤ 100000 := by omega
  clear hv
  go_enter Tryd.func82, Tryd.ntmps82
  go_wp2
  go_loopw [5, 6, 7] (fun u d i wr => ∃ k : Nat, k ≤ zs.length ∧ i = .int .i64 (k : Int) ∧ d = .bool (putS (zs.take k) n).2 ∧ IRow wr w.heap.size u (putS (zs.take k) n).1 ∧ Below w.heap.size w wr) (fun _ _ i _ => zs.length - (intOf i).toNat)
  case atStart => exact ⟨0, Nat.zero_le _, rfl, rfl, World.ownsRow_made w #[] 0 (Nat.le_refl _) (by decide) rfl, (Below.refl _ _).alloc (Nat.le_refl _) _⟩
  case round =>
    obtain ⟨k, hk, rfl, rfl, hr, hb⟩ := hrel
    have hsz := hb.size
    have pl := putS_len zs n k
    by_cases hlt : k < zs.length
    · have PS := Lib.hid (putS_step zs n k hlt)
      obtain ⟨g, rfl, _, hc⟩ := irow_at HV.out k hlt
      have hgs : g < w.heap.size := World.block_lt_of_cell? _ _ hc
      have hcr : wr.cell? ⟨g, k, none⟩ = some (.int .i64 zs[k]) := by rw [hb.cell (p := ⟨g, k, none⟩) hgs]; exact hc
      have hk0 : 0 ≤ (k : Int) := by omega
      have hk1 : (k : Int) < (zs.length : Int) := by omega
      generalize zs[k] = x at hcr hc PS
      obtain ⟨st, hst⟩ : ∃ st, putS (zs.take k) n = st := ⟨_, rfl⟩
      rw [hst] at hr pl PS
      rw [hst]
      clear hst
      obtain ⟨o, d⟩ := st
      have HR := Lib.hid hr
      have HB := Lib.hid hb
      have GS := Lib.hid hgs
      have HC := Lib.hid hc
      clear hc
      clear hr hb
      have pl' : o.length ≤ zs.length + 1 := pl
      have t1 : g < wr.heap.size := by omega
      cases d with
      | true =>
        have PS2 := Lib.hid (show putS (zs.take (k + 1)) n = (o ++ [x], true) by rw [PS.out]; simp [putF])
        clear PS
        go_wp2_with (at_builtin; refine wpList_append_own _ rfl _ _ 44 rfl w.heap.size 2 i0 (.int .i64 0) 1 8 Tryd.underlying44 hi hz0 hz1 hz2 rfl (by decide) _ o.length _ rfl ((HR.out).alloc _) ⟨(wr).heap.size, 0, none⟩ 1 1 [.int .i64 x] rfl rfl (one_new _ _) (one_cell _) (by unfold maxLen; omega) (by omega) (by simp; omega) ?_; intro v1 w1 hown1 hg1 _)
        go_roundw
        case rel => exact ⟨k + 1, by omega, by go_num, by rw [PS2.out], by rw [PS2.out]; exact row_snoc hown1, (HB.out.alloc hsz _).grown hg1 (by simp; omega) (fun j hj => (HR.out.lt j hj).1)⟩
        case measure => simp [intOf]; omega
      | false =>
        by_cases hnx : n ≤ x
        · by_cases hlt2 : n < x
          · have c1 : decide (n ≤ x) = true := by simpa using hnx
            have c2 : decide (n < x) = true := by simpa using hlt2
            have PS2 := Lib.hid (show putS (zs.take (k + 1)) n = (o ++ [n] ++ [x], true) by rw [PS.out]; simp [putF, hnx, hlt2])
            clear PS
            go_wp2_with (first | (at_builtin; refine wpList_append_own _ rfl _ _ 44 rfl w.heap.size 2 i0 (.int .i64 0) 1 8 Tryd.underlying44 hi hz0 hz1 hz2 rfl (by decide) _ o.length _ rfl ((HR.out).alloc _) ⟨(wr).heap.size, 0, none⟩ 1 1 [.int .i64 n] rfl rfl (one_new _ _) (one_cell _) (by unfold maxLen; omega) (by omega) (by simp; omega) ?_; intro v1 w1 hown1 hg1 _; have HR1 := Lib.hid hown1; have HB1 := Lib.hid ((HB.out.alloc hsz _).grown hg1 (by simp; omega) (fun j hj => (HR.out.lt j hj).1)); have cx1 : w1.cell? ⟨g, k, none⟩ = some (.int .i64 x) := (HB1.out.cell (p := ⟨g, k, none⟩) GS.out).trans HC.out; have hsz1 := HB1.out.size; clear hown1 hg1) | (at_builtin; refine wpList_append_own _ rfl _ _ 44 rfl w.heap.size 2 i0 (.int .i64 0) 1 8 Tryd.underlying44 hi hz0 hz1 hz2 rfl (by decide) _ (o.length + 1) _ rfl ((HR1.out).alloc _) ⟨(w1).heap.size, 0, none⟩ 1 1 [.int .i64 x] rfl rfl (one_new _ _) (one_cell _) (by unfold maxLen; omega) (by omega) (by simp; omega) ?_; intro v2 w2 hown2 hg2 _))
            go_roundw
            case rel => exact ⟨k + 1, by omega, by go_num, by rw [PS2.out], by rw [PS2.out]; exact row_snoc (by rw [ints_snoc]; simpa using hown2), (HB1.out.alloc hsz1 _).grown hg2 (by simp; omega) (fun j hj => (HR1.out.lt j hj).1)⟩
            case measure => simp [intOf]; omega
          · have c1 : decide (n ≤ x) = true := by simpa using hnx
            have c2 : decide (n < x) = false := by simpa using hlt2
            have PS2 := Lib.hid (show putS (zs.take (k + 1)) n = (o ++ [x], true) by rw [PS.out]; simp [putF, hnx, hlt2])
            clear PS
            go_wp2_with (at_builtin; refine wpList_append_own _ rfl _ _ 44 rfl w.heap.size 2 i0 (.int .i64 0) 1 8 Tryd.underlying44 hi hz0 hz1 hz2 rfl (by decide) _ o.length _ rfl ((HR.out).alloc _) ⟨(wr).heap.size, 0, none⟩ 1 1 [.int .i64 x] rfl rfl (one_new _ _) (one_cell _) (by unfold maxLen; omega) (by omega) (by simp; omega) ?_; intro v1 w1 hown1 hg1 _)
            go_roundw
            case rel => exact ⟨k + 1, by omega, by go_num, by rw [PS2.out], by rw [PS2.out]; exact row_snoc hown1, (HB.out.alloc hsz _).grown hg1 (by simp; omega) (fun j hj => (HR.out.lt j hj).1)⟩
            case measure => simp [intOf]; omega
        · have c1 : decide (n ≤ x) = false := by simpa using hnx
          have PS2 := Lib.hid (show putS (zs.take (k + 1)) n = (o ++ [x], false) by rw [PS.out]; simp [putF, hnx])
          clear PS
          go_wp2_with (at_builtin; refine wpList_append_own _ rfl _ _ 44 rfl w.heap.size 2 i0 (.int .i64 0) 1 8 Tryd.underlying44 hi hz0 hz1 hz2 rfl (by decide) _ o.length _ rfl ((HR.out).alloc _) ⟨(wr).heap.size, 0, none⟩ 1 1 [.int .i64 x] rfl rfl (one_new _ _) (one_cell _) (by unfold maxLen; omega) (by omega) (by simp; omega) ?_; intro v1 w1 hown1 hg1 _)
          go_roundw
          case rel => exact ⟨k + 1, by omega, by go_num, by rw [PS2.out], by rw [PS2.out]; exact row_snoc hown1, (HB.out.alloc hsz _).grown hg1 (by simp; omega) (fun j hj => (HR.out.lt j hj).1)⟩
          case measure => simp [intOf]; omega
    · obtain rfl : k = zs.length := by omega
      have TK := Lib.hid (show zs.take zs.length = zs from List.take_length)
      rw [TK.out] at hr pl ⊢
      have HL := Lib.hid (show putL zs n = if (putS zs n).2 = true then (putS zs n).1 else (putS zs n).1 ++ [n] from rfl)
      obtain ⟨st, hst⟩ : ∃ st, putS zs n = st := ⟨_, rfl⟩
      rw [hst] at hr pl ⊢
      have HL2 := Lib.hid (show putL zs n = if st.2 = true then st.1 else st.1 ++ [n] by rw [← hst]; exact HL.out)
      clear hst
      obtain ⟨o, d⟩ := st
      have pl' : o.length ≤ zs.length + 1 := pl
      have HR := Lib.hid hr
      have HB := Lib.hid hb
      clear hr hb
      cases d with
      | true =>
        go_wp2
        go_ret
        exact ⟨_, rfl, by rw [HL2.out]; exact HR.out, HB.out⟩
      | false =>
        go_wp2_with (at_builtin; refine wpList_append_own _ rfl _ _ 44 rfl w.heap.size 2 i0 (.int .i64 0) 1 8 Tryd.underlying44 hi hz0 hz1 hz2 rfl (by decide) _ o.length _ rfl ((HR.out).alloc _) ⟨(wr).heap.size, 0, none⟩ 1 1 [.int .i64 n] rfl rfl (one_new _ _) (one_cell _) (by unfold maxLen; omega) (by omega) (by simp; omega) ?_; intro v1 w1 hown1 hg1 _)
        go_ret
        exact ⟨_, rfl, by rw [HL2.out]; exact row_snoc hown1, (HB.out.alloc hsz _).grown hg1 (by simp; omega) (fun j hj => (HR.out.lt j hj).1)⟩

def codeTo (g : Int) (ps : List (Int × Int)) : Int := if (goreB g && okL ps) = true then (if 100 < ps.length then 2 else 0) else 1
def valTo (g : Int) (ps : List (Int × Int)) : List Int := if codeTo g ps = 0 then touchL g ps else []
theorem valTo_len (g : Int) (ps : List (Int × Int)) (h : ps.length ≤ 1048576) : (valTo g ps).length ≤ 2000000 := by
  simp only [valTo]; split
  · have := (touchL_facts g ps).2.2; omega
  · simp
theorem codeTo_bad {g : Int} {ps : List (Int × Int)} (h : (goreB g && okL ps) = false) : codeTo g ps = 1 ∧ valTo g ps = [] := by simp [codeTo, valTo, h]
theorem codeTo_full {g : Int} {ps : List (Int × Int)} (h : goreB g = true) (k : okL ps = true) (l : 100 < ps.length) : codeTo g ps = 2 ∧ valTo g ps = [] := by simp [codeTo, valTo, h, k, l]
theorem codeTo_ok {g : Int} {ps : List (Int × Int)} (h : goreB g = true) (k : okL ps = true) (l : ps.length ≤ 100) : codeTo g ps = 0 ∧ valTo g ps = touchL g ps := by
  have : ¬ 100 < ps.length := by omega
  simp [codeTo, valTo, h, k, this]
theorem ok_bounds {a b : Int} (h : okB a b = true) : -648000 ≤ b ∧ b ≤ 647999 := by simp [okB] at h; omega
theorem touch_step (g : Int) (ps : List (Int × Int)) (k : Nat) (hk : k < ps.length) : touchL g (ps.take (k + 1)) = putL (touchL g (ps.take k)) (goreAtL g ps[k].2) := by
  rw [List.take_add_one, List.getElem?_eq_getElem hk]
  exact touchL_snoc _ _ _
set_option maxRecDepth 100000 in
set_option maxHeartbeats 2000000 in
theorem specGoresTouched_any (g : Int) (v : Value) (ps : List (Int × Int)) (w : World) (hv : PAt w w.heap.size v ps) (hl : ps.length ≤ 1048576) :
    Calls Tryd.prog 28 #[.int .i64 g, v] w fun e w' => ∃ u, e = .returned (.tuple #[u, .int .i64 (codeTo g ps)]) ∧ IRow w' w.heap.size u (valTo g ps) ∧ Below w.heap.size w w' := by
  obtain ⟨a, c, rfl, hc⟩ := hv
  have HC := Lib.hid hc
  clear hc
  have hl2 : (ps.length : Int) ≤ 1048576 := by omega
  cases hg : goreB g with
  | false =>
    obtain ⟨e1, e2⟩ := codeTo_bad (ps := ps) (show (goreB g && okL ps) = false by simp [hg])
    rw [e1, e2]
    go_enter Tryd.func28, Tryd.ntmps28
    go_wp2_with (go_at_call 67; refine (l04Ok_any g _).mono ?_; rintro e w' ⟨rfl, rfl⟩; rw [hg])
    exact bodyPost_ret (v := .tuple #[.slice none 0 0, .int .i64 1]) (by simp [results, Tryd.results28, go_sem]) rfl ⟨_, rfl, irow_nil _ _, Below.refl _ _⟩
  | true =>
  have HG := Lib.hid hg
  obtain ⟨V, hV⟩ : ∃ V, Hid (valTo g ps = V) := ⟨_, Lib.hid rfl⟩
  obtain ⟨C, hC⟩ : ∃ C, Hid (codeTo g ps = C) := ⟨_, Lib.hid rfl⟩
  rw [hV.out, hC.out]
  go_enter Tryd.func28, Tryd.ntmps28
  go_wp2_with (go_at_call 67; refine (l04Ok_any g _).mono ?_; rintro e w' ⟨rfl, rfl⟩; rw [hg])
  go_loopw [6] (fun i wr => ∃ k : Nat, k ≤ ps.length ∧ i = .int .i64 (k : Int) ∧ (∀ j, (hj : j < ps.length) → j < k → okB ps[j].1 ps[j].2 = true) ∧ Below w.heap.size w wr) (fun i _ => ps.length - (intOf i).toNat)
  case atStart => exact ⟨0, Nat.zero_le _, rfl, fun j _ h => by omega, Below.refl _ _⟩
  case round =>
    obtain ⟨k, hk, rfl, hall, hb⟩ := hrel
    have hsz := hb.size
    have HA := Lib.hid hall
    have HB := Lib.hid hb
    clear hall hb
    by_cases hlt : k < ps.length
    · obtain ⟨b, off, rfl, hbs, c1, c2⟩ := HC.out k hlt
      have c1' : wr.cell? ⟨b, off + k * 2, none⟩ = some (.int .i64 ps[k].1) := by rw [HB.out.cell (p := ⟨b, off + k * 2, none⟩) hbs]; exact c1
      have c2' : wr.cell? ⟨b, off + k * 2 + 1, none⟩ = some (.int .i64 ps[k].2) := by rw [HB.out.cell (p := ⟨b, off + k * 2 + 1, none⟩) hbs]; exact c2
      have hk0 : 0 ≤ (k : Int) := by omega
      have hk1 : (k : Int) < (ps.length : Int) := by omega
      have NO := Lib.hid (fun h => okL_not k hlt h)
      have YES := Lib.hid (show okB ps[k].1 ps[k].2 = true → ∀ j, (hj : j < ps.length) → j < k + 1 → okB ps[j].1 ps[j].2 = true from fun h j hj hjk => by
        by_cases e : j = k
        · subst e; exact h
        · exact HA.out j hj (by omega))
      clear c1 c2
      generalize ps[k] = x at c1' c2' NO YES
      obtain ⟨x1, x2⟩ := x
      cases ho : okB x1 x2 with
      | false =>
        have BAD := Lib.hid (codeTo_bad (g := g) (show (goreB g && okL ps) = false by rw [NO.out ho]; simp))
        go_wp2_with (go_at_call 63; refine (l02Ok_any x1 x2 _).mono ?_; rintro e w' ⟨rfl, o1, rfl⟩; rw [ho])
        exact bodyPost_ret (v := .tuple #[.slice none 0 0, .int .i64 1]) (by simp [results, Tryd.results28, go_sem]) rfl ⟨_, by rw [← hC.out, BAD.out.1], by rw [← hV.out, BAD.out.2]; exact irow_nil _ _, HB.out.alloc hsz _⟩
      | true =>
        have Y := Lib.hid (YES.out ho)
        go_wp2_with (go_at_call 63; refine (l02Ok_any x1 x2 _).mono ?_; rintro e w' ⟨rfl, o1, rfl⟩; rw [ho])
        go_roundw
        case rel => exact ⟨k + 1, by omega, by go_num, Y.out, HB.out.alloc hsz _⟩
        case measure => simp [intOf]; omega
    · obtain rfl : k = ps.length := by omega
      have OK := Lib.hid (okL_of fun j hj => HA.out j hj hj)
      by_cases hbig : 100 < ps.length
      · have FUL := Lib.hid (codeTo_full HG.out OK.out hbig)
        have c3 : 100 < (ps.length : Int) := by omega
        go_wp2
        exact bodyPost_ret (v := .tuple #[.slice none 0 0, .int .i64 2]) (by simp [results, Tryd.results28, go_sem]) rfl ⟨_, by rw [← hC.out, FUL.out.1], by rw [← hV.out, FUL.out.2]; exact irow_nil _ _, HB.out⟩
      · have DONE := Lib.hid (codeTo_ok HG.out OK.out (by omega))
        have c3 : (ps.length : Int) ≤ 100 := by omega
        go_wp2
        go_loopw [7, 8] (fun u i wx => ∃ k : Nat, k ≤ ps.length ∧ i = .int .i64 (k : Int) ∧ IRow wx w.heap.size u (touchL g (ps.take k)) ∧ Below w.heap.size w wx) (fun _ i _ => ps.length - (intOf i).toNat)
        case atStart => exact ⟨0, Nat.zero_le _, rfl, World.ownsRow_made wr #[] 0 hsz (by decide) rfl, HB.out.alloc hsz _⟩
        case round =>
          obtain ⟨k, hk, rfl, hr, hb⟩ := hrel
          have hsz2 := hb.size
          have HR := Lib.hid hr
          have HB2 := Lib.hid hb
          clear hr hb
          by_cases hlt : k < ps.length
          · obtain ⟨b, off, rfl, hbs, c1, c2⟩ := HC.out k hlt
            have c1' : wr.cell? ⟨b, off + k * 2, none⟩ = some (.int .i64 ps[k].1) := by rw [HB2.out.cell (p := ⟨b, off + k * 2, none⟩) hbs]; exact c1
            have c2' : wr.cell? ⟨b, off + k * 2 + 1, none⟩ = some (.int .i64 ps[k].2) := by rw [HB2.out.cell (p := ⟨b, off + k * 2 + 1, none⟩) hbs]; exact c2
            have hk0 : 0 ≤ (k : Int) := by omega
            have hk1 : (k : Int) < (ps.length : Int) := by omega
            have OKK := Lib.hid (okL_at OK.out k hlt)
            have TS := Lib.hid (touch_step g ps k hlt)
            have TL := Lib.hid (show (touchL g (ps.take k)).length ≤ 100000 from by have := (touchL_facts g (ps.take k)).2.2; simp at this; omega)
            clear c1 c2
            generalize ps[k] = x at c1' c2' OKK TS
            obtain ⟨x1, x2⟩ := x
            obtain ⟨b1, b2⟩ := ok_bounds OKK.out
            go_wp2_with fail
            refine (l04Gore_any g x1 x2 _ HG.out b1 b2).mono ?_
            rintro e w1 ⟨rfl, hb1⟩
            have R1 := Lib.hid (irow_keep HR.out hb1)
            have B1 := Lib.hid (HB2.out.trans (hb1.mono hsz2))
            have hsz3 := B1.out.size
            clear hb1
            generalize goreAtL g x2 = y at TS
            go_wp2_with fail
            refine (l00Put_any _ y _ _ w1 R1.out TL.out).mono ?_
            rintro e w2 ⟨u, rfl, hr2, hb2⟩
            have R2 := Lib.hid (irow_up hr2 hsz3)
            have B2 := Lib.hid (B1.out.trans (hb2.mono hsz3))
            clear hr2 hb2
            go_wp2
            go_roundw
            case rel => exact ⟨k + 1, by omega, by go_num, by rw [TS.out]; exact R2.out, B2.out⟩
            case measure => simp [intOf]; omega
          · obtain rfl : k = ps.length := by omega
            have TK := Lib.hid (show ps.take ps.length = ps from List.take_length)
            go_wp2
            have e0 : C = 0 := by rw [← hC.out, DONE.out.1]
            subst e0
            go_ret2
            exact ⟨_, rfl, by rw [← hV.out, DONE.out.2]; have := HR.out; rwa [TK.out] at this, HB2.out⟩
end Go.Proofs.YtbnihalbepffoaaDoor.sines
