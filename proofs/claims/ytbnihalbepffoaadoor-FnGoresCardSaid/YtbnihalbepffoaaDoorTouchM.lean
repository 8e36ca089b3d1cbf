/- GoresTouched of the program: the gores of places as a map's keys, sorted. -/
import Derived.Test.YtbnihalbepffoaaDoorKeys
import Derived.Test.YtbnihalbepffoaaDoorTouch
import Derived.Maps.OwnSet
import Derived.Maps.OwnIn
namespace Go.Proofs.YtbnihalbepffoaaDoor.sines
open Go.ChangeShapes Go.WideShapes Go.ChangeAt Go.RowKit Go.Maps Go.Sort Go.Shelf Go.Proofs.YtbnihalbepffoaaDoor.spots Go.Proofs.YtbnihalbepffoaaDoor.irows Go.Proofs.YtbnihalbepffoaaDoor.pairs
set_option linter.unusedSimpArgs false
set_option linter.unusedVariables false

/-- The keys of a set of numbers. -/
def keyOfZ (z : Int) : Lit := .int .i64 z
def setZ (zs : List Int) : DataW Unit := setOf (.lit (.bool true)) (zs.map keyOfZ)
theorem isKey_z (zs : List Int) : ∀ x ∈ zs.map keyOfZ, WideAt.IsKeyLit x := fun x hx => by
  obtain ⟨z, _, rfl⟩ := List.mem_map.1 hx
  trivial
theorem setZ_snoc (zs : List Int) (z : Int) : setZ (zs ++ [z]) = (setZ zs).put (keyOfZ z) (.lit (.bool true)) := by
  unfold setZ
  rw [List.map_append, List.map_cons, List.map_nil, setOf_snoc]
theorem setZ_has (zs : List Int) (z : Int) : has (setZ zs) (.int .i64 z) = true ↔ z ∈ zs := by
  unfold setZ
  rw [has_setOf _ _ _ (isKey_z zs), List.any_map, List.any_eq_true]
  constructor
  · rintro ⟨y, hy, h⟩
    have : y = z := by simpa [keyOfZ, Lit.sameKey] using h
    exact this ▸ hy
  · intro h
    exact ⟨z, h, by simp [keyOfZ, Lit.sameKey]⟩
theorem fold_keys (xs : List Lit) : ∀ (D : DataW Unit) (P : Lit → Prop), (∀ x ∈ xs, P x) → (∃ es, D = .map es ∧ ∀ p ∈ es, P p.1) → ∃ es, xs.foldl (fun m x => m.put x (.lit (.bool true))) D = .map es ∧ ∀ p ∈ es, P p.1 := by
  induction xs with
  | nil => intro D P _ h; exact h
  | cons x xs ih =>
    rintro D P hx ⟨es, rfl, he⟩
    refine ih _ P (fun y hy => hx y (by simp [hy])) ⟨_, rfl, fun p hp => ?_⟩
    rcases List.mem_cons.1 ((insert_perm _ _).mem_iff.1 hp) with rfl | hp
    · exact hx _ (by simp)
    · exact he p (List.mem_filter.1 hp).1
/-- Whatever order the keys come in, sorted they are the numbers of the set. -/
theorem sorted_keys {zs ts ss : List Int} (hr : ts.Pairwise (· < ·)) (hm : ∀ z, z ∈ ts ↔ z ∈ zs) (hp : ss.Perm (intKeys (setZ zs))) : ss.mergeSort leI = ts := by
  obtain ⟨es, e1, e2⟩ := tidy_setOf (H := Unit) (.lit (.bool true)) (zs.map keyOfZ) (isKey_z zs)
  obtain ⟨es', e3, e4⟩ := fold_keys (zs.map keyOfZ) (.map []) (fun k => ∃ x, k = .int .i64 x) (fun x hx => by
    obtain ⟨z, _, rfl⟩ := List.mem_map.1 hx
    exact ⟨z, rfl⟩) ⟨[], rfl, by simp⟩
  have e5 : setZ zs = .map es := e1
  have e6 : setZ zs = .map es' := e3
  obtain rfl : es' = es := by rw [e5] at e6; cases e6; rfl
  have nd : ts.Nodup := hr.imp fun h e => by omega
  have h1 : ts.Perm (intKeys (.map es')) := perm_intKeys e2 e4 nd fun z => by rw [hm, ← e5, setZ_has]
  rw [e5] at hp
  rw [mergeSort_of_perm_i (hp.trans h1.symm)]
  exact List.mergeSort_of_pairwise (hr.imp fun h => by simp [leI]; omega)
theorem setZ_size (zs : List Int) : Maps.size (setZ zs) ≤ zs.length := by
  have : ∀ (xs : List Lit) (D : DataW Unit), IsMap D → Maps.size (xs.foldl (fun m x => m.put x (.lit (.bool true))) D) ≤ Maps.size D + xs.length := by
    intro xs
    induction xs with
    | nil => intro D _; simp
    | cons x xs ih =>
      rintro D ⟨es, rfl⟩
      have h1 := ih ((DataW.map es).put x (.lit (.bool true))) ⟨_, rfl⟩
      have h2 : Maps.size ((DataW.map es).put x (.lit (.bool true))) ≤ es.length + 1 := by
        show (DataW.insert _ (es.filter _)).length ≤ _
        rw [length_insert]
        have := List.length_filter_le (fun p : Lit × DataW Unit => !p.1.sameKey x) es
        omega
      simp only [List.foldl_cons, List.length_cons]
      have h3 : Maps.size (DataW.map es) = es.length := rfl
      omega
  have h := this (zs.map keyOfZ) (.map []) isMap_empty
  simpa [setZ, setOf, Maps.size] using h

theorem sortsT (m : Nat) : AnyZI.SortsIn Tryd.prog Tryd.sortedT_ren Fence.wide m :=
  ⟨fun blk off cap ss W hH hblk hsz => callsIn_wide.2 (AnyM.slices_Sort_int Tryd.sortT blk off cap ss W hH hblk hsz),
   fun p cap W => callsIn_wide.2 (AnyM.slices_Sort_int_none Tryd.sortT p cap W)⟩
theorem keysT_any (mb : Option Nat) (W : World) :
    Calls Tryd.prog 81 #[.map mb] W fun e w' => e = .returned (.func (.func 117) #[] #[.pointer (some ⟨W.heap.size, 0, none⟩)]) ∧ w' = W.alloc (.cells #[.map mb] 88) :=
  (callsIn_wide (n := 5)).1 (AnyZI.keys_in Tryd.keysT Fence.wide 5 trivial rfl mb W)
theorem sortedT_any (b nn : Nat) (D0 : DataW Unit) (w : World) (hown : w.ownsMap Tryd.prog 2 (plainElem Tryd.prog 4) b nn D0) (hmax : Maps.size D0 ≤ 1000) :
    Calls Tryd.prog 80 #[.func (.func 117) #[] #[.pointer (some ⟨w.heap.size, 0, none⟩)]] (w.alloc (.cells #[.map (some b)] 88)) fun e w' => ∃ (v : Value) (ss : List Int), e = .returned v ∧ ss.Perm (intKeys D0) ∧ IRow w' w.heap.size v (ss.mergeSort leI) ∧ Below w.heap.size w w' := by
  have hbl := hown.lt
  have hseq : SeqGives Fence.wide 2 Tryd.prog 117 #[.pointer (some ⟨w.heap.size, 0, none⟩)] encZ (fun ss => ss.Perm (intKeys D0)) (Maps.size D0) (w.alloc (.cells #[.map (some b)] 88)) :=
    AnyZI.keys_gives (ρ := Tryd.keysT_ren) { Tryd.keysT with } Fence.wide _ trivial rfl (by omega) w.heap.size b nn D0 _ (by simp) (by simp) (by
      obtain ⟨es, clock, hb, Ft, hs, hD⟩ := hown
      exact ⟨es, clock, (Below.heap_alloc _ _ b hbl).trans hb, Ft, hs, hD⟩)
  have cS := AnyZI.sorted_in Tryd.sortedT Fence.wide 5 trivial trivial trivial trivial rfl (by omega) (sortsT _) (enters_of Tryd.func116 (by kernel_rfl) rfl) 117 #[.pointer (some ⟨w.heap.size, 0, none⟩)] trivial (enters_of Tryd.func117 (by kernel_rfl) rfl) _ _ (show Maps.size D0 ≤ maxLen by unfold maxLen; omega) (show Maps.size D0 * 8 ≤ 140737488355328 by omega) _ hseq
  change CallsIn _ _ Tryd.prog 80 _ _ _ at cS
  refine ((callsIn_wide (n := 5)).1 cS).mono ?_
  rintro e w' ⟨v, ss, rfl, hS, hrow, hnil, hb⟩
  refine ⟨v, ss, rfl, hS, ?_, ((Below.refl _ w).alloc (Nat.le_refl _) _).trans (hb.mono (by simp))⟩
  have h2 : IRow w' (w.alloc (.cells #[.map (some b)] 88)).heap.size v (ss.mergeSort leI) := by
    unfold IRow
    rw [List.length_mergeSort]
    exact hrow
  exact irow_up h2 (by simp)

def keysN (g : Int) (ps : List (Int × Int)) (k : Nat) : List Int := (ps.take k).map fun p => goreAtL g p.2
theorem keysN_succ {g : Int} {ps : List (Int × Int)} {k : Nat} (h : k < ps.length) : keysN g ps (k + 1) = keysN g ps k ++ [goreAtL g ps[k].2] := by
  rw [keysN, List.take_add_one, List.getElem?_eq_getElem h, List.map_append]; rfl
theorem keysN_len (g : Int) (ps : List (Int × Int)) (k : Nat) : (keysN g ps k).length ≤ k := by simp [keysN]; omega
set_option maxRecDepth 100000 in
set_option maxHeartbeats 4000000 in
theorem implTouched_ok (g : Int) (v : Value) (ps : List (Int × Int)) (w : World) (hG : GV w) (hv : PAt w w.heap.size v ps) (hg : goreB g = true) (hk : okL ps = true) (hl : ps.length ≤ 100) :
    Calls Tryd.prog 27 #[.int .i64 g, v] w fun e w' => ∃ u, e = .returned (.tuple #[u, .int .i64 0]) ∧ IRow w' w.heap.size u (touchL g ps) ∧ Below w.heap.size w w' := by
  have HV := Lib.hid hv
  obtain ⟨ar, c, rfl, hcl⟩ := hv
  have HCL := Lib.hid hcl
  have HG := Lib.hid hG
  clear hcl hG
  have hl2 : ¬ 100 < (ps.length : Int) := by omega
  have hmm := @run_makeMap Tryd.prog
  obtain ⟨T1, T2, _⟩ := touchL_facts g ps
  have TS := Lib.hid (fun (ss : List Int) (h : ss.Perm (intKeys (setZ (keysN g ps ps.length)))) => sorted_keys (ts := touchL g ps) T1 (fun z => by rw [T2]; simp [keysN]) h)
  obtain ⟨ts, hts⟩ : ∃ ts, Hid (touchL g ps = ts) := ⟨_, Lib.hid rfl⟩
  rw [hts.out] at TS ⊢
  clear T1 T2
  go_enter Tryd.func27, Tryd.ntmps27
  go_wp2_with (first | (go_at_call 33; refine (ValidGores_any _ _ HG.out).mono ?_; rw [hg]; rintro e w' ⟨rfl, rfl⟩) | (go_at_call 79; refine (areSpots_any _ ps _ HV.out (by omega)).mono ?_; rw [hk]; rintro e w1 ⟨rfl, hb1⟩; have HB1 := Lib.hid hb1; have hsz1 := hb1.size; clear hb1))
  go_loopw [23] (fun i wr => ∃ k : Nat, k ≤ ps.length ∧ i = .int .i64 (k : Int) ∧ wr.ownsMap Tryd.prog 2 (plainElem Tryd.prog 4) w1.heap.size k (setZ (keysN g ps k)) ∧ Below w.heap.size w wr) (fun i _ => ps.length - (intOf i).toNat)
  case atStart => exact ⟨0, Nat.zero_le _, rfl, World.ownsMap_made w1 _ _ _, HB1.out.alloc hsz1 _⟩
  case round =>
    obtain ⟨k, hk', rfl, hown, hb⟩ := hrel
    have HB := Lib.hid hb
    have HO := Lib.hid hown
    have hsz := hb.size
    by_cases hlt : k < ps.length
    · obtain ⟨bb, off, rfl, hbs, e1, e2⟩ := HCL.out k hlt
      have k1 := (hb.cell (p := ⟨bb, off + k * 2, none⟩) hbs).trans e1
      have k2 := (hb.cell (p := ⟨bb, off + k * 2 + 1, none⟩) hbs).trans e2
      have hk0 : 0 ≤ (k : Int) := by omega
      have hk1 : (k : Int) < (ps.length : Int) := by omega
      have OK := okL_at hk k hlt
      have KS := Lib.hid (keysN_succ (g := g) hlt)
      clear e1 e2 hb hown
      generalize ps[k] = x at k1 k2 OK KS
      obtain ⟨x1, x2⟩ := x
      obtain ⟨b1, b2⟩ := ok_bounds OK
      obtain ⟨y1, y2⟩ := goreAtL_bounds hg b1 b2
      have GA := Lib.hid (fun w => goreAt_any g x2 w hg b1 b2)
      obtain ⟨g1, g2, _⟩ := goreB_facts hg
      simp only at KS
      obtain ⟨y, hy⟩ : ∃ y, Hid (goreAtL g x2 = y) := ⟨_, Lib.hid rfl⟩
      rw [hy.out] at y1 y2 GA KS
      have wfy : (Lit.int .i64 y).wf = true := by simp [Lit.wf, IntKind.min, IntKind.max, IntKind.signed, IntKind.bits]; omega
      clear OK b1 b2
      go_wp2_with (first | (go_at_call 66; refine (GA.out _).mono ?_; rintro e w' ⟨rfl, rfl⟩) | (at_mapUpdate; refine wpList_mapUpdate_own _ rfl _ _ _ 88 rfl 2 4 (Maps.int_keyed Tryd.underlying2) Tryd.underlying88 _ w1.heap.size k (setZ (keysN g ps k)) rfl (HO.out.alloc _) (by unfold maxLen; omega) _ _ _ rfl rfl (Maps.keyOf_int_mk Tryd.underlying2 wfy) (.lit (.bool true)) [] (plainElem_bool Tryd.underlying4 true) ?_; intro w4 hown4 hgrow4))
      go_roundw
      case rel => exact ⟨k + 1, by omega, by go_num, by rw [KS.out, setZ_snoc]; exact hown4, (HB.out.alloc hsz _).grown hgrow4 (by simp; omega) (fun j hj => by cases hj; exact hsz1)⟩
      case measure => simp [intOf]; omega
    · obtain rfl : k = ps.length := by omega
      have hsm : Maps.size (setZ (keysN g ps ps.length)) ≤ 1000 := by
        have h1 := setZ_size (keysN g ps ps.length)
        have h2 := keysN_len g ps ps.length
        omega
      clear hb hown
      go_wp2_with (first | (go_at_call 81; refine (keysT_any _ _).mono ?_; rintro e w' ⟨rfl, rfl⟩) | (go_at_call 80; refine (sortedT_any w1.heap.size _ _ wr HO.out hsm).mono ?_; rintro e w5 ⟨u, ss, rfl, hS, hrow, hb5⟩; have R5 := Lib.hid hrow; have HB5 := Lib.hid (HB.out.trans (hb5.mono hsz)); have ES := Lib.hid (TS.out ss hS); clear hS hrow hb5))
      exact bodyPost_ret (v := .tuple #[u, .int .i64 0]) (by simp [results, Tryd.results27, go_sem]) rfl ⟨_, rfl, by rw [← ES.out]; exact irow_up R5.out hsz, HB5.out⟩
set_option maxHeartbeats 1000000 in
theorem implTouched_no (g : Int) (v : Value) (ps : List (Int × Int)) (w : World) (hG : GV w) (hv : PAt w w.heap.size v ps) (hg : goreB g = false) :
    Calls Tryd.prog 27 #[.int .i64 g, v] w fun e w' => e = .returned (.tuple #[.slice none 0 0, .int .i64 1]) ∧ Below w.heap.size w w' := by
  obtain ⟨a, c, rfl, _⟩ := hv
  go_enter Tryd.func27, Tryd.ntmps27
  go_wp2_with (go_at_call 33; refine (ValidGores_any g _ hG).mono ?_; rw [hg]; rintro e w' ⟨rfl, rfl⟩)
  exact bodyPost_ret (v := .tuple #[.slice none 0 0, .int .i64 1]) (by simp [results, Tryd.results27, go_sem]) rfl ⟨rfl, Below.refl _ _⟩
set_option maxHeartbeats 1000000 in
theorem implTouched_bad (g : Int) (v : Value) (ps : List (Int × Int)) (w : World) (hG : GV w) (hv : PAt w w.heap.size v ps) (hl : ps.length ≤ 1048576) (hg : goreB g = true) (hk : okL ps = false) :
    Calls Tryd.prog 27 #[.int .i64 g, v] w fun e w' => e = .returned (.tuple #[.slice none 0 0, .int .i64 1]) ∧ Below w.heap.size w w' := by
  have HV := Lib.hid hv
  obtain ⟨a, c, rfl, _⟩ := hv
  go_enter Tryd.func27, Tryd.ntmps27
  go_wp2_with (first | (go_at_call 33; refine (ValidGores_any g _ hG).mono ?_; rw [hg]; rintro e w' ⟨rfl, rfl⟩) | (go_at_call 79; refine (areSpots_any _ ps _ HV.out hl).mono ?_; rw [hk]; rintro e w2 ⟨rfl, hb⟩; have HB2 := Lib.hid hb; clear hb hg))
  exact bodyPost_ret (v := .tuple #[.slice none 0 0, .int .i64 1]) (by simp [results, Tryd.results27, go_sem]) rfl ⟨rfl, HB2.out⟩
set_option maxHeartbeats 1000000 in
theorem implTouched_full (g : Int) (v : Value) (ps : List (Int × Int)) (w : World) (hG : GV w) (hv : PAt w w.heap.size v ps) (hl : ps.length ≤ 1048576) (hg : goreB g = true) (hk : okL ps = true) (hf : 100 < ps.length) :
    Calls Tryd.prog 27 #[.int .i64 g, v] w fun e w' => e = .returned (.tuple #[.slice none 0 0, .int .i64 2]) ∧ Below w.heap.size w w' := by
  have HV := Lib.hid hv
  obtain ⟨a, c, rfl, _⟩ := hv
  have hf2 : 100 < (ps.length : Int) := by omega
  go_enter Tryd.func27, Tryd.ntmps27
  go_wp2_with (first | (go_at_call 33; refine (ValidGores_any g _ hG).mono ?_; rw [hg]; rintro e w' ⟨rfl, rfl⟩) | (go_at_call 79; refine (areSpots_any _ ps _ HV.out hl).mono ?_; rw [hk]; rintro e w2 ⟨rfl, hb⟩; have HB2 := Lib.hid hb; clear hb hg))
  exact bodyPost_ret (v := .tuple #[.slice none 0 0, .int .i64 2]) (by simp [results, Tryd.results27, go_sem]) rfl ⟨rfl, HB2.out⟩
theorem implGoresTouched_any (g : Int) (v : Value) (ps : List (Int × Int)) (w : World) (hG : GV w) (hv : PAt w w.heap.size v ps) (hl : ps.length ≤ 1048576) :
    Calls Tryd.prog 27 #[.int .i64 g, v] w fun e w' => ∃ u, e = .returned (.tuple #[u, .int .i64 (codeTo g ps)]) ∧ IRow w' w.heap.size u (valTo g ps) ∧ Below w.heap.size w w' := by
  cases hg : goreB g with
  | false =>
    obtain ⟨e1, e2⟩ := codeTo_bad (g := g) (ps := ps) (by simp [hg])
    rw [e1, e2]
    refine (implTouched_no g v ps w hG hv hg).mono ?_
    rintro e w' ⟨rfl, hb⟩
    exact ⟨_, rfl, irow_nil _ _, hb⟩
  | true =>
    cases hk : okL ps with
    | false =>
      obtain ⟨e1, e2⟩ := codeTo_bad (g := g) (ps := ps) (by simp [hk])
      rw [e1, e2]
      refine (implTouched_bad g v ps w hG hv hl hg hk).mono ?_
      rintro e w' ⟨rfl, hb⟩
      exact ⟨_, rfl, irow_nil _ _, hb⟩
    | true =>
      by_cases hf : 100 < ps.length
      · obtain ⟨e1, e2⟩ := codeTo_full hg hk hf
        rw [e1, e2]
        refine (implTouched_full g v ps w hG hv hl hg hk hf).mono ?_
        rintro e w' ⟨rfl, hb⟩
        exact ⟨_, rfl, irow_nil _ _, hb⟩
      · obtain ⟨e1, e2⟩ := codeTo_ok hg hk (by omega)
        rw [e1, e2]
        exact implTouched_ok g v ps w hG hv hg hk (by omega)
end Go.Proofs.YtbnihalbepffoaaDoor.sines
