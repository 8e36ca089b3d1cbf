/- The program's lists of chains, and chains put one behind the other: contracts. -/
import Derived.Test.YtemhmejjmhbfdabJoinI1
import Derived.Test.YtemhmejjmhbfdabChainI6
import Derived.Test.YtemhmejjmhbfdabJoinS3
import Derived.Test.YtemhmejjmhbfdabShelfG
import Derived.Shelf.Spec.SlicesGrow
namespace Go.Proofs.Ytemhmejjmhbfdab.sines
open Go.ChangeShapes Go.WideShapes Go.ChangeAt Go.RowKit Go.Proofs.Ytemhmejjmhbfdab.spots Go.Proofs.Ytemhmejjmhbfdab.irows Go.Proofs.Ytemhmejjmhbfdab.pairsPlace
set_option linter.unusedSimpArgs false
set_option linter.unusedVariables false

/-- What is read of a list of lists. -/
def CAt (w : World) (B : Nat) (v : Value) (rows : List (List Pl)) : Prop :=
  ∃ a c, v = .slice a rows.length c ∧ ∀ i, (h : i < rows.length) → ∃ b off x, a = some ⟨b, off, none⟩ ∧ b < B ∧ w.cell? ⟨b, off + i, none⟩ = some x ∧ PAt w B x rows[i] ∧ CapOk x
theorem cat_keep {w w' : World} {B : Nat} {v : Value} {rows : List (List Pl)} (h : CAt w B v rows) (hb : Below B w w') : CAt w' B v rows := by
  obtain ⟨a, c, e, h⟩ := h
  refine ⟨a, c, e, fun i hi => ?_⟩
  obtain ⟨b, off, x, e1, e2, e3, e4, e5⟩ := h i hi
  exact ⟨b, off, x, e1, e2, by rw [hb.cell (p := ⟨b, off + i, none⟩) e2]; exact e3, pat_keep e4 hb, e5⟩
theorem cat_up {w : World} {B B' : Nat} {v : Value} {rows : List (List Pl)} (h : CAt w B v rows) (hB : B ≤ B') : CAt w B' v rows := by
  obtain ⟨a, c, e, h⟩ := h
  refine ⟨a, c, e, fun i hi => ?_⟩
  obtain ⟨b, off, x, e1, e2, e3, e4, e5⟩ := h i hi
  exact ⟨b, off, x, e1, by omega, e3, pat_up e4 hB, e5⟩
/-- Two slices laid side by side. -/
theorem cat_two {w : World} {v u : Value} {ps qs : List Pl} {T : TypeId} (hv : PAt w w.heap.size v ps) (hu : PAt w w.heap.size u qs) (cv : CapOk v) (cu : CapOk u) :
    CAt (w.alloc (.cells #[v, u] T)) (w.alloc (.cells #[v, u] T)).heap.size (.slice (some ⟨w.heap.size, 0, none⟩) 2 2) [ps, qs] := by
  have hb : Below w.heap.size w (w.alloc (.cells #[v, u] T)) := (Below.refl _ _).alloc (Nat.le_refl _) _
  refine ⟨_, _, rfl, fun i hi => ?_⟩
  have hi2 : i < 2 := hi
  match i, hi2 with
  | 0, _ => exact ⟨w.heap.size, 0, v, rfl, by simp, by simp, pat_up (pat_keep hv hb) hb.size, cv⟩
  | 1, _ => exact ⟨w.heap.size, 0, u, rfl, by simp, by simp, pat_up (pat_keep hu hb) hb.size, cu⟩
set_option maxHeartbeats 400000 in
theorem areChains1_any (v : Value) (ps : List (Int × Int)) (w : World) (hv : PAt w w.heap.size v ps) (hl : ps.length ≤ 1048576) :
    Calls Try.prog 121 #[v] w fun e w' => e = .returned (.bool (!okC ps)) ∧ Below w.heap.size w w' := by
  have HV := Lib.hid (implValidChain_any v ps w hv hl)
  obtain ⟨ar, c, rfl, _⟩ := hv
  generalize okC ps = R at *
  go_enter Try.func121, Try.ntmps121
  go_wp2_with fail
  refine HV.out.mono ?_
  rintro e w1 ⟨rfl, hb⟩
  go_wp2
  go_ret
  exact ⟨rfl, hb⟩
theorem rowsAll_not {rows : List (List Pl)} {k : Nat} (hk : k < rows.length) (h : okC rows[k] = false) : rows.all okC = false := by
  cases e : rows.all okC with
  | false => rfl
  | true =>
    rw [List.all_eq_true] at e
    rw [e _ (List.getElem_mem hk)] at h
    cases h
theorem rowsAll_of {rows : List (List Pl)} (h : ∀ j, (hj : j < rows.length) → okC rows[j] = true) : rows.all okC = true := by
  rw [List.all_eq_true]
  intro p hp
  obtain ⟨j, hj, rfl⟩ := List.mem_iff_getElem.1 hp
  exact h j hj
set_option maxRecDepth 100000 in
set_option maxHeartbeats 1000000 in
theorem indexBad_any (v : Value) (rows : List (List Pl)) (w : World) (hv : CAt w w.heap.size v rows) (hl : rows.length ≤ 1048576) (hr : ∀ j, (hj : j < rows.length) → rows[j].length ≤ 1048576) :
    Calls Try.prog 130 #[v, .func (.func 121) #[] #[]] w fun e w' => ∃ r : Int, e = .returned (.int .i64 r) ∧ ((rows.all okC = true ∧ r = -1) ∨ (rows.all okC = false ∧ 0 ≤ r)) ∧ Below w.heap.size w w' := by
  obtain ⟨a, c, rfl, hc⟩ := hv
  have HC := Lib.hid hc
  have HR := Lib.hid hr
  clear hc hr
  have hl2 : (rows.length : Int) ≤ 1048576 := by omega
  go_enter Try.func130, Try.ntmps130
  go_wp2
  go_loopw [8] (fun i wr => ∃ k : Nat, k ≤ rows.length ∧ i = .int .i64 (k : Int) ∧ (∀ j, (hj : j < rows.length) → j < k → okC rows[j] = true) ∧ Below w.heap.size w wr) (fun i _ => rows.length - (intOf i).toNat)
  case atStart => exact ⟨0, Nat.zero_le _, rfl, fun j _ h => by omega, Below.refl _ _⟩
  case round =>
    obtain ⟨k, hk, rfl, hall, hb⟩ := hrel
    have hsz := hb.size
    have HA := Lib.hid hall
    have HB := Lib.hid hb
    clear hall hb
    by_cases hlt : k < rows.length
    · obtain ⟨b, off, x, rfl, hbs, c1, hx, _⟩ := HC.out k hlt
      have c1' : wr.cell? ⟨b, off + k, none⟩ = some x := by rw [HB.out.cell (p := ⟨b, off + k, none⟩) hbs]; exact c1
      have CK := Lib.hid (areChains1_any x rows[k] wr (pat_up (pat_keep hx HB.out) hsz) (HR.out k hlt))
      have hk0 : 0 ≤ (k : Int) := by omega
      have hk1 : (k : Int) < (rows.length : Int) := by omega
      have NO := Lib.hid (fun h => rowsAll_not hlt h)
      have YES := Lib.hid (show okC rows[k] = true → ∀ j, (hj : j < rows.length) → j < k + 1 → okC rows[j] = true from fun h j hj hjk => by
        by_cases e : j = k
        · subst e; exact h
        · exact HA.out j hj (by omega))
      clear c1
      obtain ⟨ax, cx, rfl, _⟩ := hx
      cases ho : okC rows[k] with
      | false =>
        rw [ho] at CK
        have BAD := Lib.hid (NO.out ho)
        go_wp2_with fail
        refine CK.out.mono ?_
        rintro e w1 ⟨rfl, hb1⟩
        have HB1 := Lib.hid (HB.out.trans (hb1.mono hsz))
        clear hb1
        go_wp2
        go_ret
        exact ⟨_, rfl, .inr ⟨BAD.out, hk0⟩, HB1.out⟩
      | true =>
        rw [ho] at CK
        have Y := Lib.hid (YES.out ho)
        go_wp2_with fail
        refine CK.out.mono ?_
        rintro e w1 ⟨rfl, hb1⟩
        have HB1 := Lib.hid (HB.out.trans (hb1.mono hsz))
        clear hb1
        go_wp2
        go_roundw
        case rel => exact ⟨k + 1, by omega, by go_num, Y.out, HB1.out⟩
        case measure => simp [intOf]; omega
    · obtain rfl : k = rows.length := by omega
      have OK := Lib.hid (rowsAll_of (fun j hj => HA.out j hj hj))
      go_wp2
      go_ret
      exact ⟨_, rfl, .inl ⟨OK.out, rfl⟩, HB.out⟩
set_option maxHeartbeats 400000 in
theorem containsBad_any (v : Value) (rows : List (List Pl)) (w : World) (hv : CAt w w.heap.size v rows) (hl : rows.length ≤ 1048576) (hr : ∀ j, (hj : j < rows.length) → rows[j].length ≤ 1048576) :
    Calls Try.prog 120 #[v, .func (.func 121) #[] #[]] w fun e w' => e = .returned (.bool (!rows.all okC)) ∧ Below w.heap.size w w' := by
  have HV := Lib.hid (indexBad_any v rows w hv hl hr)
  obtain ⟨a, c, rfl, _⟩ := hv
  go_enter Try.func120, Try.ntmps120
  go_wp2_with fail
  refine HV.out.mono ?_
  rintro e w1 ⟨r, rfl, hr, hb⟩
  have HB := Lib.hid hb
  clear hb
  rcases hr with ⟨h1, rfl⟩ | ⟨h1, h2⟩
  · have H1 := Lib.hid h1
    clear h1
    go_wp2
    go_ret
    exact ⟨retB (by simp [H1.out]), HB.out⟩
  · have H1 := Lib.hid h1
    clear h1
    go_wp2
    go_ret
    exact ⟨retB (by simp [H1.out]), HB.out⟩
set_option maxHeartbeats 400000 in
theorem areChains_any (v : Value) (rows : List (List Pl)) (w : World) (hv : CAt w w.heap.size v rows) (hl : rows.length ≤ 1048576) (hr : ∀ j, (hj : j < rows.length) → rows[j].length ≤ 1048576) :
    Calls Try.prog 103 #[v] w fun e w' => e = .returned (.bool (rows.all okC)) ∧ Below w.heap.size w w' := by
  have HV := Lib.hid (containsBad_any v rows w hv hl hr)
  obtain ⟨a, c, rfl, _⟩ := hv
  generalize rows.all okC = R at *
  go_enter Try.func103, Try.ntmps103
  go_wp2_with fail
  refine HV.out.mono ?_
  rintro e w1 ⟨rfl, hb⟩
  go_wp2
  go_ret
  exact ⟨retB (by simp), hb⟩
theorem own_n {w : World} {B n : Nat} {v : Value} {ps : List Pl} (hn : ps.length = n) (h : PRow w B v ps) : w.ownsRow B 120 2 v n (ints (flat ps)) := by
  unfold PRow at h; rw [hn] at h; exact h
theorem own_two {w : World} {B n m : Nat} {v : Value} {ps qs : List Pl} (hn : ps.length = n) (hm : qs.length = m) (h : w.ownsRow B 120 2 v (n + m) (ints (flat ps) ++ ints (flat qs))) : PRow w B v (ps ++ qs) := by
  subst hn hm
  unfold PRow
  rw [List.length_append, flat_append]
  simpa [ints] using h
end Go.Proofs.Ytemhmejjmhbfdab.sines
