/- The program's lists of chains, and chains put one behind the other: contracts. -/
import Derived.Test.YtjailkgogmanfaaJoinI1
import Derived.Test.YtjailkgogmanfaaChainI6
import Derived.Test.YtjailkgogmanfaaJoinS3
import Derived.Test.YtjailkgogmanfaaShelfG
import Derived.Shelf.Spec.SlicesGrow
namespace Go.Proofs.Ytjailkgogmanfaa.sines
open Go.ChangeShapes Go.WideShapes Go.ChangeAt Go.RowKit Go.Proofs.Ytjailkgogmanfaa.spots Go.Proofs.Ytjailkgogmanfaa.irows Go.Proofs.Ytjailkgogmanfaa.pairsPlace
set_option linter.unusedSimpArgs false
set_option linter.unusedVariables false

/-- What is read of a list of lists. -/
def CAt (w : World) (B : Nat) (v : Value) (rows : List (List Pl)) : Prop :=
  ∃ a c, v = .slice a rows.length c ∧ ∀ i, (h : i < rows.length) → ∃ b off x, a = some ⟨b, off, none⟩ ∧ b < B ∧ w.cell? ⟨b, off + i, none⟩ = some x ∧ PAt w B x rows[i] ∧ CapOk x
theorem cat_keep {w w' : World} {B : Nat} {v : Value} {rows : List (List Pl)} (h : CAt w B v rows) (hb : Below B w w') : CAt w' B v rows := by
  obtain ⟨a, c, e, h⟩ := h
  refine ⟨a, c, e, fun i hi => ?_⟩
  obtain ⟨b, off, x, e1, e2, e3, e4, e5⟩ := h i hi
  exact ⟨b, off, x, e1, e2, by rw [hb.cell (p := ⟨b, off + i, none⟩) e2]; exact e3, pat_keep e4 hb, e5⟩
theorem cat_up {w : World} {B B' : Nat} {v : Value} {rows : List (List Pl)} (h : CAt w B v rows) (hB : B ≤ B') : CAt w B' v rows := by
  obtain ⟨a, c, e, h⟩ := h
  refine ⟨a, c, e, fun i hi => ?_⟩
  obtain ⟨b, off, x, e1, e2, e3, e4, e5⟩ := h i hi
  exact ⟨b, off, x, e1, by omega, e3, pat_up e4 hB, e5⟩
/-- Two slices laid side by side. -/
theorem cat_two {w : World} {v u : Value} {ps qs : List Pl} {T : TypeId} (hv : PAt w w.heap.size v ps) (hu : PAt w w.heap.size u qs) (cv : CapOk v) (cu : CapOk u) :
    CAt (w.alloc (.cells #[v, u] T)) (w.alloc (.cells #[v, u] T)).heap.size (.slice (some ⟨w.heap.size, 0, none⟩) 2 2) [ps, qs] := by
  have hb : Below w.heap.size w (w.alloc (.cells #[v, u] T)) := (Below.refl _ _).alloc (Nat.le_refl _) _
  refine ⟨_, _, rfl, fun i hi => ?_⟩
  have hi2 : i < 2 := hi
  match i, hi2 with
  | 0, _ => exact ⟨w.heap.size, 0, v, rfl, by simp, by simp, pat_up (pat_keep hv hb) hb.size, cv⟩
  | 1, _ => exact ⟨w.heap.size, 0, u, rfl, by simp, by simp, pat_up (pat_keep hu hb) hb.size, cu⟩
set_option maxHeartbeats 400000 in
theorem areChains1_any (v : Value) (ps : List (Int × Int)) (w : World) (hv : PAt w w.heap.size v ps) (hl : ps.length ≤ 1048576) :
    Calls Try.prog 106 #[v] w fun e w' => e = .returned (.bool (!okC ps)) ∧ Below w.heap.size w w' := by
  have HV := Lib.hid (implValidChain_any v ps w hv hl)
  obtain ⟨ar, c, rfl, _⟩ := hv
  generalize okC ps = R at *
  go_enter Try.func106, Try.ntmps106
  go_wp2_with fail
  refine HV.out.mono ?_
  rintro e w1 ⟨rfl, hb⟩
  go_wp2
  go_ret
  exact ⟨rfl, hb⟩
theorem rowsAll_not {rows : List (List Pl)} {k : Nat} (hk : k < rows.length) (h : okC rows[k] = false) : rows.all okC = false := by
  cases e : rows.all okC with
  | false => rfl
  | true =>
    rw [List.all_eq_true] at e
    rw [e _ (List.getElem_mem hk)] at h
    cases h
theorem rowsAll_of {rows : List (List Pl)} (h : ∀ j, (hj : j < rows.length) → okC rows[j] = true) : rows.all okC = true := by
  rw [List.all_eq_true]
  intro p hp
  obtain ⟨j, hj, rfl⟩ := List.mem_iff_getElem.1 hp
  exact h j hj
set_option maxRecDepth 100000 in
set_option maxHeartbeats 1000000 in
theorem indexBad_any (v : Value) (rows : List (List Pl)) (w : World) (hv : CAt w w.heap.size v rows) (hl : rows.length ≤ 1048576) (hr : ∀ j, (hj : j < rows.length) → rows[j].length ≤ 1048576) :
    Calls Try.prog 117 #[v, .func (.func 106) #[] #[]] w fun e w' => ∃ r : Int, e = .returned (.int .i64 r) ∧ ((rows.all okC = true ∧ r = -1) ∨ (rows.all okC = false ∧ 0 ≤ r)) ∧ Below w.heap.size w w' := by
  obtain ⟨a, c, rfl, hc⟩ := hv
  have HC := Lib.hid hc
  have HR := Lib.hid hr
  clear hc hr
  have hl2 : (rows.length : Int) ≤ 1048576 := by omega
  go_enter Try.func117, Try.ntmps117
  go_wp2
  go_loopw [8] (fun i wr => ∃ k : Nat, k ≤ rows.length ∧ i = .int .i64 (k : Int) ∧ (∀ j, (hj : j < rows.length) → j < k → okC rows[j] = true) ∧ Below w.heap.size w wr) (fun i _ => rows.length - (intOf i).toNat)
  case atStart => exact ⟨0, Nat.zero_le _, rfl, fun j _ h => by omega, Below.refl _ _⟩
  case round =>
    obtain ⟨k, hk, rfl, hall, hb⟩ := hrel
    have hsz := hb.size
    have HA := Lib.hid hall
    have HB := Lib.hid hb
    clear hall hb
    by_cases hlt : k < rows.length
    · obtain ⟨b, off, x, rfl, hbs, c1, hx, _⟩ := HC.out k hlt
      have c1' : wr.cell? ⟨b, off + k, none⟩ = some x := by rw [HB.out.cell (p := ⟨b, off + k, none⟩) hbs]; exact c1
      have CK := Lib.hid (areChains1_any x rows[k] wr (pat_up (pat_keep hx HB.out) hsz) (HR.out k hlt))
      have hk0 : 0 ≤ (k : Int) := by omega
      have hk1 : (k : Int) < (rows.length : Int) := by omega
      have NO := Lib.hid (fun h => rowsAll_not hlt h)
      have YES := Lib.hid (show okC rows[k] = true → ∀ j, (hj : j < rows.length) → j < k + 1 → okC rows[j] = true from fun h j hj hjk => by
        by_cases e : j = k
        · subst e; exact h
        · exact HA.out j hj (by omega))
      clear c1
      obtain ⟨ax, cx, rfl, _⟩ := hx
      cases ho : okC rows[k] with
      | false =>
        rw [ho] at CK
        have BAD := Lib.hid (NO.out ho)
        go_wp2_with fail
        refine CK.out.mono ?_
        rintro e w1 ⟨rfl, hb1⟩
        have HB1 := Lib.hid (HB.out.trans (hb1.mono hsz))
        clear hb1
        go_wp2
        go_ret
        exact ⟨_, rfl, .inr ⟨BAD.out, hk0⟩, HB1.out⟩
      | true =>
        rw [ho] at CK
        have Y := Lib.hid (YES.out ho)
        go_wp2_with fail
        refine CK.out.mono ?_
        rintro e w1 ⟨rfl, hb1⟩
        have HB1 := Lib.hid (HB.out.trans (hb1.mono hsz))
        clear hb1
        go_wp2
        go_roundw
        case rel => exact ⟨k + 1, by omega, by go_num, Y.out, HB1.out⟩
        case measure => simp [intOf]; omega
    · obtain rfl : k = rows.length := by omega
      have OK := Lib.hid (rowsAll_of (fun j hj => HA.out j hj hj))
      go_wp2
      go_ret
      exact ⟨_, rfl, .inl ⟨OK.out, rfl⟩, HB.out⟩
set_option maxHeartbeats 400000 in
theorem containsBad_any (v : Value) (rows : List (List Pl)) (w : World) (hv : CAt w w.heap.size v rows) (hl : rows.length ≤ 1048576) (hr : ∀ j, (hj : j < rows.length) → rows[j].length ≤ 1048576) :
    Calls Try.prog 105 #[v, .func (.func 106) #[] #[]] w fun e w' => e = .returned (.bool (!rows.all okC)) ∧ Below w.heap.size w w' := by
  have HV := Lib.hid (indexBad_any v rows w hv hl hr)
  obtain ⟨a, c, rfl, _⟩ := hv
  go_enter Try.func105, Try.ntmps105
  go_wp2_with fail
  refine HV.out.mono ?_
  rintro e w1 ⟨r, rfl, hr, hb⟩
  have HB := Lib.hid hb
  clear hb
  rcases hr with ⟨h1, rfl⟩ | ⟨h1, h2⟩
  · have H1 := Lib.hid h1
    clear h1
    go_wp2
    go_ret
    exact ⟨retB (by simp [H1.out]), HB.out⟩
  · have H1 := Lib.hid h1
    clear h1
    go_wp2
    go_ret
    exact ⟨retB (by simp [H1.out]), HB.out⟩
set_option maxHeartbeats 400000 in
theorem areChains_any (v : Value) (rows : List (List Pl)) (w : World) (hv : CAt w w.heap.size v rows) (hl : rows.length ≤ 1048576) (hr : ∀ j, (hj : j < rows.length) → rows[j].length ≤ 1048576) :
    Calls Try.prog 70 #[v] w fun e w' => e = .returned (.bool (rows.all okC)) ∧ Below w.heap.size w w' := by
  have HV := Lib.hid (containsBad_any v rows w hv hl hr)
  obtain ⟨a, c, rfl, _⟩ := hv
  generalize rows.all okC = R at *
  go_enter Try.func70, Try.ntmps70
  go_wp2_with fail
  refine HV.out.mono ?_
  rintro e w1 ⟨rfl, hb⟩
  go_wp2
  go_ret
  exact ⟨retB (by simp), hb⟩
theorem grow_any (n : Nat) (w : World) (h0 : 0 < n) (hn : n ≤ 100) :
    Calls Try.prog 118 #[.slice none 0 0, .int .i64 (n : Int)] w fun e w' => ∃ G, e = .returned (.slice (some ⟨w.heap.size, 0, none⟩) 0 G) ∧ PRow w' w.heap.size (.slice (some ⟨w.heap.size, 0, none⟩) 0 G) [] ∧ Below w.heap.size w w' := by
  obtain ⟨i0, hi, hz0, hz1, hz2⟩ := info_parts info_pair
  have key : ∀ G, 0 + n ≤ G → G ≤ maxLen → PRow (w.drew.alloc (.cells (([] : List Value).toArray ++ Builtin.zeroCells (Value.agg #[.int .i64 0, .int .i64 0]).cells (0 + n - 0) ++ Builtin.zeroCells (Value.agg #[.int .i64 0, .int .i64 0]).cells (G - (0 + n))) 43)) w.heap.size (.slice (some ⟨w.heap.size, 0, none⟩) 0 G) [] := fun G h1 h2 =>
    World.ownsRow_made (e := 43) (size := 2) (base := w.heap.size) w.drew _ G (Nat.le_refl _) h2 (by simp [Builtin.zeroCells, Value.cells]; omega)
  have hC := Any8.slices_Grow_grow Try.growO i0 (.agg #[.int .i64 0, .int .i64 0]) hi hz0 (by rw [hz1]; decide) none 0 0 n [] w (Nat.le_refl _) (by omega) (by rw [hz2]; omega) (by omega) (by simp) (fun _ => rfl) (fun a h => by cases h)
  refine Calls.mono hC ?_
  rintro e w' ⟨rfl, rfl⟩
  exact ⟨_, rfl, key _ (grownCap_ge w (0 + n) 0 43) (grownCap_le_maxLen w (0 + n) 0 43 (by unfold maxLen; omega)), (Below.drew (Below.refl _ _)).alloc (Nat.le_refl _) _⟩
theorem own_n {w : World} {B n : Nat} {v : Value} {ps : List Pl} (hn : ps.length = n) (h : PRow w B v ps) : w.ownsRow B 43 2 v n (ints (flat ps)) := by
  unfold PRow at h; rw [hn] at h; exact h
theorem own_two {w : World} {B n m : Nat} {v : Value} {ps qs : List Pl} (hn : ps.length = n) (hm : qs.length = m) (h : w.ownsRow B 43 2 v (n + m) (ints (flat ps) ++ ints (flat qs))) : PRow w B v (ps ++ qs) := by
  subst hn hm
  unfold PRow
  rw [List.length_append, flat_append]
  simpa [ints] using h
set_option maxRecDepth 100000 in
set_option maxHeartbeats 2000000 in
theorem concat_any (b off : Nat) (v u : Value) (ps qs : List (Int × Int)) (w : World) (h0 : w.cell? ⟨b, off, none⟩ = some v) (h1 : w.cell? ⟨b, off + 1, none⟩ = some u) (hv : PAt w w.heap.size v ps) (hu : PAt w w.heap.size u qs) (p1 : 0 < ps.length) (q1 : 0 < qs.length) (p2 : ps.length ≤ 48) (q2 : qs.length ≤ 48) :
    Calls Try.prog 107 #[.slice (some ⟨b, off, none⟩) 2 2] w fun e w' => ∃ r, e = .returned r ∧ PRow w' w.heap.size r (ps ++ qs) ∧ Below w.heap.size w w' := by
  obtain ⟨i0, hi, hz0, hz1, hz2⟩ := info_parts info_pair
  have hbl : b < w.heap.size := World.block_lt_of_cell? _ _ h0
  have HV := Lib.hid hv
  have HU := Lib.hid hu
  obtain ⟨av, cv, rfl, hv2⟩ := hv
  obtain ⟨au, cu, rfl, hu2⟩ := hu
  obtain ⟨bv, ov, rfl, _⟩ := hv2 0 p1
  obtain ⟨bu, ou, rfl, _⟩ := hu2 0 q1
  clear hv2 hu2
  obtain ⟨n, hn⟩ : ∃ n, Hid (ps.length = n) := ⟨_, Lib.hid rfl⟩
  obtain ⟨m, hm⟩ : ∃ m, Hid (qs.length = m) := ⟨_, Lib.hid rfl⟩
  have HVn := Lib.hid (show PAt w w.heap.size (.slice (some ⟨bv, ov, none⟩) n cv) ps by have h := HV.out; rw [hn.out] at h; exact h)
  have HUm := Lib.hid (show PAt w w.heap.size (.slice (some ⟨bu, ou, none⟩) m cu) qs by have h := HU.out; rw [hm.out] at h; exact h)
  rw [hn.out] at h0 p1 p2
  rw [hm.out] at h1 q1 q2
  have k1 : IntKind.i64.wrap (n : Int) = (n : Int) := IntWalk.i64_in _ (by omega)
  have k2 : IntKind.i64.wrap ((n : Int) + (m : Int)) = (n : Int) + (m : Int) := IntWalk.i64_in _ (by omega)
  have k3 : ¬ (n : Int) < 0 := by omega
  have k4 : ¬ (n : Int) + (m : Int) < 0 := by omega
  have GR := Lib.hid (fun W => by have h := grow_any (n + m) W (by omega) (by omega); rw [Int.natCast_add] at h; exact h)
  go_enter Try.func107, Try.ntmps107
  go_wp2
  go_loopw [3, 11] (fun s i wr => ∃ k : Nat, k ≤ 2 ∧ i = .int .i64 (k : Int) ∧ s = .int .i64 (if k = 0 then 0 else if k = 1 then (n : Int) else (n : Int) + (m : Int)) ∧ w = wr) (fun _ i _ => 2 - (intOf i).toNat)
  case atStart => exact ⟨0, by omega, rfl, rfl, rfl⟩
  case round =>
    obtain ⟨k, hk, rfl, rfl, rfl⟩ := hrel
    match k, hk with
    | 0, _ =>
      go_wp2
      go_roundw
      case rel => exact ⟨1, by omega, by go_num, by go_num, by trivial⟩
      case measure => simp [intOf]
    | 1, _ =>
      go_wp2
      go_roundw
      case rel => exact ⟨2, by omega, by go_num, by go_num, by trivial⟩
      case measure => simp [intOf]
    | 2, _ =>
      go_wp2_with (go_at_call 118; refine (GR.out _).mono ?_; rintro e w1 ⟨G, rfl, hr1, hb1⟩; have HR1 := Lib.hid hr1; have HB1 := Lib.hid hb1; clear hr1 hb1)
      go_loopw [6, 27] (fun u i wr => ∃ k : Nat, k ≤ 2 ∧ i = .int .i64 (k : Int) ∧ PRow wr w.heap.size u (if k = 0 then [] else if k = 1 then ps else ps ++ qs) ∧ Below w.heap.size w wr) (fun _ i _ => 2 - (intOf i).toNat)
      case atStart => exact ⟨0, by omega, rfl, HR1.out, HB1.out⟩
      case round =>
        obtain ⟨k, hk, rfl, hr, hb⟩ := hrel
        have HR := Lib.hid hr
        have HB := Lib.hid hb
        have c0 := (hb.cell (p := ⟨b, off, none⟩) hbl).trans h0
        have c1 := (hb.cell (p := ⟨b, off + 1, none⟩) hbl).trans h1
        clear hr hb
        match k, hk with
        | 0, _ =>
          go_wp2_with (at_builtin; refine wpList_append_own _ rfl _ _ 82 rfl w.heap.size 43 i0 (.agg #[.int .i64 0, .int .i64 0]) 2 16 Try.underlying82 hi hz0 hz1 hz2 rfl (by decide) u6 0 [] rfl HR.out ⟨bv, ov, none⟩ n cv (ints (flat ps)) rfl (by rw [ints_flat_len']; have h1 := hn.out; have h2 := hm.out; omega) (pat_flat' (pat_keep HVn.out HB.out)) (ints_one _) (by unfold maxLen; omega) (by omega) HB.out.size ?_; intro v4 w4 hown4 hg4 _)
          go_roundw
          case rel => exact ⟨1, by omega, by go_num, (by have h := hown4; rw [← hn.out] at h; exact own_zero h), HB.out.grown hg4 HB.out.size (fun j hj => (World.ownsRow.lt HR.out j hj).1)⟩
          case measure => simp [intOf]
        | 1, _ =>
          go_wp2_with (at_builtin; refine wpList_append_own _ rfl _ _ 82 rfl w.heap.size 43 i0 (.agg #[.int .i64 0, .int .i64 0]) 2 16 Try.underlying82 hi hz0 hz1 hz2 rfl (by decide) u6 n (ints (flat ps)) rfl (own_n hn.out HR.out) ⟨bu, ou, none⟩ m cu (ints (flat qs)) rfl (by rw [ints_flat_len']; have h1 := hn.out; have h2 := hm.out; omega) (pat_flat' (pat_keep HUm.out HB.out)) (ints_one _) (by unfold maxLen; omega) (by omega) HB.out.size ?_; intro v4 w4 hown4 hg4 _)
          go_roundw
          case rel => exact ⟨2, by omega, by go_num, own_two hn.out hm.out hown4, HB.out.grown hg4 HB.out.size (fun j hj => (World.ownsRow.lt HR.out j hj).1)⟩
          case measure => simp [intOf]
        | 2, _ =>
          go_wp2
          go_ret
          exact ⟨_, rfl, HR.out, HB.out⟩
end Go.Proofs.Ytjailkgogmanfaa.sines
