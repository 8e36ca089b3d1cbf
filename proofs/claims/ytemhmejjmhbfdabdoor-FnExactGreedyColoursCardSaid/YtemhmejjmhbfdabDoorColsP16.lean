/- The colours of a painting, loop by loop: contracts of the program. -/
import Derived.Test.YtemhmejjmhbfdabDoorColsP15
import Derived.Test.YtemhmejjmhbfdabDoorColsG2
namespace Go.Proofs.YtemhmejjmhbfdabDoor.sines
open Go.ChangeShapes Go.WideShapes Go.ChangeAt Go.RowKit Go.Shelf Go.Proofs.YtemhmejjmhbfdabDoor.spots Go.Proofs.YtemhmejjmhbfdabDoor.irows Go.Proofs.YtemhmejjmhbfdabDoor.pairsBorder
attribute [local go_sem] Oper.semAt_some
set_option linter.unusedSimpArgs false
set_option linter.unusedVariables false
/-! ### marks of loops over iterators -/
def mkD (r : Nat) : Deferred := { target := .collected r, args := #[] }
def shut : List Nat → World → World
  | [], W => W
  | r :: rs, W => shut rs (W.putObj r (.deferred none))
/-- The marks of the loops that are over. -/
def Marks9 (B : Nat) (ds : List Deferred) (W : World) : Prop := ∃ rs : List Nat, ds = rs.map mkD ∧ rs.Nodup ∧ ∀ r ∈ rs, B ≤ r ∧ W.heap[r]? = some (.deferred (some []))
theorem marks_nil (B : Nat) (W : World) : Marks9 B [] W := ⟨[], rfl, List.nodup_nil, by simp⟩
theorem leaves_marks {F : Fence} {n : Nat} {P : Program} {fn : Func} {tmps : Array Value} {R : Ending → World → Prop} : ∀ (rs : List Nat) (W : World), rs.Nodup → (∀ r ∈ rs, W.heap[r]? = some (.deferred (some []))) →
    LeavesInM F n P fn tmps R [] .returning (shut rs W) → LeavesInM F n P fn tmps R (rs.map mkD) .returning W
  | [], W, _, _, h => h
  | r :: rs, W, hn, hk, h => by
    obtain ⟨n1, n2⟩ := List.nodup_cons.1 hn
    refine ⟨by simp, .inl ⟨r, _, rfl, run_takeDeferred (hk r (by simp)), leaves_marks rs _ n2 (fun r' hr' => ?_) h⟩⟩
    rw [World.putObj_heap_other (show r' ≠ r from fun e => n1 (e ▸ hr'))]
    exact hk r' (by simp [hr'])
theorem shut_cells : ∀ (rs : List Nat) (W : World), (∀ r ∈ rs, W.heap[r]? = some (.deferred (some []))) → rs.Nodup → ∀ (i : Nat) (cs : Array Value) (t : TypeId) (fr : Nat × Nat), W.heap[i]? = some (Obj.cells cs t fr) → (shut rs W).heap[i]? = some (Obj.cells cs t fr)
  | [], W, _, _, i, cs, t, fr, h => h
  | r :: rs, W, hk, hn, i, cs, t, fr, h => by
    obtain ⟨n1, n2⟩ := List.nodup_cons.1 hn
    have hne : i ≠ r := fun e => by subst e; rw [hk i (by simp)] at h; cases h
    refine shut_cells rs _ (fun r' hr' => ?_) n2 i cs t fr ?_
    · rw [World.putObj_heap_other (show r' ≠ r from fun e => n1 (e ▸ hr'))]
      exact hk r' (by simp [hr'])
    · rw [World.putObj_heap_other hne]; exact h
theorem shut_below {w : World} : ∀ (rs : List Nat) (W : World), (∀ r ∈ rs, w.heap.size ≤ r ∧ W.heap[r]? = some (.deferred (some []))) → rs.Nodup → Below w.heap.size w W → Below w.heap.size w (shut rs W)
  | [], W, _, _, h => h
  | r :: rs, W, hk, hn, h => by
    obtain ⟨n1, n2⟩ := List.nodup_cons.1 hn
    refine shut_below rs _ (fun r' hr' => ?_) n2 (h.trans (belowK_b (w := w) (Nat.le_refl _) W r _ _ (hk r (by simp)).1 (hk r (by simp)).2 rfl rfl))
    rw [World.putObj_heap_other (show r' ≠ r from fun e => n1 (e ▸ hr'))]
    exact hk r' (by simp [hr'])
theorem irow_cells {W W' : World} {B : Nat} {v : Value} {zs : List Int} (h : IRow W B v zs) (hk : ∀ (i : Nat) (cs : Array Value) (t : TypeId) (fr : Nat × Nat), W.heap[i]? = some (Obj.cells cs t fr) → W'.heap[i]? = some (Obj.cells cs t fr)) : IRow W' B v zs := by
  refine ⟨h.1, ?_⟩
  rcases h.2 with hn | ⟨g, cap, cur, hv, hg1, hg2, hg3⟩
  · exact .inl hn
  · exact .inr ⟨g, cap, cur, hv, hg1, hk _ _ _ _ hg2, hg3⟩
theorem run_index_in9 {P : Program} {w : World} (t e : TypeId) (n : Nat) (cs : Array Value) (k q : IntKind) (i : Int) (v : Value) (inf : TypeInfo) (h : P.underlying t = some (.array n e)) (hu : P.underlying e = some (.int q)) (hi : P.info? e = some inf) (hc : P.cellsOf e = 1) (h0 : 0 ≤ i) (h1 : i < (n : Int)) (hv : cs[i.toNat]? = some v) :
    (Instr.index t (.agg cs) (.int k i)).run P w = .ok v w := by
  simp [Instr.index, run_underlying h, asIntOf, h0, h1, part, isAgg, run_underlying hu, run_sizeOf w hi, hc, hv, go_sem]
def rowS (f : Nat → Nat) : Array Value := #[.int .u64 (f 0 : Int), .int .u64 (f 1 : Int), .int .u64 (f 2 : Int), .int .u64 (f 3 : Int), .int .u64 (f 4 : Int), .int .u64 (f 5 : Int), .int .u64 (f 6 : Int), .int .u64 (f 7 : Int), .int .u64 (f 8 : Int), .int .u64 (f 9 : Int)]
theorem rowS_at (f : Nat → Nat) : ∀ c, c < 10 → (rowS f)[c]? = some (.int .u64 (f c : Int)) := fun c hc => by
  obtain rfl | rfl | rfl | rfl | rfl | rfl | rfl | rfl | rfl | rfl : c = 0 ∨ c = 1 ∨ c = 2 ∨ c = 3 ∨ c = 4 ∨ c = 5 ∨ c = 6 ∨ c = 7 ∨ c = 8 ∨ c = 9 := by omega
  all_goals rfl
theorem cells_of_cell {W : World} {b o : Nat} {v : Value} (h : W.cell? ⟨b, o, none⟩ = some v) : ∃ cs t fr, W.heap[b]? = some (Obj.cells cs t fr) := by
  simp only [World.cell?] at h
  split at h
  · rename_i cs t fr hb; exact ⟨cs, t, fr, hb⟩
  · cases h
theorem heap_kept {A C : World} {row : Option Nat} {B : Nat} {cs : Array Value} {t : TypeId} {fr : Nat × Nat} (h : A.heap[B]? = some (Obj.cells cs t fr)) (hg : A.grownBy C row) (hr : ∀ r, row = some r → ∃ o : Obj, A.heap[r]? = some o ∧ o.isCells = false) : C.heap[B]? = some (Obj.cells cs t fr) := by
  refine (hg.block B (Array.getElem?_eq_some_iff.1 h).1 (fun e => ?_)).trans h
  obtain ⟨o, h1, h2⟩ := hr B e.symm
  rw [h] at h1; cases h1; simp [Obj.isCells] at h2
theorem irow_abide {A C : World} {row : Option Nat} {B : Nat} {v : Value} {zs : List Int} (h : IRow A B v zs) (hg : A.grownBy C row) (hr : ∀ r, row = some r → ∃ o : Obj, A.heap[r]? = some o ∧ o.isCells = false) : IRow C B v zs := by
  refine ⟨h.1, ?_⟩
  rcases h.2 with hn | ⟨g, cap, cur, hv, hg1, hg2, hg3⟩
  · exact .inl hn
  · exact .inr ⟨g, cap, cur, hv, hg1, heap_kept hg2 hg hr, hg3⟩
theorem marks_abide {A C : World} {row : Option Nat} {B : Nat} {rs : List Nat} (h : ∀ r ∈ rs, r < B ∧ A.heap[r]? = some (.deferred (some []))) (hg : A.grownBy C row) (hr : ∀ r, row = some r → B ≤ r) : ∀ r ∈ rs, r < B ∧ C.heap[r]? = some (.deferred (some [])) := fun r hm => by
  obtain ⟨h1, h2⟩ := h r hm
  exact ⟨h1, (hg.block r (Array.getElem?_eq_some_iff.1 h2).1 (fun e => by have := hr r e.symm; omega)).trans h2⟩
/-- The colour that is found last for a land. -/
def colR (f : Nat → Nat) : Nat → Nat → Int
  | 0, _ => 0
  | k + 1, x => if (f k).testBit x = true then (k : Int) else colR f k x
set_option maxRecDepth 100000 in
set_option maxHeartbeats 4000000 in
theorem colours_any (u N : Nat) (f : Nat → Nat) (w : World) (hf : ∀ c, f c < 1024) (hb : ∀ c x, (f c).testBit x = true → x < N) (hN : N ≤ 10) (hN1 : 1 ≤ N) (hT : TBl w) :
    Calls Tryd.prog 34 #[encP u f, .int .i64 (N : Int)] w fun e w' => ∃ v, e = .returned v ∧ IRow w' w.heap.size v (rowF N (colR f 10)) ∧ Below w.heap.size w w' := by
  obtain ⟨i0, hi, hz0, hz1, hz2⟩ := info_parts info_int
  have hb0 : (w.alloc (.cells (rowP u f) 61)).heap[w.heap.size]? = some (.cells (rowP u f) 61 (0, 0)) := heap_alloc_new w _
  have sz1 : (w.alloc (.cells (rowP u f) 61)).heap.size = w.heap.size + 1 := by simp
  obtain ⟨w2, hmk1, hown1, hg1⟩ := run_make_full (P := Tryd.prog) (w := w.alloc (.cells (rowP u f) 61)) (w.heap.size + 1) 24 2 i0 (.int .i64 0) 1 Tryd.underlying24 hi hz0 hz1 .i64 .i64 N (by rw [hz2]; omega) (by unfold maxLen; omega) (by rw [sz1]; omega)
  rw [sz1] at hmk1 hown1
  have b2 := Lib.hid (((Below.refl w.heap.size w).alloc (Nat.le_refl _) (.cells (rowP u f) 61)).grown hg1 (by rw [sz1]; omega) (by simp))
  have sz2 : w.heap.size < w2.heap.size := by have := hg1.size; omega
  have hb2 : w2.heap[w.heap.size]? = some (.cells (rowP u f) 61 (0, 0)) := (hg1.block _ (by omega) (by simp)).trans hb0
  have bB := Lib.hid (b2.out.alloc b2.out.size (.cells #[.slice (some ⟨w.heap.size + 1, 0, none⟩) N N] 24))
  have bX := Lib.hid (Boxed.new w2 24 (.slice (some ⟨w.heap.size + 1, 0, none⟩) N N))
  have hbB : (w2.alloc (.cells #[.slice (some ⟨w.heap.size + 1, 0, none⟩) N N] 24)).heap[w.heap.size]? = some (.cells (rowP u f) 61 (0, 0)) := (Below.heap_alloc _ _ _ sz2).trans hb2
  have R1 := Lib.hid (show RowG (w2.alloc (.cells #[.slice (some ⟨w.heap.size + 1, 0, none⟩) N N] 24)) w.heap.size (w.heap.size + 1) N (fun _ => 0) from irow_up (irow_keep (rowG_start hown1) ((Below.refl _ _).alloc (Nat.le_refl _) _)) (by omega))
  have k1 := cell_heap9 hbB 1
  have j1 := cell_heap9 hb2 1
  have k2 := cell_heap9 hbB 2
  have j2 := cell_heap9 hb2 2
  have k3 := cell_heap9 hbB 3
  have j3 := cell_heap9 hb2 3
  have k4 := cell_heap9 hbB 4
  have j4 := cell_heap9 hb2 4
  have k5 := cell_heap9 hbB 5
  have j5 := cell_heap9 hb2 5
  have k6 := cell_heap9 hbB 6
  have j6 := cell_heap9 hb2 6
  have k7 := cell_heap9 hbB 7
  have j7 := cell_heap9 hb2 7
  have k8 := cell_heap9 hbB 8
  have j8 := cell_heap9 hb2 8
  have k9 := cell_heap9 hbB 9
  have j9 := cell_heap9 hb2 9
  have k10 := cell_heap9 hbB 10
  have j10 := cell_heap9 hb2 10
  have lt2 := (World.ownsRow.lt hown1 (w.heap.size + 1) rfl).2
  obtain ⟨iS, hiS, _, _, _⟩ := info_parts info_set
  clear hown1 hg1 hbB hb0 hb2
  unfold encP
  unfold rowP at *
  refine (callsIn_wide (n := 5)).1 ?_
  refine callsIn_of_wp_marks Tryd.func34 rfl trivial ?_ rfl
  simp only [Tryd.ntmps34, List.size_toArray, List.length_cons, List.length_nil, Nat.reduceAdd, Nat.reduceSub, Array.replicate_succ, Array.replicate_zero, List.push_toArray, List.append_toArray, List.nil_append, List.cons_append]
  have HT := Lib.hid hT
  have gT := TBl_lt hT
  gi_wp2_with fail
  generalize Value.agg #[.int .i64 (u : Int), .int .u64 (f 0 : Int), .int .u64 (f 1 : Int), .int .u64 (f 2 : Int), .int .u64 (f 3 : Int), .int .u64 (f 4 : Int), .int .u64 (f 5 : Int), .int .u64 (f 6 : Int), .int .u64 (f 7 : Int), .int .u64 (f 8 : Int), .int .u64 (f 9 : Int)] = V0
  have IX := Lib.hid (fun (k : Nat) (hk : k < 10) (W : World) => run_index_in9 (P := Tryd.prog) (w := W) 59 51 10 (rowS f) .i64 .u64 (k : Int) (.int .u64 (f k : Int)) iS Tryd.underlying59 Tryd.underlying51 hiS (by kernel_rfl) (by omega) (by omega) (by rw [Int.toNat_natCast]; exact rowS_at f k hk))
  change Code.wpIn _ _ _ _ _ _ _
  rw [show (#[.int .u64 (f 0 : Int), .int .u64 (f 1 : Int), .int .u64 (f 2 : Int), .int .u64 (f 3 : Int), .int .u64 (f 4 : Int), .int .u64 (f 5 : Int), .int .u64 (f 6 : Int), .int .u64 (f 7 : Int), .int .u64 (f 8 : Int), .int .u64 (f 9 : Int)] : Array Value) = rowS f from rfl]
  generalize rowS f = C12 at *
  have gB1 : w.heap.size ≤ w2.heap.size := b2.out.size
  generalize w2.alloc (.cells #[.slice (some ⟨w.heap.size + 1, 0, none⟩) N N] 24) = wB at *
  clear b2 hmk1 hT
  have gB2 : w.heap.size + 1 < w2.heap.size := lt2
  clear lt2 hiS
  generalize w2.heap.size = gB at *
  refine wpIn_loop (fun a' w' => ∃ (k : Nat) (ds : List Deferred) (u6 u7 u8 u14 u15 u16 u17 u18 u19 u20 u21 u22 u23 u24 : Value), k ≤ 10 ∧ Marks9 w.heap.size ds w' ∧ Boxed w' gB 24 (.slice (some ⟨w.heap.size + 1, 0, none⟩) N N) ∧ RowG w' w.heap.size (w.heap.size + 1) N (colR f k) ∧ Below w.heap.size w w' ∧ a' = { tmps := #[V0, .int .i64 (N : Int), .pointer (some ⟨w.heap.size, 0, none⟩), undef, .slice none 0 0, .pointer (some ⟨gB, 0, none⟩), u6, u7, u8, .int .i64 (N : Int), .slice (some ⟨w.heap.size + 1, 0, none⟩) N N, .pointer (some ⟨w.heap.size, 1, none⟩), .agg C12, .int .i64 (k : Int), u14, u15, u16, u17, u18, u19, u20, u21, u22, u23, u24, undef], defers := ds }) (fun a' _ => 10 - (intOf (a'.tmps.getD 13 undef)).toNat) ?start ?round
  case start => exact ⟨0, [], _, _, _, _, _, _, _, _, _, _, _, _, _, _, Nat.zero_le _, marks_nil _ _, bX.out, R1.out, bB.out, rfl⟩
  case round =>
    rintro a' wr ⟨k, ds, u6, u7, u8, u14, u15, u16, u17, u18, u19, u20, u21, u22, u23, u24, hk, hm, hbx, hr, hbw, rfl⟩
    obtain ⟨rs, rfl, hnd, hms⟩ := hm
    have HBX := Lib.hid hbx
    have HR := Lib.hid hr
    have HBW := Lib.hid hbw
    have HMS := Lib.hid hms
    clear hms hr
    by_cases hlt : k < 10
    · have hk0 : 0 ≤ (k : Int) := by omega
      have hk1 : (k : Int) < 10 := by omega
      have IK := fun W => IX.out k hlt W
      clear hbx
      have hwl := HBW.out.size
      gi_wp2_with fail
      have bC := Boxed.new wr 3 (.int .i64 (k : Int))
      have HBX3 := Lib.hid (HBX.out.alloc (.cells #[.int .i64 (k : Int)] 3))
      have HR3 := Lib.hid (show RowG (wr.alloc (.cells #[.int .i64 (k : Int)] 3)) w.heap.size (w.heap.size + 1) N (colR f k) from rowG_keep HR.out ((Below.refl _ _).alloc (Nat.le_refl _) _))
      have HBW3 := Lib.hid (HBW.out.alloc HBW.out.size (.cells #[.int .i64 (k : Int)] 3))
      have HM3 : ∀ r ∈ rs, w.heap.size ≤ r ∧ (wr.alloc (.cells #[.int .i64 (k : Int)] 3)).heap[r]? = some (.deferred (some [])) := fun r hr => ⟨(HMS.out r hr).1, (Below.heap_alloc _ _ _ (Array.getElem?_eq_some_iff.1 (HMS.out r hr).2).1).trans (HMS.out r hr).2⟩
      have gC3 : gB < wr.heap.size := HBX.out.lt
      generalize wr.alloc (.cells #[.int .i64 (k : Int)] 3) = w3 at *
      generalize wr.heap.size = gC at *
      refine ⟨trivial, (callsIn_wide.2 (members_any (f k) w3)).mono ?_⟩
      rintro e w4 ⟨rfl, hw4⟩
      have s4 : w4.cell? ⟨w3.heap.size, 0, none⟩ = some (.int .u64 (f k : Int)) := by rw [hw4]; simp
      have x4 := Lib.hid (show Boxed w4 gB 24 (.slice (some ⟨w.heap.size + 1, 0, none⟩) N N) by rw [hw4]; exact HBX3.out.alloc _)
      have c4 := Lib.hid (show Boxed w4 gC 3 (.int .i64 (k : Int)) by rw [hw4]; exact bC.alloc _)
      have r4 := Lib.hid (show RowG w4 w.heap.size (w.heap.size + 1) N (colR f k) by rw [hw4]; exact rowG_keep HR3.out ((Below.refl _ _).alloc (Nat.le_refl _) _))
      have b4 := Lib.hid (show Below w.heap.size w w4 by rw [hw4]; exact HBW3.out.alloc HBW3.out.size _)
      have m4 : ∀ r ∈ rs, r < w4.heap.size ∧ w4.heap[r]? = some (.deferred (some [])) := fun r hr => by
        have h1 := (HM3 r hr).2
        have h2 := (Array.getElem?_eq_some_iff.1 h1).1
        rw [hw4]
        exact ⟨by simp; omega, (Below.heap_alloc _ _ _ h2).trans h1⟩
      have rB : ∀ r ∈ rs, w.heap.size ≤ r := fun r hr => (HM3 r hr).1
      have M4 := Lib.hid m4
      have RB := Lib.hid rB
      clear hw4 m4 rB HM3 HMS bC HBX3 HR3 HBW3 HBX HR hbw HBW
      gi_wp2_with fail
      refine' wpIn_rangeFunc_ownF (F := Fence.wide) (n := 5) rfl (by omega) (gf := 47) (lb := #[.pointer (some ⟨w3.heap.size, 0, none⟩)]) rfl trivial (enters_of Tryd.func47 (by kernel_rfl) rfl)
        (mem_stops (5 - 1) w3.heap.size w.heap.size (f k) (hf k) gT w4 b4.out.size s4 (TBl_keep HT.out b4.out)) belowK_t (belowK_b b4.out.size) (Below.refl _ _) (fun _ => rfl)
        (fun pre W => (((Boxed W gB 24 (.slice (some ⟨w.heap.size + 1, 0, none⟩) N N) ∧ Boxed W gC 3 (.int .i64 (k : Int))) ∧ RowG W w.heap.size (w.heap.size + 1) N (fun x => if x ∈ pre.map Subtype.val then (k : Int) else colR f k x)) ∧ (∀ r ∈ rs, r < w4.heap.size ∧ W.heap[r]? = some (.deferred (some [])))) ∧ Below w.heap.size w W)
        (fun _ _ _ => False)
        (OwnFrom.and (fun s A B row hs hg hr => ⟨⟨⟨boxed_own gB 24 (fun _ : List { x : Nat // x ∈ bitsL (f k) } => Value.slice (some ⟨w.heap.size + 1, 0, none⟩) N N) s A B row hs.1.1.1 hg (fun r e => (hr r e).2), boxed_own gC 3 (fun _ : List { x : Nat // x ∈ bitsL (f k) } => Value.int .i64 (k : Int)) s A B row hs.1.1.2 hg (fun r e => (hr r e).2)⟩, irow_abide hs.1.2 hg (fun r e => (hr r e).2)⟩, marks_abide hs.2 hg (fun r e => (hr r e).1)⟩) (ownFrom_below (Nat.le_refl _) b4.out.size))
        (fun _ _ _ _ _ hs _ _ => hs)
        ⟨⟨⟨⟨x4.out, c4.out⟩, rowG_congr r4.out fun j _ => by simp⟩, M4.out⟩, b4.out⟩
        _ ?assign ?body ?done ?stop
      case assign =>
        intro l x W K hK
        gi_wp2
        exact hK
      case body =>
        rintro l pre x W ⟨⟨⟨⟨hx5, hc5⟩, hr5⟩, hm5⟩, hb5⟩ hlp
        have xN : x.1 < N := hb k x.1 (bitsL_mem.1 x.2).2
        have cx := hx5.cell
        have cc := hc5.cell
        have fr := (rowG_cell hr5 xN).2
        obtain ⟨old, cr⟩ : ∃ old, W.cell? ⟨w.heap.size + 1, x.1, none⟩ = some old := ⟨_, (rowG_cell hr5 xN).1⟩
        have x0 : 0 ≤ (x.1 : Int) := by omega
        have x1 : (x.1 : Int) < (N : Int) := by omega
        have HR5 := Lib.hid (rowG_congr (f' := fun j => if j ∈ (pre ++ [x]).map Subtype.val then (k : Int) else colR f k j) (rowG_store hr5 xN (k : Int)) (fun j _ => by
          by_cases e : j = x.1
          · simp [e]
          · simp [e]))
        have HX5 := Lib.hid hx5
        have HC5 := Lib.hid hc5
        have HM5 := Lib.hid hm5
        have HB5 := Lib.hid hb5
        clear hr5 hm5 hb5 hx5 hc5
        gi_wp2_with fail
        have hne1 : gB ≠ w.heap.size + 1 := by omega
        have hne2 : gC ≠ w.heap.size + 1 := by omega
        exact ⟨KeepsOthers.setCell _ _ _, (Below.refl w.heap.size W).setCell (p := ⟨w.heap.size + 1, x.1, none⟩) (by simp) _, ⟨⟨⟨(heap_setCell_other W ⟨w.heap.size + 1, x.1, none⟩ gB _ hne1).trans HX5.out, (heap_setCell_other W ⟨w.heap.size + 1, x.1, none⟩ gC _ hne2).trans HC5.out⟩, HR5.out⟩, fun r hr => ⟨(HM5.out r hr).1, by
          have h1 := (HM5.out r hr).2
          refine (heap_setCell_other W ⟨w.heap.size + 1, x.1, none⟩ r _ (fun e => ?_)).trans h1
          subst e
          obtain ⟨_, _, _, e2⟩ := cells_of_cell cr
          rw [h1] at e2; cases e2⟩⟩, HB5.out.setCell (p := ⟨w.heap.size + 1, x.1, none⟩) (by simp) _⟩
      case done =>
        rintro D ys W hD hys ⟨⟨⟨⟨hx5, hc5⟩, hr5⟩, hm5⟩, hb5⟩ hK
        have hys' : ys.map Subtype.val = bitsL (f k) := hys
        have HR6 := Lib.hid (rowG_congr (f' := colR f (k + 1)) hr5 (fun j hj => by
          rw [hys', colR]
          have hj10 : j < 10 := by omega
          simp only [bitsL_mem, hj10, true_and]))
        have HX5 := Lib.hid hx5
        have HB5 := Lib.hid hb5
        have HMK := Lib.hid (show Marks9 w.heap.size ({ target := .collected D, args := #[] } :: rs.map mkD) W from ⟨D :: rs, rfl, List.nodup_cons.2 ⟨fun h => by have := (hm5 D h).1; omega, hnd⟩, fun r hr => by
          rcases List.mem_cons.1 hr with rfl | hr
          · exact ⟨by have := b4.out.size; omega, hK⟩
          · exact ⟨RB.out r hr, (hm5 r hr).2⟩⟩)
        clear hr5 hm5 hb5 hx5 hc5 hys hys' hK
        gi_wp2_with fail
        refine ⟨⟨k + 1, _, _, _, _, _, _, _, _, _, _, _, _, _, _, _, by omega, HMK.out, HX5.out, HR6.out, HB5.out, rfl⟩, ?_⟩
        simp [intOf]; omega
      case stop =>
        rintro D c pre W _ _ hh _
        exact hh.elim
    · obtain rfl : k = 10 := by omega
      have cB := hbx.cell
      gi_wp2_with fail
      refine leaves_marks rs wr hnd (fun r hr => (HMS.out r hr).2) ?_
      refine ⟨.slice (some ⟨w.heap.size + 1, 0, none⟩) N N, by simp [results, Tryd.results34, go_sem], _, rfl, irow_cells HR.out (shut_cells rs wr (fun r hr => (HMS.out r hr).2) hnd), shut_below rs wr HMS.out hnd HBW.out⟩
end Go.Proofs.YtemhmejjmhbfdabDoor.sines
