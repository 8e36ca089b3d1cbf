/- A builder that the call has made: contracts of its methods in this translation, in which the way that panics is cut off. -/
import Derived.Test.YtbnihalbepffoaaDoorHours
import Derived.Lib.Builder
import Derived.Lib.AppendStr
import Derived.Lib.UnsafeStr
import Derived.Laws.Externs
namespace Go.Proofs.YtbnihalbepffoaaDoor.bld
open Go.ChangeShapes Go.WideShapes Go.ChangeAt Go.RowKit Go.Proofs.YtbnihalbepffoaaDoor.dec

theorem bInfo : (Tryd.prog.info? 105).map (·.size) = some 2 := by kernel_rfl
theorem bLies : liesAt Tryd.prog Tryd.prog.depth 105 (2 / Tryd.prog.cellsOf 105) 0 105 1 = true := by kernel_rfl
/-- The builder in block b holds the bytes l; its own blocks lie from B on. -/
def Holding (w : World) (B b : Nat) (l : List UInt8) : Prop := Lib.IsBuilder 105 5 B b (Lib.byteCells l) w ∧ B ≤ w.heap.size
theorem holding_fresh {w : World} {B : Nat} (hB : B ≤ w.heap.size) : Holding (w.alloc (.cells #[.pointer none, .slice none 0 0] 105)) B w.heap.size [] :=
  ⟨.inl ⟨hB, _, heap_alloc_new w _, World.ownsRow_nil _ _ _ _, by simp [Value.ownBlock]⟩, by simp; omega⟩
set_option maxRecDepth 100000 in
set_option maxHeartbeats 1000000 in
theorem check_used (b : Nat) (w : World) (h0 : w.cell? ⟨b, 0, none⟩ = some (.pointer (some ⟨b, 0, none⟩))) :
    Calls Tryd.prog 120 #[.pointer (some ⟨b, 0, none⟩)] w fun e w' => e = .returned (.tuple #[]) ∧ w = w' := by
  obtain ⟨j, hj, _⟩ := Option.map_eq_some_iff.1 bInfo
  have hne := Lib.run_neq_ptr_same (P := Tryd.prog) w ⟨b, 0, none⟩ Tryd.underlying103 hj
  go_enter Tryd.func120, Tryd.ntmps120
  go_wp2
  go_end0
  exact ⟨rfl, rfl⟩
set_option maxRecDepth 100000 in
set_option maxHeartbeats 1000000 in
theorem check_fresh (b : Nat) (w : World) (h0 : w.cell? ⟨b, 0, none⟩ = some (.pointer none)) (hsh : w.shape? b = some (105, 2)) (hfz : w.frozen? ⟨b, 0, none⟩ = false) :
    Calls Tryd.prog 120 #[.pointer (some ⟨b, 0, none⟩)] w fun e w' => e = .returned (.tuple #[]) ∧ w.setCell ⟨b, 0, none⟩ (.pointer (some ⟨b, 0, none⟩)) = w' := by
  obtain ⟨j, hj, hjs⟩ := Option.map_eq_some_iff.1 bInfo
  have k1 := Lib.run_to_unsafe (P := Tryd.prog) w ⟨b, 0, none⟩ Tryd.underlying103 Tryd.underlying133 hj (by rw [hjs]; decide) hsh (Nat.zero_lt_succ 1)
  have k2 := Lib.run_from_unsafe (P := Tryd.prog) w ⟨b, 0, none⟩ Tryd.underlying133 Tryd.underlying103 hj hsh bLies
  have k3 : (callFunc 138 #[.pointer (some ⟨b, 0, none⟩)]).run Tryd.prog w = .ok (.value (.pointer (some ⟨b, 0, none⟩))) w := by
    rw [run_callFunc_extern Tryd.func138 (by kernel_rfl) (by kernel_rfl) (by kernel_rfl) (e := Extern.AbiNoEscape.same) (by kernel_rfl), Lib.run_noEscape]
    rfl
  go_enter Tryd.func120, Tryd.ntmps120
  go_wp2
  go_end0
  exact ⟨rfl, rfl⟩
theorem check_any (B b : Nat) (l : List UInt8) (w : World) (h : Holding w B b l) :
    Calls Tryd.prog 120 #[.pointer (some ⟨b, 0, none⟩)] w fun e w' => e = .returned (.tuple #[]) ∧ Lib.BuilderAt 105 5 B b (.pointer (some ⟨b, 0, none⟩)) (Lib.byteCells l) w' ∧ Below B w w' := by
  rcases h.1 with h1 | h1
  · refine (check_fresh b w h1.cell0 h1.shape h1.frozen0).mono ?_
    rintro e w' ⟨rfl, rfl⟩
    exact ⟨rfl, h1.used _, (Below.refl B w).setCell (p := ⟨b, 0, none⟩) h1.1 _⟩
  · refine (check_used b w h1.cell0).mono ?_
    rintro e w' ⟨rfl, rfl⟩
    exact ⟨rfl, h1, Below.refl B _⟩
theorem info_u8 : (Tryd.prog.info? 5).map (fun i => (i.zero, i.size, i.bytes)) = some (some (.int .u8 0), 1, 1) := by kernel_rfl
theorem bc_len (l : List UInt8) : (Lib.byteCells l).length = l.length := by simp [Lib.byteCells]
theorem bc_str (l : List UInt8) (s : ByteArray) : Lib.byteCells l ++ Lib.strCells s = Lib.byteCells (l ++ s.data.toList) := by simp [Lib.byteCells, Lib.strCells]
theorem owns_shape {w : World} {B : Nat} {e : TypeId} {v : Value} {n : Nat} {xs : List Value} (h : w.ownsRow B e 1 v n xs) : ∃ a k c, v = .slice a k c := by
  rcases h.2 with ⟨hv, _⟩ | ⟨g, cap, cur, hv, _⟩
  · exact ⟨_, _, _, hv⟩
  · exact ⟨_, _, _, hv⟩
theorem blk {w w2 : World} {b : Nat} {cs : Array Value} {t : TypeId} {fr : Nat × Nat} {v : Value} (h : w.heap[b]? = some (.cells cs t fr)) (hne : v.ownBlock ≠ some b) (hg : w.grownBy w2 v.ownBlock) : w2.heap[b]? = some (.cells cs t fr) := by
  have hlt : b < w.heap.size := (Array.getElem?_eq_some_iff.1 h).1
  rw [hg.block b hlt (fun e => hne e.symm)]
  exact h
set_option maxRecDepth 100000 in
set_option maxHeartbeats 1000000 in
theorem WriteString_any (B b : Nat) (l : List UInt8) (s : ByteArray) (w : World) (h : Holding w B b l) (hl : l.length ≤ 100000) (hs : s.size ≤ 100000) :
    Calls Tryd.prog 91 #[.pointer (some ⟨b, 0, none⟩), .string s] w fun e w' => e = .returned (.tuple #[.int .i64 s.size, .nilIface]) ∧ Holding w' B b (l ++ s.data.toList) ∧ Below B w w' := by
  obtain ⟨i0, hi, hz0, hz1, hz2⟩ := info_parts info_u8
  have H := Lib.hid h
  clear h
  go_enter Tryd.func91, Tryd.ntmps91
  go_wp2_with fail
  refine (check_any B b l _ H.out).mono ?_
  rintro e w1 ⟨rfl, ⟨hB, v, hbk, hown, hne⟩, hb1⟩
  have c1 : w1.cell? ⟨b, 1, none⟩ = some v := by rw [Lib.cell_of_heap hbk]; rfl
  have HK := Lib.hid hbk
  have HO := Lib.hid hown
  have HN := Lib.hid hne
  have H1 := Lib.hid hb1
  have K3 := Lib.hid (show (Lib.byteCells l).length + s.size ≤ maxLen by rw [bc_len]; unfold maxLen; omega)
  have K4 := Lib.hid (show (Lib.byteCells l).length + s.size ≤ 140737488355328 by rw [bc_len]; omega)
  have K5 := Lib.hid (Nat.le_trans H.out.2 hb1.size)
  clear hbk hown hne hb1
  go_wp2_with (at_builtin; refine Lib.wpList_append_own_string _ rfl _ _ 22 9 rfl B 5 i0 Tryd.underlying22 Tryd.underlying9 hi hz0 hz1 hz2 v _ _ rfl HO.out s rfl K3.out K4.out K5.out ?_; intro v2 w2 hown2 hg2 _; obtain ⟨ao, n2, cap2, rfl⟩ := owns_shape hown2; have hb2 := blk HK.out HN.out hg2; have d1 : w2.cell? ⟨b, 1, none⟩ = some v := (by rw [Lib.cell_of_heap hb2]; rfl); have f1 := Lib.frozen_of_heap hb2 1; have HB2 := Lib.hid hb2; have HO2 := Lib.hid hown2; have HG2 := Lib.hid hg2; clear hb2 hown2 hg2)
  go_ret2
  refine ⟨rfl, ⟨.inr ?_, ?_⟩, ?_⟩
  · exact Lib.BuilderAt.put hB HB2.out (bs' := Lib.byteCells (l ++ s.data.toList)) (by rw [← bc_str]; simpa [bc_len, Lib.strCells] using HO2.out) (by decide)
  · have h1 := H1.out.size
    have h2 := HG2.out.size
    have h3 := H.out.2
    simp [World.setCell]; omega
  · exact (H1.out.grown HG2.out K5.out (fun k hk => (HO.out.lt k hk).1)).setCell (p := ⟨b, 1, none⟩) hB _
set_option maxRecDepth 100000 in
set_option maxHeartbeats 1000000 in
theorem WriteByte_any (B b : Nat) (l : List UInt8) (c : UInt8) (n : Int) (hn : n = (c.toNat : Int)) (w : World) (h : Holding w B b l) (hl : l.length ≤ 100000) :
    Calls Tryd.prog 92 #[.pointer (some ⟨b, 0, none⟩), .int .u8 n] w fun e w' => e = .returned .nilIface ∧ Holding w' B b (l ++ [c]) ∧ Below B w w' := by
  obtain ⟨i0, hi, hz0, hz1, hz2⟩ := info_parts info_u8
  have H := Lib.hid h
  have HC := Lib.hid hn
  clear h hn
  go_enter Tryd.func92, Tryd.ntmps92
  go_wp2_with fail
  refine (check_any B b l _ H.out).mono ?_
  rintro e w1 ⟨rfl, ⟨hB, v, hbk, hown, hne⟩, hb1⟩
  have c1 : w1.cell? ⟨b, 1, none⟩ = some v := by rw [Lib.cell_of_heap hbk]; rfl
  have hk1 : (w1.alloc (.cells #[.int .u8 n] 5)).heap[b]? = _ := (Below.heap_alloc w1 _ b ((Array.getElem?_eq_some_iff.1 hbk).1)).trans hbk
  have HK := Lib.hid hk1
  have HO := Lib.hid (hown.alloc (.cells #[.int .u8 n] 5))
  have HN := Lib.hid hne
  have H1 := Lib.hid hb1
  have K2 := Lib.hid (show ∀ j u, ([.int .u8 n] : List Value)[j]? = some u → (w1.alloc (.cells #[.int .u8 n] 5)).cell? ((⟨w1.heap.size, 0, none⟩ : Addr).add j) = some u from fun j u hj => by
    match j, hj with
    | 0, hj => simp at hj; subst hj; simp [Addr.add])
  have K22 := Lib.hid (show ∀ u ∈ ([.int .u8 n] : List Value), u.oneCell' = true from fun u hu => by simp at hu; subst hu; rfl)
  have K3 := Lib.hid (show (Lib.byteCells l).length + 1 ≤ maxLen by rw [bc_len]; unfold maxLen; omega)
  have K4 := Lib.hid (show ((Lib.byteCells l).length + 1) * 1 ≤ 140737488355328 by rw [bc_len]; omega)
  have K5 := Lib.hid (show B ≤ (w1.alloc (.cells #[.int .u8 n] 5)).heap.size from by have := H.out.2; have := hb1.size; simp; omega)
  clear hbk hk1 hown hne hb1
  go_wp2_with (at_builtin; refine wpList_append_own _ rfl _ _ 22 rfl B 5 i0 (.int .u8 0) 1 1 Tryd.underlying22 hi hz0 hz1 hz2 rfl (by decide) v _ _ rfl HO.out ⟨w1.heap.size, 0, none⟩ 1 1 [.int .u8 n] rfl rfl K2.out K22.out K3.out K4.out K5.out ?_; intro v2 w2 hown2 hg2 _; obtain ⟨ao, n2, cap2, rfl⟩ := owns_shape hown2; have hb2 := blk HK.out HN.out hg2; have d1 : w2.cell? ⟨b, 1, none⟩ = some v := (by rw [Lib.cell_of_heap hb2]; rfl); have f1 := Lib.frozen_of_heap hb2 1; have HB2 := Lib.hid hb2; have HO2 := Lib.hid hown2; have HG2 := Lib.hid hg2; clear hb2 hown2 hg2)
  go_ret
  refine ⟨rfl, ⟨.inr ?_, ?_⟩, ?_⟩
  · exact Lib.BuilderAt.put hB HB2.out (bs' := Lib.byteCells (l ++ [c])) (by have e : Lib.byteCells l ++ [Value.int .u8 n] = Lib.byteCells (l ++ [c]) := (by rw [HC.out]; simp [Lib.byteCells]); rw [← e]; simpa using HO2.out) (by decide)
  · have h1 := H1.out.size
    have h2 := HG2.out.size
    have h3 := H.out.2
    simp at h2
    simp [World.setCell]; omega
  · exact ((H1.out.alloc (by have := H.out.2; have := H1.out.size; omega) _).grown HG2.out K5.out (fun k hk => (HO.out.lt k hk).1)).setCell (p := ⟨b, 1, none⟩) hB _

end Go.Proofs.YtbnihalbepffoaaDoor.bld
