/- A painting of colours: contract of the program. -/
import Derived.Test.YtemhmejjmhbfdabDoorColsP20
import Derived.Test.YtemhmejjmhbfdabDoorColsS2
import Derived.Laws.CopyOwn
namespace Go.Proofs.YtemhmejjmhbfdabDoor.sines
open Go.ChangeShapes Go.WideShapes Go.ChangeAt Go.RowKit Go.Proofs.YtemhmejjmhbfdabDoor.spots Go.Proofs.YtemhmejjmhbfdabDoor.irows Go.Proofs.YtemhmejjmhbfdabDoor.pairsBorder
set_option linter.unusedSimpArgs false
set_option linter.unusedVariables false
theorem rowP_size' (u : Nat) (f : Nat → Nat) : (rowP u f).size = 11 := rfl
theorem rowP_one' (u : Nat) (f : Nat → Nat) : (rowP u f).all (·.oneCell') = true := by simp [rowP, Value.oneCell']
theorem setsL_nil (c : Nat) : setsL [] c = 0 := rfl
theorem rowP_nil : (#[.int .i64 0, .int .u64 0, .int .u64 0, .int .u64 0, .int .u64 0, .int .u64 0, .int .u64 0, .int .u64 0, .int .u64 0, .int .u64 0, .int .u64 0] : Array Value) = rowP 0 (setsL []) := by
  unfold rowP; simp only [setsL_nil]; rfl
set_option maxRecDepth 100000 in
set_option maxHeartbeats 1000000 in
theorem paintingOf_any (v : Value) (cs : List Int) (w : World) (hv : IAt w w.heap.size v cs) (hl : cs.length ≤ 10) (hc : ∀ c ∈ cs, 0 ≤ c ∧ c ≤ 9) :
    Calls Tryd.prog 41 #[v] w fun e w' => (∃ q : Nat, e = .returned (encP q (setsL cs))) ∧ Below w.heap.size w w' := by
  obtain ⟨a, c, rfl, hcc⟩ := hv
  have HC := Lib.hid hcc
  have HD := Lib.hid hc
  have hl2 : (cs.length : Int) ≤ 10 := by omega
  clear hcc hc
  go_enter Tryd.func41, Tryd.ntmps41
  go_wp2
  rw [rowP_nil]
  have HB1 := Lib.hid (((Below.refl w.heap.size w).alloc (Nat.le_refl _) (.cells (rowP 0 (setsL [])) 61)).alloc (by simp) (.cells (rowP 0 (setsL [])) 61))
  have HZ1 := Lib.hid (show ((w.alloc (.cells (rowP 0 (setsL [])) 61)).alloc (.cells (rowP 0 (setsL [])) 61)).heap[w.heap.size]? = some (.cells (rowP 0 (setsL [])) 61 (0, 0)) from (Below.heap_alloc _ _ _ (by simp)).trans (heap_alloc_new w _))
  have HP1 := Lib.hid (show ((w.alloc (.cells (rowP 0 (setsL [])) 61)).alloc (.cells (rowP 0 (setsL [])) 61)).heap[w.heap.size + 1]? = some (.cells (rowP 0 (setsL (cs.take 0))) 61 (0, 0)) by
    rw [List.take_zero]
    have := heap_alloc_new (w.alloc (.cells (rowP 0 (setsL [])) 61)) (.cells (rowP 0 (setsL [])) 61)
    simpa using this)
  generalize (w.alloc (.cells (rowP 0 (setsL [])) 61)).alloc (.cells (rowP 0 (setsL [])) 61) = w1 at *
  go_loopw [8] (fun i wr => ∃ k q : Nat, k ≤ cs.length ∧ i = .int .i64 (k : Int) ∧ q ≤ 10 ∧ wr.heap[w.heap.size + 1]? = some (.cells (rowP q (setsL (cs.take k))) 61 (0, 0)) ∧ wr.heap[w.heap.size]? = some (.cells (rowP 0 (setsL [])) 61 (0, 0)) ∧ Below w.heap.size w wr) (fun i _ => cs.length - (intOf i).toNat)
  case atStart => exact ⟨0, 0, Nat.zero_le _, rfl, by omega, HP1.out, HZ1.out, HB1.out⟩
  case round =>
    obtain ⟨k, q, hk, rfl, hq, hp, hz, hb⟩ := hrel
    have HP := Lib.hid hp
    have HZ := Lib.hid hz
    have HB := Lib.hid hb
    have gP : w.heap.size + 1 < wr.heap.size := (Array.getElem?_eq_some_iff.1 hp).1
    clear hp hz
    by_cases hlt : k < cs.length
    · obtain ⟨b, off, rfl, hbs, c1⟩ := HC.out k hlt
      have u1 := (hb.cell (p := ⟨b, off + k, none⟩) hbs).trans c1
      have hx := HD.out (zAt cs k) (by rw [zAt_eq hlt]; exact List.getElem_mem _)
      obtain ⟨X, hX⟩ : ∃ X : Nat, zAt cs k = (X : Int) := ⟨(zAt cs k).toNat, by omega⟩
      have SN := Lib.hid (show setsL (cs.take (k + 1)) = updS (setsL (cs.take k)) X k by
        have e : (cs.take k).length = k := by rw [List.length_take]; omega
        have h := setsL_snoc (cs.take k) X
        rw [e] at h
        rw [← h, ← List.take_append_getElem hlt, ← zAt_eq hlt, hX])
      have SL := Lib.hid (fun j => setsL_lt (cs := cs.take k) (by rw [List.length_take]; omega) j)
      rw [hX] at u1 hx
      have hk0 : 0 ≤ (k : Int) := by omega
      have hk1 : (k : Int) < (cs.length : Int) := by omega
      have PW := Lib.hid (fun W => paintWith_any q (setsL (cs.take k)) k X W hq SL.out (by omega) (by omega))
      clear c1 hb hX
      generalize setsL (cs.take k) = S at *
      unfold encP at PW
      go_wp2_with (refine wpList_load_row rfl 61 _ rfl (w.heap.size + 1) rfl 61 (rowP q S) (0, 0) _ HP.out Tryd.underlying61 rfl (by rw [rowP_size']; kernel_rfl) ?_)
      refine (PW.out wr).mono ?_
      rintro e w6 ⟨rfl, hb⟩
      have HB6 := Lib.hid (HB.out.trans (hb.mono HB.out.size))
      have HP6 := Lib.hid ((hb.block (w.heap.size + 1) gP).trans HP.out)
      have HZ6 := Lib.hid ((hb.block w.heap.size (by omega)).trans HZ.out)
      clear hb
      go_wp2_with (refine wpList_store_row rfl 61 _ _ rfl (w.heap.size + 1) (rowP (max q (X + 1)) (updS S X k)) rfl rfl 61 (rowP q S) HP6.out (by rw [rowP_size']; kernel_rfl) (by rw [rowP_size', rowP_size']) (rowP_one' _ _) ?_)
      go_roundw
      case rel =>
        refine ⟨k + 1, max q (X + 1), by omega, by go_num, by omega, ?_, (setRow_other w6 (w.heap.size + 1) w.heap.size _ (by omega)).trans HZ6.out, below_setRow HB6.out (by omega) _⟩
        rw [SN.out]
        exact setRow_heap w6 (w.heap.size + 1) _ _ _ _ HP6.out
      case measure => simp [intOf]; omega
    · obtain rfl : k = cs.length := by omega
      rw [List.take_length] at HP
      clear hb
      obtain ⟨S, hS⟩ : ∃ S, Hid (setsL cs = S) := ⟨_, Lib.hid rfl⟩
      rw [hS.out] at HP
      generalize setsL [] = S0 at *
      go_wp2_with (first | (refine wpList_load_row rfl 61 _ rfl (w.heap.size + 1) rfl 61 (rowP q S) (0, 0) _ HP.out Tryd.underlying61 rfl (by rw [rowP_size']; kernel_rfl) ?_) | (refine wpList_store_row rfl 61 _ _ rfl w.heap.size (rowP q S) rfl rfl 61 (rowP 0 S0) HZ.out (by rw [rowP_size']; kernel_rfl) (by rw [rowP_size', rowP_size']) (rowP_one' _ _) ?_))
      exact bodyPost_ret (results_cell_row rfl _ _ w.heap.size 61 _ (0, 0) _ rfl (setRow_heap wr w.heap.size _ _ _ _ HZ.out) Tryd.underlying61 rfl (by rw [rowP_size']; kernel_rfl)) rfl ⟨⟨q, by rw [hS.out]; rfl⟩, below_setRow HB.out (Nat.le_refl _) _⟩
end Go.Proofs.YtemhmejjmhbfdabDoor.sines
