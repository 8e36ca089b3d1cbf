/- The program's sheet of cells, and how many cells a land has: contracts. -/
import Derived.Test.YtpekchihdmhkkaaGridI2
import Derived.Test.YtpekchihdmhkkaaGridS2
import Derived.Test.YtpekchihdmhkkaaShelf
import Derived.Deep.RegionHeld3
namespace Go.Proofs.Ytpekchihdmhkkaa.stab
open Go.ChangeShapes Go.WideShapes Go.ChangeAt Go.RowKit Go.Proofs.Ytpekchihdmhkkaa.split Go.Proofs.Ytpekchihdmhkkaa.sines Go.Proofs.Ytpekchihdmhkkaa.names
set_option linter.unusedSimpArgs false
set_option linter.unusedVariables false

theorem join_flat : ∀ ls : List (List UInt8), Lib.join ls [] = ls.flatten
  | [] => by simp [Lib.join_nil]
  | x :: r => by
    rw [Lib.join_cons]
    simp only [Lib.joinTail, List.flatten_cons, List.append_cancel_left_eq]
    congr 1
    simp
/-- The cells of a sheet lie in the block g. -/
def BCells (w : World) (B g : Nat) (cs : List UInt8) : Prop := g < B ∧ ∀ k, k < cs.length → w.cell? ⟨g, k, none⟩ = some (.int .u8 ((cs.getD k 0).toNat : Int))
theorem bcells_keep {w w' : World} {B g : Nat} {cs : List UInt8} (h : BCells w B g cs) (hb : Below B w w') : BCells w' B g cs :=
  ⟨h.1, fun k hk => (hb.cell (p := ⟨g, k, none⟩) h.1).trans (h.2 k hk)⟩
theorem bcells_up {w : World} {B B' g : Nat} {cs : List UInt8} (h : BCells w B g cs) (hB : B ≤ B') : BCells w B' g cs := ⟨Nat.lt_of_lt_of_le h.1 hB, h.2⟩
theorem bytes_laid (w : World) (cs : List UInt8) (cap : Nat) (fr : Nat × Nat) (n : Nat) (h : w.heap.size = n) : ∀ k, k < cs.length → (w.alloc (.cells (bytesRow ⟨cs.toArray⟩ cap) 5 fr)).cell? ⟨n, k, none⟩ = some (.int .u8 ((cs.getD k 0).toNat : Int)) := by
  subst h
  intro k hk
  have hb : (w.alloc (.cells (bytesRow ⟨cs.toArray⟩ cap) 5 fr)).heap[w.heap.size]? = some (.cells (bytesRow ⟨cs.toArray⟩ cap) 5 fr) := Array.getElem?_push_size
  have e : (bytesRow ⟨cs.toArray⟩ cap)[k]? = some (.int .u8 ((cs.getD k 0).toNat : Int)) := by
    unfold bytesRow
    rw [Array.getElem?_append_left (by simpa using hk)]
    simp [hk]
  rw [cell_of_row _ w.heap.size k _ _ _ hb, e]
/-- What []byte of a text lays, in plain words. -/
theorem conv_bytes (w1 : World) (cs : List UInt8) : ∃ cap w2, (convert 9 43 (.string ⟨cs.toArray⟩)).run Try.prog w1 = .ok (.slice (some ⟨w1.heap.size, 0, none⟩) cs.length cap) w2 ∧ cs.length ≤ cap ∧ Below w1.heap.size w1 w2 ∧ w2.heap.size = w1.heap.size + 1 ∧ ∀ k, k < cs.length → w2.cell? ⟨w1.heap.size, k, none⟩ = some (.int .u8 ((cs.getD k 0).toNat : Int)) := by
  have h := run_bytes_of_string (P := Try.prog) w1 9 43 5 ⟨cs.toArray⟩ Try.underlying9 Try.underlying43 Try.underlying5
  have hs : (⟨cs.toArray⟩ : ByteArray).size = cs.length := by simp [ByteArray.size]
  rw [hs] at h
  refine ⟨_, _, h, ?_, (Below.refl _ _).drew.alloc (Nat.le_refl _) _, by simp, fun k hk => bytes_laid w1.drew cs _ _ w1.heap.size rfl k hk⟩
  exact grownCap_ge w1 cs.length 0 _
set_option maxRecDepth 100000 in
set_option maxHeartbeats 2000000 in
theorem gridOf_any (v : Value) (ps : List ByteArray) (n : Nat) (w : World) (hv : SAt w w.heap.size v ps) (hG : Grid ps n) :
    Calls Try.prog 45 #[v] w fun e w' => ∃ g cap, e = .returned (.agg #[.slice (some ⟨g, 0, none⟩) (cellsG ps).length cap, .int .i64 (n : Int)]) ∧ w.heap.size ≤ g ∧ (cellsG ps).length ≤ cap ∧ BCells w' w'.heap.size g (cellsG ps) ∧ Below w.heap.size w w' := by
  have HV := Lib.hid hv
  obtain ⟨ar, c, rfl, hcap, hcl⟩ := hv
  have hpN : 0 < ps.length := hG.m1
  obtain ⟨b0, off0, rfl, hb0, z0⟩ := hcl 0 hpN
  rw [Nat.add_zero] at z0
  have hlen := hG.len_le
  have hm2 := hG.m2
  have JN := Lib.hid (fun W (h : Below w.heap.size w W) => Try.strings_Join b0 off0 c ps ⟨#[]⟩ W (fun j x hx => by
    have hj : j < ps.length := (List.getElem?_eq_some_iff.1 hx).1
    obtain ⟨bb, off, e1, hbs, c1⟩ := hcl j hj
    obtain ⟨rfl, rfl⟩ : b0 = bb ∧ off0 = off := by simpa using e1
    rw [(h.cell (p := ⟨b0, off0 + j, none⟩) hbs).trans c1, sAt_eq hj]
    rw [List.getElem?_eq_getElem hj] at hx
    cases hx
    rfl) (Nat.lt_of_lt_of_le hb0 h.size) (by omega) hcap (by
    show (Lib.join (ps.map (·.data.toList)) []).length ≤ _
    rw [join_flat]
    exact Nat.le_trans hlen (by decide)))
  have EJ := Lib.hid (show (⟨(Lib.join (ps.map (·.data.toList)) ([] : List UInt8)).toArray⟩ : ByteArray) = ⟨(cellsG ps).toArray⟩ by rw [join_flat]; rfl)
  have hz := hG.size 0 hpN
  have hzn : ((sAt ps 0).size : Int) = (n : Int) := by rw [hz]
  obtain ⟨cs, hcs⟩ : ∃ cs, Hid (cellsG ps = cs) := ⟨_, Lib.hid rfl⟩
  rw [hcs.out] at EJ hlen ⊢
  generalize sAt ps 0 = s0 at z0 hzn
  have hp0 : (0 : Int) < (ps.length : Int) := by omega
  have hbA := Lib.hid (show ∀ o, (w.alloc o).cell? ⟨b0, off0, none⟩ = some (.string s0) from fun o => (((Below.refl w.heap.size w).alloc (Nat.le_refl _) o).cell (p := ⟨b0, off0, none⟩) hb0).trans z0)
  clear hcl hz hG
  go_enter Try.func45, Try.ntmps45
  go_wp2_with fail
  have r0 : (w.alloc (.cells #[.slice none 0 0, .int .i64 0] 45)).cell? ⟨w.heap.size, 0, none⟩ = some (.slice none 0 0) := by simp [go_sem]
  have r1 : (w.alloc (.cells #[.slice none 0 0, .int .i64 0] 45)).cell? ⟨w.heap.size, 1, none⟩ = some (.int .i64 0) := by simp [go_sem]
  have f0 : ∀ i, (w.alloc (.cells #[.slice none 0 0, .int .i64 0] 45)).frozen? ⟨w.heap.size, i, none⟩ = false := fun i => by
    have h : (w.alloc (.cells #[.slice none 0 0, .int .i64 0] 45)).heap[w.heap.size]? = some (.cells #[.slice none 0 0, .int .i64 0] 45) := Array.getElem?_push_size
    unfold World.frozen?
    rw [h]
    simp
  have k0 := hbA.out (.cells #[.slice none 0 0, .int .i64 0] 45)
  have B0 := Lib.hid (show Below w.heap.size w (w.alloc (.cells #[.slice none 0 0, .int .i64 0] 45)) from (Below.refl _ _).alloc (Nat.le_refl _) _)
  have s0z : (w.alloc (.cells #[.slice none 0 0, .int .i64 0] 45)).heap.size = w.heap.size + 1 := by simp
  generalize w.alloc (.cells #[.slice none 0 0, .int .i64 0] 45) = W0 at *
  have SZ := Lib.hid s0z
  have hsA : b0 < W0.heap.size := by omega
  have hsB : w.heap.size < W0.heap.size := by omega
  have HSB := Lib.hid hsB
  clear s0z hbA z0
  go_region_with (first | (go_at_call 73; refine (JN.out _ (by repeat (first | exact B0.out | refine Below.drew ?_ | refine bdr ?_ _))).mono ?_; rw [EJ.out]; rintro e w1 ⟨rfl, hb1⟩; have HB1 := Lib.hid (show Below W0.heap.size W0 w1 from by first | exact hb1 | exact (Below.refl _ W0).drew.trans hb1); obtain ⟨cap, w2, hcv, hcap2, hb2, hs2, hc2⟩ := conv_bytes w1 cs; have HB2 := Lib.hid (HB1.out.trans (hb2.mono HB1.out.size)); have k1 := (HB1.out.cell (p := ⟨b0, off0, none⟩) hsA).trans k0; have k2 := (HB2.out.cell (p := ⟨b0, off0, none⟩) hsA).trans k0; have q0 := (HB2.out.cell (p := ⟨w.heap.size, 0, none⟩) hsB).trans r0; have q1 := (HB2.out.cell (p := ⟨w.heap.size, 1, none⟩) hsB).trans r1; have g0 := fun i => (HB2.out.frozen (p := ⟨w.heap.size, i, none⟩) hsB).trans (f0 i); have HC2 := Lib.hid hc2; have HS2 := Lib.hid hs2; have CP2 := Lib.hid hcap2; clear hb1 hb2 hc2 hs2 hcap2))
  all_goals
    go_wp2
    refine bodyPost_ret (v := .agg #[.slice (some ⟨w1.heap.size, 0, none⟩) cs.length cap, .int .i64 (n : Int)]) (by simp [results, Try.results45, go_sem, q0, q1]) rfl ⟨_, _, rfl, ?_, CP2.out, ⟨?_, fun k hk => ?_⟩, ?_⟩
    · exact Nat.le_trans B0.out.size HB1.out.size
    · have := HS2.out; simp; omega
    · have h := HC2.out k hk
      have hne : w1.heap.size ≠ w.heap.size := by have := HB1.out.size; have := HSB.out; omega
      rw [World.cell?_setCell_far _ _ _ _ (fun e => hne e.symm), World.cell?_setCell_far _ _ _ _ (fun e => hne e.symm)]
      exact h
    · exact (((B0.out.trans (HB2.out.mono B0.out.size))).setCell (p := ⟨w.heap.size, 0, none⟩) (Nat.le_refl _) _).setCell (p := ⟨w.heap.size, 1, none⟩) (Nat.le_refl _) _
theorem countByte_eq (cs : List UInt8) (b : UInt8) : Lib.countByte (Lib.bytesOf (cs.map fun x => (x.toNat : Int))) ((b.toNat : Int).toNat.toUInt8) = cs.count b := by
  have e1 : ((b.toNat : Int)).toNat.toUInt8 = b := by simp
  have e2 : Lib.bytesOf (cs.map fun x => (x.toNat : Int)) = cs := by
    unfold Lib.bytesOf
    rw [List.map_map]
    conv => rhs; rw [← List.map_id cs]
    apply List.map_congr_left
    intro x _
    simp
  rw [e1, e2]
  rfl
set_option maxHeartbeats 1000000 in
theorem cellsOf_any (g cap n : Nat) (cs : List UInt8) (b : UInt8) (w : World) (hc : BCells w w.heap.size g cs) :
    Calls Try.prog 50 #[.agg #[.slice (some ⟨g, 0, none⟩) cs.length cap, .int .i64 (n : Int)], .int .u8 (b.toNat : Int)] w fun e w' => e = .returned (.int .i64 (cs.count b : Int)) ∧ Below w.heap.size w w' := by
  have CN := Lib.hid (fun W d (h : Below w.heap.size w W) => Try.bytes_Count_one g 0 cs.length cap (w.heap.size + 1) 0 d (cs.map fun x => (x.toNat : Int)) (b.toNat : Int) W (by simp) (fun i hi => by
    rw [Nat.zero_add, (h.cell (p := ⟨g, i, none⟩) hc.1).trans (hc.2 i hi)]
    simp [hi]))
  rw [countByte_eq] at CN
  generalize cs.count b = C at CN ⊢
  go_enter Try.func50, Try.ntmps50
  go_wp2_with fail
  refine (CN.out _ 1 (((Below.refl _ _).alloc (Nat.le_refl _) _).alloc (by simp) _) (by simp [go_sem])).mono ?_
  rintro e w' ⟨rfl, rfl⟩
  go_wp2
  go_ret
  exact ⟨rfl, ((Below.refl _ _).alloc (Nat.le_refl _) _).alloc (by simp) _⟩
end Go.Proofs.Ytpekchihdmhkkaa.stab
