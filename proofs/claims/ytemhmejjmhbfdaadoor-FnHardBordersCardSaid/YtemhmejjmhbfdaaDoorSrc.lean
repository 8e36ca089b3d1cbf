/- The source of choices: contracts of the model's functions that draw. -/
import Derived.Test.YtemhmejjmhbfdaaDoorLift
import Derived.Deep.QuietTactic
import Derived.BigQuiet
import Derived.Lib.Hide
import Derived.IntWalk
import Derived.Laws.AppendOwn
import Derived.WalkSmall
import Derived.Lib.BufferWrite
import Derived.Lib.BufferOwn
import Derived.Laws.Rows
namespace Go.Proofs.YtemhmejjmhbfdaaDoor.src
open Go.ChangeShapes Go.WideShapes Go.ChangeAt Go.RowKit

/-- A slice of bytes that came in. -/
def IsRow (k : IntKind) (w : World) (a : Option Addr) (len cap : Nat) (zs : List Int) : Prop :=
  (a = none ∧ len = 0 ∧ cap = 0 ∧ zs = []) ∨
  ∃ x, a = some x ∧ len ≤ cap ∧ cap ≤ maxLen ∧ zs.length = cap ∧ (∀ i, i < zs.length → w.cell? (x.add i) = some (.int k (zs.getD i 0))) ∧ ∀ n ∈ zs, (Lit.int k n).wf = true
/-- The bytes that a source reads. -/
def Bytes (w : World) (a : Option Addr) (len B : Nat) : Prop :=
  len ≤ 4611686018427387904 ∧ B ≤ w.heap.size ∧ ∀ i, i < len → ∃ b off z, a = some ⟨b, off, none⟩ ∧ b < B ∧ w.cell? ⟨b, off + i, none⟩ = some (.int .u8 z) ∧ 0 ≤ z ∧ z ≤ 255
theorem bytes_grown {w w' : World} {a : Option Addr} {len B B' : Nat} (h : Bytes w a len B) (hg : w.grownBy w' (some B')) (hB : B ≤ B') : Bytes w' a len B := by
  obtain ⟨h1, h2, h3⟩ := h
  refine ⟨h1, Nat.le_trans h2 hg.size, fun i hi => ?_⟩
  obtain ⟨b, off, z, e, hb, hc, h4⟩ := h3 i hi
  exact ⟨b, off, z, e, hb, hg.cell hc (by simp; omega), h4⟩
theorem bytes_below {w w' : World} {a : Option Addr} {len B : Nat} (h : Bytes w a len B) (hg : Below B w w') : Bytes w' a len B := by
  obtain ⟨h1, h2, h3⟩ := h
  refine ⟨h1, Nat.le_trans h2 hg.size, fun i hi => ?_⟩
  obtain ⟨b, off, z, e, hb, hc, h4⟩ := h3 i hi
  exact ⟨b, off, z, e, hb, by rw [hg.cell (p := ⟨b, off + i, none⟩) hb]; exact hc, h4⟩
/-- A source in block B: what it reads, how far it is at most. -/
def Src (w : World) (B : Nat) (a : Option Addr) (len cap : Nat) (m : Int) : Prop :=
  ∃ at_ sd : Int, w.heap[B]? = some (.cells #[.slice a len cap, .int .i64 at_, .int .u64 sd] 54 (0, 0)) ∧ 0 ≤ at_ ∧ at_ ≤ m ∧ 0 ≤ sd ∧ sd ≤ 18446744073709551615
theorem cell_of_block {w : World} {B : Nat} {cs : Array Value} {t : TypeId} {fr : Nat × Nat} (h : w.heap[B]? = some (.cells cs t fr)) (i : Nat) : w.cell? ⟨B, i, none⟩ = cs[i]? := by
  simp [World.cell?, h]
theorem and_255 (E : Int) (h0 : 0 ≤ E) (h1 : E ≤ 18446744073709551615) : bits BinOp.and IntKind.u64 E 255 = E % 256 := by
  have h := bits_and_u64_nat E.toNat 255 (by omega) (by omega)
  rw [show E.toNat &&& 255 = E.toNat % 256 from Nat.and_two_pow_sub_one_eq_mod E.toNat 8, Int.toNat_of_nonneg h0] at h
  have h2 : ((E.toNat % 256 : Nat) : Int) = E % 256 := by omega
  exact h.trans h2
theorem u64_wrap (E : Int) : 0 ≤ IntKind.u64.wrap E ∧ IntKind.u64.wrap E ≤ 18446744073709551615 := by
  simp [IntKind.wrap, IntKind.bits, IntKind.signed]; omega
theorem seed_v (E : Int) : 0 ≤ wrap64 (bits BinOp.and IntKind.u64 (IntKind.u64.wrap E / 1099511627776) 255) ∧ wrap64 (bits BinOp.and IntKind.u64 (IntKind.u64.wrap E / 1099511627776) 255) ≤ 255 := by
  obtain ⟨h1, h2⟩ := u64_wrap E
  rw [and_255 _ (by omega) (by omega), IntWalk.wrap64_in _ ⟨by omega, by omega⟩]
  omega
/-- Behind a step the source is one further. -/
theorem src_step {w w' : World} {B : Nat} {a : Option Addr} {len cap : Nat} {at_ sd sd2 : Int} {q r : Nat} (hc : w.heap[B]? = some (.cells #[.slice a len cap, .int .i64 at_, .int .u64 sd] 54 (0, 0)))
    (h0 : 0 ≤ at_) (hs : 0 ≤ sd2 ∧ sd2 ≤ 18446744073709551615)
    (hw : w' = (((w.drewN q).setCell ⟨B, 1, none⟩ (.int .i64 (at_ + 1))).setCell ⟨B, 2, none⟩ (.int .u64 sd2)).drewN r) : Src w' B a len cap (at_ + 1) ∧ w.grownBy w' (some B) := by
  subst hw
  have e1 := heap_setCell_same (w.drewN q) B 1 _ _ (.int .i64 (at_ + 1)) hc
  have e2 := heap_setCell_same _ B 2 _ _ (.int .u64 sd2) e1
  refine ⟨⟨at_ + 1, sd2, e2, by omega, Int.le_refl _, hs.1, hs.2⟩, ?_⟩
  have g : w.grownBy (((w.drewN q).setCell ⟨B, 1, none⟩ (.int .i64 (at_ + 1))).setCell ⟨B, 2, none⟩ (.int .u64 sd2)) (some B) :=
    Lib.grownBy_setB (Lib.grownBy_setB (show w.grownBy (w.drewN q) (some B) from ⟨rfl, rfl, rfl, Nat.le_refl _, fun _ _ _ => rfl⟩) 1 _) 2 _
  exact ⟨g.os, g.tape, g.output, g.size, g.block⟩
set_option maxHeartbeats 1000000 in
theorem next_past (w : World) (B : Nat) (a : Option Addr) (len cap : Nat) (at_ sd : Int) (hc : w.heap[B]? = some (.cells #[.slice a len cap, .int .i64 at_, .int .u64 sd] 54 (0, 0)))
    (h0 : 0 ≤ at_) (h1 : at_ ≤ 4611686018427387904) (hl : (len : Int) ≤ at_) :
    Calls Tryd.prog 21 #[.pointer (some ⟨B, 0, none⟩)] w fun e w' => ∃ v, e = .returned (.int .i64 v) ∧ 0 ≤ v ∧ v ≤ 255 ∧ Src w' B a len cap (at_ + 1) ∧ w.grownBy w' (some B) := by
  have c0 : w.cell? ⟨B, 0, none⟩ = some (.slice a len cap) := cell_of_block hc 0
  have c1 : w.cell? ⟨B, 1, none⟩ = some (.int .i64 at_) := cell_of_block hc 1
  have c2 : w.cell? ⟨B, 2, none⟩ = some (.int .u64 sd) := cell_of_block hc 2
  have f1 : w.frozen? ⟨B, 1, none⟩ = false := by simp [World.frozen?, hc]
  have f2 : w.frozen? ⟨B, 2, none⟩ = false := by simp [World.frozen?, hc]
  have HC := Lib.hid hc
  clear hc
  go_enter Tryd.func21, Tryd.ntmps21
  go_wp2
  go_quiet (fail)
  go_wp2
  go_quiet (fail)
  go_wp2
  go_ret
  exact ⟨_, rfl, (seed_v _).1, (seed_v _).2, src_step HC.out h0 (u64_wrap _) rfl⟩
set_option maxHeartbeats 1000000 in
theorem next_in (w : World) (B b off : Nat) (len cap k : Nat) (z sd : Int) (hc : w.heap[B]? = some (.cells #[.slice (some ⟨b, off, none⟩) len cap, .int .i64 (k : Int), .int .u64 sd] 54 (0, 0)))
    (h1 : (k : Int) ≤ 4611686018427387904) (hl : k < len) (hm : len ≤ 4611686018427387904) (hz : w.cell? ⟨b, off + k, none⟩ = some (.int .u8 z)) (hz0 : 0 ≤ z) (hz1 : z ≤ 255) :
    Calls Tryd.prog 21 #[.pointer (some ⟨B, 0, none⟩)] w fun e w' => ∃ v, e = .returned (.int .i64 v) ∧ 0 ≤ v ∧ v ≤ 255 ∧ Src w' B (some ⟨b, off, none⟩) len cap (k + 1) ∧ w.grownBy w' (some B) := by
  have c0 : w.cell? ⟨B, 0, none⟩ = some (.slice (some ⟨b, off, none⟩) len cap) := cell_of_block hc 0
  have c1 : w.cell? ⟨B, 1, none⟩ = some (.int .i64 (k : Int)) := cell_of_block hc 1
  have c2 : w.cell? ⟨B, 2, none⟩ = some (.int .u64 sd) := cell_of_block hc 2
  have f1 : w.frozen? ⟨B, 1, none⟩ = false := by simp [World.frozen?, hc]
  have f2 : w.frozen? ⟨B, 2, none⟩ = false := by simp [World.frozen?, hc]
  have HC := Lib.hid hc
  clear hc
  have hl2 : (k : Int) < (len : Int) := by omega
  have hl3 : (k : Int) + 1 ≤ (len : Int) := by omega
  have hl4 : (len : Int) ≤ 4611686018427387904 := by omega
  go_enter Tryd.func21, Tryd.ntmps21
  go_wp2
  go_quiet (fail)
  go_wp2
  go_quiet (fail)
  go_wp2
  go_quiet (fail)
  go_wp2
  go_ret
  exact ⟨_, rfl, hz0, hz1, src_step HC.out (by omega) (u64_wrap _) rfl⟩
theorem next_any (w : World) (B : Nat) (a : Option Addr) (len cap : Nat) (m : Int) (hs : Src w B a len cap m) (hm : m ≤ 4611686018427387904) (hb : Bytes w a len B) :
    Calls Tryd.prog 21 #[.pointer (some ⟨B, 0, none⟩)] w fun e w' => ∃ v, e = .returned (.int .i64 v) ∧ 0 ≤ v ∧ v ≤ 255 ∧ Src w' B a len cap (m + 1) ∧ w.grownBy w' (some B) := by
  obtain ⟨at_, sd, hc, h0, h1, h2, h3⟩ := hs
  have up : ∀ w' : World, Src w' B a len cap (at_ + 1) → Src w' B a len cap (m + 1) := fun w' ⟨x, y, k1, k2, k3, k4⟩ => ⟨x, y, k1, k2, by omega, k4⟩
  by_cases hl : (len : Int) ≤ at_
  · refine (next_past w B a len cap at_ sd hc h0 (by omega) hl).mono ?_
    rintro e w' ⟨v, h4, h5, h6, h7, h8⟩
    exact ⟨v, h4, h5, h6, up _ h7, h8⟩
  · obtain ⟨k, rfl⟩ := Int.eq_ofNat_of_zero_le h0
    obtain ⟨b, off, z, rfl, _, hz, hz0, hz1⟩ := hb.2.2 k (by omega)
    refine (next_in w B b off len cap k z sd hc (by omega) (by omega) hb.1 hz hz0 hz1).mono ?_
    rintro e w' ⟨v, h4, h5, h6, h7, h8⟩
    exact ⟨v, h4, h5, h6, up _ h7, h8⟩
theorem grown_trans {w w1 w2 : World} {B : Nat} (h1 : w.grownBy w1 (some B)) (h2 : w1.grownBy w2 (some B)) : w.grownBy w2 (some B) := Lib.grownBy_trans h1 h2
set_option maxRecDepth 100000 in
set_option maxHeartbeats 1000000 in
theorem pick_any (w : World) (B : Nat) (a : Option Addr) (len cap : Nat) (m n : Int) (hs : Src w B a len cap m) (hm : m ≤ 4611686018427387000) (hb : Bytes w a len B) (hn0 : 1 ≤ n) (hn1 : n ≤ 65536) :
    Calls Tryd.prog 12 #[.pointer (some ⟨B, 0, none⟩), .int .i64 n] w fun e w' => ∃ v, e = .returned (.int .i64 v) ∧ 0 ≤ v ∧ v < n ∧ Src w' B a len cap (m + 2) ∧ w.grownBy w' (some B) := by
  have up : ∀ (w' : World) (k : Int), k ≤ 2 → Src w' B a len cap (m + k) → Src w' B a len cap (m + 2) := fun w' k hk ⟨x, y, k1, k2, k3, k4⟩ => ⟨x, y, k1, k2, by omega, k4⟩
  have UP := Lib.hid up
  have HS := Lib.hid hs
  have HM := Lib.hid (show m ≤ 4611686018427387904 by omega)
  have HM2 := Lib.hid (show m + 1 ≤ 4611686018427387904 by omega)
  have HB := Lib.hid hb
  clear hs hm hb up
  by_cases h1 : n ≤ 1
  · go_enter Tryd.func12, Tryd.ntmps12
    go_wp2
    go_ret
    exact ⟨0, rfl, by omega, by omega, UP.out _ 0 (by decide) (by simpa using HS.out), ⟨rfl, rfl, rfl, Nat.le_refl _, fun _ _ _ => rfl⟩⟩
  by_cases h2 : n ≤ 200
  · go_enter Tryd.func12, Tryd.ntmps12
    go_wp2_with fail
    refine (next_any w B a len cap m HS.out HM.out HB.out).mono ?_
    rintro e w1 ⟨v, rfl, hv0, hv1, hs1, hg1⟩
    go_wp2_with fail
    go_ret
    exact ⟨_, rfl, Int.emod_nonneg _ (by omega), Int.emod_lt_of_pos _ (by omega), UP.out _ 1 (by decide) hs1, hg1⟩
  · go_enter Tryd.func12, Tryd.ntmps12
    go_wp2_with fail
    refine (next_any w B a len cap m HS.out HM.out HB.out).mono ?_
    rintro e w1 ⟨v, rfl, hv0, hv1, hs1, hg1⟩
    have HS1 := Lib.hid hs1
    have HG1 := Lib.hid hg1
    clear hs1 hg1
    go_wp2_with fail
    refine (next_any w1 B a len cap (m + 1) HS1.out HM2.out (bytes_grown HB.out HG1.out (Nat.le_refl _))).mono ?_
    rintro e w2 ⟨v2, rfl, hv20, hv21, hs2, hg2⟩
    go_wp2_with fail
    go_ret
    have hp : 0 ≤ v * 256 + v2 := by omega
    exact ⟨_, rfl, Int.emod_nonneg _ (by omega), Int.emod_lt_of_pos _ (by omega), by rw [show m + 2 = m + 1 + 1 by omega]; exact hs2, grown_trans HG1.out hg2⟩
theorem l00From_any (w : World) (a : Option Addr) (len cap : Nat) :
    Calls Tryd.prog 11 #[.slice a len cap] w fun e w' => e = .returned (.pointer (some ⟨w.heap.size, 0, none⟩)) ∧ w' = w.alloc (.cells #[.slice a len cap, .int .i64 0, .int .u64 0] 54) := by
  go_enter Tryd.func11, Tryd.ntmps11
  go_wp2
  go_ret
  exact ⟨rfl, rfl⟩
theorem src_start (w : World) (a : Option Addr) (len cap : Nat) : Src (w.alloc (.cells #[.slice a len cap, .int .i64 0, .int .u64 0] 54)) w.heap.size a len cap 0 :=
  ⟨0, 0, heap_alloc_new w _, by decide, by decide, by decide, by decide⟩
theorem bytes_start {w : World} {a : Option Addr} {len : Nat} (h : Bytes w a len w.heap.size) (o : Obj) : Bytes (w.alloc o) a len w.heap.size :=
  bytes_below h ((Below.refl _ _).alloc (Nat.le_refl _) _)
theorem below_src {w w1 : World} {o : Obj} (hg : (w.alloc o).grownBy w1 (some w.heap.size)) : Below w.heap.size w w1 :=
  ((Below.refl _ _).alloc (Nat.le_refl _) o).grown hg (by simp) (fun k hk => by obtain rfl := Option.some.inj hk; exact Nat.le_refl _)
end Go.Proofs.YtemhmejjmhbfdaaDoor.src
