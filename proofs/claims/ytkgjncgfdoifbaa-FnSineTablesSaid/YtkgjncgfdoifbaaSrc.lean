/- The source of choices: contracts of the model's functions that draw. -/
import Derived.Test.YtkgjncgfdoifbaaLift
import Derived.Deep.QuietTactic
import Derived.BigQuiet
import Derived.Lib.Hide
import Derived.IntWalk
import Derived.Laws.AppendOwn
import Derived.WalkSmall
import Derived.Lib.BufferWrite
import Derived.Lib.BufferOwn
import Derived.Laws.Rows
namespace Go.Proofs.Ytkgjncgfdoifbaa.src
open Go.ChangeShapes Go.WideShapes Go.ChangeAt Go.RowKit

/-- A slice of bytes that came in. -/
def IsRow (k : IntKind) (w : World) (a : Option Addr) (len cap : Nat) (zs : List Int) : Prop :=
  (a = none ∧ len = 0 ∧ cap = 0 ∧ zs = []) ∨
  ∃ x, a = some x ∧ len ≤ cap ∧ cap ≤ maxLen ∧ zs.length = cap ∧ (∀ i, i < zs.length → w.cell? (x.add i) = some (.int k (zs.getD i 0))) ∧ ∀ n ∈ zs, (Lit.int k n).wf = true
/-- The bytes that a source reads. -/
def Bytes (w : World) (a : Option Addr) (len B : Nat) : Prop :=
  len ≤ 4611686018427387904 ∧ B ≤ w.heap.size ∧ ∀ i, i < len → ∃ b off z, a = some ⟨b, off, none⟩ ∧ b < B ∧ w.cell? ⟨b, off + i, none⟩ = some (.int .u8 z) ∧ 0 ≤ z ∧ z ≤ 255
theorem bytes_grown {w w' : World} {a : Option Addr} {len B B' : Nat} (h : Bytes w a len B) (hg : w.grownBy w' (some B')) (hB : B ≤ B') : Bytes w' a len B := by
  obtain ⟨h1, h2, h3⟩ := h
  refine ⟨h1, Nat.le_trans h2 hg.size, fun i hi => ?_⟩
  obtain ⟨b, off, z, e, hb, hc, h4⟩ := h3 i hi
  exact ⟨b, off, z, e, hb, hg.cell hc (by simp; omega), h4⟩
theorem bytes_below {w w' : World} {a : Option Addr} {len B : Nat} (h : Bytes w a len B) (hg : Below B w w') : Bytes w' a len B := by
  obtain ⟨h1, h2, h3⟩ := h
  refine ⟨h1, Nat.le_trans h2 hg.size, fun i hi => ?_⟩
  obtain ⟨b, off, z, e, hb, hc, h4⟩ := h3 i hi
  exact ⟨b, off, z, e, hb, by rw [hg.cell (p := ⟨b, off + i, none⟩) hb]; exact hc, h4⟩
theorem cell_of_block {w : World} {B : Nat} {cs : Array Value} {t : TypeId} {fr : Nat × Nat} (h : w.heap[B]? = some (.cells cs t fr)) (i : Nat) : w.cell? ⟨B, i, none⟩ = cs[i]? := by
  simp [World.cell?, h]
theorem and_255 (E : Int) (h0 : 0 ≤ E) (h1 : E ≤ 18446744073709551615) : bits BinOp.and IntKind.u64 E 255 = E % 256 := by
  have h := bits_and_u64_nat E.toNat 255 (by omega) (by omega)
  rw [show E.toNat &&& 255 = E.toNat % 256 from Nat.and_two_pow_sub_one_eq_mod E.toNat 8, Int.toNat_of_nonneg h0] at h
  have h2 : ((E.toNat % 256 : Nat) : Int) = E % 256 := by omega
  exact h.trans h2
theorem u64_wrap (E : Int) : 0 ≤ IntKind.u64.wrap E ∧ IntKind.u64.wrap E ≤ 18446744073709551615 := by
  simp [IntKind.wrap, IntKind.bits, IntKind.signed]; omega
theorem seed_v (E : Int) : 0 ≤ wrap64 (bits BinOp.and IntKind.u64 (IntKind.u64.wrap E / 1099511627776) 255) ∧ wrap64 (bits BinOp.and IntKind.u64 (IntKind.u64.wrap E / 1099511627776) 255) ≤ 255 := by
  obtain ⟨h1, h2⟩ := u64_wrap E
  rw [and_255 _ (by omega) (by omega), IntWalk.wrap64_in _ ⟨by omega, by omega⟩]
  omega
theorem grown_trans {w w1 w2 : World} {B : Nat} (h1 : w.grownBy w1 (some B)) (h2 : w1.grownBy w2 (some B)) : w.grownBy w2 (some B) := Lib.grownBy_trans h1 h2
theorem bytes_start {w : World} {a : Option Addr} {len : Nat} (h : Bytes w a len w.heap.size) (o : Obj) : Bytes (w.alloc o) a len w.heap.size :=
  bytes_below h ((Below.refl _ _).alloc (Nat.le_refl _) _)
theorem below_src {w w1 : World} {o : Obj} (hg : (w.alloc o).grownBy w1 (some w.heap.size)) : Below w.heap.size w w1 :=
  ((Below.refl _ _).alloc (Nat.le_refl _) o).grown hg (by simp) (fun k hk => by obtain rfl := Option.some.inj hk; exact Nat.le_refl _)
end Go.Proofs.Ytkgjncgfdoifbaa.src
