/- Marks in lists of texts: contracts of the laws' own functions. -/
import Derived.Test.YtpekchihdmhkkaaWords
import Derived.Lib.ItoaNum
import Derived.Laws.IdiomStrings
import Derived.WalkSmall
namespace Go.Proofs.Ytpekchihdmhkkaa.split
open Go.ChangeShapes Go.WideShapes Go.ChangeAt Go.RowKit

theorem ret_sb {a b : ByteArray} (h : a = b) : Ending.returned (.string a) = .returned (.string b) := by rw [h]
theorem cat (a b : List UInt8) : (⟨a.toArray⟩ : ByteArray) ++ ⟨b.toArray⟩ = ⟨(a ++ b).toArray⟩ := by
  apply ByteArray.ext
  simp
def digs (u : Nat) : List UInt8 := if u = 0 then [] else Lib.decDigits u
def dg (u : Nat) : UInt8 := UInt8.ofNat (48 + u % 10)
theorem digs_step {u : Nat} (h : 0 < u) : digs u = digs (u / 10) ++ [dg u] := by
  unfold digs dg
  rw [if_neg (by omega)]
  by_cases h1 : u < 10
  · rw [if_pos (by omega), Lib.decDigits, dif_pos h1, Nat.mod_eq_of_lt h1]; rfl
  · rw [if_neg (by omega), Lib.decDigits, dif_neg h1]
theorem dgt_toNat (u : Nat) : ((dg u).toNat : Int) = 48 + (u : Int) % 10 := by
  unfold dg
  rw [UInt8.toNat_ofNat']
  omega
theorem digs_len : ∀ (k u : Nat), u < 10 ^ k → (digs u).length ≤ k
  | 0, u, h => by have : u = 0 := by simpa using h
                  subst this; simp [digs]
  | k + 1, u, h => by
    by_cases h0 : u = 0
    · subst h0; simp [digs]
    · rw [digs_step (by omega), List.length_append]
      have := digs_len k (u / 10) (by rw [Nat.pow_succ] at h; omega)
      simp; omega
/-- The text of mark number k. -/
def mk (k : Nat) : ByteArray := ⟨(109 :: digs k).toArray⟩

set_option maxRecDepth 100000 in
set_option maxHeartbeats 1000000 in
theorem markText_any (N : Nat) (w : World) (h0 : 0 < N) (h1 : N ≤ 1000000000) :
    Calls Try.prog 55 #[.int .i64 (N : Int)] w fun e w' => e = .returned (.string (mk N)) ∧ Below w.heap.size w w' := by
  have h0a : 0 < (N : Int) := by omega
  have h1a : (N : Int) ≤ 1000000000 := by omega
  go_enter Try.func55, Try.ntmps55
  go_wp2
  go_loopw [0, 3] (fun k v wr => ∃ (u : Nat) (l : List UInt8), u ≤ N ∧ k = .int .i64 (u : Int) ∧ v = .string ⟨l.toArray⟩ ∧ digs u ++ l = digs N ∧ Below w.heap.size w wr) (fun k _ _ => (intOf k).toNat)
  case atStart => exact ⟨N, [], Nat.le_refl _, rfl, rfl, by simp, Below.refl _ _⟩
  case round =>
    obtain ⟨u, l, hu, rfl, rfl, hd, hbel⟩ := hrel
    have hl : l.length ≤ 10 := by
      have h := congrArg List.length hd
      have h2 := digs_len 10 N (by omega)
      simp at h; omega
    have HD := Lib.hid hd
    have HB := Lib.hid hbel
    clear hd hbel
    by_cases hu0 : u = 0
    · have hz : ¬ 0 < (u : Int) := by omega
      have EL := Lib.hid (show l = digs N by have := HD.out; rw [hu0] at this; simpa [digs] using this)
      clear hu0
      go_wp2
      go_ret
      exact ⟨ret_sb (by rw [mk, show (⟨#[109]⟩ : ByteArray) = ⟨[109].toArray⟩ from rfl, cat, EL.out]; rfl), HB.out⟩
    · have hz : 0 < (u : Int) := by omega
      have hs := HB.out.size
      have hcv : (convert 43 9 (.slice (some ⟨wr.heap.size, 0, none⟩) 1 1)).run Try.prog (wr.alloc (.cells #[.int .u8 (48 + (u : Int) % 10)] 5)) = .ok (.string ⟨[dg u].toArray⟩) (wr.alloc (.cells #[.int .u8 (48 + (u : Int) % 10)] 5)) :=
        run_convert_bytes_back _ 43 9 5 ⟨wr.heap.size, 0, none⟩ 1 [dg u] Try.underlying43 Try.underlying5 Try.underlying9 (fun j hj => by
          obtain rfl : j = 0 := by simpa using hj
          simp only [List.getElem_cons_zero, dgt_toNat]
          simp [Addr.add])
      go_wp2
      go_roundw
      case rel => exact ⟨u / 10, dg u :: l, by omega, by go_num, by rw [cat]; rfl, by rw [← HD.out, digs_step (by omega : 0 < u)]; simp, HB.out.alloc hs _⟩
      case measure => simp [intOf]; omega

end Go.Proofs.Ytpekchihdmhkkaa.split
