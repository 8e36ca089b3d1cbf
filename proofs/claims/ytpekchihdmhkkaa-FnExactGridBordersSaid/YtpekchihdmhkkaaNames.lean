/- Contracts of the functions of letters, digits and names, of the program and of the model. -/
import Derived.Test.YtpekchihdmhkkaaLift
import Derived.Deep.QuietTactic
import Derived.BigQuiet
import Derived.Lib.Hide
import Derived.LoopTactic
import Derived.Laws.RangeAny
namespace Go.Proofs.Ytpekchihdmhkkaa.names
open Go.ChangeShapes Go.WideShapes Go.ChangeAt Go.RowKit

def smB (n : Int) : Bool := decide (97 ≤ n ∧ n ≤ 122)
def dgB (n : Int) : Bool := decide (48 ≤ n ∧ n ≤ 57)
theorem ret_bool {a b : Bool} (h : a = b) : Ending.returned (.bool a) = .returned (.bool b) := by rw [h]

theorem l01Small_any (n : Int) (w : World) :
    Calls Try.prog 69 #[.int .u8 n] w fun e w' => e = .returned (.bool (smB n)) ∧ w = w' := by
  by_cases h3 : n < 97
  · go_enter Try.func69, Try.ntmps69
    go_wp2
    all_goals (go_ret; exact ⟨ret_bool (by rw [Bool.eq_iff_iff]; simp [smB]; omega), rfl⟩)
  · go_enter Try.func69, Try.ntmps69
    go_wp2
    all_goals (go_ret; exact ⟨ret_bool (by rw [Bool.eq_iff_iff]; simp [smB]; omega), rfl⟩)

theorem isSmallLetter_any (n : Int) (w : World) :
    Calls Try.prog 72 #[.int .i32 n] w fun e w' => e = .returned (.bool (smB n)) ∧ w = w' := by
  by_cases h3 : n < 97
  · go_enter Try.func72, Try.ntmps72
    go_wp2
    all_goals (go_ret; exact ⟨ret_bool (by rw [Bool.eq_iff_iff]; simp [smB]; omega), rfl⟩)
  · go_enter Try.func72, Try.ntmps72
    go_wp2
    all_goals (go_ret; exact ⟨ret_bool (by rw [Bool.eq_iff_iff]; simp [smB]; omega), rfl⟩)

/-- The byte at a place is one that a name may have there. -/
def okAt (s : ByteArray) (i : Nat) (h : i < s.size) : Prop := smB (s[i].toNat : Int) = true ∨ 0 < i ∧ (dgB (s[i].toNat : Int) = true ∨ s[i].toNat = 45)
def Good (s : ByteArray) : Prop := 1 ≤ s.size ∧ s.size ≤ 12 ∧ ∀ (i : Nat) (h : i < s.size), okAt s i h
open Classical in
noncomputable def nameB (s : ByteArray) : Bool := decide (Good s)
theorem nameB_true {s : ByteArray} (h : Good s) : nameB s = true := by simp [nameB, h]
theorem nameB_false {s : ByteArray} (h : ¬ Good s) : nameB s = false := by simp [nameB, h]
theorem bad_at {s : ByteArray} {i : Nat} (h : i < s.size) (hb : ¬ okAt s i h) : ¬ Good s := fun g => hb (g.2.2 i h)
theorem not_ok_hi {s : ByteArray} {i : Nat} (h : i < s.size) (ha : 128 ≤ s[i].toNat) : ¬ okAt s i h := by
  simp only [okAt, smB, dgB, decide_eq_true_eq]; omega
theorem not_ok_first {s : ByteArray} {i : Nat} (h : i < s.size) (h1 : smB (s[i].toNat : Int) = false) (hz : i = 0) : ¬ okAt s i h := by
  rintro (g | ⟨g, _⟩)
  · rw [h1] at g; cases g
  · omega
theorem toList_ne {s : ByteArray} (h : 0 < s.size) : s.toList.isEmpty = false := by
  have e : s.toList.length = s.size := by rw [ByteArray.toList_eq]; rfl
  cases hl : s.toList with
  | nil => rw [hl] at e; simp at e; omega
  | cons a l => rfl
theorem step_ok {s : ByteArray} {k : Nat} (hlt : k < s.size) (h : ∀ (j : Nat) (h : j < s.size), j < k → okAt s j h) (hk : okAt s k hlt) : ∀ (j : Nat) (h : j < s.size), j < k + 1 → okAt s j h := by
  intro j hj h1
  by_cases e : j = k
  · subst e; exact hk
  · exact h j hj (by omega)
theorem tail_ok {s : ByteArray} {k : Nat} {hp : 0 < s.size} (hlt : k < s.size) (hf : smB (s[0].toNat : Int) = true) (h : dgB (s[k].toNat : Int) = true ∨ s[k].toNat = 45) : okAt s k hlt := by
  by_cases e : k = 0
  · subst e; exact .inl hf
  · exact .inr ⟨by omega, h⟩
theorem smB_hi {n : Int} (h : 128 ≤ n) : smB n = false := by simp [smB]; omega
theorem dgB_hi {n : Int} (h : 128 ≤ n) : dgB n = false := by simp [dgB]; omega

end Go.Proofs.Ytpekchihdmhkkaa.names
