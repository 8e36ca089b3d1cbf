/- Contracts of the functions of letters, digits and names, of the program and of the model. -/
import Derived.Test.YtdbjfadnfbpoeaaLift
import Derived.Deep.QuietTactic
import Derived.BigQuiet
import Derived.Lib.Hide
import Derived.LoopTactic
import Derived.Laws.RangeAny
namespace Go.Proofs.Ytdbjfadnfbpoeaa.names
open Go.ChangeShapes Go.WideShapes Go.ChangeAt Go.RowKit

def smB (n : Int) : Bool := decide (97 ≤ n ∧ n ≤ 122)
def dgB (n : Int) : Bool := decide (48 ≤ n ∧ n ≤ 57)
theorem ret_bool {a b : Bool} (h : a = b) : Ending.returned (.bool a) = .returned (.bool b) := by rw [h]

theorem l01Small_any (n : Int) (w : World) :
    Calls Try.prog 39 #[.int .u8 n] w fun e w' => e = .returned (.bool (smB n)) ∧ w = w' := by
  by_cases h3 : n < 97
  · go_enter Try.func39, Try.ntmps39
    go_wp2
    all_goals (go_ret; exact ⟨ret_bool (by rw [Bool.eq_iff_iff]; simp [smB]; omega), rfl⟩)
  · go_enter Try.func39, Try.ntmps39
    go_wp2
    all_goals (go_ret; exact ⟨ret_bool (by rw [Bool.eq_iff_iff]; simp [smB]; omega), rfl⟩)

theorem l01Digit_any (n : Int) (w : World) :
    Calls Try.prog 40 #[.int .u8 n] w fun e w' => e = .returned (.bool (dgB n)) ∧ w = w' := by
  by_cases h3 : n < 48
  · go_enter Try.func40, Try.ntmps40
    go_wp2
    all_goals (go_ret; exact ⟨ret_bool (by rw [Bool.eq_iff_iff]; simp [dgB]; omega), rfl⟩)
  · go_enter Try.func40, Try.ntmps40
    go_wp2
    all_goals (go_ret; exact ⟨ret_bool (by rw [Bool.eq_iff_iff]; simp [dgB]; omega), rfl⟩)

theorem isDigit_any (n : Int) (w : World) :
    Calls Try.prog 41 #[.int .i32 n] w fun e w' => e = .returned (.bool (dgB n)) ∧ w = w' := by
  by_cases h3 : n < 48
  · go_enter Try.func41, Try.ntmps41
    go_wp2
    all_goals (go_ret; exact ⟨ret_bool (by rw [Bool.eq_iff_iff]; simp [dgB]; omega), rfl⟩)
  · go_enter Try.func41, Try.ntmps41
    go_wp2
    all_goals (go_ret; exact ⟨ret_bool (by rw [Bool.eq_iff_iff]; simp [dgB]; omega), rfl⟩)

theorem isSmallLetter_any (n : Int) (w : World) :
    Calls Try.prog 42 #[.int .i32 n] w fun e w' => e = .returned (.bool (smB n)) ∧ w = w' := by
  by_cases h3 : n < 97
  · go_enter Try.func42, Try.ntmps42
    go_wp2
    all_goals (go_ret; exact ⟨ret_bool (by rw [Bool.eq_iff_iff]; simp [smB]; omega), rfl⟩)
  · go_enter Try.func42, Try.ntmps42
    go_wp2
    all_goals (go_ret; exact ⟨ret_bool (by rw [Bool.eq_iff_iff]; simp [smB]; omega), rfl⟩)

/-- The byte at a place is one that a name may have there. -/
def okAt (s : ByteArray) (i : Nat) (h : i < s.size) : Prop := smB (s[i].toNat : Int) = true ∨ 0 < i ∧ (dgB (s[i].toNat : Int) = true ∨ s[i].toNat = 45)
def Good (s : ByteArray) : Prop := 1 ≤ s.size ∧ s.size ≤ 12 ∧ ∀ (i : Nat) (h : i < s.size), okAt s i h
open Classical in
noncomputable def nameB (s : ByteArray) : Bool := decide (Good s)
theorem nameB_true {s : ByteArray} (h : Good s) : nameB s = true := by simp [nameB, h]
theorem nameB_false {s : ByteArray} (h : ¬ Good s) : nameB s = false := by simp [nameB, h]
theorem bad_at {s : ByteArray} {i : Nat} (h : i < s.size) (hb : ¬ okAt s i h) : ¬ Good s := fun g => hb (g.2.2 i h)
theorem not_ok_hi {s : ByteArray} {i : Nat} (h : i < s.size) (ha : 128 ≤ s[i].toNat) : ¬ okAt s i h := by
  simp only [okAt, smB, dgB, decide_eq_true_eq]; omega
theorem not_ok_first {s : ByteArray} {i : Nat} (h : i < s.size) (h1 : smB (s[i].toNat : Int) = false) (hz : i = 0) : ¬ okAt s i h := by
  rintro (g | ⟨g, _⟩)
  · rw [h1] at g; cases g
  · omega
theorem toList_ne {s : ByteArray} (h : 0 < s.size) : s.toList.isEmpty = false := by
  have e : s.toList.length = s.size := by rw [ByteArray.toList_eq]; rfl
  cases hl : s.toList with
  | nil => rw [hl] at e; simp at e; omega
  | cons a l => rfl
theorem step_ok {s : ByteArray} {k : Nat} (hlt : k < s.size) (h : ∀ (j : Nat) (h : j < s.size), j < k → okAt s j h) (hk : okAt s k hlt) : ∀ (j : Nat) (h : j < s.size), j < k + 1 → okAt s j h := by
  intro j hj h1
  by_cases e : j = k
  · subst e; exact hk
  · exact h j hj (by omega)
theorem tail_ok {s : ByteArray} {k : Nat} {hp : 0 < s.size} (hlt : k < s.size) (hf : smB (s[0].toNat : Int) = true) (h : dgB (s[k].toNat : Int) = true ∨ s[k].toNat = 45) : okAt s k hlt := by
  by_cases e : k = 0
  · subst e; exact .inl hf
  · exact .inr ⟨by omega, h⟩
theorem smB_hi {n : Int} (h : 128 ≤ n) : smB n = false := by simp [smB]; omega
theorem dgB_hi {n : Int} (h : 128 ≤ n) : dgB n = false := by simp [dgB]; omega

set_option maxHeartbeats 1000000 in
theorem specIsName_any (s : ByteArray) (w : World) (hs : s.size ≤ maxLen) :
    Calls Try.prog 19 #[.string s] w fun e w' => e = .returned (.bool (nameB s)) ∧ w = w' := by
  unfold maxLen at hs
  by_cases h0 : s.size = 0
  · obtain rfl : s = ByteArray.empty := ByteArray.size_eq_zero_iff.1 h0
    go_enter Try.func19, Try.ntmps19
    go_wp2
    all_goals (go_ret; exact ⟨ret_bool (nameB_false fun g => by have := g.1; simp at this).symm, rfl⟩)
  have hp : 0 < s.size := by omega
  have hne : s.toList.isEmpty = false := toList_ne hp
  have hne2 : ¬ s.toList = [] := by simpa using hne
  by_cases h12 : 12 < s.size
  · go_enter Try.func19, Try.ntmps19
    go_wp2
    all_goals (go_ret; exact ⟨ret_bool (nameB_false fun g => by have := g.2.1; omega).symm, rfl⟩)
  have h12' : (s.size : Int) ≤ 12 := by omega
  cases hf : smB (s[0].toNat : Int) with
  | false =>
    go_enter Try.func19, Try.ntmps19
    go_wp2_with (go_at_call 39; refine (l01Small_any _ _).mono ?_; rintro e w' ⟨rfl, rfl⟩)
    go_ret
    exact ⟨ret_bool (nameB_false (bad_at hp (by simp [okAt, hf]))).symm, rfl⟩
  | true =>
    go_enter Try.func19, Try.ntmps19
    go_wp2_with (go_at_call 39; refine (l01Small_any _ _).mono ?_; rintro e w' ⟨rfl, rfl⟩)
    have HF := Lib.hid hf
    clear hf
    go_loop [3] (fun i => ∃ k : Nat, k ≤ s.size ∧ i = .int .i64 k ∧ ∀ (j : Nat) (h : j < s.size), j < k → okAt s j h) (fun i => s.size - (intOf i).toNat)
    case atStart => exact ⟨0, Nat.zero_le _, rfl, fun j h hj => absurd hj (Nat.not_lt_zero _)⟩
    case round =>
      obtain ⟨k, hk, rfl, hok⟩ := hrel
      have HOK := Lib.hid hok
      clear hok
      by_cases hlt : k < s.size
      · have hlt' : (k : Int) < (s.size : Int) := by omega
        cases h1 : smB (s[k].toNat : Int) with
        | true =>
          go_wp2_with (go_at_call 39; refine (l01Small_any _ _).mono ?_; rintro e w' ⟨rfl, rfl⟩)
          go_round
          case rel => exact ⟨k + 1, by omega, by go_num, step_ok hlt HOK.out (.inl h1)⟩
          case measure => simp [intOf]; omega
        | false =>
          cases h2 : dgB (s[k].toNat : Int) with
          | true =>
            go_wp2_with (first | (go_at_call 39; refine (l01Small_any _ _).mono ?_; rintro e w' ⟨rfl, rfl⟩) | (go_at_call 40; refine (l01Digit_any _ _).mono ?_; rintro e w' ⟨rfl, rfl⟩))
            go_round
            case rel => exact ⟨k + 1, by omega, by go_num, step_ok hlt HOK.out (tail_ok hlt HF.out (.inl h2))⟩
            case measure => simp [intOf]; omega
          | false =>
            by_cases h3 : s[k].toNat = 45
            · have h3a : (((s[k].toNat : Nat) : Int) != 45) = false := by simp [h3]
              have H3 := Lib.hid h3
              clear h3
              go_wp2_with (first | (go_at_call 39; refine (l01Small_any _ _).mono ?_; rintro e w' ⟨rfl, rfl⟩) | (go_at_call 40; refine (l01Digit_any _ _).mono ?_; rintro e w' ⟨rfl, rfl⟩))
              go_round
              case rel => exact ⟨k + 1, by omega, by go_num, step_ok hlt HOK.out (tail_ok hlt HF.out (.inr H3.out))⟩
              case measure => simp [intOf]; omega
            · have h3a : (((s[k].toNat : Nat) : Int) != 45) = true := by simp; omega
              go_wp2_with (first | (go_at_call 39; refine (l01Small_any _ _).mono ?_; rintro e w' ⟨rfl, rfl⟩) | (go_at_call 40; refine (l01Digit_any _ _).mono ?_; rintro e w' ⟨rfl, rfl⟩))
              go_ret
              exact ⟨ret_bool (nameB_false (bad_at hlt (by simp [okAt, h1, h2, h3]))).symm, rfl⟩
      · go_wp2
        go_ret
        exact ⟨ret_bool (nameB_true ⟨by omega, by omega, fun i h => HOK.out i h (by omega)⟩).symm, rfl⟩

set_option maxHeartbeats 1000000 in
theorem implIsName_any (s : ByteArray) (w : World) (hs : s.size ≤ maxLen) :
    Calls Try.prog 20 #[.string s] w fun e w' => e = .returned (.bool (nameB s)) ∧ Below w.heap.size w w' := by
  unfold maxLen at hs
  by_cases h0 : s.size = 0
  · have h0' : (s.size : Int) < 1 := by omega
    go_enter Try.func20, Try.ntmps20
    go_wp2
    all_goals (go_ret; exact ⟨ret_bool (nameB_false fun g => by have := g.1; omega).symm, Below.refl _ _⟩)
  have h0' : 1 ≤ (s.size : Int) := by omega
  by_cases h12 : 12 < s.size
  · have h12' : 12 < (s.size : Int) := by omega
    go_enter Try.func20, Try.ntmps20
    go_wp2
    all_goals (go_ret; exact ⟨ret_bool (nameB_false fun g => by have := g.2.1; omega).symm, Below.refl _ _⟩)
  have h12' : (s.size : Int) ≤ 12 := by omega
  go_enter Try.func20, Try.ntmps20
  go_wp2
  go_loopw [3, 4, 5] (fun _ _ _ w' => ∃ pos : Nat, w' = w.iter s pos ∧ pos ≤ s.size ∧ ∀ (j : Nat) (h : j < s.size), j < pos → okAt s j h) (fun _ _ _ w' => s.size - w'.iterPos w.heap.size)
  case atStart => exact ⟨0, rfl, Nat.zero_le _, fun j h hj => absurd hj (Nat.not_lt_zero _)⟩
  case round =>
    obtain ⟨pos, rfl, hps, hok⟩ := hrel
    have HOK := Lib.hid hok
    clear hok
    by_cases hp : pos < s.size
    · by_cases ha : s[pos].toNat < 128
      · have hnx : ∀ ty, (Instr.next (.pointer (some ⟨w.heap.size, 0, none⟩)) true ty).run Try.prog (w.iter s pos) = _ := fun ty => run_next_ascii w s pos ty hp ha
        cases h1 : smB (s[pos].toNat : Int) with
        | true =>
          by_cases hz : pos = 0
          · have HZ := Lib.hid hz
            have hz1 : (decide (0 < pos)) = false := by simp [hz]
            clear hz
            go_wp2_with (first | (go_at_call 42; refine (isSmallLetter_any _ _).mono ?_; rintro e w' ⟨rfl, rfl⟩) | (go_at_call 41; refine (isDigit_any _ _).mono ?_; rintro e w' ⟨rfl, rfl⟩))
            all_goals
              go_roundw
              case rel => exact ⟨pos + 1, rfl, by omega, step_ok hp HOK.out (.inl h1)⟩
              case measure => simp; omega
          · have hz1 : 0 < pos := by omega
            go_wp2_with (first | (go_at_call 42; refine (isSmallLetter_any _ _).mono ?_; rintro e w' ⟨rfl, rfl⟩) | (go_at_call 41; refine (isDigit_any _ _).mono ?_; rintro e w' ⟨rfl, rfl⟩))
            all_goals
              go_roundw
              case rel => exact ⟨pos + 1, rfl, by omega, step_ok hp HOK.out (.inl h1)⟩
              case measure => simp; omega
        | false =>
          by_cases hz : pos = 0
          · have HZ := Lib.hid hz
            have hz1 : (decide (0 < pos)) = false := by simp [hz]
            clear hz
            go_wp2_with (first | (go_at_call 42; refine (isSmallLetter_any _ _).mono ?_; rintro e w' ⟨rfl, rfl⟩) | (go_at_call 41; refine (isDigit_any _ _).mono ?_; rintro e w' ⟨rfl, rfl⟩))
            all_goals (go_ret; exact ⟨ret_bool (nameB_false (bad_at hp (not_ok_first hp h1 HZ.out))).symm, (Below.refl _ _).alloc (Nat.le_refl _) _⟩)
          · have hz1 : 0 < pos := by omega
            cases h2 : dgB (s[pos].toNat : Int) with
            | true =>
              go_wp2_with (first | (go_at_call 42; refine (isSmallLetter_any _ _).mono ?_; rintro e w' ⟨rfl, rfl⟩) | (go_at_call 41; refine (isDigit_any _ _).mono ?_; rintro e w' ⟨rfl, rfl⟩))
              all_goals
                go_roundw
                case rel => exact ⟨pos + 1, rfl, by omega, step_ok hp HOK.out (.inr ⟨hz1, .inl h2⟩)⟩
                case measure => simp; omega
            | false =>
              by_cases h3 : s[pos].toNat = 45
              · have h3a : (((s[pos].toNat : Nat) : Int) == 45) = true := by simp [h3]
                have H3 := Lib.hid h3
                clear h3
                go_wp2_with (first | (go_at_call 42; refine (isSmallLetter_any _ _).mono ?_; rintro e w' ⟨rfl, rfl⟩) | (go_at_call 41; refine (isDigit_any _ _).mono ?_; rintro e w' ⟨rfl, rfl⟩))
                all_goals
                  go_roundw
                  case rel => exact ⟨pos + 1, rfl, by omega, step_ok hp HOK.out (.inr ⟨hz1, .inr H3.out⟩)⟩
                  case measure => simp; omega
              · have h3a : (((s[pos].toNat : Nat) : Int) == 45) = false := by simp; omega
                go_wp2_with (first | (go_at_call 42; refine (isSmallLetter_any _ _).mono ?_; rintro e w' ⟨rfl, rfl⟩) | (go_at_call 41; refine (isDigit_any _ _).mono ?_; rintro e w' ⟨rfl, rfl⟩))
                all_goals (go_ret; exact ⟨ret_bool (nameB_false (bad_at hp (by simp [okAt, h1, h2, h3]))).symm, (Below.refl _ _).alloc (Nat.le_refl _) _⟩)
      · have hnx : ∀ ty, (Instr.next (.pointer (some ⟨w.heap.size, 0, none⟩)) true ty).run Try.prog (w.iter s pos) = _ := fun ty => run_next_any w s pos ty hp
        have hd := decode_high s pos hp (by omega)
        have hb : ¬ okAt s pos hp := not_ok_hi hp (by omega)
        have HB := Lib.hid hb
        clear hb
        generalize Utf8.decode s pos = rw at *
        obtain ⟨r, wd⟩ := rw
        have h1 : smB (r : Int) = false := smB_hi (by have := hd.1; simp at this; omega)
        have h2 : dgB (r : Int) = false := dgB_hi (by have := hd.1; simp at this; omega)
        have h3 : ((r : Int) == 45) = false := by have := hd.1; simp at this ⊢; omega
        by_cases hz : pos = 0
        · have hz1 : (decide (0 < pos)) = false := by simp [hz]
          clear hz
          go_wp2_with (first | (go_at_call 42; refine (isSmallLetter_any _ _).mono ?_; rintro e w' ⟨rfl, rfl⟩) | (go_at_call 41; refine (isDigit_any _ _).mono ?_; rintro e w' ⟨rfl, rfl⟩))
          all_goals (go_ret; exact ⟨ret_bool (nameB_false (bad_at hp HB.out)).symm, (Below.refl _ _).alloc (Nat.le_refl _) _⟩)
        · have hz1 : 0 < pos := by omega
          go_wp2_with (first | (go_at_call 42; refine (isSmallLetter_any _ _).mono ?_; rintro e w' ⟨rfl, rfl⟩) | (go_at_call 41; refine (isDigit_any _ _).mono ?_; rintro e w' ⟨rfl, rfl⟩))
          all_goals (go_ret; exact ⟨ret_bool (nameB_false (bad_at hp HB.out)).symm, (Below.refl _ _).alloc (Nat.le_refl _) _⟩)
    · have hnx : ∀ ty, (Instr.next (.pointer (some ⟨w.heap.size, 0, none⟩)) true ty).run Try.prog (w.iter s pos) = _ := fun ty => run_next_end w s pos ty hp
      go_wp2
      go_ret
      exact ⟨ret_bool (nameB_true ⟨by omega, by omega, fun i h => HOK.out i h (by omega)⟩).symm, (Below.refl _ _).alloc (Nat.le_refl _) _⟩

end Go.Proofs.Ytdbjfadnfbpoeaa.names
