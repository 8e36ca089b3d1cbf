/- The words of a text: the library's fields at a blank are the parts that are not empty. No program stands here. -/
import Derived.Test.YtpekchihdmhkkaaSplit
import Derived.Lib.FieldsP
import Derived.Lib.TrimUEq
import Derived.Lib.SpaceUEq
import Derived.Lib.RuneCount
import Derived.Laws.RangeAny
namespace Go.Proofs.Ytpekchihdmhkkaa.split
open Go

/-- The parts without blanks. -/
def wordsL (l : List UInt8) : List (List UInt8) := (splitL 32 l).filter fun p => !p.isEmpty
theorem wordsL_nil : wordsL [] = [] := rfl
theorem wordsL_skip (r : List UInt8) : wordsL (32 :: r) = wordsL r := by simp [wordsL, splitL]
theorem wordsL_at (p r : List UInt8) (hp : p ≠ []) (h : (32 : UInt8) ∉ p) : wordsL (p ++ 32 :: r) = p :: wordsL r := by
  cases p with
  | nil => exact absurd rfl hp
  | cons a p =>
    unfold wordsL
    rw [splitL_at 32 (a :: p) r h]
    simp
theorem wordsL_last (p : List UInt8) (hp : p ≠ []) (h : (32 : UInt8) ∉ p) : wordsL p = [p] := by
  cases p with
  | nil => exact absurd rfl hp
  | cons a p =>
    unfold wordsL
    rw [splitL_no 32 (a :: p) h]
    simp
/-- The bytes of a rune that begins with a byte from 128 on are all from 128 on, and they are there. -/
theorem rune_bytes (s : ByteArray) (pos : Nat) (h : pos < s.size) (ha : 128 ≤ s[pos].toNat) (j : Nat) (hj : j < (Utf8.decode s pos).2) :
    pos + j < s.size ∧ 128 ≤ ((s.data.toList.drop pos).getD j 0).toNat := by
  have e := Lib.decodeL_drop s pos
  rw [← e, Lib.decodeL_N] at hj
  have hc := Lib.decodeN_conts (s.data.toList.drop pos).length ((s.data.toList.drop pos).getD 0 0).toNat ((s.data.toList.drop pos).getD 1 0).toNat ((s.data.toList.drop pos).getD 2 0).toNat ((s.data.toList.drop pos).getD 3 0).toNat
  have hlen : (s.data.toList.drop pos).length = s.size - pos := by simp
  have h0 : (s.data.toList.drop pos).getD 0 0 = s[pos] := by rw [drop_cons s pos h]; rfl
  obtain ⟨c1, c2, c3, c4⟩ := hc
  rw [hlen] at c1 c2 c3 c4 hj
  have hj4 : j < 4 := by omega
  match j, hj4 with
  | 0, _ => rw [h0]; exact ⟨h, ha⟩
  | 1, _ => obtain ⟨d1, d2⟩ := c1 (by omega); exact ⟨by omega, by omega⟩
  | 2, _ => obtain ⟨d1, d2⟩ := c2 (by omega); exact ⟨by omega, by omega⟩
  | 3, _ => obtain ⟨d1, d2⟩ := c3 (by omega); exact ⟨by omega, by omega⟩
def isSp (r : Nat) : Bool := r == 32
theorem byte_ne {x : UInt8} (h : x.toNat ≠ 32) : (32 : UInt8) ≠ x := fun e => h (by rw [← e]; rfl)
/-- Between a place and the next rune's there is no blank, if the rune is none. -/
theorem no_blank (s : ByteArray) (pos : Nat) (h : pos < s.size) (hr : isSp (Utf8.decode s pos).1 = false) :
    pos + (Utf8.decode s pos).2 ≤ s.size ∧ (32 : UInt8) ∉ (s.data.toList.drop pos).take (Utf8.decode s pos).2 := by
  by_cases ha : s[pos].toNat < 128
  · have e := decode_ascii s pos h ha
    rw [e] at hr ⊢
    refine ⟨by show pos + 1 ≤ s.size; omega, ?_⟩
    show (32 : UInt8) ∉ (s.data.toList.drop pos).take 1
    rw [drop_cons s pos h]
    simp only [List.take_succ_cons, List.take_zero, List.mem_singleton]
    exact byte_ne (by simpa [isSp] using hr)
  · have hw := rune_bytes s pos h (by omega)
    have hpos := Lib.decode_width_pos s pos h
    generalize (Utf8.decode s pos).2 = w at *
    refine ⟨by have := (hw (w - 1) (by omega)).1; omega, fun hm => ?_⟩
    obtain ⟨j, hj, e⟩ := List.getElem_of_mem hm
    have hj2 : j < w := by simp at hj; omega
    have := (hw j hj2).2
    rw [List.getElem_take] at e
    have e2 : (s.data.toList.drop pos).getD j 0 = 32 := by
      rw [List.getD_eq_getElem?_getD, List.getElem?_eq_getElem (by simp at hj ⊢; omega), e]; rfl
    rw [e2] at this
    exact absurd this (by decide)
theorem blank_step (s : ByteArray) (pos : Nat) (h : pos < s.size) (hr : isSp (Utf8.decode s pos).1 = true) : (Utf8.decode s pos).2 = 1 ∧ s.data.toList.drop pos = 32 :: s.data.toList.drop (pos + 1) := by
  have ha : s[pos].toNat < 128 := by
    rcases Nat.lt_or_ge s[pos].toNat 128 with h1 | h1
    · exact h1
    · have := (decode_high s pos h h1).1
      simp [isSp] at hr
      omega
  have e := decode_ascii s pos h ha
  rw [e] at hr ⊢
  have hb : s[pos].toNat = 32 := by simpa [isSp] using hr
  exact ⟨rfl, by rw [drop_cons s pos h]; congr 1; exact UInt8.toNat_inj.1 (by rw [hb]; rfl)⟩
def exts (s : ByteArray) (l : List (Nat × Nat)) : List (List UInt8) := l.map fun x => (s.extract x.1 x.2).data.toList
theorem piece (s : ByteArray) (a pos : Nat) (h : a ≤ pos) : s.data.toList.drop a = (s.data.toList.drop a).take (pos - a) ++ s.data.toList.drop pos := by
  have : s.data.toList.drop pos = (s.data.toList.drop a).drop (pos - a) := by rw [List.drop_drop]; congr 1; omega
  rw [this, List.take_append_drop]
theorem take_more (s : ByteArray) (a pos w : Nat) (h : a ≤ pos) : (s.data.toList.drop a).take (pos + w - a) = (s.data.toList.drop a).take (pos - a) ++ (s.data.toList.drop pos).take w := by
  have e : pos + w - a = (pos - a) + w := by omega
  have : s.data.toList.drop pos = (s.data.toList.drop a).drop (pos - a) := by rw [List.drop_drop]; congr 1; omega
  rw [e, List.take_add, this]
theorem spans_words (s : ByteArray) : ∀ (f pos : Nat) (st : Option Nat) (acc : List (Nat × Nat)), s.size ≤ pos + f → pos ≤ s.size →
    (∀ a, st = some a → a < pos ∧ (32 : UInt8) ∉ (s.data.toList.drop a).take (pos - a)) →
    exts s (Lib.closeSpans s (Lib.spansFromP isSp s f pos st acc)) = exts s acc ++ wordsL (s.data.toList.drop (st.getD pos)) := by
  intro f
  induction f with
  | zero =>
    intro pos st acc hf hp hst
    obtain rfl : pos = s.size := by omega
    cases st with
    | none =>
      have e : s.data.toList.drop s.size = [] := List.drop_of_length_le (by simp)
      simp only [Option.getD_none, e, wordsL_nil]
      simp [Lib.spansFromP, Lib.closeSpans]
    | some a =>
      obtain ⟨h1, h2⟩ := hst a rfl
      have e : (s.data.toList.drop a).take (s.size - a) = s.data.toList.drop a := List.take_of_length_le (by simp)
      rw [e] at h2
      have hne : s.data.toList.drop a ≠ [] := by intro e2; have := congrArg List.length e2; simp at this; omega
      simp only [Lib.spansFromP, Lib.closeSpans, Option.getD_some, wordsL_last _ hne h2]
      simp [exts, e]
  | succ f ih =>
    intro pos st acc hf hp hst
    by_cases hlt : pos < s.size
    · cases hr : isSp (Utf8.decode s pos).1 with
      | true =>
        obtain ⟨hw, hd⟩ := blank_step s pos hlt hr
        cases st with
        | none =>
          have := ih (pos + 1) none acc (by omega) (by omega) (fun a h => by cases h)
          simp only [Lib.spansFromP, hlt, if_true, hr, hw]
          rw [this]
          simp only [Option.getD_none]
          rw [hd, wordsL_skip]
        | some a =>
          obtain ⟨h1, h2⟩ := hst a rfl
          have := ih (pos + 1) none (acc ++ [(a, pos)]) (by omega) (by omega) (fun a h => by cases h)
          simp only [Lib.spansFromP, hlt, if_true, hr, hw]
          rw [this]
          simp only [Option.getD_none, Option.getD_some]
          have hne : (s.data.toList.drop a).take (pos - a) ≠ [] := by intro e2; have := congrArg List.length e2; simp at this; omega
          rw [piece s a pos (by omega), hd, wordsL_at _ _ hne h2]
          simp [exts]
      | false =>
        obtain ⟨h3, h4⟩ := no_blank s pos hlt hr
        have hw := Lib.decode_width_pos s pos hlt
        cases st with
        | none =>
          have := ih (pos + (Utf8.decode s pos).2) (some pos) acc (by omega) h3 (fun a h => by cases h; exact ⟨by omega, by rw [Nat.add_sub_cancel_left]; exact h4⟩)
          simp only [Lib.spansFromP, hlt, if_true, hr]
          simpa using this
        | some a =>
          obtain ⟨h1, h2⟩ := hst a rfl
          have := ih (pos + (Utf8.decode s pos).2) (some a) acc (by omega) h3 (fun b h => by
            cases h
            refine ⟨by omega, ?_⟩
            rw [take_more s a pos _ (by omega)]
            intro hm
            rcases List.mem_append.1 hm with hm | hm
            · exact h2 hm
            · exact h4 hm)
          simp only [Lib.spansFromP, hlt, if_true, hr]
          simpa using this
    · obtain rfl : pos = s.size := by omega
      rw [Lib.spansFromP_end _ _ _ _ _ _ hlt]
      have := ih s.size st acc (by omega) (Nat.le_refl _) hst
      rwa [Lib.spansFromP_end _ _ _ _ _ _ hlt] at this
theorem fields_words (s : ByteArray) : lists (Lib.goFieldsP isSp s) = wordsL s.data.toList := by
  have := spans_words s s.size 0 none [] (by omega) (Nat.zero_le _) (fun a h => by cases h)
  simp only [Option.getD_none, List.drop_zero] at this
  have e : lists (Lib.goFieldsP isSp s) = exts s (Lib.spansOfP isSp s) := by simp [lists, exts, Lib.goFieldsP]
  rw [e]
  exact this.trans (by simp [exts])
end Go.Proofs.Ytpekchihdmhkkaa.split
