/- The first of two letters in a text: contracts of strings.IndexFunc with the bound method of the program. -/
import Derived.Test.YtbnihalbepffoaaDoorParts
import Derived.Lib.OthersKept
import Derived.Lib.SpaceUEq
import Derived.Lib.TrimUEq
import Derived.Laws.RangeAny
import Derived.Deep.LoopGhost
namespace Go.Proofs.YtbnihalbepffoaaDoor.dec
open Go.ChangeShapes Go.WideShapes Go.ChangeAt Go.RowKit Go.Proofs.YtbnihalbepffoaaDoor.num Go.Proofs.YtbnihalbepffoaaDoor.bld

/-- Ahead of k there is neither of the two letters. -/
def Free (p m : UInt8) (s : ByteArray) (k : Nat) : Prop := ∀ (j : Nat) (h : j < s.size), j < k → s[j] ≠ p ∧ s[j] ≠ m
theorem getD_at (s : ByteArray) (j : Nat) (h : j < s.size) : s.data.toList.getD j 0 = s[j] := by
  cases s with
  | mk d =>
    have hd : j < d.size := h
    show d.toList.getD j 0 = d[j]
    simp [List.getD, hd]
theorem conts (s : ByteArray) (pos : Nat) : ∀ j, 1 ≤ j → j < (Utf8.decode s pos).2 → ∃ h : pos + j < s.size, 128 ≤ (s[pos + j]'h).toNat := by
  intro j h1 h2
  have hs : s.data.toList.length = s.size := by simp
  have hc := Lib.decodeN_conts (s.data.toList.length - pos) (s.data.toList.getD pos 0).toNat (s.data.toList.getD (pos + 1) 0).toNat (s.data.toList.getD (pos + 2) 0).toNat (s.data.toList.getD (pos + 3) 0).toNat
  rw [← Lib.decode_N] at hc
  obtain ⟨c1, c2, c3, c4⟩ := hc
  have : j = 1 ∨ j = 2 ∨ j = 3 := by omega
  rcases this with rfl | rfl | rfl
  · obtain ⟨e, l⟩ := c1 (by omega)
    have hl : pos + 1 < s.size := by omega
    rw [getD_at s _ hl] at e
    exact ⟨hl, by omega⟩
  · obtain ⟨e, l⟩ := c2 (by omega)
    have hl : pos + 2 < s.size := by omega
    rw [getD_at s _ hl] at e
    exact ⟨hl, by omega⟩
  · obtain ⟨e, l⟩ := c3 (by omega)
    have hl : pos + 3 < s.size := by omega
    rw [getD_at s _ hl] at e
    exact ⟨hl, by omega⟩
def hasB (p m : UInt8) (x : Nat) : Bool := decide (x = p.toNat) || decide (x = m.toNat)
/-- A rune that is no letter: its bytes are none. -/
theorem free_step {p m : UInt8} {s : ByteArray} {pos : Nat} (hp : p.toNat < 128) (hm : m.toNat < 128) (h : pos < s.size) (hf : Free p m s pos) (hb : hasB p m (Utf8.decode s pos).1 = false) : Free p m s (pos + (Utf8.decode s pos).2) := by
  intro j hj hk
  by_cases h1 : j < pos
  · exact hf j hj h1
  by_cases h0 : s[pos].toNat < 128
  · have hd := decode_ascii s pos h h0
    rw [hd] at hk hb
    obtain rfl : j = pos := by simp at hk; omega
    simp [hasB] at hb
    exact ⟨fun e => hb.1 (by rw [e]), fun e => hb.2 (by rw [e])⟩
  · have h128 : 128 ≤ s[j].toNat := by
      by_cases he : j = pos
      · subst he; omega
      · obtain ⟨hl, h2⟩ := conts s pos (j - pos) (by omega) (by omega)
        have ej : pos + (j - pos) = j := by omega
        simp only [ej] at h2
        exact h2
    exact ⟨fun e => by rw [e] at h128; omega, fun e => by rw [e] at h128; omega⟩
theorem free_hit {p m : UInt8} {s : ByteArray} {pos : Nat} (hp : p.toNat < 128) (hm : m.toNat < 128) (h : pos < s.size) (hb : hasB p m (Utf8.decode s pos).1 = true) : s[pos] = p ∨ s[pos] = m := by
  by_cases h0 : s[pos].toNat < 128
  · rw [decode_ascii s pos h h0] at hb
    simp [hasB] at hb
    rcases hb with e | e
    · exact .inl (UInt8.toNat_inj.1 e)
    · exact .inr (UInt8.toNat_inj.1 e)
  · have := (decode_high s pos h (by omega)).1
    simp [hasB] at hb
    omega
/-- What is found. -/
def Found (p m : UInt8) (s : ByteArray) (i : Int) : Prop := (i = -1 ∧ Free p m s s.size) ∨ ∃ k : Nat, i = k ∧ ∃ h : k < s.size, (s[k] = p ∨ s[k] = m) ∧ Free p m s k

set_option maxHeartbeats 400000 in
theorem has_any (p m : UInt8) (x : Nat) (W : World) :
    Calls Tryd.prog 97 #[.agg #[.int .i32 (p.toNat : Int), .int .i32 (m.toNat : Int)], .int .i32 (x : Int)] W fun e w' => e = .returned (.bool (hasB p m x)) ∧ Below W.heap.size W w' := by
  have e1 : ((x : Int) == (p.toNat : Int)) = decide (x = p.toNat) := by rw [Bool.eq_iff_iff]; simp; omega
  have e2 : ((x : Int) == (m.toNat : Int)) = decide (x = m.toNat) := by rw [Bool.eq_iff_iff]; simp; omega
  by_cases h1 : x = p.toNat
  · have hb : hasB p m x = true := by simp [hasB, h1]
    rw [hb]
    have h1' : (x : Int) = (p.toNat : Int) := by omega
    go_enter Tryd.func97, Tryd.ntmps97
    go_wp2
    all_goals (go_ret; exact ⟨rfl, (Below.refl _ _).alloc (Nat.le_refl _) _⟩)
  · have h1' : ¬ (x : Int) = (p.toNat : Int) := by omega
    by_cases h2 : x = m.toNat
    · have hb : hasB p m x = true := by simp [hasB, h2]
      rw [hb]
      have h2' : (x : Int) = (m.toNat : Int) := by omega
      go_enter Tryd.func97, Tryd.ntmps97
      go_wp2
      all_goals (go_ret; exact ⟨rfl, (Below.refl _ _).alloc (Nat.le_refl _) _⟩)
    · have hb : hasB p m x = false := by simp [hasB, h1, h2]
      rw [hb]
      have h2' : ¬ (x : Int) = (m.toNat : Int) := by omega
      go_enter Tryd.func97, Tryd.ntmps97
      go_wp2
      all_goals (go_ret; exact ⟨rfl, (Below.refl _ _).alloc (Nat.le_refl _) _⟩)

set_option maxRecDepth 100000 in
set_option maxHeartbeats 2000000 in
theorem indexFunc_any (p m : UInt8) (hp : p.toNat < 128) (hm : m.toNat < 128) (s : ByteArray) (w : World) :
    Calls Tryd.prog 122 #[.string s, .func (.func 97) #[.agg #[.int .i32 (p.toNat : Int), .int .i32 (m.toNat : Int)]] #[], .bool true] w fun e w' => ∃ i : Int, e = .returned (.int .i64 i) ∧ Found p m s i ∧ Below w.heap.size w w' := by
  have eg : ∀ args w, (callFunc 97 args).run Tryd.prog w = .ok (.enter 97 args) w := enters_of Tryd.func97 (by kernel_rfl) rfl
  go_enter Tryd.func122, Tryd.ntmps122
  go_wp2
  go_loopg [] s.size (fun gf wx => ∃ pos : Nat, wx.heap[w.heap.size]? = some (.stringIter s pos) ∧ Below w.heap.size w wx ∧ Free p m s pos ∧ s.size ≤ pos + gf)
  case atStart => exact ⟨0, World.iter_heap w s 0, (Below.refl _ w).alloc (Nat.le_refl _) _, fun j _ hj => absurd hj (Nat.not_lt_zero _), by omega⟩
  case round =>
    obtain ⟨pos, hit, hbw, hfree, hfu⟩ := hrel
    have HF := Lib.hid hfree
    have HBW := Lib.hid hbw
    clear hfree
    by_cases hps : pos < s.size
    · obtain ⟨g', rfl⟩ : ∃ g', gk = g' + 1 := ⟨gk - 1, by omega⟩
      have hnx : ∀ ty, (Instr.next (.pointer (some ⟨w.heap.size, 0, none⟩)) true ty).run Tryd.prog wr = _ := fun ty => Lib.run_next_any_at wr w.heap.size s pos ty hit hps
      have hwd := Lib.width_pos s pos
      have HS := Lib.hid (fun g => free_step hp hm hps HF.out g)
      have HH := Lib.hid (fun g => free_hit hp hm hps g)
      obtain ⟨R, hR⟩ : ∃ R, (Utf8.decode s pos).1 = R := ⟨_, rfl⟩
      obtain ⟨K, hK⟩ : ∃ K, (Utf8.decode s pos).2 = K := ⟨_, rfl⟩
      rw [hR, hK] at hnx
      rw [hK] at hwd
      rw [hR, hK] at HS
      rw [hR] at HH
      have hit2 := Lib.iterAt_heap wr w.heap.size s pos (pos + K) hit
      have hbw2 := Lib.below_iterAt hbw (k := w.heap.size) (Nat.le_refl _) s (pos + K)
      obtain ⟨W, hWd⟩ : ∃ W, wr.iterAt w.heap.size s (pos + K) = W := ⟨_, rfl⟩
      rw [hWd] at hnx hit2 hbw2
      have hWs : w.heap.size < W.heap.size := (Array.getElem?_eq_some_iff.1 hit2).1
      have HC := Lib.hid (has_any p m R W)
      have HB2 := Lib.hid hbw2
      have HI2 := Lib.hid hit2
      clear hbw2 hit2 hit hbw hWd
      cases hsp : hasB p m R
      · go_wp2_with fail
        refine HC.out.mono ?_
        rintro e W' ⟨rfl, hb⟩
        rw [hsp]
        have HBb := Lib.hid hb
        clear hb
        go_wp2
        go_roundg g'
        case measure => omega
        case rel => exact ⟨pos + K, by rw [HBb.out.block _ hWs]; exact HI2.out, HB2.out.trans (HBb.out.mono HB2.out.size), HS.out hsp, by omega⟩
      · go_wp2_with fail
        refine HC.out.mono ?_
        rintro e W' ⟨rfl, hb⟩
        rw [hsp]
        have HBb := Lib.hid hb
        clear hb
        go_wp2
        go_ret
        exact ⟨_, rfl, .inr ⟨pos, rfl, hps, HH.out hsp, HF.out⟩, HB2.out.trans (HBb.out.mono HB2.out.size)⟩
    · have hnx : ∀ ty, (Instr.next (.pointer (some ⟨w.heap.size, 0, none⟩)) true ty).run Tryd.prog wr = _ := fun ty => Lib.run_next_end_at wr w.heap.size s pos ty hit hps
      go_wp2
      go_ret
      exact ⟨-1, rfl, .inl ⟨rfl, fun j h hj => HF.out j h (by omega)⟩, HBW.out⟩

set_option maxHeartbeats 400000 in
theorem IndexFunc_any (p m : UInt8) (hp : p.toNat < 128) (hm : m.toNat < 128) (s : ByteArray) (w : World) :
    Calls Tryd.prog 96 #[.string s, .func (.func 97) #[.agg #[.int .i32 (p.toNat : Int), .int .i32 (m.toNat : Int)]] #[]] w fun e w' => ∃ i : Int, e = .returned (.int .i64 i) ∧ Found p m s i ∧ Below w.heap.size w w' := by
  go_enter Tryd.func96, Tryd.ntmps96
  go_wp2_with fail
  refine (indexFunc_any p m hp hm s w).mono ?_
  rintro e w' ⟨i, rfl, hf, hb⟩
  have HF := Lib.hid hf
  have HB := Lib.hid hb
  clear hf hb
  go_wp2
  go_ret
  exact ⟨i, rfl, HF.out, HB.out⟩
end Go.Proofs.YtbnihalbepffoaaDoor.dec
