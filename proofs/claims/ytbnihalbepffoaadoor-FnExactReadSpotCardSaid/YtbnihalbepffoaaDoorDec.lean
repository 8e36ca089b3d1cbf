/- The decimal form of a number: the model's function gives the numeral. -/
import Derived.Test.YtbnihalbepffoaaDoorDLift
import Derived.Deep.QuietTactic
import Derived.BigQuiet
import Derived.Lib.Hide
import Derived.LoopTactic
import Derived.OwnWalk
import Derived.Laws.AppendOwn
import Derived.Laws.OwnMore
import Derived.Laws.IdiomStrings
import Derived.Lib.ItoaNum
import Derived.Lib.ItoaLen
import Derived.IntWalk
import Derived.Deep.DeepMust
namespace Go.Proofs.YtbnihalbepffoaaDoor.dec
open Go.ChangeShapes Go.WideShapes Go.ChangeAt Go.RowKit

/-- The digits of a number; none for 0. -/
def digs (u : Nat) : List UInt8 := if u = 0 then [] else Lib.decDigits u
theorem digs_zero : digs 0 = [] := rfl
theorem digs_step {u : Nat} (h : 0 < u) : digs u = digs (u / 10) ++ [UInt8.ofNat (48 + u % 10)] := by
  unfold digs
  rw [if_neg (by omega)]
  by_cases h1 : u < 10
  · rw [if_pos (by omega), Lib.decDigits, dif_pos h1, Nat.mod_eq_of_lt h1]; rfl
  · rw [if_neg (by omega), Lib.decDigits, dif_neg h1]
theorem dec_ne (u : Nat) : Lib.decDigits u ≠ [] := by
  rw [Lib.decDigits]
  split <;> simp
theorem zero_text {N : Nat} (h : N = 0) : ([48] : List UInt8) = Lib.itoa (N : Int) := by
  subst h
  rw [Lib.itoa, if_neg (by decide), Lib.decDigits, dif_pos (by decide)]
  rfl
theorem ret_str {a b : List UInt8} (h : a = b) : Ending.returned (.string ⟨a.toArray⟩) = .returned (.string ⟨b.toArray⟩) := by rw [h]
def bc (l : List UInt8) : List Value := l.map fun b => Value.int .u8 (b.toNat : Int)
theorem bc_len (l : List UInt8) : (bc l).length = l.length := by simp [bc]
theorem bc_one (l : List UInt8) : ∀ u ∈ bc l, u.oneCell' = true := by
  intro u hu
  simp only [bc, List.mem_map] at hu
  obtain ⟨b, _, rfl⟩ := hu
  rfl
theorem digs_len (N : Nat) (h : N ≤ 9223372036854775808) : (digs N).length ≤ 21 := by
  unfold digs
  split
  · simp
  · have e := Lib.itoa_length_le (-(N : Int)) (by omega) (by omega)
    rw [Lib.itoa, if_pos (by omega)] at e
    simp at e
    omega
/-- What holds of the bytes collected so far. -/
def Inv (w wr : World) (N u : Nat) (v : Value) (l : List UInt8) : Prop :=
  digs u ++ l = digs N ∧ Below w.heap.size w wr ∧ (∃ g cap, v = .slice (some ⟨g, 0, none⟩) l.length cap) ∧ wr.ownsRow w.heap.size 5 1 v l.length (bc l)
theorem inv_start (w : World) (N : Nat) : Inv w (w.alloc (.cells #[] 5)) N N (.slice (some ⟨w.heap.size, 0, none⟩) 0 0) [] :=
  ⟨by simp, (Below.refl _ _).alloc (Nat.le_refl _) _, ⟨_, _, rfl⟩, World.ownsRow_made w #[] 0 (Nat.le_refl _) (by decide) rfl⟩
theorem inv_len {w wr : World} {N u : Nat} {v : Value} {l : List UInt8} (hN : N ≤ 9223372036854775808) (h : Inv w wr N u v l) : l.length ≤ 21 := by
  have := congrArg List.length h.1
  have := digs_len N hN
  simp at *
  omega
theorem dgt_toNat (u : Nat) : ((UInt8.ofNat (48 + u % 10)).toNat : Int) = 48 + (u : Int) % 10 := by
  rw [UInt8.toNat_ofNat']
  omega
theorem inv_step {w wr w1 : World} {N u : Nat} {v v1 : Value} {l : List UInt8} {c : Int} (hu : 0 < u) (hc : c = 48 + (u : Int) % 10) (h : Inv w wr N u v l)
    (hown : w1.ownsRow w.heap.size 5 1 v1 (1 + l.length) ([Value.int .u8 c] ++ bc l)) (hg : (wr.alloc (.cells #[.int .u8 c] 5)).grownBy w1 (some wr.heap.size)) (hnil : v1 = .slice none 0 0 → False) :
    Inv w w1 N (u / 10) v1 (UInt8.ofNat (48 + u % 10) :: l) := by
  obtain ⟨h1, h2, _, _⟩ := h
  have e : [Value.int .u8 c] ++ bc l = bc (UInt8.ofNat (48 + u % 10) :: l) := by
    simp only [bc, List.map_cons, dgt_toNat, ← hc]; rfl
  have e2 : 1 + l.length = (UInt8.ofNat (48 + u % 10) :: l).length := by simp; omega
  rw [e, e2] at hown
  refine ⟨?_, ?_, ?_, hown⟩
  · rw [← h1, digs_step hu]; simp
  · have hs := h2.size
    exact (h2.alloc hs _).grown hg (by simp; omega) (fun k hk => by obtain rfl := Option.some.inj hk; exact hs)
  · rcases hown.2 with ⟨hn, _⟩ | ⟨g, cap, cur, hv, _⟩
    · exact absurd hn hnil
    · exact ⟨g, cap, hv⟩

theorem info_u8 : (Tryd.prog.info? 5).map (fun i => (i.zero, i.size, i.bytes)) = some (some (.int .u8 0), 1, 1) := by kernel_rfl
set_option maxRecDepth 100000 in
set_option maxHeartbeats 1000000 in
theorem l01Dec_pos (N : Nat) (w : World) (hN : N ≤ 9223372036854775807) :
    Calls Tryd.prog 127 #[.int .i64 (N : Int)] w fun e w' => e = .returned (.string ⟨(Lib.itoa N).toArray⟩) ∧ Below w.heap.size w w' := by
  obtain ⟨i0, hi, hz0, hz1, hz2⟩ := info_parts info_u8
  go_enter Tryd.func127, Tryd.ntmps127
  go_wp2
  go_loopw [3, 4, 5] (fun v k _ wr => ∃ (u : Nat) (l : List UInt8), u ≤ N ∧ k = .int .i64 (u : Int) ∧ Inv w wr N u v l) (fun _ k _ _ => (intOf k).toNat)
  case atStart => exact ⟨N, [], Nat.le_refl _, rfl, inv_start w N⟩
  case round =>
    obtain ⟨u, l, hu, rfl, hinv⟩ := hrel
    have hl := inv_len (by omega) hinv
    obtain ⟨g, cap, hv⟩ := hinv.2.2.1
    subst hv
    have HI := Lib.hid hinv
    clear hinv
    by_cases h0 : u = 0
    · have h0a : ((u : Int) != 0) = false := by simp [h0]
      have el : l = digs N := by have := HI.out.1; rw [h0, digs_zero] at this; simpa using this
      have hb := HI.out.2.1
      have EL := Lib.hid el
      have HB := Lib.hid hb
      clear h0 el hb
      by_cases hN0 : N = 0
      · have e0 : ((l.length : Int) == 0) = true := by have := EL.out; rw [hN0, digs_zero] at this; simp [this]
        have HN0 := Lib.hid hN0
        clear hN0
        go_wp2
        go_ret
        exact ⟨ret_str (a := [48]) (zero_text HN0.out), HB.out⟩
      · have e0 : ((l.length : Int) == 0) = false := by
          have h2 : l ≠ [] := by rw [EL.out]; unfold digs; rw [if_neg hN0]; exact dec_ne N
          cases l with
          | nil => exact absurd rfl h2
          | cons a l => simp; omega
        have hcv : (convert 22 9 (.slice (some ⟨g, 0, none⟩) l.length cap)).run Tryd.prog wr = .ok (.string ⟨l.toArray⟩) wr :=
          run_convert_bytes_back wr 22 9 5 ⟨g, 0, none⟩ cap l Tryd.underlying22 Tryd.underlying5 Tryd.underlying9 (fun j hj => HI.out.2.2.2.cells rfl j _ (by simp [bc, hj]))
        go_wp2
        go_ret
        exact ⟨ret_str (by rw [EL.out, digs, if_neg hN0, Lib.itoa, if_neg (by omega)]; rfl), HB.out⟩
    · have h0a : ((u : Int) != 0) = true := by simp; omega
      have h0b : 0 < u := by omega
      have hs := HI.out.2.1.size
      have cc : IntKind.u8.wrap (48 + (u : Int) % 10) = 48 + (u : Int) % 10 := by simp [IntKind.wrap, IntKind.bits, IntKind.signed]; omega
      have hub : (u : Int) ≤ 9223372036854775807 := by omega
      have k2 : (bc l).length = l.length * 1 := by simp [bc]
      have K2 := Lib.hid k2
      have k3 : ∀ j u', (bc l)[j]? = some u' → (wr.alloc (.cells #[.int .u8 (48 + (u : Int) % 10)] 5)).cell? ((⟨g, 0, none⟩ : Addr).add j) = some u' := fun j u' hj => (HI.out.2.2.2.alloc _).cells rfl j u' hj
      have K3 := Lib.hid k3
      have k4 : 1 + l.length ≤ maxLen := by unfold maxLen; omega
      have K4 := Lib.hid k4
      have k5 : (1 + l.length) * 1 ≤ 140737488355328 := by omega
      have K5 := Lib.hid k5
      have k6 : w.heap.size ≤ (wr.alloc (.cells #[.int .u8 (48 + (u : Int) % 10)] 5)).heap.size := by simp; omega
      have K6 := Lib.hid k6
      have hN' := Lib.hid hN
      clear k2 k3 k4 k5 k6 hN
      go_wp2_with (at_builtin; go_must (refine wpList_append_own _ rfl _ _ 22 rfl w.heap.size 5 i0 (.int .u8 0) 1 1 Tryd.underlying22 hi hz0 hz1 hz2 rfl (by decide) _ 1 [.int .u8 (48 + (u : Int) % 10)] rfl (World.ownsRow_lit wr #[.int .u8 (48 + (u : Int) % 10)] 1 hs (by decide) rfl) ⟨g, 0, none⟩ l.length cap (bc l) rfl K2.out K3.out (bc_one l) K4.out K5.out K6.out ?_); intro v1 w1 hown1 hg1 hn1)
      go_roundw
      case rel => exact ⟨u / 10, UInt8.ofNat (48 + u % 10) :: l, by omega, by go_num, inv_step h0b rfl HI.out hown1 hg1 (fun e => by cases (hn1.1 e).1)⟩
      case measure => simp [intOf]; omega

theorem neg_mod (u : Nat) : (-(u : Int)).tmod 10 = -((u : Int) % 10) := by rw [Int.neg_tmod, Int.tmod_eq_emod_of_nonneg (by omega)]
theorem neg_div (u : Nat) : (-(u : Int)).tdiv 10 = -((u / 10 : Nat) : Int) := by rw [Int.neg_tdiv, Int.tdiv_eq_ediv_of_nonneg (by omega)]; rfl
set_option maxRecDepth 100000 in
set_option maxHeartbeats 1000000 in
theorem l01Dec_neg (N : Nat) (w : World) (hN : N ≤ 9223372036854775808) (hp : 0 < N) :
    Calls Tryd.prog 127 #[.int .i64 (-(N : Int))] w fun e w' => e = .returned (.string ⟨(Lib.itoa (-(N : Int))).toArray⟩) ∧ Below w.heap.size w w' := by
  obtain ⟨i0, hi, hz0, hz1, hz2⟩ := info_parts info_u8
  go_enter Tryd.func127, Tryd.ntmps127
  go_wp2
  go_loopw [3, 4, 5] (fun v k _ wr => ∃ (u : Nat) (l : List UInt8), u ≤ N ∧ k = .int .i64 (-(u : Int)) ∧ Inv w wr N u v l) (fun _ k _ _ => (-(intOf k)).toNat)
  case atStart => exact ⟨N, [], Nat.le_refl _, rfl, inv_start w N⟩
  case round =>
    obtain ⟨u, l, hu, rfl, hinv⟩ := hrel
    have hl := inv_len hN hinv
    obtain ⟨g, cap, hv⟩ := hinv.2.2.1
    subst hv
    have HI := Lib.hid hinv
    clear hinv
    by_cases h0 : u = 0
    · have h0a : (-(u : Int) != 0) = false := by simp [h0]
      have el : l = digs N := by have := HI.out.1; rw [h0, digs_zero] at this; simpa using this
      have hb := HI.out.2.1
      have EL := Lib.hid el
      have HB := Lib.hid hb
      clear h0 el hb
      have e0 : ((l.length : Int) == 0) = false := by
        have h2 : l ≠ [] := by rw [EL.out]; unfold digs; rw [if_neg (by omega)]; exact dec_ne N
        cases l with
        | nil => exact absurd rfl h2
        | cons a l => simp; omega
      have hcv : (convert 22 9 (.slice (some ⟨g, 0, none⟩) l.length cap)).run Tryd.prog wr = .ok (.string ⟨l.toArray⟩) wr :=
        run_convert_bytes_back wr 22 9 5 ⟨g, 0, none⟩ cap l Tryd.underlying22 Tryd.underlying5 Tryd.underlying9 (fun j hj => HI.out.2.2.2.cells rfl j _ (by simp [bc, hj]))
      have hneg : -(N : Int) < 0 := by omega
      have hN' := Lib.hid hN
      clear hN
      go_wp2
      go_ret
      exact ⟨ret_str (a := 45 :: l) (by rw [EL.out, digs, if_neg (by omega), Lib.itoa, if_pos (by omega)]; simp), HB.out⟩
    · have h0a : (-(u : Int) != 0) = true := by simp; omega
      have h0b : 0 < u := by omega
      have hs := HI.out.2.1.size
      have hub : -9223372036854775808 ≤ -(u : Int) := by omega
      have hN' := Lib.hid hN
      clear hN
      by_cases hm : 0 < (u : Int) % 10
      · have hb1 : (u : Int) % 10 ≤ 9 := by omega
        have k2 : (bc l).length = l.length * 1 := by simp [bc]
        have K2 := Lib.hid k2
        have k3 : ∀ j u', (bc l)[j]? = some u' → (wr.alloc (.cells #[.int .u8 (48 + (u : Int) % 10)] 5)).cell? ((⟨g, 0, none⟩ : Addr).add j) = some u' := fun j u' hj => (HI.out.2.2.2.alloc _).cells rfl j u' hj
        have K3 := Lib.hid k3
        have k4 : 1 + l.length ≤ maxLen := by unfold maxLen; omega
        have K4 := Lib.hid k4
        have k5 : (1 + l.length) * 1 ≤ 140737488355328 := by omega
        have K5 := Lib.hid k5
        have k6 : w.heap.size ≤ (wr.alloc (.cells #[.int .u8 (48 + (u : Int) % 10)] 5)).heap.size := by simp; omega
        have K6 := Lib.hid k6
        clear k2 k3 k4 k5 k6
        go_wp2_with (at_builtin; refine wpList_append_own _ rfl _ _ 22 rfl w.heap.size 5 i0 (.int .u8 0) 1 1 Tryd.underlying22 hi hz0 hz1 hz2 rfl (by decide) _ 1 [.int .u8 (48 + (u : Int) % 10)] rfl (World.ownsRow_lit wr #[.int .u8 (48 + (u : Int) % 10)] 1 hs (by decide) rfl) ⟨g, 0, none⟩ l.length cap (bc l) rfl K2.out K3.out (bc_one l) K4.out K5.out K6.out ?_; intro v1 w1 hown1 hg1 hn1)
        go_roundw
        case rel => exact ⟨u / 10, UInt8.ofNat (48 + u % 10) :: l, by omega, by go_num, inv_step h0b rfl HI.out hown1 hg1 (fun e => by cases (hn1.1 e).1)⟩
        case measure => simp [intOf]; omega
      · have hz : (u : Int) % 10 = 0 := by omega
        have HZ := Lib.hid hz
        clear hm
        have k2 : (bc l).length = l.length * 1 := by simp [bc]
        have K2 := Lib.hid k2
        have k3 : ∀ j u', (bc l)[j]? = some u' → (wr.alloc (.cells #[.int .u8 (48)] 5)).cell? ((⟨g, 0, none⟩ : Addr).add j) = some u' := fun j u' hj => (HI.out.2.2.2.alloc _).cells rfl j u' hj
        have K3 := Lib.hid k3
        have k4 : 1 + l.length ≤ maxLen := by unfold maxLen; omega
        have K4 := Lib.hid k4
        have k5 : (1 + l.length) * 1 ≤ 140737488355328 := by omega
        have K5 := Lib.hid k5
        have k6 : w.heap.size ≤ (wr.alloc (.cells #[.int .u8 (48)] 5)).heap.size := by simp; omega
        have K6 := Lib.hid k6
        clear k2 k3 k4 k5 k6
        go_wp2_with (at_builtin; refine wpList_append_own _ rfl _ _ 22 rfl w.heap.size 5 i0 (.int .u8 0) 1 1 Tryd.underlying22 hi hz0 hz1 hz2 rfl (by decide) _ 1 [.int .u8 (48)] rfl (World.ownsRow_lit wr #[.int .u8 (48)] 1 hs (by decide) rfl) ⟨g, 0, none⟩ l.length cap (bc l) rfl K2.out K3.out (bc_one l) K4.out K5.out K6.out ?_; intro v1 w1 hown1 hg1 hn1)
        go_roundw
        case rel => exact ⟨u / 10, UInt8.ofNat (48 + u % 10) :: l, by omega, by go_num, inv_step h0b (by have := HZ.out; omega) HI.out hown1 hg1 (fun e => by cases (hn1.1 e).1)⟩
        case measure => simp [intOf]; omega
theorem l01Dec_any (n : Int) (w : World) (h1 : -9223372036854775808 ≤ n) (h2 : n ≤ 9223372036854775807) :
    Calls Tryd.prog 127 #[.int .i64 n] w fun e w' => e = .returned (.string ⟨(Lib.itoa n).toArray⟩) ∧ Below w.heap.size w w' := by
  by_cases h : n < 0
  · obtain ⟨N, rfl⟩ : ∃ N : Nat, n = -(N : Int) := ⟨n.natAbs, by omega⟩
    exact l01Dec_neg N w (by omega) (by omega)
  · obtain ⟨N, rfl⟩ := Int.eq_ofNat_of_zero_le (by omega : 0 ≤ n)
    exact l01Dec_pos N w (by omega)

end Go.Proofs.YtbnihalbepffoaaDoor.dec
