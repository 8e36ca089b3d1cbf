/- The members of a set, one by one: contracts of the program. -/
import Derived.Test.YtemhmejjmhbfdaaDoorColsP8
import Derived.Test.YtemhmejjmhbfdaaDoorTZ
import Derived.Test.YtemhmejjmhbfdaaDoorDLift
import Derived.Lib.LaidTab
import Derived.Stop.LaidErr
namespace Go.Proofs.YtemhmejjmhbfdaaDoor.sines
open Go.ChangeShapes Go.WideShapes Go.ChangeAt Go.RowKit Go.Shelf Go.Proofs.YtemhmejjmhbfdaaDoor.spots Go.Proofs.YtemhmejjmhbfdaaDoor.irows Go.Proofs.YtemhmejjmhbfdaaDoor.pairsBorder
attribute [local go_sem] Oper.semAt_some
set_option linter.unusedSimpArgs false
set_option linter.unusedVariables false
def tabZ : List Int := Lib.deBruijn64tab.map Int.ofNat
def tabRow : Array Value := (tabZ.map fun z => Value.int .u8 z).toArray
/-- The library's table lies as its text lays it. -/
def TBl (w : World) : Prop := ∃ t fr, w.heap[1]? = some (.cells tabRow t fr)
theorem TBl_lt {w : World} (h : TBl w) : 1 < w.heap.size := by
  obtain ⟨t, fr, h⟩ := h
  exact (Array.getElem?_eq_some_iff.1 h).1
theorem TBl_keep {w w' : World} (h : TBl w) (hb : Below w.heap.size w w') : TBl w' := by
  have hl := TBl_lt h
  obtain ⟨t, fr, h⟩ := h
  exact ⟨t, fr, by rw [hb.block _ hl]; exact h⟩
theorem TBl_kpX {w w' : World} {g : Nat} (h : TBl w) (hb : KpX g w w') (hg : 1 ≠ g) : TBl w' := by
  obtain ⟨t, fr, h⟩ := h
  exact ⟨t, fr, hb.2 _ _ _ _ hg h⟩
theorem TBl_of_laid {rest : List (String × DataW Unit)} {x : String × DataW Unit} {W : World} (h : laidMet Tryd.prog (x :: ("math/bits.deBruijn64tab", Lib.tabData .u8 tabZ) :: rest) W) : TBl W := by
  have h2 := Lib.tabIs_of_head (t := 77) (e := 5) (n := 64) (g := 1) (by kernel_rfl) (by kernel_rfl) Tryd.underlying77 Tryd.underlying5 (by kernel_rfl) (by kernel_rfl) (laidMet.tail h)
  have hg : Tryd.prog.globalNamed "math/bits.deBruijn64tab" = some 1 := by kernel_rfl
  unfold Lib.TabIs at h2
  simp only [World.var?, hg, Option.bind_some] at h2
  split at h2
  · rename_i cs t' fr hb
    cases h2
    exact ⟨t', fr, hb⟩
  · cases h2
theorem TBl_at {w : World} (h : TBl w) : TabAt 1 Lib.deBruijn64tab w := by
  obtain ⟨t, fr, h⟩ := h
  intro j hj
  rw [cell_of_row _ _ _ _ _ _ h]
  have hj' : j < 64 := hj
  simp [tabRow, tabZ, hj]
theorem tz_any (x : Nat) (w : World) (hx : x < 1024) (hT : TBl w) : Calls Tryd.prog 28 #[.int .u64 (x : Int)] w fun e w' => e = .returned (.int .i64 (Lib.ctz 64 x)) ∧ w' = w :=
  Any7.bits_TrailingZeros Tryd.tz x (by omega) w (fun _ => TBl_at hT)
/-- The members of a set. -/
def bitsL (s : Nat) : List Nat := (List.range 10).filter fun i => s.testBit i
theorem bitsL_step : ∀ r, r < 1024 → r ≠ 0 → bitsL r = Lib.ctz 64 r :: bitsL (r &&& (r - 1)) ∧ r &&& (r - 1) < r ∧ Lib.ctz 64 r < 10 := by decide +kernel
theorem bitsL_zero : bitsL 0 = [] := by decide
theorem bitsL_mem {s x : Nat} : x ∈ bitsL s ↔ x < 10 ∧ s.testBit x = true := by simp [bitsL]
theorem bitsL_len (s : Nat) : (bitsL s).length ≤ 10 := by
  have := List.length_filter_le (fun i => s.testBit i) (List.range 10)
  simpa [bitsL] using this
theorem TBl_below {w w' : World} {n₀ : Nat} (h : TBl w) (hb : Below n₀ w w') (hg : 1 < n₀) : TBl w' := by
  obtain ⟨t, fr, h⟩ := h
  exact ⟨t, fr, by rw [hb.block _ hg]; exact h⟩
set_option maxRecDepth 100000 in
set_option maxHeartbeats 4000000 in
theorem mem1_in (l n b n₀ s : Nat) (J Jx : List Nat → World → Prop) (hs : s < 1024) (hgn : 1 < n₀)
    (hY : ∀ pre x W, x ∈ bitsL s → J pre W → pre.length < 10 → YieldAt Fence.wide (n - 1) Tryd.prog l #[.int .i64 (x : Int)] W fun e W' =>
      (e = .returned (.bool true) ∧ J (pre ++ [x]) W' ∧ Below n₀ W W') ∨ (e = .returned (.bool false) ∧ Jx (pre ++ [x]) W'))
    (W : World) (hb : W.cell? ⟨b, 0, none⟩ = some (.int .u64 (s : Int))) (hT : TBl W) (h0 : J [] W) :
    CallsIn Fence.wide n Tryd.prog 27 #[.func (.yield l) #[] #[], .pointer (some ⟨b, 0, none⟩)] W fun e W' => (∃ v, e = .returned v) ∧
      ((∃ ys, ys = bitsL s ∧ J ys W') ∨ (∃ pre, pre <+: bitsL s ∧ Jx pre W')) := by
  have hdd : ∀ k : Nat, (Fence.wide.depth.isSome = true → 1 ≤ k) := fun k h => by cases h
  have hN := bitsL_len s
  refine callsIn_of_wp Tryd.func27 rfl trivial ?_ rfl
  simp only [Tryd.ntmps27, List.size_toArray, List.length_cons, List.length_nil, Nat.reduceAdd, Nat.reduceSub, Array.replicate_succ, Array.replicate_zero, List.push_toArray, List.append_toArray, List.nil_append, List.cons_append]
  gi_wp2
  gi_loopw [3] (fun p wr => ∃ (pre : List Nat) (r : Nat), p = .int .u64 (r : Int) ∧ r < 1024 ∧ bitsL s = pre ++ bitsL r ∧ TBl wr ∧ J pre wr)
    (fun p _ => (intOf p).toNat)
  case atStart =>
    exact ⟨[], s, rfl, hs, rfl, hT, h0⟩
  case round =>
    obtain ⟨pre, r, rfl, hr, hx, hTr, hJs⟩ := hrel
    have HX := Lib.hid hx
    have HT := Lib.hid hTr
    have HJ := Lib.hid hJs
    clear hTr hJs
    by_cases hz : r = 0
    · subst hz
      clear hx
      gi_wp2
      go_end0
      exact ⟨⟨_, rfl⟩, .inl ⟨pre, by rw [HX.out, bitsL_zero, List.append_nil], HJ.out⟩⟩
    · obtain ⟨e1, e2, e3⟩ := bitsL_step r hr hz
      rw [e1] at hx HX
      have hpl : pre.length < 10 := by
        have := congrArg List.length hx
        simp at this; omega
      have hrz : ((r : Int) == 0) = false := by simp; omega
      have hrz2 : ((r : Int) = 0) = False := by simp; omega
      have r1 : IntKind.u64.wrap ((r : Int) - 1) = ((r - 1 : Nat) : Int) := by rw [IntKind.wrap_u64]; omega
      have r2 := bits_and_u64n r (r - 1) (by omega) (by omega)
      obtain ⟨fn, tmps, assign, body, hy, hR⟩ := hY pre (Lib.ctz 64 r) wr (by rw [hx]; simp) HJ.out hpl
      have TZ := Lib.hid (tz_any r wr hr HT.out)
      have E2 := Lib.hid e2
      clear hx e1 e2 hY
      generalize Lib.ctz 64 r = z at *
      generalize hr' : r &&& (r - 1) = r' at *
      generalize r - 1 = r0 at *
      have hr1 : r' < 1024 := by have := E2.out; omega
      clear hr'
      gi_wp2_with fail
      refine ⟨trivial, hdd _, (callsIn_wide.2 TZ.out).mono ?_⟩
      rintro e w1 ⟨rfl, hw1⟩
      subst hw1
      gi_wp2_with fail
      (try refine ⟨hdd _, ?_⟩)
      refine hR.mono ?_
      rintro e W3 (⟨rfl, hJ3, hk3⟩ | ⟨rfl, hJx3⟩)
      · have HJ3 := Lib.hid hJ3
        have HT3 := Lib.hid (TBl_below HT.out hk3 hgn)
        clear hJ3 hk3 hR hy TZ
        gi_wp2
        go_roundw
        case rel => exact ⟨pre ++ [z], r', by first | rfl | (rw [r2]), hr1, by rw [HX.out]; simp, HT3.out, HJ3.out⟩
        case measure => have := E2.out; simp [intOf]; omega
      · have HJ3 := Lib.hid hJx3
        clear hJx3 hR hy TZ
        gi_wp2
        refine bodyPost_ret (results_none rfl _ _ _) rfl ?_
        exact ⟨⟨_, rfl⟩, .inr ⟨pre ++ [z], ⟨bitsL r', by rw [HX.out]; simp⟩, HJ3.out⟩⟩
theorem mem_stops (n b n₀ s : Nat) (hs : s < 1024) (hgn : 1 < n₀) (w : World) (hn₀ : n₀ ≤ w.heap.size) (hb : w.cell? ⟨b, 0, none⟩ = some (.int .u64 (s : Int))) (hT : TBl w) :
    SeqStopsK (α := { x : Nat // x ∈ bitsL s }) Fence.wide n Tryd.prog 27 #[.pointer (some ⟨b, 0, none⟩)] (fun x => #[Value.int .i64 (x.1 : Int)]) (Below n₀) (fun ys => ys.map Subtype.val = bitsL s) (fun pre => pre.map Subtype.val <+: bitsL s) 10 w := fun l J Jx W hW hJ _ hY hj => by
  refine (mem1_in l n b n₀ s (fun t W => ∃ t' : List { x : Nat // x ∈ bitsL s }, t'.map Subtype.val = t ∧ J t' W) (fun t W => ∃ t' : List { x : Nat // x ∈ bitsL s }, t'.map Subtype.val = t ∧ Jx t' W) hs hgn (fun pre x W1 hx hj hl => ?_) W ((hW.cell (p := ⟨b, 0, none⟩) (World.block_lt_of_cell? _ _ hb)).trans hb) (TBl_keep hT hW) ⟨[], rfl, hj⟩).mono ?_
  · obtain ⟨p', e, h⟩ := hj
    refine YieldAt.mono (hY p' ⟨x, hx⟩ W1 h (by rw [← e, List.length_map] at hl; exact hl)) fun e' W2 h2 => ?_
    rcases h2 with ⟨h3, h4, h5⟩ | ⟨h3, h4⟩
    · exact .inl ⟨h3, ⟨_, by rw [List.map_append, e]; rfl, h4⟩, h5⟩
    · exact .inr ⟨h3, ⟨_, by rw [List.map_append, e]; rfl, h4⟩⟩
  · rintro e W' ⟨h1, h2⟩
    refine ⟨h1, ?_⟩
    rcases h2 with ⟨ys, rfl, s', e1, h3⟩ | ⟨pre, hp, s', e1, h3⟩
    · exact .inl ⟨s', e1, h3⟩
    · exact .inr ⟨s', by show List.map Subtype.val s' <+: _; rw [e1]; exact hp, h3⟩
set_option maxHeartbeats 400000 in
theorem members_any (s : Nat) (w : World) : Calls Tryd.prog 20 #[.int .u64 (s : Int)] w fun e w' => e = .returned (.func (.func 27) #[] #[.pointer (some ⟨w.heap.size, 0, none⟩)]) ∧ w' = w.alloc (.cells #[.int .u64 (s : Int)] 50) := by
  go_enter Tryd.func20, Tryd.ntmps20
  go_wp2
  go_ret
  exact ⟨rfl, rfl⟩
end Go.Proofs.YtemhmejjmhbfdaaDoor.sines
