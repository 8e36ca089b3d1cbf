/- The program's neighbours of a cell on the sheet: contract. -/
import Derived.Test.YtpekchihdmhkkaaGridI4
import Derived.Deep.DeepCutAuto
import Derived.Deep.CutRange
import Derived.Deep.Cut
namespace Go.Proofs.Ytpekchihdmhkkaa.stab
open Go.ChangeShapes Go.WideShapes Go.ChangeAt Go.RowKit Go.Proofs.Ytpekchihdmhkkaa.split Go.Proofs.Ytpekchihdmhkkaa.sines Go.Proofs.Ytpekchihdmhkkaa.names
set_option linter.unusedSimpArgs false
set_option linter.unusedVariables false

def jints (zs : List Nat) : List Value := zs.map fun z : Nat => Value.int .i64 (z : Int)
theorem info_jint : (Try.prog.info? 3).map (fun i => (i.zero, i.size, i.bytes)) = some (some (.int .i64 0), 1, 8) := by kernel_rfl
/-- A list of cells' numbers of the call's own. -/
def JRow (w : World) (B : Nat) (v : Value) (zs : List Nat) : Prop := w.ownsRow B 3 1 v zs.length (jints zs)
theorem jrow_nil (w : World) (B : Nat) : JRow w B (.slice none 0 0) [] := ⟨rfl, .inl ⟨rfl, rfl⟩⟩
theorem jrow_heap {w w' : World} {B : Nat} {v : Value} {zs : List Nat} (h : JRow w B v zs) (e : w'.heap = w.heap) : JRow w' B v zs := by
  refine ⟨h.1, ?_⟩
  rw [e]
  exact h.2
theorem jrow_keep {w w' : World} {B : Nat} {v : Value} {zs : List Nat} (h : JRow w B v zs) (hb : Below w.heap.size w w') : JRow w' B v zs := by
  refine ⟨h.1, ?_⟩
  rcases h.2 with hn | ⟨g, cap, cur, hv, hg1, hg2, hg3⟩
  · exact .inl hn
  · exact .inr ⟨g, cap, cur, hv, hg1, by rw [hb.block g (Array.getElem?_eq_some_iff.1 hg2).1]; exact hg2, hg3⟩
theorem jrow_up {w : World} {B B' : Nat} {v : Value} {zs : List Nat} (h : JRow w B v zs) (hB : B' ≤ B) : JRow w B' v zs := by
  refine ⟨h.1, ?_⟩
  rcases h.2 with hn | ⟨g, cap, cur, hv, hg1, hr⟩
  · exact .inl hn
  · exact .inr ⟨g, cap, cur, hv, Nat.le_trans hB hg1, hr⟩
theorem jrow_shape {w : World} {B : Nat} {v : Value} {zs : List Nat} (h : JRow w B v zs) : ∃ a c, v = .slice a zs.length c := by
  rcases h.2 with ⟨hv, h0⟩ | ⟨g, cap, cur, hv, hB, _⟩
  · exact ⟨none, 0, by rw [hv, h0]⟩
  · exact ⟨_, _, hv⟩
theorem snocJ {w : World} {B : Nat} {v : Value} {o : List Nat} {x : Nat} (h : w.ownsRow B 3 1 v (o.length + 1) (jints o ++ [.int .i64 (x : Int)])) : JRow w B v (o ++ [x]) := by
  unfold JRow
  rw [List.length_append, show [x].length = 1 from rfl, show jints (o ++ [x]) = jints o ++ [.int .i64 (x : Int)] by simp [jints]]
  exact h
theorem newJ (w : World) (s : Int) (n : Nat) (h : w.heap.size = n) : ∀ j u, ([.int .i64 s] : List Value)[j]? = some u → (w.alloc (.cells #[.int .i64 s] 3)).cell? ((⟨n, 0, none⟩ : Addr).add j) = some u := by
  subst h
  intro j u hj
  match j, hj with
  | 0, hj => simp at hj; subst hj; simp [Addr.add]
theorem cellJ (s : Int) : ∀ u ∈ ([.int .i64 s] : List Value), u.oneCell' = true := fun u hu => by simp at hu; subst hu; rfl
/-- The neighbours on the sheet, as they are put one behind another. -/
def on1 (n c : Nat) : List Nat := [] ++ (if n ≤ c then [c - n] else [])
def on2 (L n c : Nat) : List Nat := on1 n c ++ (if c + n < L then [c + n] else [])
def on3 (L n c : Nat) : List Nat := on2 L n c ++ (if (c + 1) % n ≠ 0 then [c + 1] else [])
def onS (L n c : Nat) : List Nat := on3 L n c ++ (if c % n ≠ 0 then [c - 1] else [])
theorem on1_len (n c : Nat) : (on1 n c).length ≤ 1 := by unfold on1; split <;> simp
theorem on2_len (L n c : Nat) : (on2 L n c).length ≤ 2 := by unfold on2; have := on1_len n c; split <;> simp <;> omega
theorem on3_len (L n c : Nat) : (on3 L n c).length ≤ 3 := by unfold on3; have := on2_len L n c; split <;> simp <;> omega
theorem onS_len (L n c : Nat) : (onS L n c).length ≤ 4 := by unfold onS; have := on3_len L n c; split <;> simp <;> omega
set_option maxRecDepth 100000 in
set_option maxHeartbeats 2000000 in
theorem onSheet_any (ga : Option Addr) (L cap n c : Nat) (w : World) (hL : L ≤ 512) (hn1 : 1 ≤ n) (hn2 : n ≤ 32) (hc : c < L) :
    Calls Try.prog 82 #[.agg #[.slice ga L cap, .int .i64 (n : Int)], .int .i64 (c : Int)] w fun e w' => ∃ v, e = .returned v ∧ JRow w' w.heap.size v (onS L n c) ∧ Below w.heap.size w w' := by
  obtain ⟨i0, hi, hz0, hz1, hz2⟩ := info_partsT info_jint
  have hLi : (L : Int) ≤ 512 := by omega
  have hci : (c : Int) < (L : Int) := by omega
  have hni1 : (1 : Int) ≤ (n : Int) := by omega
  have hni2 : (n : Int) ≤ 32 := by omega
  have hnz : ((n : Int) == 0) = false := by simp; omega
  have q1 : IntKind.i64.wrap ((c : Int) - (n : Int)) = (c : Int) - (n : Int) := IntWalk.i64_in _ (by omega)
  have q2 : IntKind.i64.wrap ((c : Int) + (n : Int)) = (c : Int) + (n : Int) := IntWalk.i64_in _ (by omega)
  go_enter Try.func82, Try.ntmps82
  have htm1 : ((c : Int) + 1).tmod (n : Int) = (((c + 1) % n : Nat) : Int) := by
    rw [Int.tmod_eq_emod_of_nonneg (by omega)]
    push_cast
    rfl
  have htm2 : (c : Int).tmod (n : Int) = ((c % n : Nat) : Int) := by
    rw [Int.tmod_eq_emod_of_nonneg (by omega)]
    push_cast
    rfl
  have hml1 : (c + 1) % n < 32 := Nat.lt_of_lt_of_le (Nat.mod_lt _ hn1) hn2
  have hml2 : c % n < 32 := Nat.lt_of_lt_of_le (Nat.mod_lt _ hn1) hn2
  obtain ⟨m1, hm1⟩ : ∃ m, Hid ((c + 1) % n = m) := ⟨_, Lib.hid rfl⟩
  obtain ⟨m2, hm2⟩ : ∃ m, Hid (c % n = m) := ⟨_, Lib.hid rfl⟩
  rw [hm1.out] at htm1 hml1
  rw [hm2.out] at htm2 hml2
  have HC0 := Lib.hid (show m2 ≠ 0 → c ≠ 0 from fun h e => h (by rw [← hm2.out, e]; simp))
  have q3 : IntKind.i64.wrap ((c : Int) + 1) = (c : Int) + 1 := IntWalk.i64_in _ (by omega)
  have q4 : IntKind.i64.wrap ((c : Int) - 1) = (c : Int) - 1 := IntWalk.i64_in _ (by omega)
  have q5 : IntKind.i64.wrap (m1 : Int) = (m1 : Int) := IntWalk.i64_in _ (by omega)
  have q6 : IntKind.i64.wrap (m2 : Int) = (m2 : Int) := IntWalk.i64_in _ (by omega)
  have r0 : (w.alloc (.cells #[.slice ga L cap, .int .i64 (n : Int)] 45)).cell? ⟨w.heap.size, 0, none⟩ = some (.slice ga L cap) := by simp [go_sem]
  have r1 : (w.alloc (.cells #[.slice ga L cap, .int .i64 (n : Int)] 45)).cell? ⟨w.heap.size, 1, none⟩ = some (.int .i64 (n : Int)) := by simp [go_sem]
  have BW := Lib.hid (show Below w.heap.size w (w.alloc (.cells #[.slice ga L cap, .int .i64 (n : Int)] 45)) from (Below.refl _ _).alloc (Nat.le_refl _) _)
  have hsB : w.heap.size < (w.alloc (.cells #[.slice ga L cap, .int .i64 (n : Int)] 45)).heap.size := by simp
  obtain ⟨W0, hW0⟩ : ∃ W, Hid (w.alloc (.cells #[.slice ga L cap, .int .i64 (n : Int)] 45) = W) := ⟨_, Lib.hid rfl⟩
  rw [hW0.out] at r0 r1 BW hsB
  go_upto_region 2 with fail
  rw [hW0.out]
  go_cut [5, 6] (fun v x wx => x = .int .i64 ((c : Int) - (n : Int)) ∧ JRow wx W0.heap.size v ([] : List Nat) ∧ Below W0.heap.size W0 wx)
  case first =>
    go_wp2
    go_meet
    case rel => exact ⟨rfl, jrow_nil _ _, Below.refl _ _⟩
  case rest =>
    obtain ⟨e6, hr, hb⟩ := hcut
    subst e6
    have HR := Lib.hid hr
    have HB := Lib.hid hb
    have hsz := hb.size
    obtain ⟨a5, c5, e5⟩ := jrow_shape hr
    have d0 := (hb.cell (p := ⟨w.heap.size, 0, none⟩) hsB).trans r0
    have d1 := (hb.cell (p := ⟨w.heap.size, 1, none⟩) hsB).trans r1
    subst e5
    go_upto_if 14 with fail
    go_cut [5] (fun v wx => JRow wx W0.heap.size v (on1 n c) ∧ Below W0.heap.size W0 wx)
    case first =>
      by_cases h : n ≤ c
      · have HX := Lib.hid (show (c : Int) - (n : Int) = ((c - n : Nat) : Int) from by omega)
        have K3 : (([] : List Nat)).length + 1 ≤ maxLen := by have := (show ([] : List Nat).length ≤ 0 from Nat.le_refl 0); unfold maxLen; omega
        have K4 : ((([] : List Nat)).length + 1) * 8 ≤ 140737488355328 := by have := (show ([] : List Nat).length ≤ 0 from Nat.le_refl 0); omega
        go_wp2_with (at_builtin; refine wpList_append_own _ rfl _ _ 54 rfl W0.heap.size 3 i0 (.int .i64 0) 1 8 Try.underlying54 hi hz0 hz1 hz2 rfl (by decide) _ (([] : List Nat)).length _ rfl (World.ownsRow.alloc HR.out _) ⟨wc.heap.size, 0, none⟩ 1 1 [.int .i64 ((c : Int) - (n : Int))] rfl rfl (newJ wc _ _ rfl) (cellJ _) K3 K4 (by simp; omega) ?_; intro v1 w1 hown1 hg1 _)
        go_meet
        case rel => exact ⟨by unfold on1; rw [if_pos h]; rw [HX.out] at hown1; exact snocJ hown1, (HB.out.alloc hsz _).grown hg1 (by simp; omega) (fun j hj => (HR.out.lt j hj).1)⟩
      · skip
        go_wp2
        go_meet
        case rel => exact ⟨by unfold on1; rw [if_neg h, List.append_nil]; exact HR.out, HB.out⟩
    case rest =>
      obtain ⟨hr, hb⟩ := hcut
      have HR := Lib.hid hr
      have HB := Lib.hid hb
      have hsz := hb.size
      obtain ⟨a5, c5, e5⟩ := jrow_shape hr
      have d0 := (hb.cell (p := ⟨w.heap.size, 0, none⟩) hsB).trans r0
      have d1 := (hb.cell (p := ⟨w.heap.size, 1, none⟩) hsB).trans r1
      subst e5
      go_upto_if 27 with fail
      go_cut [5] (fun v wx => JRow wx W0.heap.size v (on2 L n c) ∧ Below W0.heap.size W0 wx)
      case first =>
        by_cases h : c + n < L
        · have HX := Lib.hid (show (c : Int) + (n : Int) = ((c + n : Nat) : Int) from by omega)
          have hd : (c : Int) + (n : Int) < (L : Int) := by omega
          have K3 : (on1 n c).length + 1 ≤ maxLen := by have := on1_len n c; unfold maxLen; omega
          have K4 : ((on1 n c).length + 1) * 8 ≤ 140737488355328 := by have := on1_len n c; omega
          go_wp2_with (at_builtin; refine wpList_append_own _ rfl _ _ 54 rfl W0.heap.size 3 i0 (.int .i64 0) 1 8 Try.underlying54 hi hz0 hz1 hz2 rfl (by decide) _ (on1 n c).length _ rfl (World.ownsRow.alloc HR.out _) ⟨wc.heap.size, 0, none⟩ 1 1 [.int .i64 ((c : Int) + (n : Int))] rfl rfl (newJ wc _ _ rfl) (cellJ _) K3 K4 (by simp; omega) ?_; intro v1 w1 hown1 hg1 _)
          go_meet
          case rel => exact ⟨by unfold on2; rw [if_pos h]; rw [HX.out] at hown1; exact snocJ hown1, (HB.out.alloc hsz _).grown hg1 (by simp; omega) (fun j hj => (HR.out.lt j hj).1)⟩
        · skip
          have hd : ¬ (c : Int) + (n : Int) < (L : Int) := by omega
          go_wp2
          go_meet
          case rel => exact ⟨by unfold on2; rw [if_neg h, List.append_nil]; exact HR.out, HB.out⟩
      case rest =>
        obtain ⟨hr, hb⟩ := hcut
        have HR := Lib.hid hr
        have HB := Lib.hid hb
        have hsz := hb.size
        obtain ⟨a5, c5, e5⟩ := jrow_shape hr
        have d0 := (hb.cell (p := ⟨w.heap.size, 0, none⟩) hsB).trans r0
        have d1 := (hb.cell (p := ⟨w.heap.size, 1, none⟩) hsB).trans r1
        subst e5
        go_upto_if 38 with fail
        go_cut [5] (fun v wx => JRow wx W0.heap.size v (on3 L n c) ∧ Below W0.heap.size W0 wx)
        case first =>
          by_cases h : m1 ≠ 0
          · have HX := Lib.hid (show (c : Int) + 1 = ((c + 1 : Nat) : Int) from by omega)
            have hd : ((m1 : Int) != 0) = true := by simp; omega
            have K3 : (on2 L n c).length + 1 ≤ maxLen := by have := on2_len L n c; unfold maxLen; omega
            have K4 : ((on2 L n c).length + 1) * 8 ≤ 140737488355328 := by have := on2_len L n c; omega
            go_wp2_with (at_builtin; refine wpList_append_own _ rfl _ _ 54 rfl W0.heap.size 3 i0 (.int .i64 0) 1 8 Try.underlying54 hi hz0 hz1 hz2 rfl (by decide) _ (on2 L n c).length _ rfl (World.ownsRow.alloc HR.out _) ⟨wc.heap.size, 0, none⟩ 1 1 [.int .i64 ((c : Int) + 1)] rfl rfl (newJ wc _ _ rfl) (cellJ _) K3 K4 (by simp; omega) ?_; intro v1 w1 hown1 hg1 _)
            go_meet
            case rel => exact ⟨by unfold on3; rw [hm1.out, if_pos h]; rw [HX.out] at hown1; exact snocJ hown1, (HB.out.alloc hsz _).grown hg1 (by simp; omega) (fun j hj => (HR.out.lt j hj).1)⟩
          · skip
            have hd : ((m1 : Int) != 0) = false := by simp; omega
            go_wp2
            go_meet
            case rel => exact ⟨by unfold on3; rw [hm1.out, if_neg h, List.append_nil]; exact HR.out, HB.out⟩
        case rest =>
          obtain ⟨hr, hb⟩ := hcut
          have HR := Lib.hid hr
          have HB := Lib.hid hb
          have hsz := hb.size
          obtain ⟨a5, c5, e5⟩ := jrow_shape hr
          have d0 := (hb.cell (p := ⟨w.heap.size, 0, none⟩) hsB).trans r0
          have d1 := (hb.cell (p := ⟨w.heap.size, 1, none⟩) hsB).trans r1
          subst e5
          go_upto_if 47 with fail
          go_cut [5] (fun v wx => JRow wx W0.heap.size v (onS L n c) ∧ Below W0.heap.size W0 wx)
          case first =>
            by_cases h : m2 ≠ 0
            · have HX := Lib.hid (show (c : Int) - 1 = ((c - 1 : Nat) : Int) from by have := HC0.out h; omega)
              have hd : ((m2 : Int) != 0) = true := by simp; omega
              have K3 : (on3 L n c).length + 1 ≤ maxLen := by have := on3_len L n c; unfold maxLen; omega
              have K4 : ((on3 L n c).length + 1) * 8 ≤ 140737488355328 := by have := on3_len L n c; omega
              go_wp2_with (at_builtin; refine wpList_append_own _ rfl _ _ 54 rfl W0.heap.size 3 i0 (.int .i64 0) 1 8 Try.underlying54 hi hz0 hz1 hz2 rfl (by decide) _ (on3 L n c).length _ rfl (World.ownsRow.alloc HR.out _) ⟨wc.heap.size, 0, none⟩ 1 1 [.int .i64 ((c : Int) - 1)] rfl rfl (newJ wc _ _ rfl) (cellJ _) K3 K4 (by simp; omega) ?_; intro v1 w1 hown1 hg1 _)
              go_meet
              case rel => exact ⟨by unfold onS; rw [hm2.out, if_pos h]; rw [HX.out] at hown1; exact snocJ hown1, (HB.out.alloc hsz _).grown hg1 (by simp; omega) (fun j hj => (HR.out.lt j hj).1)⟩
            · skip
              have hd : ((m2 : Int) != 0) = false := by simp; omega
              go_wp2
              go_meet
              case rel => exact ⟨by unfold onS; rw [hm2.out, if_neg h, List.append_nil]; exact HR.out, HB.out⟩
          case rest =>
            obtain ⟨hr, hb⟩ := hcut
            have HR := Lib.hid hr
            have HB := Lib.hid hb
            have hsz := hb.size
            obtain ⟨a5, c5, e5⟩ := jrow_shape hr
            have d0 := (hb.cell (p := ⟨w.heap.size, 0, none⟩) hsB).trans r0
            have d1 := (hb.cell (p := ⟨w.heap.size, 1, none⟩) hsB).trans r1
            subst e5
            go_wp2
            go_ret
            exact ⟨_, rfl, jrow_up HR.out BW.out.size, BW.out.trans (HB.out.mono BW.out.size)⟩
end Go.Proofs.Ytpekchihdmhkkaa.stab
