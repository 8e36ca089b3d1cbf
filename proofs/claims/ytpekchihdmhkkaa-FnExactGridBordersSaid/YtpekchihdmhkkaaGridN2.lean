/- The program's neighbours of a cell over the cut: contract. -/
import Derived.Test.YtpekchihdmhkkaaGridN1
namespace Go.Proofs.Ytpekchihdmhkkaa.stab
open Go.ChangeShapes Go.WideShapes Go.ChangeAt Go.RowKit Go.Proofs.Ytpekchihdmhkkaa.split Go.Proofs.Ytpekchihdmhkkaa.sines Go.Proofs.Ytpekchihdmhkkaa.names
set_option linter.unusedSimpArgs false
set_option linter.unusedVariables false

def ov1 (n c : Nat) : List Nat := [] ++ (if c = c - c % n + n - 1 then [c - c % n] else [])
def ovC (n c : Nat) : List Nat := ov1 n c ++ (if c = c - c % n then [c - c % n + n - 1] else [])
theorem ov1_len (n c : Nat) : (ov1 n c).length ≤ 1 := by unfold ov1; split <;> simp
theorem ovC_len (n c : Nat) : (ovC n c).length ≤ 2 := by unfold ovC; have := ov1_len n c; split <;> simp <;> omega
set_option maxRecDepth 100000 in
set_option maxHeartbeats 2000000 in
theorem overCut_any (ga : Option Addr) (L cap n c : Nat) (w : World) (hL : L ≤ 512) (hn1 : 1 ≤ n) (hn2 : n ≤ 32) (hc : c < L) :
    Calls Try.prog 83 #[.agg #[.slice ga L cap, .int .i64 (n : Int)], .int .i64 (c : Int)] w fun e w' => ∃ v, e = .returned v ∧ JRow w' w.heap.size v (ovC n c) ∧ Below w.heap.size w w' := by
  obtain ⟨i0, hi, hz0, hz1, hz2⟩ := info_partsT info_jint
  have hLi : (L : Int) ≤ 512 := by omega
  have hci : (c : Int) < (L : Int) := by omega
  have hni1 : (1 : Int) ≤ (n : Int) := by omega
  have hni2 : (n : Int) ≤ 32 := by omega
  have hnz : ((n : Int) == 0) = false := by simp; omega
  have htm2 : (c : Int).tmod (n : Int) = ((c % n : Nat) : Int) := by
    rw [Int.tmod_eq_emod_of_nonneg (by omega)]
    push_cast
    rfl
  have hml2 : c % n ≤ c := Nat.mod_le _ _
  obtain ⟨F, hF⟩ : ∃ F, Hid (c - c % n = F) := ⟨_, Lib.hid rfl⟩
  obtain ⟨La, hLa⟩ : ∃ F, Hid (c - c % n + n - 1 = F) := ⟨_, Lib.hid rfl⟩
  obtain ⟨m2, hm2⟩ : ∃ m, Hid (c % n = m) := ⟨_, Lib.hid rfl⟩
  rw [hm2.out] at htm2 hml2
  have hFL := Lib.hid (show F + n - 1 = La by rw [← hF.out]; exact hLa.out)
  have EF := Lib.hid (show (c : Int) - (m2 : Int) = (F : Int) by have h1 := hF.out; have h2 := hm2.out; omega)
  have EL := Lib.hid (show (F : Int) + (n : Int) - 1 = (La : Int) by have h1 := hF.out; have h2 := hLa.out; omega)
  have hFc : (F : Int) ≤ (c : Int) := by have := EF.out; omega
  have q6 : IntKind.i64.wrap (m2 : Int) = (m2 : Int) := IntWalk.i64_in _ (by omega)
  have q7 : IntKind.i64.wrap ((c : Int) - (m2 : Int)) = (c : Int) - (m2 : Int) := IntWalk.i64_in _ (by omega)
  have q8 : IntKind.i64.wrap ((F : Int) + (n : Int)) = (F : Int) + (n : Int) := IntWalk.i64_in _ (by omega)
  have q9 : IntKind.i64.wrap ((F : Int) + (n : Int) - 1) = (F : Int) + (n : Int) - 1 := IntWalk.i64_in _ (by omega)
  go_enter Try.func83, Try.ntmps83
  have r0 : (w.alloc (.cells #[.slice ga L cap, .int .i64 (n : Int)] 45)).cell? ⟨w.heap.size, 0, none⟩ = some (.slice ga L cap) := by simp [go_sem]
  have r1 : (w.alloc (.cells #[.slice ga L cap, .int .i64 (n : Int)] 45)).cell? ⟨w.heap.size, 1, none⟩ = some (.int .i64 (n : Int)) := by simp [go_sem]
  have BW := Lib.hid (show Below w.heap.size w (w.alloc (.cells #[.slice ga L cap, .int .i64 (n : Int)] 45)) from (Below.refl _ _).alloc (Nat.le_refl _) _)
  have hsB : w.heap.size < (w.alloc (.cells #[.slice ga L cap, .int .i64 (n : Int)] 45)).heap.size := by simp
  obtain ⟨W0, hW0⟩ : ∃ W, Hid (w.alloc (.cells #[.slice ga L cap, .int .i64 (n : Int)] 45) = W) := ⟨_, Lib.hid rfl⟩
  rw [hW0.out] at r0 r1 BW hsB
  go_upto_region 1 with fail
  rw [hW0.out]
  go_cut [5] (fun x wx => x = .int .i64 (F : Int) ∧ W0 = wx)
  case first =>
    go_wp2
    go_meet
    case rel => exact ⟨by rw [EF.out], rfl⟩
  case rest =>
    obtain ⟨e5, e7⟩ := hcut
    subst e5
    subst e7
    go_upto_region 2 with fail
    go_cut [6] (fun x wx => x = .int .i64 (La : Int) ∧ W0 = wx)
    case first =>
      go_wp2
      go_meet
      case rel => exact ⟨by rw [EL.out], rfl⟩
    case rest =>
      obtain ⟨e6, e7⟩ := hcut
      subst e6
      subst e7
      go_upto_region 3 with fail
      go_cut [7] (fun v wx => JRow wx W0.heap.size v ([] : List Nat) ∧ Below W0.heap.size W0 wx)
      case first =>
        go_wp2
        go_meet
        case rel => exact ⟨jrow_nil _ _, Below.refl _ _⟩
      case rest =>
        obtain ⟨hr, hb⟩ := hcut
        have HR := Lib.hid hr
        have HB := Lib.hid hb
        have hsz := hb.size
        obtain ⟨a5, c5, e5⟩ := jrow_shape hr
        subst e5
        go_upto_if 21 with fail
        go_cut [7] (fun v wx => JRow wx W0.heap.size v (ov1 n c) ∧ Below W0.heap.size W0 wx)
        case first =>
          by_cases h : c = La
          · have HX := Lib.hid (show (F : Int) = ((F : Nat) : Int) from by rfl)
            have hd : ((c : Int) == (La : Int)) = true := by simp; omega
            have K3 : (([] : List Nat)).length + 1 ≤ maxLen := by have := (show ([] : List Nat).length ≤ 0 from Nat.le_refl 0); unfold maxLen; omega
            have K4 : ((([] : List Nat)).length + 1) * 8 ≤ 140737488355328 := by have := (show ([] : List Nat).length ≤ 0 from Nat.le_refl 0); omega
            have H := Lib.hid h
            clear h
            go_wp2_with (at_builtin; refine wpList_append_own _ rfl _ _ 54 rfl W0.heap.size 3 i0 (.int .i64 0) 1 8 Try.underlying54 hi hz0 hz1 hz2 rfl (by decide) _ (([] : List Nat)).length _ rfl (World.ownsRow.alloc HR.out _) ⟨wc.heap.size, 0, none⟩ 1 1 [.int .i64 ((F : Int))] rfl rfl (newJ wc _ _ rfl) (cellJ _) K3 K4 (by simp; omega) ?_; intro v1 w1 hown1 hg1 _)
            go_meet
            case rel => exact ⟨by unfold ov1; rw [hF.out, hFL.out, if_pos H.out]; exact snocJ hown1, (HB.out.alloc hsz _).grown hg1 (by simp; omega) (fun j hj => (HR.out.lt j hj).1)⟩
          · skip
            have hd : ((c : Int) == (La : Int)) = false := by simp; omega
            have H := Lib.hid h
            clear h
            go_wp2
            go_meet
            case rel => exact ⟨by unfold ov1; rw [hF.out, hFL.out, if_neg H.out, List.append_nil]; exact HR.out, HB.out⟩
        case rest =>
          obtain ⟨hr, hb⟩ := hcut
          have HR := Lib.hid hr
          have HB := Lib.hid hb
          have hsz := hb.size
          obtain ⟨a5, c5, e5⟩ := jrow_shape hr
          subst e5
          go_upto_if 28 with fail
          go_cut [7] (fun v wx => JRow wx W0.heap.size v (ovC n c) ∧ Below W0.heap.size W0 wx)
          case first =>
            by_cases h : c = F
            · have HX := Lib.hid (show (La : Int) = ((La : Nat) : Int) from by rfl)
              have hd : ((c : Int) == (F : Int)) = true := by simp; omega
              have K3 : (ov1 n c).length + 1 ≤ maxLen := by have := ov1_len n c; unfold maxLen; omega
              have K4 : ((ov1 n c).length + 1) * 8 ≤ 140737488355328 := by have := ov1_len n c; omega
              have H := Lib.hid h
              clear h
              go_wp2_with (at_builtin; refine wpList_append_own _ rfl _ _ 54 rfl W0.heap.size 3 i0 (.int .i64 0) 1 8 Try.underlying54 hi hz0 hz1 hz2 rfl (by decide) _ (ov1 n c).length _ rfl (World.ownsRow.alloc HR.out _) ⟨wc.heap.size, 0, none⟩ 1 1 [.int .i64 ((La : Int))] rfl rfl (newJ wc _ _ rfl) (cellJ _) K3 K4 (by simp; omega) ?_; intro v1 w1 hown1 hg1 _)
              go_meet
              case rel => exact ⟨by unfold ovC; rw [hF.out, hFL.out, if_pos H.out]; exact snocJ hown1, (HB.out.alloc hsz _).grown hg1 (by simp; omega) (fun j hj => (HR.out.lt j hj).1)⟩
            · skip
              have hd : ((c : Int) == (F : Int)) = false := by simp; omega
              have H := Lib.hid h
              clear h
              go_wp2
              go_meet
              case rel => exact ⟨by unfold ovC; rw [hF.out, hFL.out, if_neg H.out, List.append_nil]; exact HR.out, HB.out⟩
          case rest =>
            obtain ⟨hr, hb⟩ := hcut
            have HR := Lib.hid hr
            have HB := Lib.hid hb
            have hsz := hb.size
            obtain ⟨a5, c5, e5⟩ := jrow_shape hr
            subst e5
            go_wp2
            go_ret
            exact ⟨_, rfl, jrow_up HR.out BW.out.size, BW.out.trans (HB.out.mono BW.out.size)⟩
end Go.Proofs.Ytpekchihdmhkkaa.stab
