/- The fewest colours: contracts of the program. -/
import Derived.Test.YtemhmejjmhbfdaaDoorColsP9
import Derived.Test.YtemhmejjmhbfdaaDoorColsX
namespace Go.Proofs.YtemhmejjmhbfdaaDoor.sines
open Go.ChangeShapes Go.WideShapes Go.ChangeAt Go.RowKit Go.Shelf Go.Proofs.YtemhmejjmhbfdaaDoor.spots Go.Proofs.YtemhmejjmhbfdaaDoor.irows Go.Proofs.YtemhmejjmhbfdaaDoor.pairsBorder
set_option linter.unusedSimpArgs false
set_option linter.unusedVariables false
theorem enough_few (mv : Value) (n : Int) (m : Nat) (ps : List (Int × Int)) (w : World) (hM : MB w mv n.toNat (maskN ps)) (hok : validC n ps = true) (hm : m ≤ 10) :
    Calls Tryd.prog 17 #[mv, .int .i64 (m : Int)] w fun e w' => e = .returned (.bool (decide (fewest n ps ≤ (m : Int)))) ∧ Below w.heap.size w w' := by
  obtain ⟨n0, n1, _⟩ := validC_facts hok
  have := isEnough_any mv n.toNat m ps w hM (okPs_of hok).1 (by omega) hm
  have e := canon_any hok (m : Int)
  rw [Int.toNat_natCast, firstC_enough hok] at e
  rw [e] at this
  exact this
set_option maxRecDepth 100000 in
set_option maxHeartbeats 1000000 in
theorem fewestColours_any (mv : Value) (n : Int) (ps : List (Int × Int)) (w : World) (hM : MB w mv n.toNat (maskN ps)) (hok : validC n ps = true) :
    Calls Tryd.prog 16 #[mv] w fun e w' => e = .returned (.int .i64 (fewest n ps)) ∧ Below w.heap.size w w' := by
  obtain ⟨n0, n1, _⟩ := validC_facts hok
  obtain ⟨f1, f2, _⟩ := fewest_is hok
  have EN := Lib.hid (fun (m : Nat) (hm : m ≤ 10) W (hb : Below w.heap.size w W) => enough_few mv n m ps W (mb_keep hM hb) hok hm)
  obtain ⟨gm, rfl, _⟩ := hM
  clear hok
  generalize fewest n ps = F at *
  go_enter Tryd.func16, Tryd.ntmps16
  go_wp2
  go_loopw [3] (fun i wr => ∃ k : Nat, 1 ≤ k ∧ (k : Int) ≤ F ∧ i = .int .i64 (k : Int) ∧ Below w.heap.size w wr) (fun i _ => 11 - (intOf i).toNat)
  case atStart => exact ⟨1, by omega, by omega, rfl, Below.refl _ _⟩
  case round =>
    obtain ⟨k, hk1, hkF, rfl, hb⟩ := hrel
    have HB := Lib.hid hb
    clear hb
    have EK := Lib.hid (EN.out k (by omega) wr HB.out)
    have kk0 : 1 ≤ (k : Int) := by omega
    have kk1 : (k : Int) ≤ 10 := by omega
    by_cases hlt : F ≤ (k : Int)
    · have e : F = (k : Int) := by omega
      rw [decide_eq_true hlt] at EK
      clear hlt
      subst e
      go_wp2_with fail
      refine EK.out.mono ?_
      rintro e w1 ⟨rfl, hb⟩
      have HB1 := Lib.hid (HB.out.trans (hb.mono HB.out.size))
      clear hb
      go_wp2
      go_ret
      exact ⟨rfl, HB1.out⟩
    · rw [decide_eq_false hlt] at EK
      go_wp2_with fail
      refine EK.out.mono ?_
      rintro e w1 ⟨rfl, hb⟩
      have HB1 := Lib.hid (HB.out.trans (hb.mono HB.out.size))
      clear hb
      go_wp2
      go_roundw
      case rel => exact ⟨k + 1, by omega, by omega, by go_num, HB1.out⟩
      case measure => simp [intOf]; omega
set_option maxRecDepth 100000 in
set_option maxHeartbeats 1000000 in
theorem implFew_any (n : Int) (v : Value) (ps : List (Int × Int)) (w : World) (hv : PAt w w.heap.size v ps) (hl : ps.length ≤ 1048576) :
    Calls Tryd.prog 7 #[.int .i64 n, v] w fun e w' => e = .returned (.tuple #[.int .i64 (valFew n ps), .int .i64 (codeVc n ps)]) ∧ Below w.heap.size w w' := by
  have HV := Lib.hid (implVB_any n v ps w hv hl)
  have LM := Lib.hid (fun hok W (hb : Below w.heap.size w W) => landMapOf_any n v ps W (pat_up (pat_keep hv hb) hb.size) hok)
  have FC := Lib.hid (fun hok mv W hM => fewestColours_any mv n ps W hM hok)
  have E1 := Lib.hid (show valFew n ps = if validC n ps = true then fewest n ps else 0 from rfl)
  have E2 := Lib.hid (show codeVc n ps = if validC n ps = true then 0 else 1 from rfl)
  rw [E1.out, E2.out]
  obtain ⟨a, c, rfl, _⟩ := hv
  clear E1 E2
  generalize hR : validC n ps = R at HV LM FC ⊢
  cases R with
  | false =>
    go_enter Tryd.func7, Tryd.ntmps7
    go_wp2_with fail
    refine HV.out.mono ?_
    rintro e w1 ⟨rfl, hb⟩
    have HB := Lib.hid hb
    clear hb
    go_wp2
    exact bodyPost_ret (v := .tuple #[.int .i64 0, .int .i64 1]) (by simp [results, Tryd.results7, go_sem]) rfl ⟨rfl, HB.out⟩
  | true =>
    go_enter Tryd.func7, Tryd.ntmps7
    go_wp2_with fail
    refine HV.out.mono ?_
    rintro e w1 ⟨rfl, hb⟩
    have HB := Lib.hid hb
    clear hb
    go_wp2_with fail
    refine (LM.out trivial _ HB.out).mono ?_
    rintro e w2 ⟨u, rfl, hm, hb⟩
    have HM := Lib.hid (mown_mb hm)
    have HB2 := Lib.hid (HB.out.trans (hb.mono HB.out.size))
    obtain ⟨gm, rfl, _⟩ := hm
    clear hb
    go_wp2_with fail
    refine (FC.out trivial _ _ HM.out).mono ?_
    rintro e w3 ⟨rfl, hb⟩
    have HB3 := Lib.hid (HB2.out.trans (hb.mono HB2.out.size))
    clear hb
    go_wp2
    exact bodyPost_ret (v := .tuple #[.int .i64 (fewest n ps), .int .i64 0]) (by simp [results, Tryd.results7, go_sem]) rfl ⟨rfl, HB3.out⟩
end Go.Proofs.YtemhmejjmhbfdaaDoor.sines
