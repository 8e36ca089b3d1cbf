/- Drawn gores, circumferences, parallels, steps and papers: contracts of the model's functions. -/
import Derived.Test.YtemhmejjmhbfdaaDraw
namespace Go.Proofs.Ytemhmejjmhbfdaa.src
open Go.ChangeShapes Go.WideShapes Go.ChangeAt Go.RowKit



set_option maxRecDepth 100000 in
set_option maxHeartbeats 400000 in
theorem l04Lat_any (W0 w : World) (B : Nat) (a : Option Addr) (len cap : Nat) (m : Int) (h : St W0 w B a len cap m) (hm : m ≤ 1000000) :
    Calls Try.prog 114 #[.pointer (some ⟨B, 0, none⟩)] w fun e w' => ∃ v, e = .returned (.int .i64 v) ∧ St W0 w' B a len cap (m + 6) := by
  have S0 := Lib.hid h
  clear h
  go_enter Try.func114, Try.ntmps114
  go_wp2_with fail
  refine (one_st 10 S0.out (by omega) (by decide) (by decide)).mono ?_
  rintro e w2 ⟨b4, rfl, s3⟩
  have S1 := Lib.hid s3
  clear s3
  cases b4 with
  | true =>
    go_wp2_with fail
    refine (among_st (n := 6) (fun z => True) (st_alloc S1.out _) (by omega) (by decide) (by decide) (list_of rfl (by intro i hi; rcases i with _ | _ | _ | _ | _ | _ | i <;> first | exact ⟨_, rfl, trivial⟩ | omega)) (by have := (S1.out).2.1.size; have := (S1.out).2.2.2; omega)).mono ?_
    rintro e w6 ⟨v, rfl, pv, s7⟩
    have S5 := Lib.hid s7
    clear s7
    clear pv
    go_wp2
    go_ret
    exact ⟨_, rfl, st_le S5.out (by omega)⟩
  | false =>
    go_wp2_with fail
    refine (pick_st 181 S1.out (by omega) (by decide) (by decide)).mono ?_
    rintro e w9 ⟨v, rfl, v0, v1, s10⟩
    have S8 := Lib.hid s10
    clear s10
    go_wp2_with fail
    refine (pick_st 2 S8.out (by omega) (by decide) (by decide)).mono ?_
    rintro e w12 ⟨u, rfl, u0, u1, s13⟩
    have S11 := Lib.hid s13
    clear s13
    go_wp2
    go_ret
    exact ⟨_, rfl, st_le S11.out (by omega)⟩











end Go.Proofs.Ytemhmejjmhbfdaa.src
