/- The model's exchanged colours: all cases. -/
import Derived.Test.YtemhmejjmhbfdabDoorColsS2
namespace Go.Proofs.YtemhmejjmhbfdabDoor.sines
open Go.ChangeShapes Go.WideShapes Go.ChangeAt Go.RowKit Go.Proofs.YtemhmejjmhbfdabDoor.spots Go.Proofs.YtemhmejjmhbfdabDoor.irows Go.Proofs.YtemhmejjmhbfdabDoor.pairsBorder
set_option linter.unusedSimpArgs false
set_option linter.unusedVariables false

theorem clashFrom_ge (cs : List Int) : ∀ (ps : List (Int × Int)) (k : Nat), clashFrom cs ps k = -1 ∨ 0 ≤ clashFrom cs ps k
  | [], _ => .inl rfl
  | p :: ps, k => by
    unfold clashFrom
    split
    · right; omega
    · exact clashFrom_ge cs ps (k + 1)
theorem clashV_ge (ps : List (Int × Int)) (cs : List Int) : clashV ps cs = -1 ∨ 0 ≤ clashV ps cs := clashFrom_ge cs ps 0

set_option maxRecDepth 100000 in
set_option maxHeartbeats 2000000 in
theorem specSw_one (n land oth : Int) (v u : Value) (B : Nat) (ps : List (Int × Int)) (cs : List Int) (w : World) (hv : PAt w w.heap.size v ps) (hu : IRow w B u cs) (hl : ps.length ≤ 1048576) (hm : cs.length ≤ 1048576) (hok : validC n ps = false) :
    Calls Tryd.prog 18 #[.int .i64 n, v, u, .int .i64 land, .int .i64 oth] w fun e w' => ∃ r, e = .returned (.tuple #[r, .int .i64 1]) ∧ IRow w' w.heap.size r [] ∧ Below w.heap.size w w' := by
  have OK := Lib.hid (l09Ok_any n v ps w hv hl)
  have HV := Lib.hid hv
  have HU := Lib.hid hu
  obtain ⟨ap, cp, rfl, _⟩ := hv
  obtain ⟨⟨ac, cc, eu⟩, _⟩ := irow_shape hu
  subst eu
  rw [hok] at OK
  clear hok hu
  go_enter Tryd.func18, Tryd.ntmps18
  go_wp2_with fail
  refine OK.out.mono ?_
  rintro e w1 ⟨rfl, hb⟩
  have HB1 := Lib.hid hb
  have HB := HB1.out
  go_wp2
  exact bodyPost_ret (v := .tuple #[.slice none 0 0, .int .i64 1]) (by simp [results, Tryd.results18, go_sem]) rfl ⟨_, rfl, irow_nil _ _, HB⟩
set_option maxRecDepth 100000 in
set_option maxHeartbeats 2000000 in
theorem specSw_two (n land oth : Int) (v u : Value) (B : Nat) (ps : List (Int × Int)) (cs : List Int) (w : World) (hv : PAt w w.heap.size v ps) (hu : IRow w B u cs) (hl : ps.length ≤ 1048576) (hm : cs.length ≤ 1048576) (hok : validC n ps = true) (hb2 : (colsOk n cs && inB land 0 (n - 1) && inB oth 0 9) = false) :
    Calls Tryd.prog 18 #[.int .i64 n, v, u, .int .i64 land, .int .i64 oth] w fun e w' => ∃ r, e = .returned (.tuple #[r, .int .i64 2]) ∧ IRow w' w.heap.size r [] ∧ Below w.heap.size w w' := by
  obtain ⟨n0, n1, _, _⟩ := validC_facts hok
  have OK := Lib.hid (l09Ok_any n v ps w hv hl)
  have HV := Lib.hid hv
  have HU := Lib.hid hu
  obtain ⟨ap, cp, rfl, _⟩ := hv
  obtain ⟨⟨ac, cc, eu⟩, _⟩ := irow_shape hu
  subst eu
  rw [hok] at OK
  have CO := Lib.hid (fun W (h : IAt W W.heap.size (.slice ac cs.length cc) cs) => l09Colours_any n (.slice ac cs.length cc) cs W h hm)
  have I1 := Lib.hid (fun W => l00In_any land 0 (n - 1) W)
  have I2 := Lib.hid (fun W => l00In_any oth 0 9 W)
  have kn : IntKind.i64.wrap (n - 1) = n - 1 := IntWalk.i64_in _ (by omega)
  generalize colsOk n cs = b1 at CO hb2
  generalize inB land 0 (n - 1) = b2 at I1 hb2
  generalize inB oth 0 9 = b3 at I2 hb2
  clear hok hu
  cases b1 with
  | false =>
    clear hb2
    go_enter Tryd.func18, Tryd.ntmps18
    go_wp2_with fail
    refine OK.out.mono ?_
    rintro e w1 ⟨rfl, hb⟩
    have HB1 := Lib.hid hb
    have CO1 := Lib.hid (CO.out w1 (iat_of_row (irow_keep HU.out hb)))
    clear hb
    go_wp2_with fail
    refine CO1.out.mono ?_
    rintro e w2 ⟨rfl, hb⟩
    have HB2 := Lib.hid (HB1.out.trans (hb.mono HB1.out.size))
    clear hb
    have HB := HB2.out
    go_wp2
    exact bodyPost_ret (v := .tuple #[.slice none 0 0, .int .i64 2]) (by simp [results, Tryd.results18, go_sem]) rfl ⟨_, rfl, irow_nil _ _, HB⟩
  | true =>
    cases b2 with
    | false =>
      clear hb2
      go_enter Tryd.func18, Tryd.ntmps18
      go_wp2_with fail
      refine OK.out.mono ?_
      rintro e w1 ⟨rfl, hb⟩
      have HB1 := Lib.hid hb
      have CO1 := Lib.hid (CO.out w1 (iat_of_row (irow_keep HU.out hb)))
      clear hb
      go_wp2_with fail
      refine CO1.out.mono ?_
      rintro e w2 ⟨rfl, hb⟩
      have HB2 := Lib.hid (HB1.out.trans (hb.mono HB1.out.size))
      clear hb
      have HB := HB2.out
      go_wp2_with fail
      refine (I1.out _).mono ?_
      rintro e w' ⟨rfl, rfl⟩
      go_wp2
      exact bodyPost_ret (v := .tuple #[.slice none 0 0, .int .i64 2]) (by simp [results, Tryd.results18, go_sem]) rfl ⟨_, rfl, irow_nil _ _, HB⟩
    | true =>
      obtain rfl : b3 = false := by simpa using hb2
      clear hb2
      go_enter Tryd.func18, Tryd.ntmps18
      go_wp2_with fail
      refine OK.out.mono ?_
      rintro e w1 ⟨rfl, hb⟩
      have HB1 := Lib.hid hb
      have CO1 := Lib.hid (CO.out w1 (iat_of_row (irow_keep HU.out hb)))
      clear hb
      go_wp2_with fail
      refine CO1.out.mono ?_
      rintro e w2 ⟨rfl, hb⟩
      have HB2 := Lib.hid (HB1.out.trans (hb.mono HB1.out.size))
      clear hb
      have HB := HB2.out
      go_wp2_with fail
      refine (I1.out _).mono ?_
      rintro e w' ⟨rfl, rfl⟩
      go_wp2_with fail
      refine (I2.out _).mono ?_
      rintro e w' ⟨rfl, rfl⟩
      go_wp2
      exact bodyPost_ret (v := .tuple #[.slice none 0 0, .int .i64 2]) (by simp [results, Tryd.results18, go_sem]) rfl ⟨_, rfl, irow_nil _ _, HB⟩
set_option maxRecDepth 100000 in
set_option maxHeartbeats 2000000 in
theorem specSw_clash (n land oth : Int) (v u : Value) (B : Nat) (ps : List (Int × Int)) (cs : List Int) (w : World) (hv : PAt w w.heap.size v ps) (hu : IRow w B u cs) (hl : ps.length ≤ 1048576) (hm : cs.length ≤ 1048576) (hok : validC n ps = true) (hcs : colsOk n cs = true) (hla : inB land 0 (n - 1) = true) (hot : inB oth 0 9 = true) (c : Int) (hc : (0 ≤ clashV ps cs ∧ c = 6) ∨ (clashV ps cs = -1 ∧ cAt cs land = oth ∧ c = 9)) :
    Calls Tryd.prog 18 #[.int .i64 n, v, u, .int .i64 land, .int .i64 oth] w fun e w' => ∃ r, e = .returned (.tuple #[r, .int .i64 c]) ∧ IRow w' w.heap.size r [] ∧ Below w.heap.size w w' := by
  obtain ⟨n0, n1, hl30, hf⟩ := validC_facts hok
  obtain ⟨ce, _⟩ := colsOk_facts hcs
  obtain ⟨la0, la1⟩ := inB_of hla
  obtain ⟨La, rfl⟩ : ∃ La : Nat, land = (La : Int) := ⟨land.toNat, by omega⟩
  have OK := Lib.hid (l09Ok_any n v ps w hv hl)
  have HV := Lib.hid hv
  have HU := Lib.hid hu
  obtain ⟨ap, cp, rfl, _⟩ := hv
  obtain ⟨⟨ac, cc, eu⟩, _⟩ := irow_shape hu
  subst eu
  rw [hok] at OK
  have CO := Lib.hid (fun W (h : IAt W W.heap.size (.slice ac cs.length cc) cs) => l09Colours_any n (.slice ac cs.length cc) cs W h hm)
  rw [hcs] at CO
  have CL := Lib.hid (fun W (h : PAt W W.heap.size (.slice ap ps.length cp) ps) (h2 : IAt W W.heap.size (.slice ac cs.length cc) cs) => l09Clash_any _ _ ps cs W h h2 (by omega) (by omega) (fun i hi => by have := hf i hi; omega))
  have I1 := Lib.hid (fun W => l00In_any (La : Int) 0 (n - 1) W)
  have I2 := Lib.hid (fun W => l00In_any oth 0 9 W)
  rw [hla] at I1
  rw [hot] at I2
  have kn : IntKind.i64.wrap (n - 1) = n - 1 := IntWalk.i64_in _ (by omega)
  have hlan : La < cs.length := by omega
  have hlan2 : (La : Int) < (cs.length : Int) := by omega
  have hlan0 : 0 ≤ (La : Int) := by omega
  obtain ⟨gc, egc, _, hcell⟩ := irow_at hu La hlan
  subst egc
  rw [cAt_row hlan] at hcell
  have gcl := World.block_lt_of_cell? _ _ hcell
  generalize cAt cs (La : Int) = own at hcell hc
  generalize clashV ps cs = cv at CL hc
  clear hok hcs hla hot hu ce la0 la1 hf hl30 hlan
  rcases hc with ⟨h1, rfl⟩ | ⟨rfl, rfl, rfl⟩
  · go_enter Tryd.func18, Tryd.ntmps18
    go_wp2_with fail
    refine OK.out.mono ?_
    rintro e w1 ⟨rfl, hb⟩
    have HB1 := Lib.hid hb
    have CO1 := Lib.hid (CO.out w1 (iat_of_row (irow_keep HU.out hb)))
    clear hb
    go_wp2_with fail
    refine CO1.out.mono ?_
    rintro e w2 ⟨rfl, hb⟩
    have HB2 := Lib.hid (HB1.out.trans (hb.mono HB1.out.size))
    clear hb
    go_wp2_with fail
    refine (I1.out _).mono ?_
    rintro e w' ⟨rfl, rfl⟩
    go_wp2_with fail
    refine (I2.out _).mono ?_
    rintro e w' ⟨rfl, rfl⟩
    have CL1 := Lib.hid (CL.out w2 (pat_up (pat_keep HV.out HB2.out) HB2.out.size) (iat_of_row (irow_keep HU.out HB2.out)))
    go_wp2_with fail
    refine CL1.out.mono ?_
    rintro e w3 ⟨rfl, hb⟩
    have HB := HB2.out.trans (hb.mono HB2.out.size)
    clear hb
    go_wp2
    exact bodyPost_ret (v := .tuple #[.slice none 0 0, .int .i64 6]) (by simp [results, Tryd.results18, go_sem]) rfl ⟨_, rfl, irow_nil _ _, HB⟩
  · go_enter Tryd.func18, Tryd.ntmps18
    go_wp2_with fail
    refine OK.out.mono ?_
    rintro e w1 ⟨rfl, hb⟩
    have HB1 := Lib.hid hb
    have CO1 := Lib.hid (CO.out w1 (iat_of_row (irow_keep HU.out hb)))
    clear hb
    go_wp2_with fail
    refine CO1.out.mono ?_
    rintro e w2 ⟨rfl, hb⟩
    have HB2 := Lib.hid (HB1.out.trans (hb.mono HB1.out.size))
    clear hb
    go_wp2_with fail
    refine (I1.out _).mono ?_
    rintro e w' ⟨rfl, rfl⟩
    go_wp2_with fail
    refine (I2.out _).mono ?_
    rintro e w' ⟨rfl, rfl⟩
    have CL1 := Lib.hid (CL.out w2 (pat_up (pat_keep HV.out HB2.out) HB2.out.size) (iat_of_row (irow_keep HU.out HB2.out)))
    go_wp2_with fail
    refine CL1.out.mono ?_
    rintro e w3 ⟨rfl, hb⟩
    have HB := HB2.out.trans (hb.mono HB2.out.size)
    have hc3 := (HB.cell (p := ⟨gc, La, none⟩) gcl).trans hcell
    clear hb
    go_wp2
    exact bodyPost_ret (v := .tuple #[.slice none 0 0, .int .i64 9]) (by simp [results, Tryd.results18, go_sem]) rfl ⟨_, rfl, irow_nil _ _, HB⟩
theorem specSw_any (n land oth : Int) (v u : Value) (B : Nat) (ps : List (Int × Int)) (cs : List Int) (w : World) (hv : PAt w w.heap.size v ps) (hu : IRow w B u cs) (hl : ps.length ≤ 1048576) (hm : cs.length ≤ 1048576) :
    Calls Tryd.prog 18 #[.int .i64 n, v, u, .int .i64 land, .int .i64 oth] w fun e w' => ∃ r, e = .returned (.tuple #[r, .int .i64 (codeSw n ps cs land oth)]) ∧ IRow w' w.heap.size r (valSw n ps cs land oth) ∧ Below w.heap.size w w' := by
  have nil : ∀ c : Int, codeSw n ps cs land oth = c → c ≠ 0 → valSw n ps cs land oth = [] := fun c h1 h2 => by
    unfold valSw; rw [h1, if_neg h2]
  cases h1 : validC n ps with
  | false =>
    have e := show codeSw n ps cs land oth = 1 by simp [codeSw, h1]
    rw [nil 1 e (by decide), e]
    exact specSw_one n land oth v u B ps cs w hv hu hl hm h1
  | true =>
    cases h2 : (colsOk n cs && inB land 0 (n - 1) && inB oth 0 9) with
    | false =>
      have e := show codeSw n ps cs land oth = 2 by simp only [codeSw, h1, h2]; simp
      rw [nil 2 e (by decide), e]
      exact specSw_two n land oth v u B ps cs w hv hu hl hm h1 h2
    | true =>
      have h3 := h2
      simp only [Bool.and_eq_true] at h3
      obtain ⟨⟨c1, c2⟩, c3⟩ := h3
      rcases clashV_ge ps cs with h4 | h4
      · by_cases h5 : cAt cs land = oth
        · have e := show codeSw n ps cs land oth = 9 by simp only [codeSw, h1, h2, h4, h5]; simp
          rw [nil 9 e (by decide), e]
          exact specSw_clash n land oth v u B ps cs w hv hu hl hm h1 c1 c2 c3 9 (.inr ⟨h4, h5, rfl⟩)
        · have e := show codeSw n ps cs land oth = 0 by simp only [codeSw, h1, h2, h4, if_neg h5]; simp
          rw [show valSw n ps cs land oth = swapC n ps cs land oth by unfold valSw; rw [if_pos e], e]
          exact specSw_good n land oth v u B ps cs w hv hu h1 c1 c2 c3 h4 h5
      · have e := show codeSw n ps cs land oth = 6 by simp only [codeSw, h1, h2, if_neg (show ¬ clashV ps cs = -1 by omega)]; simp
        rw [nil 6 e (by decide), e]
        exact specSw_clash n land oth v u B ps cs w hv hu hl hm h1 c1 c2 c3 6 (.inl ⟨h4, rfl⟩)
end Go.Proofs.YtemhmejjmhbfdabDoor.sines
