/- The model's grids: turned grids: contracts. -/
import Derived.Test.YtpekchihdmhkkaaGridS2
import Derived.Deep.AppendLies
import Derived.StillTailTactics
import Derived.Deep.LoopGhost
namespace Go.Proofs.Ytpekchihdmhkkaa.stab
open Go.ChangeShapes Go.WideShapes Go.ChangeAt Go.RowKit Go.Proofs.Ytpekchihdmhkkaa.split Go.Proofs.Ytpekchihdmhkkaa.sines Go.Proofs.Ytpekchihdmhkkaa.names
set_option linter.unusedSimpArgs false
set_option linter.unusedVariables false

/-- A row that begins at its byte a. -/
def cutAt (s : ByteArray) (a : Nat) : ByteArray := s.extract a s.size ++ s.extract 0 a
theorem cutAt_zero (s : ByteArray) : cutAt s 0 = cutAt s s.size := by
  unfold cutAt
  apply ByteArray.ext
  simp
theorem cutAt_size (s : ByteArray) (a : Nat) (h : a ≤ s.size) : (cutAt s a).size = s.size := by
  unfold cutAt
  simp [ByteArray.size_append, ByteArray.size_extract]
  omega
def wideG (ps : List ByteArray) : Nat := (sAt ps 0).size
/-- Where turned rows begin. -/
def fromTG (n : Nat) (cells : Int) : Nat := ((-cells) % (n : Int)).toNat
def okTG (ps : List ByteArray) (cells : Int) : Bool := okG ps && inB cells (-1000) 1000
def valTG (ps : List ByteArray) (cells : Int) : List ByteArray := if okTG ps cells = true then ps.map fun s => cutAt s (fromTG (wideG ps) cells) else []
def codeTG (ps : List ByteArray) (cells : Int) : Int := if okG ps = true then (if inB cells (-1000) 1000 = true then 0 else 2) else 1
theorem valTG_len {ps : List ByteArray} {cells : Int} (h : ps.length ≤ 1048576) : (valTG ps cells).length ≤ 1048576 := by
  unfold valTG
  split
  · simpa using h
  · simp
/-- The model's beginning: behind the whole row where nothing is turned. -/
theorem from_spec {n : Nat} {cells at' : Int} (h1 : 1 ≤ n) (h : at' = cells % (n : Int)) : ∃ a : Nat, (n : Int) - at' = (a : Int) ∧ a ≤ n ∧ ∀ s : ByteArray, s.size = n → cutAt s a = cutAt s (fromTG n cells) := by
  have hn : (0 : Int) < (n : Int) := by omega
  have g1 := Int.emod_nonneg cells (show (n : Int) ≠ 0 by omega)
  have g2 := Int.emod_lt_of_pos cells hn
  refine ⟨n - at'.toNat, by omega, by omega, fun s hs => ?_⟩
  unfold fromTG
  by_cases h0 : cells % (n : Int) = 0
  · have : (-cells) % (n : Int) = 0 := by
      have e := Int.mul_ediv_add_emod cells (n : Int)
      rw [h0, Int.add_zero] at e
      rw [← e, ← Int.mul_neg]
      exact Int.mul_emod_right _ _
    rw [this]
    have e : n - at'.toNat = s.size := by omega
    rw [e]
    exact (cutAt_zero s).symm
  · have : (-cells) % (n : Int) = (n : Int) - cells % (n : Int) := by
      have e : -cells = ((n : Int) - cells % (n : Int)) + (n : Int) * (-(cells / (n : Int)) - 1) := by
        have := Int.mul_ediv_add_emod cells (n : Int)
        have e2 : (n : Int) * (-(cells / (n : Int)) - 1) = -((n : Int) * (cells / (n : Int))) - (n : Int) := by
          rw [Int.mul_sub, Int.mul_neg, Int.mul_one]
        omega
      rw [e, Int.add_mul_emod_self_left]
      exact Int.emod_eq_of_lt (by omega) (by omega)
    rw [this]
    congr 1
    omega
theorem info_str2 : (Try.prog.info? 9).map (fun i => (i.zero, i.size, i.bytes)) = some (some (.string ByteArray.empty), 1, 16) := by kernel_rfl
theorem newS (w : World) (s : ByteArray) (n : Nat) (h : w.heap.size = n) : ∀ j u, ([.string s] : List Value)[j]? = some u → (w.alloc (.cells #[.string s] 9)).cell? ((⟨n, 0, none⟩ : Addr).add j) = some u := by
  subst h
  intro j u hj
  match j, hj with
  | 0, hj => simp at hj; subst hj; simp [Addr.add]
theorem cellS (s : ByteArray) : ∀ u ∈ ([.string s] : List Value), u.oneCell' = true := fun u hu => by simp at hu; subst hu; rfl
theorem snocS {w : World} {B : Nat} {v : Value} {o : List ByteArray} {x : ByteArray} (h : w.ownsRow B 9 1 v (o.length + 1) (split.strs o ++ [.string x])) : SRow w B v (o ++ [x]) := by
  unfold SRow
  rw [List.length_append, show [x].length = 1 from rfl, show split.strs (o ++ [x]) = split.strs o ++ [.string x] by simp [split.strs]]
  exact h
theorem srow_made (w : World) (B : Nat) (h : B ≤ w.heap.size) : SRow (w.alloc (.cells #[] 9)) B (.slice (some ⟨w.heap.size, 0, none⟩) 0 0) [] := World.ownsRow_made w #[] 0 h (by decide) rfl
theorem srow_heap {w w' : World} {B : Nat} {v : Value} {ps : List ByteArray} (h : SRow w B v ps) (e : w'.heap = w.heap) : SRow w' B v ps := by
  refine ⟨h.1, ?_⟩
  rw [e]
  exact h.2
/-- The remainder as the machine gives it, and the correction. -/
theorem at_spec {cells : Int} {n : Nat} (h1 : 1 ≤ n) : (if cells.tmod (n : Int) < 0 then cells.tmod (n : Int) + (n : Int) else cells.tmod (n : Int)) = cells % (n : Int) := by
  have hn : (0 : Int) < (n : Int) := by omega
  have g1 := Int.emod_nonneg cells (show (n : Int) ≠ 0 by omega)
  have g2 := Int.emod_lt_of_pos cells hn
  rw [Int.tmod_eq_emod]
  have hab : ((n : Int).natAbs : Int) = (n : Int) := by omega
  by_cases h0 : 0 ≤ cells ∨ (n : Int) ∣ cells
  · simp only [h0, if_true]
    rw [if_neg (by omega)]
    omega
  · simp only [h0, if_false, hab]
    rw [if_pos (by omega)]
    omega
set_option maxRecDepth 100000 in
set_option maxHeartbeats 4000000 in
theorem specTurnGrid_any (v : Value) (ps : List ByteArray) (cells : Int) (w : World) (hv : SAt w w.heap.size v ps) (hl : ps.length ≤ 1048576) (hr : ∀ i, i < ps.length → (sAt ps i).size ≤ 1048576) :
    Calls Try.prog 32 #[v, .int .i64 cells] w fun e w' => ∃ r, e = .returned (.tuple #[r, .int .i64 (codeTG ps cells)]) ∧ SRow w' w.heap.size r (valTG ps cells) ∧ Below w.heap.size w w' := by
  have OK := Lib.hid (l12Ok_any v ps w _ hv hl hr)
  have HV := Lib.hid hv
  obtain ⟨ar, c, rfl, _, hcl⟩ := hv
  have HCL := Lib.hid hcl
  clear hl hr hcl
  unfold valTG codeTG okTG
  cases h : okG ps with
  | false =>
    rw [h] at OK
    go_enter Try.func32, Try.ntmps32
    go_wp2_with fail
    refine OK.out.mono ?_
    rintro e w' ⟨rfl, q, rfl⟩
    go_wp2
    exact bodyPost_ret (v := .tuple #[.slice none 0 0, .int .i64 1]) (by simp [results, Try.results32, go_sem]) rfl ⟨_, rfl, ⟨rfl, .inl ⟨rfl, rfl⟩⟩, below_drawn _ q⟩
  | true =>
    rw [h] at OK
    have g := grid_of h
    have hpN : 0 < ps.length := g.m1
    simp only [if_true, Bool.true_and]
    cases hin : inB cells (-1000) 1000 with
    | false =>
      simp only [Bool.false_eq_true, if_false]
      go_enter Try.func32, Try.ntmps32
      go_wp2_with fail
      refine OK.out.mono ?_
      rintro e w' ⟨rfl, q, rfl⟩
      go_wp2_with fail
      refine (l00In_any _ _ _ _).mono ?_
      rw [hin]
      rintro e w' ⟨rfl, rfl⟩
      go_wp2
      exact bodyPost_ret (v := .tuple #[.slice none 0 0, .int .i64 2]) (by simp [results, Try.results32, go_sem]) rfl ⟨_, rfl, ⟨rfl, .inl ⟨rfl, rfl⟩⟩, below_drawn _ q⟩
    | true =>
      simp only [if_true]
      have hc := inB_of hin
      have hm1 := g.m1
      have hm2 := g.m2
      have hn1 := g.n1
      have hn2 := g.n2
      have HS := Lib.hid g.size
      obtain ⟨b0, off0, rfl, hb0, z0⟩ := HCL.out 0 (by omega)
      rw [Nat.add_zero] at z0
      have AT := Lib.hid (at_spec (cells := cells) hn1)
      obtain ⟨a, ha, han, hcut⟩ := from_spec (cells := cells) hn1 rfl
      have ETG := Lib.hid (show (ps.map fun s => cutAt s (fromTG (wideG ps) cells)) = rowS ps.length fun i => cutAt (sAt ps i) a from by
        have e := rowS_sAt ps
        unfold rowS at e ⊢
        have e2 : (ps.map fun s => cutAt s (fromTG (wideG ps) cells)) = ((List.range ps.length).map (sAt ps)).map fun s => cutAt s (fromTG (wideG ps) cells) := by rw [e]
        rw [e2, List.map_map]
        apply List.map_congr_left
        intro i hi
        have hi' := List.mem_range.1 hi
        exact (hcut (sAt ps i) (HS.out i hi')).symm)
      rw [ETG.out]
      have HA := Lib.hid ha
      obtain ⟨n, hn⟩ : ∃ n, Hid ((sAt ps 0).size = n) := ⟨_, Lib.hid rfl⟩
      rw [hn.out] at HS AT HA hn1 hn2 han
      have hzn : ((sAt ps 0).size : Int) = (n : Int) := by rw [hn.out]
      generalize sAt ps 0 = s0 at z0 hzn
      have hp0 : (0 : Int) < (ps.length : Int) := by omega
      have hml : (ps.length : Int) ≤ 16 := by omega
      have hn1i : (1 : Int) ≤ (n : Int) := by omega
      have hn2i : (n : Int) ≤ 32 := by omega
      have hnz : ((n : Int) == 0) = false := by simp; omega
      clear hcut h g ha hm1 hm2 ETG
      have hti := IntWalk.i64_in (cells.tmod (n : Int)) (by have := tmod_small cells (n : Int) (by omega); omega)
      obtain ⟨i0, hi, hz0, hz1, hz2⟩ := info_partsT info_str2
      go_enter Try.func32, Try.ntmps32
      go_wp2_with fail
      refine OK.out.mono ?_
      rintro e w1 ⟨rfl, q, hw⟩
      have HB1 := Lib.hid (show Below w.heap.size w w1 by rw [hw]; exact below_drawn _ q)
      clear hw
      go_wp2_with fail
      refine (l00In_any _ _ _ _).mono ?_
      rw [hin]
      rintro e w' ⟨rfl, rfl⟩
      have u0 := (HB1.out.cell (p := ⟨b0, off0, none⟩) hb0).trans z0
      clear z0 hin
      obtain ⟨A, hA⟩ : ∃ A, Hid (cells % (n : Int) = A) := ⟨_, Lib.hid rfl⟩
      rw [hA.out] at AT HA
      have hna := HA.out
      have hwa : IntKind.i64.wrap (a : Int) = (a : Int) := IntWalk.i64_in _ (by omega)
      have hwt : IntKind.i64.wrap (cells.tmod (n : Int) + (n : Int)) = cells.tmod (n : Int) + (n : Int) := IntWalk.i64_in _ (by have := tmod_small cells (n : Int) (by omega); omega)
      have CT := Lib.hid (show ∀ k, k < ps.length → (sAt ps k).size = n from HS.out)
      by_cases hT0 : cells.tmod (n : Int) < 0
      · rw [if_pos hT0] at AT
        go_wp2
        rw [AT.out]
        clear hti hwt hT0 hnz hna
        have HSZ := HB1.out.size
        go_loopw [8, 9] (fun v i wr => ∃ k : Nat, k ≤ ps.length ∧ i = .int .i64 (k : Int) ∧ SRow wr w1.heap.size v (rowS k fun i => cutAt (sAt ps i) a) ∧ Below w1.heap.size w1 wr) (fun _ i _ => ps.length - (intOf i).toNat)
        case atStart => exact ⟨0, Nat.zero_le _, rfl, World.ownsRow_made w1 #[] 0 (Nat.le_refl _) (by decide) rfl, (Below.refl _ _).alloc (Nat.le_refl _) _⟩
        case round =>
          obtain ⟨k, hk, rfl, hr, hb⟩ := hrel
          have HR := Lib.hid hr
          have HB := Lib.hid hb
          by_cases hlt : k < ps.length
          · obtain ⟨bb, off, e1, hbs, c1⟩ := HCL.out k hlt
            obtain ⟨rfl, rfl⟩ : b0 = bb ∧ off0 = off := by simpa using e1
            have hbw : b0 < w1.heap.size := by omega
            have u1 := (hb.cell (p := ⟨b0, off0 + k, none⟩) hbw).trans ((HB1.out.cell (p := ⟨b0, off0 + k, none⟩) hbs).trans c1)
            have hk0 : 0 ≤ (k : Int) := by omega
            have hk1 : (k : Int) < (ps.length : Int) := by omega
            have hsz := CT.out k hlt
            have hna := HA.out
            have SN := Lib.hid (show (rowS (k + 1) fun i => cutAt (sAt ps i) a) = (rowS k fun i => cutAt (sAt ps i) a) ++ [cutAt (sAt ps k) a] from by simp [rowS, List.range_succ])
            have HC1 := Lib.hid c1
            generalize sAt ps k = s at u1 hsz SN HC1
            have ha1 : a ≤ s.size := by omega
            have ha2 : (a : Int) ≤ (s.size : Int) := by omega
            have hcs := cutAt_size s a ha1
            obtain ⟨ns, hns⟩ : ∃ ns, Hid ((rowS k fun i => cutAt (sAt ps i) a) = ns) := ⟨_, Lib.hid rfl⟩
            have hnl : ns.length = k := by rw [← hns.out, rowS_len]
            rw [hns.out] at HR SN
            have nm1 : ns.length + 1 ≤ maxLen := by rw [hnl]; unfold maxLen; omega
            have nm2 : (ns.length + 1) * 16 ≤ 140737488355328 := by rw [hnl]; omega
            have hsz1 := hb.size
            have HNL := Lib.hid hnl
            have HSS := Lib.hid hsz
            have x1 : (s.extract a s.size).size = s.size - a := by simp [ByteArray.size_extract]
            have x2 : (s.extract 0 a).size = a := by simp [ByteArray.size_extract]; omega
            have hov : ¬ 9223372036854775807 < (s.extract a s.size).size + (s.extract 0 a).size := by rw [x1, x2]; omega
            have hov2 : ¬ 9223372036854775807 < s.size - a + min a s.size := by omega
            have hov3 : ¬ 9223372036854775807 < s.size - a + a := by omega
            have hov4 : ¬ 9223372036854775807 < s.size := by omega
            have hlim : s.size ≤ 32 := by omega
            obtain ⟨⟨a8, c8, rfl⟩, _⟩ := srow_shape HR.out
            clear hr hb c1 e1 hnl hsz x1 x2 hcs
            go_wp2_with fail
            have u2 : wr.drew.cell? ⟨b0, off0 + k, none⟩ = some (.string s) := u1
            have HR2 := Lib.hid (show SRow wr.drew w1.heap.size (.slice a8 ns.length c8) ns from srow_heap HR.out rfl)
            have HB2 := Lib.hid (show Below w1.heap.size w1 wr.drew from HB.out.drew)
            have hsz2 : w1.heap.size ≤ wr.drew.heap.size := hsz1
            have k1 := u2
            have AK : ∀ o, (wr.alloc o).drew.cell? ⟨b0, off0 + k, none⟩ = some (.string s) := fun o => (((Below.refl wr.heap.size wr).alloc (Nat.le_refl _) o).cell (p := ⟨b0, off0 + k, none⟩) (Nat.lt_of_lt_of_le hbw hsz1)).trans u1
            go_region_held3 (fun U => U.cell? ⟨b0, off0 + k, none⟩ = some (.string s)) (first | exact k1 | exact AK _ | exact m1 | (simp [go_sem]; first | exact k1 | exact m1)) (first | ((refine step_append_lies _ (by rfl) _ _ 22 (by rfl) (w1.heap.size) 9 i0 (.string ByteArray.empty) 1 16 Try.underlying22 hi hz0 hz1 hz2 rfl (by decide) _ ns.length _ (by rfl) (srow_heap (HR2.out.alloc (.cells #[.string (cutAt s a)] 9)) rfl) ⟨wr.heap.size, 0, none⟩ 1 1 [.string (cutAt s a)] (by rfl) rfl (newS wr.drew _ _ rfl) (cellS _) (by decide) nm1 nm2 (by simp; omega) (wr.heap.size + 1) (by simp) ?_; intro g4 cap4 w4 hown4 hg4 hat4 hlt4; have BG := Lib.hid ((HB2.out.alloc hsz2 (.cells #[.string (cutAt s a)] 9)).grown hg4 (by simp; omega) (fun j hj => (HR2.out.lt j hj).1)); have m1 := ((BG.out.cell (p := ⟨b0, off0 + k, none⟩) hbw)).trans ((HB1.out.cell (p := ⟨b0, off0 + k, none⟩) hbs).trans HC1.out); skip)))
            go_wp2
            go_roundw
            case rel => exact ⟨k + 1, by omega, by go_num, by rw [SN.out]; exact snocS hown4, BG.out⟩
            case measure => simp [intOf]; omega
          · obtain rfl : k = ps.length := by omega
            obtain ⟨⟨a8, c8, rfl⟩, _⟩ := srow_shape HR.out
            clear hr hb
            go_wp2
            exact bodyPost_ret (v := .tuple #[.slice a8 (rowS ps.length fun i => cutAt (sAt ps i) a).length c8, .int .i64 0]) (by simp [results, Try.results32, go_sem]) rfl ⟨_, rfl, srow_up HR.out HSZ, HB1.out.trans (HB.out.mono HSZ)⟩
      · rw [if_neg hT0] at AT
        go_wp2
        rw [AT.out]
        clear hti hwt hT0 hnz hna
        have HSZ := HB1.out.size
        go_loopw [8, 9] (fun v i wr => ∃ k : Nat, k ≤ ps.length ∧ i = .int .i64 (k : Int) ∧ SRow wr w1.heap.size v (rowS k fun i => cutAt (sAt ps i) a) ∧ Below w1.heap.size w1 wr) (fun _ i _ => ps.length - (intOf i).toNat)
        case atStart => exact ⟨0, Nat.zero_le _, rfl, World.ownsRow_made w1 #[] 0 (Nat.le_refl _) (by decide) rfl, (Below.refl _ _).alloc (Nat.le_refl _) _⟩
        case round =>
          obtain ⟨k, hk, rfl, hr, hb⟩ := hrel
          have HR := Lib.hid hr
          have HB := Lib.hid hb
          by_cases hlt : k < ps.length
          · obtain ⟨bb, off, e1, hbs, c1⟩ := HCL.out k hlt
            obtain ⟨rfl, rfl⟩ : b0 = bb ∧ off0 = off := by simpa using e1
            have hbw : b0 < w1.heap.size := by omega
            have u1 := (hb.cell (p := ⟨b0, off0 + k, none⟩) hbw).trans ((HB1.out.cell (p := ⟨b0, off0 + k, none⟩) hbs).trans c1)
            have hk0 : 0 ≤ (k : Int) := by omega
            have hk1 : (k : Int) < (ps.length : Int) := by omega
            have hsz := CT.out k hlt
            have hna := HA.out
            have SN := Lib.hid (show (rowS (k + 1) fun i => cutAt (sAt ps i) a) = (rowS k fun i => cutAt (sAt ps i) a) ++ [cutAt (sAt ps k) a] from by simp [rowS, List.range_succ])
            have HC1 := Lib.hid c1
            generalize sAt ps k = s at u1 hsz SN HC1
            have ha1 : a ≤ s.size := by omega
            have ha2 : (a : Int) ≤ (s.size : Int) := by omega
            have hcs := cutAt_size s a ha1
            obtain ⟨ns, hns⟩ : ∃ ns, Hid ((rowS k fun i => cutAt (sAt ps i) a) = ns) := ⟨_, Lib.hid rfl⟩
            have hnl : ns.length = k := by rw [← hns.out, rowS_len]
            rw [hns.out] at HR SN
            have nm1 : ns.length + 1 ≤ maxLen := by rw [hnl]; unfold maxLen; omega
            have nm2 : (ns.length + 1) * 16 ≤ 140737488355328 := by rw [hnl]; omega
            have hsz1 := hb.size
            have HNL := Lib.hid hnl
            have HSS := Lib.hid hsz
            have x1 : (s.extract a s.size).size = s.size - a := by simp [ByteArray.size_extract]
            have x2 : (s.extract 0 a).size = a := by simp [ByteArray.size_extract]; omega
            have hov : ¬ 9223372036854775807 < (s.extract a s.size).size + (s.extract 0 a).size := by rw [x1, x2]; omega
            have hov2 : ¬ 9223372036854775807 < s.size - a + min a s.size := by omega
            have hov3 : ¬ 9223372036854775807 < s.size - a + a := by omega
            have hov4 : ¬ 9223372036854775807 < s.size := by omega
            have hlim : s.size ≤ 32 := by omega
            obtain ⟨⟨a8, c8, rfl⟩, _⟩ := srow_shape HR.out
            clear hr hb c1 e1 hnl hsz x1 x2 hcs
            go_wp2_with fail
            have u2 : wr.drew.cell? ⟨b0, off0 + k, none⟩ = some (.string s) := u1
            have HR2 := Lib.hid (show SRow wr.drew w1.heap.size (.slice a8 ns.length c8) ns from srow_heap HR.out rfl)
            have HB2 := Lib.hid (show Below w1.heap.size w1 wr.drew from HB.out.drew)
            have hsz2 : w1.heap.size ≤ wr.drew.heap.size := hsz1
            have k1 := u2
            have AK : ∀ o, (wr.alloc o).drew.cell? ⟨b0, off0 + k, none⟩ = some (.string s) := fun o => (((Below.refl wr.heap.size wr).alloc (Nat.le_refl _) o).cell (p := ⟨b0, off0 + k, none⟩) (Nat.lt_of_lt_of_le hbw hsz1)).trans u1
            go_region_held3 (fun U => U.cell? ⟨b0, off0 + k, none⟩ = some (.string s)) (first | exact k1 | exact AK _ | exact m1 | (simp [go_sem]; first | exact k1 | exact m1)) (first | ((refine step_append_lies _ (by rfl) _ _ 22 (by rfl) (w1.heap.size) 9 i0 (.string ByteArray.empty) 1 16 Try.underlying22 hi hz0 hz1 hz2 rfl (by decide) _ ns.length _ (by rfl) (srow_heap (HR2.out.alloc (.cells #[.string (cutAt s a)] 9)) rfl) ⟨wr.heap.size, 0, none⟩ 1 1 [.string (cutAt s a)] (by rfl) rfl (newS wr.drew _ _ rfl) (cellS _) (by decide) nm1 nm2 (by simp; omega) (wr.heap.size + 1) (by simp) ?_; intro g4 cap4 w4 hown4 hg4 hat4 hlt4; have BG := Lib.hid ((HB2.out.alloc hsz2 (.cells #[.string (cutAt s a)] 9)).grown hg4 (by simp; omega) (fun j hj => (HR2.out.lt j hj).1)); have m1 := ((BG.out.cell (p := ⟨b0, off0 + k, none⟩) hbw)).trans ((HB1.out.cell (p := ⟨b0, off0 + k, none⟩) hbs).trans HC1.out); skip)))
            go_wp2
            go_roundw
            case rel => exact ⟨k + 1, by omega, by go_num, by rw [SN.out]; exact snocS hown4, BG.out⟩
            case measure => simp [intOf]; omega
          · obtain rfl : k = ps.length := by omega
            obtain ⟨⟨a8, c8, rfl⟩, _⟩ := srow_shape HR.out
            clear hr hb
            go_wp2
            exact bodyPost_ret (v := .tuple #[.slice a8 (rowS ps.length fun i => cutAt (sAt ps i) a).length c8, .int .i64 0]) (by simp [results, Try.results32, go_sem]) rfl ⟨_, rfl, srow_up HR.out HSZ, HB1.out.trans (HB.out.mono HSZ)⟩
end Go.Proofs.Ytpekchihdmhkkaa.stab
