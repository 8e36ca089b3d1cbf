/- Colours that are exchanged: contract of the program. -/
import Derived.Test.YtemhmejjmhbfdabDoorColsP21
import Derived.Test.YtemhmejjmhbfdabDoorColsP23
import Derived.Test.YtemhmejjmhbfdabDoorShelf
namespace Go.Proofs.YtemhmejjmhbfdabDoor.sines
open Go.ChangeShapes Go.WideShapes Go.ChangeAt Go.RowKit Go.Shelf Go.Proofs.YtemhmejjmhbfdabDoor.spots Go.Proofs.YtemhmejjmhbfdabDoor.irows Go.Proofs.YtemhmejjmhbfdabDoor.pairsBorder
attribute [local go_sem] Oper.semAt_some
set_option linter.unusedSimpArgs false
set_option linter.unusedVariables false
theorem clashFrom_sign {cs : List Int} : ∀ (ps : List (Int × Int)) (k : Nat), clashFrom cs ps k = -1 ∨ 0 ≤ clashFrom cs ps k
  | [], _ => .inl rfl
  | p :: ps, k => by
    rw [clashFrom]
    split
    · right; omega
    · exact clashFrom_sign ps (k + 1)
theorem colsOk_clash9 {n : Int} {ps : List (Int × Int)} {cs : List Int} (h1 : validC n ps = true) (h2 : colsOk n cs = true) : ∀ i, i < ps.length → 0 ≤ (bAt ps i).1 ∧ (bAt ps i).1 < (cs.length : Int) ∧ 0 ≤ (bAt ps i).2 ∧ (bAt ps i).2 < (cs.length : Int) := fun i hi => by
  have := (validC_facts h1).2.2.2 i hi
  have := (colsOk_facts h2).1
  omega
theorem two_sets {cs : List Int} {OW OT : Nat} (hl : cs.length ≤ 10) : setsL cs OW ||| setsL cs OT = twoS cs (OW : Int) (OT : Int) := by
  apply mask_ext
  intro i
  rw [Nat.testBit_or, setsL, setsL, maskOf_bit, maskOf_bit, twoS_bit, okTwo]
  by_cases h : i < cs.length
  · have : i < 10 := by omega
    simp [h, this]
  · simp [h]
theorem cAt_get {cs : List Int} {j : Nat} (h : j < cs.length) : cAt cs (j : Int) = cs[j] := by simp [cAt, h]
theorem swap_fin {n : Int} {ps : List (Int × Int)} {cs : List Int} {OT : Int} {X : Nat} (hv : validC n ps = true) (hl : (cs.length : Int) = n) (hX : (X : Int) < n) (j : Nat) :
    (if j ∈ bitsL (rndK (maskN ps) (twoS cs (cAt cs (X : Int)) OT) (2 ^ X) n.toNat) then cAt cs (X : Int) + OT - cAt cs (j : Int) else cAt cs (j : Int)) = swapF ps cs (X : Int) OT j := by
  have n10 := (validC_facts hv).2.1
  have key := rnd_all (own := cAt cs (X : Int)) (oth := OT) hv hl hX j
  unfold swapF
  by_cases h : Reach ps cs (cAt cs (X : Int)) OT (X : Int) (j : Int)
  · have hj := h.inN hv ⟨by omega, hX⟩
    rw [if_pos h, if_pos (bitsL_mem.2 ⟨by omega, key.2 h⟩)]
    have h2 : cAt cs (j : Int) = cAt cs (X : Int) ∨ cAt cs (j : Int) = OT := by
      generalize (j : Int) = y at h
      cases h with
      | base => exact .inl rfl
      | step _ _ hk => simpa [okTwo] using hk
    split
    · omega
    · rcases h2 with h2 | h2
      · contradiction
      · omega
  · rw [if_neg h, if_neg (fun hm => h (key.1 (bitsL_mem.1 hm).2))]
theorem bx_keep {A C : World} {g : Nat} {t : TypeId} {v : Value} (h : Boxed A g t v) (hb : Below A.heap.size A C) : Boxed C g t v := h.kept (grown_of hb) (by simp)
/-- A row of numbers in a block of its own, of any room. -/
def RowK (w : World) (B g c n : Nat) (f : Nat → Int) : Prop := IRow w B (.slice (some ⟨g, 0, none⟩) n c) (rowF n f)
theorem rowK_cell {w : World} {B g c n : Nat} {f : Nat → Int} (h : RowK w B g c n f) {k : Nat} (hk : k < n) : w.cell? ⟨g, k, none⟩ = some (.int .i64 (f k)) ∧ w.frozen? ⟨g, k, none⟩ = false := by
  have h2 : IRow w B (.slice (some ⟨g, 0, none⟩) (rowF n f).length c) (rowF n f) := by rw [rowF_len]; exact h
  refine ⟨?_, World.ownsRow.frozenAt h2 k⟩
  rw [irow_cell h2 k (by rw [rowF_len]; exact hk)]
  simp [rowF]
theorem rowK_store {w : World} {B g c n : Nat} {f : Nat → Int} (h : RowK w B g c n f) {k : Nat} (hk : k < n) (x : Int) : RowK (w.setCell ⟨g, k, none⟩ (.int .i64 x)) B g c n (fun j => if j = k then x else f j) :=
  irow_store h (rowF_len n f) (rowF_set x hk) (rowF_len n _)
theorem rowK_congr {w : World} {B g c n : Nat} {f f' : Nat → Int} (h : RowK w B g c n f) (he : ∀ j, j < n → f j = f' j) : RowK w B g c n f' := by
  unfold RowK at h ⊢
  rw [← rowF_congr he]; exact h
theorem rowP_at {w : World} {g u : Nat} {f : Nat → Nat} {t : TypeId} {fr : Nat × Nat} {c : Nat} (h : w.heap[g]? = some (.cells (rowP u f) t fr)) (hc : c < 10) : w.cell? ⟨g, 1 + c, none⟩ = some (.int .u64 (f c : Int)) := by
  rw [cell_of_row _ _ _ _ _ _ h]
  obtain rfl | rfl | rfl | rfl | rfl | rfl | rfl | rfl | rfl | rfl : c = 0 ∨ c = 1 ∨ c = 2 ∨ c = 3 ∨ c = 4 ∨ c = 5 ∨ c = 6 ∨ c = 7 ∨ c = 8 ∨ c = 9 := by omega
  all_goals rfl
set_option maxRecDepth 100000 in
set_option maxHeartbeats 2000000 in
theorem implSw_badL (n : Int) (la : Int) (oth : Int) (v u : Value) (B : Nat) (ps : List (Int × Int)) (cs : List Int) (w : World) (hv : PAt w w.heap.size v ps) (hu : IRow w B u cs) (hl : ps.length ≤ 1048576) (hm : cs.length ≤ 1048576) (hi : inB la 0 (n - 1) = false) :
    Calls Tryd.prog 19 #[.int .i64 n, v, u, .int .i64 la, .int .i64 oth] w fun e w' => ∃ r, e = .returned (.tuple #[r, .int .i64 (if validC n ps = true then 2 else 1)]) ∧ IRow w' w.heap.size r [] ∧ Below w.heap.size w w' := by
  have HU0 := iat_of_row hu
  have IL := Lib.hid (fun W => isLandU_any n la W)
  have AC := Lib.hid (fun W (hb : Below w.heap.size w W) => areColours_any n u cs W (iat_up (iat_keep HU0 hb) hb.size) hm)
  have IC := Lib.hid (fun W => isColour_any oth W)
  have CD := Lib.hid (fun W (hb : Below w.heap.size w W) => bordersCode_any n v ps false W (pat_up (pat_keep hv hb) hb.size) hl)
  obtain ⟨av, c, rfl, _⟩ := hv
  obtain ⟨⟨ua, uc, rfl⟩, _⟩ := irow_shape hu
  rw [hi] at IL
  clear hu HU0
  generalize validC n ps = R at CD ⊢
  cases R <;> simp only [Bool.false_eq_true, if_false, if_true] at CD ⊢
  all_goals
    go_enter Tryd.func19, Tryd.ntmps19
    go_wp2_with fail
    have b7 := Lib.hid ((Boxed.new w 24 (.slice ua cs.length uc)).alloc (.cells #[.int .i64 oth] 2))
    have b9 := Lib.hid (show Boxed ((w.alloc (.cells #[.slice ua cs.length uc] 24)).alloc (.cells #[.int .i64 oth] 2)) (w.heap.size + 1) 2 (.int .i64 oth) by
      have := Boxed.new (w.alloc (.cells #[.slice ua cs.length uc] 24)) 2 (.int .i64 oth)
      simpa using this)
    have B1 := Lib.hid (((Below.refl w.heap.size w).alloc (Nat.le_refl _) (.cells #[.slice ua cs.length uc] 24)).alloc (by simp) (.cells #[.int .i64 oth] 2))
    generalize (w.alloc (.cells #[.slice ua cs.length uc] 24)).alloc (.cells #[.int .i64 oth] 2) = W1 at *
    have c7 := b7.out.cell
    refine (IL.out W1).mono ?_
    rintro e w' ⟨rfl, hw⟩
    subst hw
    go_wp2_with fail
    refine (CD.out W1 B1.out).mono ?_
    rintro e w3 ⟨rfl, hb⟩
    have B3 := Lib.hid (B1.out.trans (hb.mono B1.out.size))
    clear hb c7
    go_wp2
    first
      | (exact bodyPost_ret (v := .tuple #[.slice none 0 0, .int .i64 1]) (by simp [results, Tryd.results19, go_sem]) rfl ⟨_, rfl, irow_nil _ _, B3.out⟩)
      | (exact bodyPost_ret (v := .tuple #[.slice none 0 0, .int .i64 2]) (by simp [results, Tryd.results19, go_sem]) rfl ⟨_, rfl, irow_nil _ _, B3.out⟩)
set_option maxRecDepth 100000 in
set_option maxHeartbeats 2000000 in
theorem implSw_badC (n : Int) (la : Int) (oth : Int) (v u : Value) (B : Nat) (ps : List (Int × Int)) (cs : List Int) (w : World) (hv : PAt w w.heap.size v ps) (hu : IRow w B u cs) (hl : ps.length ≤ 1048576) (hm : cs.length ≤ 1048576) (hi : inB la 0 (n - 1) = true) (ho : colsOk n cs = false) :
    Calls Tryd.prog 19 #[.int .i64 n, v, u, .int .i64 la, .int .i64 oth] w fun e w' => ∃ r, e = .returned (.tuple #[r, .int .i64 (if validC n ps = true then 2 else 1)]) ∧ IRow w' w.heap.size r [] ∧ Below w.heap.size w w' := by
  have HU0 := iat_of_row hu
  have IL := Lib.hid (fun W => isLandU_any n la W)
  have AC := Lib.hid (fun W (hb : Below w.heap.size w W) => areColours_any n u cs W (iat_up (iat_keep HU0 hb) hb.size) hm)
  have IC := Lib.hid (fun W => isColour_any oth W)
  have CD := Lib.hid (fun W (hb : Below w.heap.size w W) => bordersCode_any n v ps false W (pat_up (pat_keep hv hb) hb.size) hl)
  obtain ⟨av, c, rfl, _⟩ := hv
  obtain ⟨⟨ua, uc, rfl⟩, _⟩ := irow_shape hu
  rw [hi] at IL
  rw [ho] at AC
  clear hu HU0
  generalize validC n ps = R at CD ⊢
  cases R <;> simp only [Bool.false_eq_true, if_false, if_true] at CD ⊢
  all_goals
    go_enter Tryd.func19, Tryd.ntmps19
    go_wp2_with fail
    have b7 := Lib.hid ((Boxed.new w 24 (.slice ua cs.length uc)).alloc (.cells #[.int .i64 oth] 2))
    have b9 := Lib.hid (show Boxed ((w.alloc (.cells #[.slice ua cs.length uc] 24)).alloc (.cells #[.int .i64 oth] 2)) (w.heap.size + 1) 2 (.int .i64 oth) by
      have := Boxed.new (w.alloc (.cells #[.slice ua cs.length uc] 24)) 2 (.int .i64 oth)
      simpa using this)
    have B1 := Lib.hid (((Below.refl w.heap.size w).alloc (Nat.le_refl _) (.cells #[.slice ua cs.length uc] 24)).alloc (by simp) (.cells #[.int .i64 oth] 2))
    generalize (w.alloc (.cells #[.slice ua cs.length uc] 24)).alloc (.cells #[.int .i64 oth] 2) = W1 at *
    have c7 := b7.out.cell
    refine (IL.out W1).mono ?_
    rintro e w' ⟨rfl, hw⟩
    subst hw
    go_wp2_with fail
    refine (AC.out W1 B1.out).mono ?_
    rintro e w2 ⟨rfl, hb⟩
    have B2 := Lib.hid (B1.out.trans (hb.mono B1.out.size))
    have b72 := Lib.hid (bx_keep b7.out hb)
    have b92 := Lib.hid (bx_keep b9.out hb)
    have c9 := b92.out.cell
    clear hb c7
    go_wp2_with fail
    refine (CD.out w2 B2.out).mono ?_
    rintro e w3 ⟨rfl, hb⟩
    have B3 := Lib.hid (B2.out.trans (hb.mono B2.out.size))
    clear hb c9
    go_wp2
    first
      | (exact bodyPost_ret (v := .tuple #[.slice none 0 0, .int .i64 1]) (by simp [results, Tryd.results19, go_sem]) rfl ⟨_, rfl, irow_nil _ _, B3.out⟩)
      | (exact bodyPost_ret (v := .tuple #[.slice none 0 0, .int .i64 2]) (by simp [results, Tryd.results19, go_sem]) rfl ⟨_, rfl, irow_nil _ _, B3.out⟩)
set_option maxRecDepth 100000 in
set_option maxHeartbeats 2000000 in
theorem implSw_badO (n : Int) (la : Int) (oth : Int) (v u : Value) (B : Nat) (ps : List (Int × Int)) (cs : List Int) (w : World) (hv : PAt w w.heap.size v ps) (hu : IRow w B u cs) (hl : ps.length ≤ 1048576) (hm : cs.length ≤ 1048576) (hi : inB la 0 (n - 1) = true) (ho : colsOk n cs = true) (hj : inB oth 0 9 = false) :
    Calls Tryd.prog 19 #[.int .i64 n, v, u, .int .i64 la, .int .i64 oth] w fun e w' => ∃ r, e = .returned (.tuple #[r, .int .i64 (if validC n ps = true then 2 else 1)]) ∧ IRow w' w.heap.size r [] ∧ Below w.heap.size w w' := by
  have HU0 := iat_of_row hu
  have IL := Lib.hid (fun W => isLandU_any n la W)
  have AC := Lib.hid (fun W (hb : Below w.heap.size w W) => areColours_any n u cs W (iat_up (iat_keep HU0 hb) hb.size) hm)
  have IC := Lib.hid (fun W => isColour_any oth W)
  have CD := Lib.hid (fun W (hb : Below w.heap.size w W) => bordersCode_any n v ps false W (pat_up (pat_keep hv hb) hb.size) hl)
  obtain ⟨av, c, rfl, _⟩ := hv
  obtain ⟨⟨ua, uc, rfl⟩, _⟩ := irow_shape hu
  rw [hi] at IL
  rw [ho] at AC
  rw [hj] at IC
  clear hu HU0
  generalize validC n ps = R at CD ⊢
  cases R <;> simp only [Bool.false_eq_true, if_false, if_true] at CD ⊢
  all_goals
    go_enter Tryd.func19, Tryd.ntmps19
    go_wp2_with fail
    have b7 := Lib.hid ((Boxed.new w 24 (.slice ua cs.length uc)).alloc (.cells #[.int .i64 oth] 2))
    have b9 := Lib.hid (show Boxed ((w.alloc (.cells #[.slice ua cs.length uc] 24)).alloc (.cells #[.int .i64 oth] 2)) (w.heap.size + 1) 2 (.int .i64 oth) by
      have := Boxed.new (w.alloc (.cells #[.slice ua cs.length uc] 24)) 2 (.int .i64 oth)
      simpa using this)
    have B1 := Lib.hid (((Below.refl w.heap.size w).alloc (Nat.le_refl _) (.cells #[.slice ua cs.length uc] 24)).alloc (by simp) (.cells #[.int .i64 oth] 2))
    generalize (w.alloc (.cells #[.slice ua cs.length uc] 24)).alloc (.cells #[.int .i64 oth] 2) = W1 at *
    have c7 := b7.out.cell
    refine (IL.out W1).mono ?_
    rintro e w' ⟨rfl, hw⟩
    subst hw
    go_wp2_with fail
    refine (AC.out W1 B1.out).mono ?_
    rintro e w2 ⟨rfl, hb⟩
    have B2 := Lib.hid (B1.out.trans (hb.mono B1.out.size))
    have b72 := Lib.hid (bx_keep b7.out hb)
    have b92 := Lib.hid (bx_keep b9.out hb)
    have c9 := b92.out.cell
    clear hb c7
    go_wp2_with fail
    refine (IC.out w2).mono ?_
    rintro e w' ⟨rfl, hw⟩
    subst hw
    go_wp2_with fail
    refine (CD.out w2 B2.out).mono ?_
    rintro e w3 ⟨rfl, hb⟩
    have B3 := Lib.hid (B2.out.trans (hb.mono B2.out.size))
    have b73 := Lib.hid (bx_keep b72.out hb)
    have b93 := Lib.hid (bx_keep b92.out hb)
    have c73 := b73.out.cell
    clear hb c9
    go_wp2
    first
      | (exact bodyPost_ret (v := .tuple #[.slice none 0 0, .int .i64 1]) (by simp [results, Tryd.results19, go_sem]) rfl ⟨_, rfl, irow_nil _ _, B3.out⟩)
      | (exact bodyPost_ret (v := .tuple #[.slice none 0 0, .int .i64 2]) (by simp [results, Tryd.results19, go_sem]) rfl ⟨_, rfl, irow_nil _ _, B3.out⟩)
set_option maxRecDepth 100000 in
set_option maxHeartbeats 2000000 in
theorem implSw_badV (n : Int) (la : Int) (oth : Int) (v u : Value) (B : Nat) (ps : List (Int × Int)) (cs : List Int) (w : World) (hv : PAt w w.heap.size v ps) (hu : IRow w B u cs) (hl : ps.length ≤ 1048576) (hm : cs.length ≤ 1048576) (hi : inB la 0 (n - 1) = true) (ho : colsOk n cs = true) (hj : inB oth 0 9 = true) (hc : validC n ps = false) :
    Calls Tryd.prog 19 #[.int .i64 n, v, u, .int .i64 la, .int .i64 oth] w fun e w' => ∃ r, e = .returned (.tuple #[r, .int .i64 1]) ∧ IRow w' w.heap.size r [] ∧ Below w.heap.size w w' := by
  have HU0 := iat_of_row hu
  have IL := Lib.hid (fun W => isLandU_any n la W)
  have AC := Lib.hid (fun W (hb : Below w.heap.size w W) => areColours_any n u cs W (iat_up (iat_keep HU0 hb) hb.size) hm)
  have IC := Lib.hid (fun W => isColour_any oth W)
  have CD := Lib.hid (fun W (hb : Below w.heap.size w W) => bordersCode_any n v ps true W (pat_up (pat_keep hv hb) hb.size) hl)
  obtain ⟨av, c, rfl, _⟩ := hv
  obtain ⟨⟨ua, uc, rfl⟩, _⟩ := irow_shape hu
  rw [hi] at IL
  rw [ho] at AC
  rw [hj] at IC
  rw [hc] at CD
  simp only [Bool.false_eq_true, if_false, if_true] at CD
  go_enter Tryd.func19, Tryd.ntmps19
  go_wp2_with fail
  have b7 := Lib.hid ((Boxed.new w 24 (.slice ua cs.length uc)).alloc (.cells #[.int .i64 oth] 2))
  have b9 := Lib.hid (show Boxed ((w.alloc (.cells #[.slice ua cs.length uc] 24)).alloc (.cells #[.int .i64 oth] 2)) (w.heap.size + 1) 2 (.int .i64 oth) by
    have := Boxed.new (w.alloc (.cells #[.slice ua cs.length uc] 24)) 2 (.int .i64 oth)
    simpa using this)
  have B1 := Lib.hid (((Below.refl w.heap.size w).alloc (Nat.le_refl _) (.cells #[.slice ua cs.length uc] 24)).alloc (by simp) (.cells #[.int .i64 oth] 2))
  generalize (w.alloc (.cells #[.slice ua cs.length uc] 24)).alloc (.cells #[.int .i64 oth] 2) = W1 at *
  have c7 := b7.out.cell
  refine (IL.out W1).mono ?_
  rintro e w' ⟨rfl, hw⟩
  subst hw
  go_wp2_with fail
  refine (AC.out W1 B1.out).mono ?_
  rintro e w2 ⟨rfl, hb⟩
  have B2 := Lib.hid (B1.out.trans (hb.mono B1.out.size))
  have b72 := Lib.hid (bx_keep b7.out hb)
  have b92 := Lib.hid (bx_keep b9.out hb)
  have c9 := b92.out.cell
  clear hb c7
  go_wp2_with fail
  refine (IC.out w2).mono ?_
  rintro e w' ⟨rfl, hw⟩
  subst hw
  go_wp2_with fail
  refine (CD.out w2 B2.out).mono ?_
  rintro e w3 ⟨rfl, hb⟩
  have B3 := Lib.hid (B2.out.trans (hb.mono B2.out.size))
  have b73 := Lib.hid (bx_keep b72.out hb)
  have b93 := Lib.hid (bx_keep b92.out hb)
  have c73 := b73.out.cell
  clear hb c9
  go_wp2
  exact bodyPost_ret (v := .tuple #[.slice none 0 0, .int .i64 1]) (by simp [results, Tryd.results19, go_sem]) rfl ⟨_, rfl, irow_nil _ _, B3.out⟩
set_option maxRecDepth 100000 in
set_option maxHeartbeats 2000000 in
theorem implSw_clash (N : Nat) (X : Nat) (OT : Nat) (v u : Value) (B : Nat) (ps : List (Int × Int)) (cs : List Int) (w : World) (hv : PAt w w.heap.size v ps) (hu : IRow w B u cs) (hl : ps.length ≤ 1048576) (hm : cs.length ≤ 1048576) (hc : validC (N : Int) ps = true) (hi : inB (X : Int) 0 ((N : Int) - 1) = true) (ho : colsOk (N : Int) cs = true) (hj : inB (OT : Int) 0 9 = true) (hk : 0 ≤ clashV ps cs) :
    Calls Tryd.prog 19 #[.int .i64 (N : Int), v, u, .int .i64 (X : Int), .int .i64 (OT : Int)] w fun e w' => ∃ r, e = .returned (.tuple #[r, .int .i64 6]) ∧ IRow w' w.heap.size r [] ∧ Below w.heap.size w w' := by
  have HU0 := iat_of_row hu
  have IL := Lib.hid (fun W => isLandU_any (N : Int) (X : Int) W)
  have AC := Lib.hid (fun W (hb : Below w.heap.size w W) => areColours_any (N : Int) u cs W (iat_up (iat_keep HU0 hb) hb.size) hm)
  have IC := Lib.hid (fun W => isColour_any (OT : Int) W)
  have CD := Lib.hid (fun W (hb : Below w.heap.size w W) => bordersCode_any (N : Int) v ps true W (pat_up (pat_keep hv hb) hb.size) hl)
  have hlen := (colsOk_facts ho).1
  have hin := (colsOk_facts ho).2
  have n10 := (validC_facts hc).2.1
  rw [hi] at IL
  rw [ho] at AC
  rw [hj] at IC
  rw [hc] at CD
  simp only [if_true] at CD
  have FC := Lib.hid (fun W (hb : Below w.heap.size w W) => firstClash_any v u ps cs W (pat_up (pat_keep hv hb) hb.size) (iat_up (iat_keep HU0 hb) hb.size) hl hm (colsOk_clash9 hc ho))
  have hXN : X < N := by have := inB_of hi; omega
  have hNl : cs.length = N := by omega
  have hX2 : X < cs.length := by omega
  obtain ⟨⟨ua, uc, rfl⟩, _⟩ := irow_shape hu
  obtain ⟨g, eg, _, hcl⟩ := irow_at hu X hX2
  subst eg
  have gg : g < w.heap.size := World.block_lt_of_cell? _ _ hcl
  have HCL := Lib.hid (show ∀ W, Below w.heap.size w W → ∀ j, j < cs.length → W.cell? ⟨g, j, none⟩ = some (.int .i64 (cAt cs (j : Int))) from fun W hW j hj => by
    obtain ⟨g', e, _, h1⟩ := irow_at hu j hj
    cases e
    rw [cAt_get hj, ← h1]
    exact hW.cell (p := ⟨g, j, none⟩) (World.block_lt_of_cell? _ _ h1))
  obtain ⟨OW, hOW⟩ : ∃ OW : Nat, Hid (cAt cs (X : Int) = (OW : Int)) := ⟨(cAt cs (X : Int)).toNat, Lib.hid (by have := hin _ (List.getElem_mem hX2); rw [cAt_get hX2]; omega)⟩
  have hO9 : OW ≤ 9 := by have := hin _ (List.getElem_mem hX2); rw [← cAt_get hX2, hOW.out] at this; omega
  have hT9 : OT ≤ 9 := by have := inB_of hj; omega
  have hl10 : cs.length ≤ 10 := by omega
  have X0 : 0 ≤ (X : Int) := by omega
  have X1 : (X : Int) < (cs.length : Int) := by omega
  have HNL := Lib.hid hNl
  have HIN := Lib.hid hin
  clear hNl hlen hin hcl
  obtain ⟨av, c, rfl, _⟩ := hv
  generalize clashV ps cs = K at *
  have HK := Lib.hid hk
  go_enter Tryd.func19, Tryd.ntmps19
  go_wp2_with fail
  have b7 := Lib.hid ((Boxed.new w 24 (.slice (some ⟨g, 0, none⟩) cs.length uc)).alloc (.cells #[.int .i64 (OT : Int)] 2))
  have b9 := Lib.hid (show Boxed ((w.alloc (.cells #[.slice (some ⟨g, 0, none⟩) cs.length uc] 24)).alloc (.cells #[.int .i64 (OT : Int)] 2)) (w.heap.size + 1) 2 (.int .i64 (OT : Int)) by
    have := Boxed.new (w.alloc (.cells #[.slice (some ⟨g, 0, none⟩) cs.length uc] 24)) 2 (.int .i64 (OT : Int))
    simpa using this)
  have B1 := Lib.hid (((Below.refl w.heap.size w).alloc (Nat.le_refl _) (.cells #[.slice (some ⟨g, 0, none⟩) cs.length uc] 24)).alloc (by simp) (.cells #[.int .i64 (OT : Int)] 2))
  generalize (w.alloc (.cells #[.slice (some ⟨g, 0, none⟩) cs.length uc] 24)).alloc (.cells #[.int .i64 (OT : Int)] 2) = W1 at *
  have c7 := b7.out.cell
  refine (IL.out W1).mono ?_
  rintro e w' ⟨rfl, hw⟩
  subst hw
  go_wp2_with fail
  refine (AC.out W1 B1.out).mono ?_
  rintro e w2 ⟨rfl, hb⟩
  have B2 := Lib.hid (B1.out.trans (hb.mono B1.out.size))
  have b72 := Lib.hid (bx_keep b7.out hb)
  have b92 := Lib.hid (bx_keep b9.out hb)
  have c9 := b92.out.cell
  clear hb c7
  go_wp2_with fail
  refine (IC.out w2).mono ?_
  rintro e w' ⟨rfl, hw⟩
  subst hw
  go_wp2_with fail
  refine (CD.out w2 B2.out).mono ?_
  rintro e w3 ⟨rfl, hb⟩
  have B3 := Lib.hid (B2.out.trans (hb.mono B2.out.size))
  have b73 := Lib.hid (bx_keep b72.out hb)
  have b93 := Lib.hid (bx_keep b92.out hb)
  have c73 := b73.out.cell
  clear hb c9
  have cl := HCL.out w3 B3.out X hX2
  rw [hOW.out] at cl
  clear CD IC AC IL
  have bO := Lib.hid (Boxed.new w3 2 (.int .i64 (OW : Int)))
  have b74 := Lib.hid (b73.out.alloc (.cells #[.int .i64 (OW : Int)] 2))
  have b94 := Lib.hid (b93.out.alloc (.cells #[.int .i64 (OW : Int)] 2))
  have B4 := Lib.hid (B3.out.alloc B3.out.size (.cells #[.int .i64 (OW : Int)] 2))
  have gO1 : w.heap.size + 1 < w3.heap.size := b93.out.lt
  have c74 := b74.out.cell
  go_wp2_with fail
  generalize w3.alloc (.cells #[.int .i64 (OW : Int)] 2) = w4 at *
  generalize w3.heap.size = gO at *
  refine (FC.out w4 B4.out).mono ?_
  rintro e w5 ⟨rfl, hb⟩
  have B5 := Lib.hid (B4.out.trans (hb.mono B4.out.size))
  have b75 := Lib.hid (bx_keep b74.out hb)
  have b95 := Lib.hid (bx_keep b94.out hb)
  have bO5 := Lib.hid (bx_keep bO.out hb)
  have c75 := b75.out.cell
  have c95 := b95.out.cell
  have cO5 := bO5.out.cell
  clear hb FC b7 b9 b72 b92 b73 b93 b74 b94 bO c73 c74 cl
  go_wp2
  exact bodyPost_ret (v := .tuple #[.slice none 0 0, .int .i64 6]) (by simp [results, Tryd.results19, go_sem]) rfl ⟨_, rfl, irow_nil _ _, B5.out⟩
set_option maxRecDepth 100000 in
set_option maxHeartbeats 2000000 in
theorem implSw_same (N : Nat) (X : Nat) (OT : Nat) (v u : Value) (B : Nat) (ps : List (Int × Int)) (cs : List Int) (w : World) (hv : PAt w w.heap.size v ps) (hu : IRow w B u cs) (hl : ps.length ≤ 1048576) (hm : cs.length ≤ 1048576) (hc : validC (N : Int) ps = true) (hi : inB (X : Int) 0 ((N : Int) - 1) = true) (ho : colsOk (N : Int) cs = true) (hj : inB (OT : Int) 0 9 = true) (hk : clashV ps cs = -1) (he : cAt cs (X : Int) = (OT : Int)) :
    Calls Tryd.prog 19 #[.int .i64 (N : Int), v, u, .int .i64 (X : Int), .int .i64 (OT : Int)] w fun e w' => ∃ r, e = .returned (.tuple #[r, .int .i64 9]) ∧ IRow w' w.heap.size r [] ∧ Below w.heap.size w w' := by
  have HU0 := iat_of_row hu
  have IL := Lib.hid (fun W => isLandU_any (N : Int) (X : Int) W)
  have AC := Lib.hid (fun W (hb : Below w.heap.size w W) => areColours_any (N : Int) u cs W (iat_up (iat_keep HU0 hb) hb.size) hm)
  have IC := Lib.hid (fun W => isColour_any (OT : Int) W)
  have CD := Lib.hid (fun W (hb : Below w.heap.size w W) => bordersCode_any (N : Int) v ps true W (pat_up (pat_keep hv hb) hb.size) hl)
  have hlen := (colsOk_facts ho).1
  have hin := (colsOk_facts ho).2
  have n10 := (validC_facts hc).2.1
  rw [hi] at IL
  rw [ho] at AC
  rw [hj] at IC
  rw [hc] at CD
  simp only [if_true] at CD
  have FC := Lib.hid (fun W (hb : Below w.heap.size w W) => firstClash_any v u ps cs W (pat_up (pat_keep hv hb) hb.size) (iat_up (iat_keep HU0 hb) hb.size) hl hm (colsOk_clash9 hc ho))
  have hXN : X < N := by have := inB_of hi; omega
  have hNl : cs.length = N := by omega
  have hX2 : X < cs.length := by omega
  obtain ⟨⟨ua, uc, rfl⟩, _⟩ := irow_shape hu
  obtain ⟨g, eg, _, hcl⟩ := irow_at hu X hX2
  subst eg
  have gg : g < w.heap.size := World.block_lt_of_cell? _ _ hcl
  have HCL := Lib.hid (show ∀ W, Below w.heap.size w W → ∀ j, j < cs.length → W.cell? ⟨g, j, none⟩ = some (.int .i64 (cAt cs (j : Int))) from fun W hW j hj => by
    obtain ⟨g', e, _, h1⟩ := irow_at hu j hj
    cases e
    rw [cAt_get hj, ← h1]
    exact hW.cell (p := ⟨g, j, none⟩) (World.block_lt_of_cell? _ _ h1))
  obtain ⟨OW, hOW⟩ : ∃ OW : Nat, Hid (cAt cs (X : Int) = (OW : Int)) := ⟨(cAt cs (X : Int)).toNat, Lib.hid (by have := hin _ (List.getElem_mem hX2); rw [cAt_get hX2]; omega)⟩
  have hO9 : OW ≤ 9 := by have := hin _ (List.getElem_mem hX2); rw [← cAt_get hX2, hOW.out] at this; omega
  have hT9 : OT ≤ 9 := by have := inB_of hj; omega
  have hl10 : cs.length ≤ 10 := by omega
  have X0 : 0 ≤ (X : Int) := by omega
  have X1 : (X : Int) < (cs.length : Int) := by omega
  have HNL := Lib.hid hNl
  have HIN := Lib.hid hin
  clear hNl hlen hin hcl
  obtain ⟨av, c, rfl, _⟩ := hv
  rw [hk] at FC
  obtain rfl : OT = OW := by have := hOW.out; omega
  clear he
  go_enter Tryd.func19, Tryd.ntmps19
  go_wp2_with fail
  have b7 := Lib.hid ((Boxed.new w 24 (.slice (some ⟨g, 0, none⟩) cs.length uc)).alloc (.cells #[.int .i64 (OT : Int)] 2))
  have b9 := Lib.hid (show Boxed ((w.alloc (.cells #[.slice (some ⟨g, 0, none⟩) cs.length uc] 24)).alloc (.cells #[.int .i64 (OT : Int)] 2)) (w.heap.size + 1) 2 (.int .i64 (OT : Int)) by
    have := Boxed.new (w.alloc (.cells #[.slice (some ⟨g, 0, none⟩) cs.length uc] 24)) 2 (.int .i64 (OT : Int))
    simpa using this)
  have B1 := Lib.hid (((Below.refl w.heap.size w).alloc (Nat.le_refl _) (.cells #[.slice (some ⟨g, 0, none⟩) cs.length uc] 24)).alloc (by simp) (.cells #[.int .i64 (OT : Int)] 2))
  generalize (w.alloc (.cells #[.slice (some ⟨g, 0, none⟩) cs.length uc] 24)).alloc (.cells #[.int .i64 (OT : Int)] 2) = W1 at *
  have c7 := b7.out.cell
  refine (IL.out W1).mono ?_
  rintro e w' ⟨rfl, hw⟩
  subst hw
  go_wp2_with fail
  refine (AC.out W1 B1.out).mono ?_
  rintro e w2 ⟨rfl, hb⟩
  have B2 := Lib.hid (B1.out.trans (hb.mono B1.out.size))
  have b72 := Lib.hid (bx_keep b7.out hb)
  have b92 := Lib.hid (bx_keep b9.out hb)
  have c9 := b92.out.cell
  clear hb c7
  go_wp2_with fail
  refine (IC.out w2).mono ?_
  rintro e w' ⟨rfl, hw⟩
  subst hw
  go_wp2_with fail
  refine (CD.out w2 B2.out).mono ?_
  rintro e w3 ⟨rfl, hb⟩
  have B3 := Lib.hid (B2.out.trans (hb.mono B2.out.size))
  have b73 := Lib.hid (bx_keep b72.out hb)
  have b93 := Lib.hid (bx_keep b92.out hb)
  have c73 := b73.out.cell
  clear hb c9
  have cl := HCL.out w3 B3.out X hX2
  rw [hOW.out] at cl
  clear CD IC AC IL
  have bO := Lib.hid (Boxed.new w3 2 (.int .i64 (OT : Int)))
  have b74 := Lib.hid (b73.out.alloc (.cells #[.int .i64 (OT : Int)] 2))
  have b94 := Lib.hid (b93.out.alloc (.cells #[.int .i64 (OT : Int)] 2))
  have B4 := Lib.hid (B3.out.alloc B3.out.size (.cells #[.int .i64 (OT : Int)] 2))
  have gO1 : w.heap.size + 1 < w3.heap.size := b93.out.lt
  have c74 := b74.out.cell
  go_wp2_with fail
  generalize w3.alloc (.cells #[.int .i64 (OT : Int)] 2) = w4 at *
  generalize w3.heap.size = gO at *
  refine (FC.out w4 B4.out).mono ?_
  rintro e w5 ⟨rfl, hb⟩
  have B5 := Lib.hid (B4.out.trans (hb.mono B4.out.size))
  have b75 := Lib.hid (bx_keep b74.out hb)
  have b95 := Lib.hid (bx_keep b94.out hb)
  have bO5 := Lib.hid (bx_keep bO.out hb)
  have c75 := b75.out.cell
  have c95 := b95.out.cell
  have cO5 := bO5.out.cell
  clear hb FC b7 b9 b72 b92 b73 b93 b74 b94 bO c73 c74 cl
  go_wp2
  exact bodyPost_ret (v := .tuple #[.slice none 0 0, .int .i64 9]) (by simp [results, Tryd.results19, go_sem]) rfl ⟨_, rfl, irow_nil _ _, B5.out⟩
set_option maxRecDepth 100000 in
set_option maxHeartbeats 2000000 in
theorem implSw_good (N : Nat) (X : Nat) (OT : Nat) (v u : Value) (B : Nat) (ps : List (Int × Int)) (cs : List Int) (w : World) (hv : PAt w w.heap.size v ps) (hu : IRow w B u cs) (hl : ps.length ≤ 1048576) (hm : cs.length ≤ 1048576) (hc : validC (N : Int) ps = true) (hi : inB (X : Int) 0 ((N : Int) - 1) = true) (ho : colsOk (N : Int) cs = true) (hj : inB (OT : Int) 0 9 = true) (hk : clashV ps cs = -1) (he : cAt cs (X : Int) ≠ (OT : Int)) (hT : TBl w) :
    Calls Tryd.prog 19 #[.int .i64 (N : Int), v, u, .int .i64 (X : Int), .int .i64 (OT : Int)] w fun e w' => ∃ r, e = .returned (.tuple #[r, .int .i64 0]) ∧ IRow w' w.heap.size r (rowF N (swapF ps cs (X : Int) (OT : Int))) ∧ Below w.heap.size w w' := by
  have HU0 := iat_of_row hu
  have IL := Lib.hid (fun W => isLandU_any (N : Int) (X : Int) W)
  have AC := Lib.hid (fun W (hb : Below w.heap.size w W) => areColours_any (N : Int) u cs W (iat_up (iat_keep HU0 hb) hb.size) hm)
  have IC := Lib.hid (fun W => isColour_any (OT : Int) W)
  have CD := Lib.hid (fun W (hb : Below w.heap.size w W) => bordersCode_any (N : Int) v ps true W (pat_up (pat_keep hv hb) hb.size) hl)
  have hlen := (colsOk_facts ho).1
  have hin := (colsOk_facts ho).2
  have n10 := (validC_facts hc).2.1
  rw [hi] at IL
  rw [ho] at AC
  rw [hj] at IC
  rw [hc] at CD
  simp only [if_true] at CD
  have FC := Lib.hid (fun W (hb : Below w.heap.size w W) => firstClash_any v u ps cs W (pat_up (pat_keep hv hb) hb.size) (iat_up (iat_keep HU0 hb) hb.size) hl hm (colsOk_clash9 hc ho))
  have hXN : X < N := by have := inB_of hi; omega
  have hNl : cs.length = N := by omega
  have hX2 : X < cs.length := by omega
  obtain ⟨⟨ua, uc, rfl⟩, _⟩ := irow_shape hu
  obtain ⟨g, eg, _, hcl⟩ := irow_at hu X hX2
  subst eg
  have gg : g < w.heap.size := World.block_lt_of_cell? _ _ hcl
  have HCL := Lib.hid (show ∀ W, Below w.heap.size w W → ∀ j, j < cs.length → W.cell? ⟨g, j, none⟩ = some (.int .i64 (cAt cs (j : Int))) from fun W hW j hj => by
    obtain ⟨g', e, _, h1⟩ := irow_at hu j hj
    cases e
    rw [cAt_get hj, ← h1]
    exact hW.cell (p := ⟨g, j, none⟩) (World.block_lt_of_cell? _ _ h1))
  obtain ⟨OW, hOW⟩ : ∃ OW : Nat, Hid (cAt cs (X : Int) = (OW : Int)) := ⟨(cAt cs (X : Int)).toNat, Lib.hid (by have := hin _ (List.getElem_mem hX2); rw [cAt_get hX2]; omega)⟩
  have hO9 : OW ≤ 9 := by have := hin _ (List.getElem_mem hX2); rw [← cAt_get hX2, hOW.out] at this; omega
  have hT9 : OT ≤ 9 := by have := inB_of hj; omega
  have hl10 : cs.length ≤ 10 := by omega
  have X0 : 0 ≤ (X : Int) := by omega
  have X1 : (X : Int) < (cs.length : Int) := by omega
  have HNL := Lib.hid hNl
  have HIN := Lib.hid hin
  clear hNl hlen hin hcl
  rw [hk] at FC
  have hne : ¬ (OW : Int) = (OT : Int) := by have := hOW.out; omega
  have hne2 : OW ≠ OT := by omega
  have LM := Lib.hid (fun W (hb : Below w.heap.size w W) => landMapOf_any (N : Int) v ps W (pat_up (pat_keep hv hb) hb.size) hc)
  rw [Int.toNat_natCast] at LM
  obtain ⟨av, c, rfl, _⟩ := hv
  have PO := Lib.hid (fun W (hb : Below w.heap.size w W) => paintingOf_any (.slice (some ⟨g, 0, none⟩) cs.length uc) cs W (iat_up (iat_keep HU0 hb) hb.size) hl10 HIN.out)
  have HT := Lib.hid hT
  have gT := TBl_lt hT
  obtain ⟨i0, hii, hz0, hz1, hz2⟩ := info_parts info_int
  have CLN := Lib.hid (fun W (hb : Below w.heap.size w W) => Tryd.slices_Clone i0 (.int .i64 0) 1 8 hii hz0 hz1 hz2 rfl (by decide) Tryd.sizeOf2 g 0 cs.length uc (ints cs) W (by rw [ints_len]; omega) (by unfold maxLen; omega) (by omega) (fun j u hj => by
    rw [Nat.zero_add]
    have hj2 : j < cs.length := by have := (List.getElem?_eq_some_iff.1 hj).1; rw [ints_len] at this; exact this
    rw [HCL.out W hb j hj2, cAt_get hj2]
    simpa [ints, hj2] using hj) (ints_one _))
  have ES := Lib.hid (two_sets (OW := OW) (OT := OT) hl10)
  have FIN := Lib.hid (fun j => swap_fin (cs := cs) (ps := ps) (X := X) (OT := (OT : Int)) hc (by have := HNL.out; omega) (show (X : Int) < (N : Int) by omega) j)
  rw [hOW.out, Int.toNat_natCast] at FIN
  clear hT hk he
  refine (callsIn_wide (n := 5)).1 ?_
  refine callsIn_of_wp_marks Tryd.func19 rfl trivial ?_ rfl
  simp only [Tryd.ntmps19, List.size_toArray, List.length_cons, List.length_nil, Nat.reduceAdd, Nat.reduceSub, Array.replicate_succ, Array.replicate_zero, List.push_toArray, List.append_toArray, List.nil_append, List.cons_append]
  refine wpIn_wide.2 ?_
  go_wp2_with fail
  have b7 := Lib.hid ((Boxed.new w 24 (.slice (some ⟨g, 0, none⟩) cs.length uc)).alloc (.cells #[.int .i64 (OT : Int)] 2))
  have b9 := Lib.hid (show Boxed ((w.alloc (.cells #[.slice (some ⟨g, 0, none⟩) cs.length uc] 24)).alloc (.cells #[.int .i64 (OT : Int)] 2)) (w.heap.size + 1) 2 (.int .i64 (OT : Int)) by
    have := Boxed.new (w.alloc (.cells #[.slice (some ⟨g, 0, none⟩) cs.length uc] 24)) 2 (.int .i64 (OT : Int))
    simpa using this)
  have B1 := Lib.hid (((Below.refl w.heap.size w).alloc (Nat.le_refl _) (.cells #[.slice (some ⟨g, 0, none⟩) cs.length uc] 24)).alloc (by simp) (.cells #[.int .i64 (OT : Int)] 2))
  generalize (w.alloc (.cells #[.slice (some ⟨g, 0, none⟩) cs.length uc] 24)).alloc (.cells #[.int .i64 (OT : Int)] 2) = W1 at *
  have c7 := b7.out.cell
  refine (IL.out W1).mono ?_
  rintro e w' ⟨rfl, hw⟩
  subst hw
  go_wp2_with fail
  refine (AC.out W1 B1.out).mono ?_
  rintro e w2 ⟨rfl, hb⟩
  have B2 := Lib.hid (B1.out.trans (hb.mono B1.out.size))
  have b72 := Lib.hid (bx_keep b7.out hb)
  have b92 := Lib.hid (bx_keep b9.out hb)
  have c9 := b92.out.cell
  clear hb c7
  go_wp2_with fail
  refine (IC.out w2).mono ?_
  rintro e w' ⟨rfl, hw⟩
  subst hw
  go_wp2_with fail
  refine (CD.out w2 B2.out).mono ?_
  rintro e w3 ⟨rfl, hb⟩
  have B3 := Lib.hid (B2.out.trans (hb.mono B2.out.size))
  have b73 := Lib.hid (bx_keep b72.out hb)
  have b93 := Lib.hid (bx_keep b92.out hb)
  have c73 := b73.out.cell
  clear hb c9
  have cl := HCL.out w3 B3.out X hX2
  rw [hOW.out] at cl
  clear CD IC AC IL
  have bO := Lib.hid (Boxed.new w3 2 (.int .i64 (OW : Int)))
  have b74 := Lib.hid (b73.out.alloc (.cells #[.int .i64 (OW : Int)] 2))
  have b94 := Lib.hid (b93.out.alloc (.cells #[.int .i64 (OW : Int)] 2))
  have B4 := Lib.hid (B3.out.alloc B3.out.size (.cells #[.int .i64 (OW : Int)] 2))
  have gO1 : w.heap.size + 1 < w3.heap.size := b93.out.lt
  have c74 := b74.out.cell
  go_wp2_with fail
  generalize w3.alloc (.cells #[.int .i64 (OW : Int)] 2) = w4 at *
  generalize w3.heap.size = gO at *
  refine (FC.out w4 B4.out).mono ?_
  rintro e w5 ⟨rfl, hb⟩
  have B5 := Lib.hid (B4.out.trans (hb.mono B4.out.size))
  have b75 := Lib.hid (bx_keep b74.out hb)
  have b95 := Lib.hid (bx_keep b94.out hb)
  have bO5 := Lib.hid (bx_keep bO.out hb)
  have c75 := b75.out.cell
  have c95 := b95.out.cell
  have cO5 := bO5.out.cell
  clear hb FC b7 b9 b72 b92 b73 b93 b74 b94 bO c73 c74 cl
  go_wp2_with fail
  refine (PO.out w5 B5.out).mono ?_
  rintro e w6 ⟨⟨q, rfl⟩, hb⟩
  have B6 := Lib.hid (B5.out.trans (hb.mono B5.out.size))
  have b76 := Lib.hid (bx_keep b75.out hb)
  have b96 := Lib.hid (bx_keep b95.out hb)
  have bO6 := Lib.hid (bx_keep bO5.out hb)
  clear hb PO c75 c95 cO5 b75 b95 bO5
  unfold encP
  have b77 := Lib.hid (b76.out.alloc (.cells (rowP q (setsL cs)) 61))
  have b97 := Lib.hid (b96.out.alloc (.cells (rowP q (setsL cs)) 61))
  have bO7 := Lib.hid (bO6.out.alloc (.cells (rowP q (setsL cs)) 61))
  have B7 := Lib.hid (B6.out.alloc B6.out.size (.cells (rowP q (setsL cs)) 61))
  have hP7 := Lib.hid (heap_alloc_new w6 (.cells (rowP q (setsL cs)) 61))
  have c77 := b77.out.cell
  have gP1 : gO < w6.heap.size := bO6.out.lt
  clear b76 b96 bO6
  go_wp2_with (refine wpList_store_row rfl 61 _ _ rfl w6.heap.size (rowP q (setsL cs)) rfl rfl 61 _ (heap_alloc_last _ _) (by rw [rowP_size']; kernel_rfl) (by rw [rowP_size']; rfl) (rowP_one' _ _) ?_; rw [World.setRow_alloc_new])
  generalize w6.alloc (.cells (rowP q (setsL cs)) 61) = w7 at *
  generalize w6.heap.size = gP at *
  refine (CLN.out w7 B7.out).mono ?_
  rintro e w8 ⟨v', rfl, hown, _, hb⟩
  have hown2 : IRow w8 w7.heap.size v' cs := hown
  obtain ⟨gC, cC, rfl, hgC⟩ := (irow_shape hown2).2 (by omega)
  have gP7 : gP < w7.heap.size := (Array.getElem?_eq_some_iff.1 hP7.out).1
  have B8 := Lib.hid (B7.out.trans (hb.mono B7.out.size))
  have R8 := Lib.hid (show RowK w8 w7.heap.size gC cC cs.length (fun j => cAt cs (j : Int)) by
    unfold RowK
    rw [show rowF cs.length (fun j => cAt cs (j : Int)) = cs from List.ext_getElem (by rw [rowF_len]) (fun j h1 h2 => by simp [rowF, cAt_get h2])]
    exact hown2)
  have b78 := Lib.hid (bx_keep b77.out hb)
  have b98 := Lib.hid (bx_keep b97.out hb)
  have bO8 := Lib.hid (bx_keep bO7.out hb)
  have hP8 := Lib.hid ((hb.block gP gP7).trans hP7.out)
  have sC := (rowK_cell R8.out hX2).1
  have gC8 : gC < w8.heap.size := World.block_lt_of_cell? _ _ sC
  clear hb hown hown2 b77 b97 bO7 hP7 c77 CLN sC
  have b79 := Lib.hid (b78.out.alloc (.cells #[.slice (some ⟨gC, 0, none⟩) cs.length cC] 24))
  have b99 := Lib.hid (b98.out.alloc (.cells #[.slice (some ⟨gC, 0, none⟩) cs.length cC] 24))
  have bO9 := Lib.hid (bO8.out.alloc (.cells #[.slice (some ⟨gC, 0, none⟩) cs.length cC] 24))
  have bS9 := Lib.hid (Boxed.new w8 24 (.slice (some ⟨gC, 0, none⟩) cs.length cC))
  have B9 := Lib.hid (B8.out.alloc B8.out.size (.cells #[.slice (some ⟨gC, 0, none⟩) cs.length cC] 24))
  have hP9 := Lib.hid ((Below.heap_alloc w8 (.cells #[.slice (some ⟨gC, 0, none⟩) cs.length cC] 24) gP (Array.getElem?_eq_some_iff.1 hP8.out).1).trans hP8.out)
  have R9 := Lib.hid (show RowK (w8.alloc (.cells #[.slice (some ⟨gC, 0, none⟩) cs.length cC] 24)) w7.heap.size gC cC cs.length (fun j => cAt cs (j : Int)) from irow_keep R8.out ((Below.refl _ _).alloc (Nat.le_refl _) _))
  clear b78 b98 bO8 hP8 R8
  go_wp2_with fail
  generalize w8.alloc (.cells #[.slice (some ⟨gC, 0, none⟩) cs.length cC] 24) = w9 at *
  have gS8 : gC < w8.heap.size := gC8
  have gS9 : w8.heap.size < w9.heap.size := bS9.out.lt
  have gP8 : gP < w8.heap.size := by have := B8.out; have := hgC; omega
  clear gC8
  generalize w8.heap.size = gS at *
  have gC1 : w.heap.size ≤ w7.heap.size := B7.out.size
  generalize w7.heap.size = g7 at *
  have SO10 : setsL cs OW < 1024 := setsL_lt hl10 _
  have ST10 : setsL cs OT < 1024 := setsL_lt hl10 _
  have EO := Lib.hid ((bits_or_u64n (setsL cs OW) (setsL cs OT) (by omega) (by omega)).trans (by rw [ES.out]))
  have SB := Lib.hid (show ∀ k x, (rndK (maskN ps) (twoS cs (OW : Int) (OT : Int)) (2 ^ X) k).testBit x = true → x < N from fun k x h => by
    have := ((rnd_sound (n := (N : Int)) (show X < 10 by omega) k x h).2).inN hc ⟨by omega, by omega⟩
    omega)
  have RX := Lib.hid (fun gm W (hM : MAt W W.heap.size (.slice (some ⟨gm, 0, none⟩) N N) N (maskN ps)) (hb : Below w.heap.size w W) => reached_any gm N (maskN ps) (twoS cs (OW : Int) (OT : Int)) X W hM SB.out (by omega) (fun x => nbM_lt ps ps.length x) (twoS_lt _ _ _) (by omega) (TBl_below HT.out hb gT))
  rw [← EO.out] at RX
  have XB := Lib.hid (SB.out N)
  have RN := Lib.hid (rndK_lt (M := maskN ps) (twoS_lt cs (OW : Int) (OT : Int)) (pow2_10 (show X < 10 by omega)) N)
  have p1 : w9.cell? ⟨gP, 1 + OW, none⟩ = some (.int .u64 (setsL cs OW : Int)) := rowP_at hP9.out (by omega)
  have p2 : w9.cell? ⟨gP, 1 + OT, none⟩ = some (.int .u64 (setsL cs OT : Int)) := rowP_at hP9.out (by omega)
  have c99 := b99.out.cell
  have cO9 := bO9.out.cell
  have gT0 : 0 ≤ (OT : Int) := by omega
  have gT1 : (OT : Int) < 10 := by omega
  have gW0 : 0 ≤ (OW : Int) := by omega
  have gW1 : (OW : Int) < 10 := by omega
  generalize setsL cs OW = SO at *
  generalize setsL cs OT = STT at *
  generalize rndK (maskN ps) (twoS cs (OW : Int) (OT : Int)) (2 ^ X) N = RR at *
  have L9 := Lib.hid (LM.out w9 B9.out)
  have gsz : gO < w9.heap.size := by omega
  have gsz2 : gP < w9.heap.size := by omega
  have gsz3 : w.heap.size + 1 < w9.heap.size := by omega
  go_region_held3 (fun U => U.cell? ⟨gO, 0, none⟩ = some (.int .i64 (OW : Int)) ∧ U.cell? ⟨w.heap.size + 1, 0, none⟩ = some (.int .i64 (OT : Int)) ∧ U.cell? ⟨gP, 1 + OW, none⟩ = some (.int .u64 (SO : Int)) ∧ U.cell? ⟨gP, 1 + OT, none⟩ = some (.int .u64 (STT : Int))) (first | exact ⟨cO9, c99, p1, p2⟩ | exact ⟨m1, m2, m3, m4⟩ | exact ⟨n1, n2, n3, n4⟩ | exact ⟨q1, q2, q3, q4⟩ | (simp [go_sem]; first | exact ⟨cO9, c99, p1, p2⟩ | exact ⟨m1, m2, m3, m4⟩ | exact ⟨n1, n2, n3, n4⟩ | exact ⟨q1, q2, q3, q4⟩))
    (first
      | (go_at_call 26; refine (LM.out _ (by repeat (first | exact B9.out | refine Below.drew ?_ | refine bdQ9 ?_ _))).mono ?_; rintro e w10 ⟨um, rfl, hm10, hb10⟩; have HM10 := mown_at hm10; obtain ⟨gm, rfl, hgm, hcm⟩ := hm10; have m1 := (hb10.cell (p := ⟨gO, 0, none⟩) gsz).trans cO9; have m2 := (hb10.cell (p := ⟨w.heap.size + 1, 0, none⟩) gsz3).trans c99; have m3 := (hb10.cell (p := ⟨gP, 1 + OW, none⟩) gsz2).trans p1; have m4 := (hb10.cell (p := ⟨gP, 1 + OT, none⟩) gsz2).trans p2; have B10 : Below w.heap.size w w10 := (show Below w.heap.size w w9 from B9.out).trans ⟨hb10.os, hb10.tape, hb10.output, hb10.size, fun k hk => hb10.block k (Nat.lt_of_lt_of_le hk B9.out.size)⟩; have sz10 : w9.heap.size ≤ w10.heap.size := hb10.size)
      | (go_at_call 43; refine (RX.out gm _ HM10 (by repeat (first | exact B10 | refine Below.drew ?_ | refine bdQ9 ?_ _))).mono ?_; rintro e w11 ⟨rfl, hb11⟩; have n1 := (hb11.cell (p := ⟨gO, 0, none⟩) (Nat.lt_of_lt_of_le gsz sz10)).trans m1; have n2 := (hb11.cell (p := ⟨w.heap.size + 1, 0, none⟩) (Nat.lt_of_lt_of_le gsz3 sz10)).trans m2; have n3 := (hb11.cell (p := ⟨gP, 1 + OW, none⟩) (Nat.lt_of_lt_of_le gsz2 sz10)).trans m3; have n4 := (hb11.cell (p := ⟨gP, 1 + OT, none⟩) (Nat.lt_of_lt_of_le gsz2 sz10)).trans m4)
      | (go_at_call 27; refine (members_any _ _).mono ?_; rintro e w12 ⟨rfl, hw12⟩; have q1 : (w11.alloc (.cells #[.int .u64 (RR : Int)] 51)).cell? ⟨gO, 0, none⟩ = some (.int .i64 (OW : Int)) := (World.cell?_alloc_past _ _ _ (Nat.lt_of_lt_of_le gsz (Nat.le_trans sz10 hb11.size))).trans n1; have q2 : (w11.alloc (.cells #[.int .u64 (RR : Int)] 51)).cell? ⟨w.heap.size + 1, 0, none⟩ = some (.int .i64 (OT : Int)) := (World.cell?_alloc_past _ _ _ (Nat.lt_of_lt_of_le gsz3 (Nat.le_trans sz10 hb11.size))).trans n2; have q3 : (w11.alloc (.cells #[.int .u64 (RR : Int)] 51)).cell? ⟨gP, 1 + OW, none⟩ = some (.int .u64 (SO : Int)) := (World.cell?_alloc_past _ _ _ (Nat.lt_of_lt_of_le gsz2 (Nat.le_trans sz10 hb11.size))).trans n3; have q4 : (w11.alloc (.cells #[.int .u64 (RR : Int)] 51)).cell? ⟨gP, 1 + OT, none⟩ = some (.int .u64 (STT : Int)) := (World.cell?_alloc_past _ _ _ (Nat.lt_of_lt_of_le gsz2 (Nat.le_trans sz10 hb11.size))).trans n4))
  have BB : Below w9.heap.size w9 (w11.alloc (.cells #[.int .u64 (RR : Int)] 51)) := ((show Below w9.heap.size w9 w10 from ⟨hb10.os, hb10.tape, hb10.output, hb10.size, fun k hk => hb10.block k hk⟩).trans (hb11.mono sz10)).alloc (Nat.le_trans sz10 hb11.size) _
  have s12 : (w11.alloc (.cells #[.int .u64 (RR : Int)] 51)).cell? ⟨w11.heap.size, 0, none⟩ = some (.int .u64 (RR : Int)) := by simp
  have B12 := Lib.hid (B9.out.trans (BB.mono B9.out.size))
  have b7 := Lib.hid (bx_keep b79.out BB)
  have b9 := Lib.hid (bx_keep b99.out BB)
  have bO := Lib.hid (bx_keep bO9.out BB)
  have bS := Lib.hid (bx_keep bS9.out BB)
  have R12 := Lib.hid (show RowK _ g7 gC cC cs.length (fun j => cAt cs (j : Int)) from irow_keep R9.out BB)
  clear q1 q2 q3 q4 n1 n2 n3 n4 m1 m2 m3 m4 hw12 p1 p2 c99 cO9 BB hb10 hb11 HM10 hgm hcm L9 RX LM B10 b79 b99 bO9 bS9 R9 hP9 EO ES B9
  rename_i hHeld
  clear hHeld
  generalize w11.alloc (.cells #[.int .u64 (RR : Int)] 51) = w12 at *
  go_wp2
  refine (wpIn_wide (n := 5)).1 ?_
  refine' wpIn_rangeFunc_ownF (F := Fence.wide) (n := 5) rfl (by omega) (gf := 47) (lb := #[.pointer (some ⟨w11.heap.size, 0, none⟩)]) rfl trivial (enters_of Tryd.func47 (by kernel_rfl) rfl)
    (mem_stops (5 - 1) w11.heap.size w.heap.size RR RN.out gT w12 B12.out.size s12 (TBl_keep HT.out B12.out)) belowK_t (belowK_b B12.out.size) (Below.refl _ _) (fun _ => rfl)
    (fun pre W => ((((Boxed W w.heap.size 24 (.slice (some ⟨g, 0, none⟩) cs.length uc) ∧ Boxed W (w.heap.size + 1) 2 (.int .i64 (OT : Int))) ∧ Boxed W gO 2 (.int .i64 (OW : Int))) ∧ Boxed W gS 24 (.slice (some ⟨gC, 0, none⟩) cs.length cC)) ∧ RowK W g7 gC cC cs.length (fun j => if j ∈ pre.map Subtype.val then (OW : Int) + (OT : Int) - cAt cs (j : Int) else cAt cs (j : Int))) ∧ Below w.heap.size w W)
    (fun _ _ _ => False)
    (OwnFrom.and (fun s A B row hs hg hr => ⟨⟨⟨⟨boxed_own w.heap.size 24 (fun _ : List { x : Nat // x ∈ bitsL RR } => Value.slice (some ⟨g, 0, none⟩) cs.length uc) s A B row hs.1.1.1.1 hg (fun r e => (hr r e).2), boxed_own (w.heap.size + 1) 2 (fun _ : List { x : Nat // x ∈ bitsL RR } => Value.int .i64 (OT : Int)) s A B row hs.1.1.1.2 hg (fun r e => (hr r e).2)⟩, boxed_own gO 2 (fun _ : List { x : Nat // x ∈ bitsL RR } => Value.int .i64 (OW : Int)) s A B row hs.1.1.2 hg (fun r e => (hr r e).2)⟩, boxed_own gS 24 (fun _ : List { x : Nat // x ∈ bitsL RR } => Value.slice (some ⟨gC, 0, none⟩) cs.length cC) s A B row hs.1.2 hg (fun r e => (hr r e).2)⟩, irow_abide hs.2 hg (fun r e => (hr r e).2)⟩) (ownFrom_below (Nat.le_refl _) B12.out.size))
    (fun _ _ _ _ _ hs _ _ => hs)
    ⟨⟨⟨⟨⟨b7.out, b9.out⟩, bO.out⟩, bS.out⟩, rowK_congr R12.out fun j _ => by simp⟩, B12.out⟩
    _ ?assign ?body ?done ?stop
  case assign =>
    intro l x W K hK
    gi_wp2
    exact hK
  case body =>
    rintro l pre x W ⟨⟨⟨⟨⟨h7, h9⟩, hO⟩, hS⟩, hR⟩, hB⟩ hlp
    have hd : 1 ≤ 5 - 1 - 1 := by omega
    have hmx : Tryd.prog.follows .mixedOrders = true := by kernel_rfl
    have xN : x.1 < cs.length := by have := XB.out x.1 (bitsL_mem.1 x.2).2; have := HNL.out; omega
    have c7 := h7.cell
    have c9 := h9.cell
    have cO := hO.cell
    have cS := hS.cell
    have cX := HCL.out W hB x.1 xN
    have hx9 := HIN.out _ (List.getElem_mem xN)
    rw [← cAt_get xN] at hx9
    have fC := (rowK_cell hR xN).2
    obtain ⟨old, cC1⟩ : ∃ old, W.cell? ⟨gC, x.1, none⟩ = some old := ⟨_, (rowK_cell hR xN).1⟩
    have x0 : 0 ≤ (x.1 : Int) := by omega
    have x1 : (x.1 : Int) < (cs.length : Int) := by omega
    have RS := Lib.hid (rowK_congr (f' := fun j => if j ∈ (pre ++ [x]).map Subtype.val then (OW : Int) + (OT : Int) - cAt cs (j : Int) else cAt cs (j : Int)) (rowK_store hR xN ((OW : Int) + (OT : Int) - cAt cs (x.1 : Int))) (fun j _ => by
      by_cases e : j = x.1
      · simp [e]
      · simp [e]))
    have post : ∀ V : World, V = W.setCell ⟨gC, x.1, none⟩ (.int .i64 ((OW : Int) + (OT : Int) - cAt cs (x.1 : Int))) → KeepsOthers W V.drew ∧ Below w.heap.size W V.drew ∧ (((((Boxed V.drew w.heap.size 24 (.slice (some ⟨g, 0, none⟩) cs.length uc) ∧ Boxed V.drew (w.heap.size + 1) 2 (.int .i64 (OT : Int))) ∧ Boxed V.drew gO 2 (.int .i64 (OW : Int))) ∧ Boxed V.drew gS 24 (.slice (some ⟨gC, 0, none⟩) cs.length cC)) ∧ RowK V.drew g7 gC cC cs.length (fun j => if j ∈ (pre ++ [x]).map Subtype.val then (OW : Int) + (OT : Int) - cAt cs (j : Int) else cAt cs (j : Int))) ∧ Below w.heap.size w V.drew) := by
      intro V hV
      have a1 : Boxed V w.heap.size 24 (.slice (some ⟨g, 0, none⟩) cs.length uc) := by rw [hV]; exact (heap_setCell_other W ⟨gC, x.1, none⟩ _ _ (by show w.heap.size ≠ gC; omega)).trans h7
      have a2 : Boxed V (w.heap.size + 1) 2 (.int .i64 (OT : Int)) := by rw [hV]; exact (heap_setCell_other W ⟨gC, x.1, none⟩ _ _ (by show w.heap.size + 1 ≠ gC; omega)).trans h9
      have a3 : Boxed V gO 2 (.int .i64 (OW : Int)) := by rw [hV]; exact (heap_setCell_other W ⟨gC, x.1, none⟩ _ _ (by show gO ≠ gC; omega)).trans hO
      have a4 : Boxed V gS 24 (.slice (some ⟨gC, 0, none⟩) cs.length cC) := by rw [hV]; exact (heap_setCell_other W ⟨gC, x.1, none⟩ _ _ (by show gS ≠ gC; omega)).trans hS
      have a5 : Below w.heap.size W V := by rw [hV]; exact (Below.refl _ _).setCell (p := ⟨gC, x.1, none⟩) (by show w.heap.size ≤ gC; omega) _
      have a6 : KeepsOthers W V := by rw [hV]; exact KeepsOthers.setCell _ _ _
      have a7 : RowK V g7 gC cC cs.length (fun j => if j ∈ (pre ++ [x]).map Subtype.val then (OW : Int) + (OT : Int) - cAt cs (j : Int) else cAt cs (j : Int)) := by rw [hV]; exact RS.out
      exact ⟨a6.trans (KeepsOthers.drew V), Below.drew a5, ⟨⟨⟨⟨⟨a1, a2⟩, a3⟩, a4⟩, a7⟩, Below.drew (hB.trans a5)⟩⟩
    have POST := Lib.hid post
    generalize cAt cs (x.1 : Int) = CX at *
    have kw1 : IntKind.i64.wrap ((OW : Int) + (OT : Int)) = (OW : Int) + (OT : Int) := IntWalk.i64_in _ (by omega)
    have kw2 : IntKind.i64.wrap ((OW : Int) + (OT : Int) - CX) = (OW : Int) + (OT : Int) - CX := IntWalk.i64_in _ (by omega)
    have KW1 := Lib.hid kw1
    have KW2 := Lib.hid kw2
    clear post RS h7 h9 hO hS hR hB hlp kw1 kw2
    gi_wp2
    have kw1 := KW1.out
    have kw2 := KW2.out
    have hS0 : Hid ((fun U : World => U.cell? ⟨w.heap.size, 0, none⟩ = some (.slice (some ⟨g, 0, none⟩) cs.length uc) ∧ U.cell? ⟨w.heap.size + 1, 0, none⟩ = some (.int .i64 (OT : Int)) ∧ U.cell? ⟨gO, 0, none⟩ = some (.int .i64 (OW : Int)) ∧ U.cell? ⟨gS, 0, none⟩ = some (.slice (some ⟨gC, 0, none⟩) cs.length cC) ∧ U.cell? ⟨g, x.1, none⟩ = some (.int .i64 CX)) W.drew) := Lib.hid ⟨c7, c9, cO, cS, cX⟩
    refine region_round (fun U : World => U.cell? ⟨w.heap.size, 0, none⟩ = some (.slice (some ⟨g, 0, none⟩) cs.length uc) ∧ U.cell? ⟨w.heap.size + 1, 0, none⟩ = some (.int .i64 (OT : Int)) ∧ U.cell? ⟨gO, 0, none⟩ = some (.int .i64 (OW : Int)) ∧ U.cell? ⟨gS, 0, none⟩ = some (.slice (some ⟨gC, 0, none⟩) cs.length cC) ∧ U.cell? ⟨g, x.1, none⟩ = some (.int .i64 CX)) hmx (by rintro ⟨_, _, h⟩; exact h) ?hd ?takes
    case hd =>
      intro i o h c e
      have hi : i < 12 := (Array.getElem?_eq_some_iff.1 h).1
      obtain rfl | rfl | rfl | rfl | rfl | rfl | rfl | rfl | rfl | rfl | rfl | rfl : i = 0 ∨ i = 1 ∨ i = 2 ∨ i = 3 ∨ i = 4 ∨ i = 5 ∨ i = 6 ∨ i = 7 ∨ i = 8 ∨ i = 9 ∨ i = 10 ∨ i = 11 := by omega
      all_goals
        cases h
        cases e
    case takes =>
    change wpAnyH _ _ _ _ _ 12 #[false, false, false, false, false, false, false, false, false, false, false, false] _ _
    refine wpAnyH_take (i := 0) (v := .slice (some ⟨gC, 0, none⟩) cs.length cC) rfl (by kernel_rfl) (by kernel_rfl) (by kernel_rfl) (fun _ _ _ h => h) (Or.inl ⟨by rfl, ?hy0⟩) hS0.out ?rest0
    case hy0 =>
      intro U hU
      obtain ⟨s1, s2, s3, s4, s5⟩ := hU
      go_simp
    case rest0 =>
    simp only [Act.put, List.getElem_toArray, List.getElem_cons_zero, List.getElem_cons_succ, List.setIfInBounds_toArray, List.set_cons_zero, List.set_cons_succ]
    refine wpAnyH_take (i := 1) (v := .int .i64 (x.1 : Int)) rfl (by kernel_rfl) (by kernel_rfl) (by kernel_rfl) (fun _ _ _ h => h) (Or.inl ⟨by rfl, ?hy1⟩) hS0.out ?rest1
    case hy1 =>
      intro U hU
      obtain ⟨s1, s2, s3, s4, s5⟩ := hU
      go_simp
    case rest1 =>
    simp only [Act.put, List.getElem_toArray, List.getElem_cons_zero, List.getElem_cons_succ, List.setIfInBounds_toArray, List.set_cons_zero, List.set_cons_succ]
    refine wpAnyH_take (i := 2) (v := .int .i64 (OW : Int)) rfl (by kernel_rfl) (by kernel_rfl) (by kernel_rfl) (fun _ _ _ h => h) (Or.inl ⟨by rfl, ?hy2⟩) hS0.out ?rest2
    case hy2 =>
      intro U hU
      obtain ⟨s1, s2, s3, s4, s5⟩ := hU
      go_simp
    case rest2 =>
    simp only [Act.put, List.getElem_toArray, List.getElem_cons_zero, List.getElem_cons_succ, List.setIfInBounds_toArray, List.set_cons_zero, List.set_cons_succ]
    refine wpAnyH_take (i := 3) (v := .int .i64 (OT : Int)) rfl (by kernel_rfl) (by kernel_rfl) (by kernel_rfl) (fun _ _ _ h => h) (Or.inl ⟨by rfl, ?hy3⟩) hS0.out ?rest3
    case hy3 =>
      intro U hU
      obtain ⟨s1, s2, s3, s4, s5⟩ := hU
      go_simp
    case rest3 =>
    simp only [Act.put, List.getElem_toArray, List.getElem_cons_zero, List.getElem_cons_succ, List.setIfInBounds_toArray, List.set_cons_zero, List.set_cons_succ]
    refine wpAnyH_take (i := 4) (v := .int .i64 ((OW : Int) + (OT : Int))) rfl (by kernel_rfl) (by kernel_rfl) (by kernel_rfl) (fun _ _ _ h => h) (Or.inl ⟨by rfl, ?hy4⟩) hS0.out ?rest4
    case hy4 =>
      intro U hU
      obtain ⟨s1, s2, s3, s4, s5⟩ := hU
      go_simp
    case rest4 =>
    simp only [Act.put, List.getElem_toArray, List.getElem_cons_zero, List.getElem_cons_succ, List.setIfInBounds_toArray, List.set_cons_zero, List.set_cons_succ]
    refine wpAnyH_take (i := 5) (v := .slice (some ⟨g, 0, none⟩) cs.length uc) rfl (by kernel_rfl) (by kernel_rfl) (by kernel_rfl) (fun _ _ _ h => h) (Or.inl ⟨by rfl, ?hy5⟩) hS0.out ?rest5
    case hy5 =>
      intro U hU
      obtain ⟨s1, s2, s3, s4, s5⟩ := hU
      go_simp
    case rest5 =>
    simp only [Act.put, List.getElem_toArray, List.getElem_cons_zero, List.getElem_cons_succ, List.setIfInBounds_toArray, List.set_cons_zero, List.set_cons_succ]
    refine wpAnyH_take (i := 6) (v := .int .i64 (x.1 : Int)) rfl (by kernel_rfl) (by kernel_rfl) (by kernel_rfl) (fun _ _ _ h => h) (Or.inl ⟨by rfl, ?hy6⟩) hS0.out ?rest6
    case hy6 =>
      intro U hU
      obtain ⟨s1, s2, s3, s4, s5⟩ := hU
      go_simp
    case rest6 =>
    simp only [Act.put, List.getElem_toArray, List.getElem_cons_zero, List.getElem_cons_succ, List.setIfInBounds_toArray, List.set_cons_zero, List.set_cons_succ]
    refine wpAnyH_take (i := 7) (v := .pointer (some ⟨g, x.1, none⟩)) rfl (by kernel_rfl) (by kernel_rfl) (by kernel_rfl) (fun _ _ _ h => h) (Or.inl ⟨by rfl, ?hy7⟩) hS0.out ?rest7
    case hy7 =>
      intro U hU
      obtain ⟨s1, s2, s3, s4, s5⟩ := hU
      go_simp
    case rest7 =>
    simp only [Act.put, List.getElem_toArray, List.getElem_cons_zero, List.getElem_cons_succ, List.setIfInBounds_toArray, List.set_cons_zero, List.set_cons_succ]
    refine wpAnyH_take (i := 8) (v := .int .i64 CX) rfl (by kernel_rfl) (by kernel_rfl) (by kernel_rfl) (fun _ _ _ h => h) (Or.inl ⟨by rfl, ?hy8⟩) hS0.out ?rest8
    case hy8 =>
      intro U hU
      obtain ⟨s1, s2, s3, s4, s5⟩ := hU
      go_simp
    case rest8 =>
    simp only [Act.put, List.getElem_toArray, List.getElem_cons_zero, List.getElem_cons_succ, List.setIfInBounds_toArray, List.set_cons_zero, List.set_cons_succ]
    refine wpAnyH_take (i := 9) (v := .int .i64 ((OW : Int) + (OT : Int) - CX)) rfl (by kernel_rfl) (by kernel_rfl) (by kernel_rfl) (fun _ _ _ h => h) (Or.inl ⟨by rfl, ?hy9⟩) hS0.out ?rest9
    case hy9 =>
      intro U hU
      obtain ⟨s1, s2, s3, s4, s5⟩ := hU
      go_simp
    case rest9 =>
    simp only [Act.put, List.getElem_toArray, List.getElem_cons_zero, List.getElem_cons_succ, List.setIfInBounds_toArray, List.set_cons_zero, List.set_cons_succ]
    refine wpAnyH_take (i := 10) (v := .pointer (some ⟨gC, x.1, none⟩)) rfl (by kernel_rfl) (by kernel_rfl) (by kernel_rfl) (fun _ _ _ h => h) (Or.inl ⟨by rfl, ?hy10⟩) hS0.out ?rest10
    case hy10 =>
      intro U hU
      obtain ⟨s1, s2, s3, s4, s5⟩ := hU
      go_simp
    case rest10 =>
    simp only [Act.put, List.getElem_toArray, List.getElem_cons_zero, List.getElem_cons_succ, List.setIfInBounds_toArray, List.set_cons_zero, List.set_cons_succ]
    refine wpAnyH_all (rs := [11]) (by kernel_rfl) (by simp) (fun i hi => ?_)
    obtain rfl : i = 11 := by simpa using hi
    refine wpOp_step rfl (fun K' hK => ?_)
    go_simp
    refine hK _ _ ⟨?_, wpAnyH_done (by kernel_rfl) ?_ _⟩
    · have f1 := (World.cell?_setCell_far W.drew ⟨gC, x.1, none⟩ ⟨w.heap.size, 0, none⟩ (.int .i64 ((OW : Int) + (OT : Int) - CX)) (show gC ≠ w.heap.size by omega)).trans c7
      have f2 := (World.cell?_setCell_far W.drew ⟨gC, x.1, none⟩ ⟨w.heap.size + 1, 0, none⟩ (.int .i64 ((OW : Int) + (OT : Int) - CX)) (show gC ≠ w.heap.size + 1 by omega)).trans c9
      have f3 := (World.cell?_setCell_far W.drew ⟨gC, x.1, none⟩ ⟨gO, 0, none⟩ (.int .i64 ((OW : Int) + (OT : Int) - CX)) (show gC ≠ gO by omega)).trans cO
      have f4 := (World.cell?_setCell_far W.drew ⟨gC, x.1, none⟩ ⟨gS, 0, none⟩ (.int .i64 ((OW : Int) + (OT : Int) - CX)) (show gC ≠ gS by omega)).trans cS
      have f5 := (World.cell?_setCell_far W.drew ⟨gC, x.1, none⟩ ⟨g, x.1, none⟩ (.int .i64 ((OW : Int) + (OT : Int) - CX)) (show gC ≠ g by omega)).trans cX
      first
      | exact ⟨f1, f2, f3, f4, f5⟩
      | (simp [go_sem]; exact ⟨f1, f2, f3, f4, f5⟩)
    · exact POST.out _ rfl
  case done =>
    rintro D ys W hD hys ⟨⟨⟨⟨⟨h7, h9⟩, hO⟩, hS⟩, hR⟩, hB⟩ hK
    have hys' : ys.map Subtype.val = bitsL RR := hys
    have HR := Lib.hid (rowK_congr (f' := swapF ps cs (X : Int) (OT : Int)) hR (fun j _ => by rw [hys']; exact FIN.out j))
    have cS := hS.cell
    have HBB := Lib.hid hB
    clear h7 h9 hO hR hB hys hys'
    go_wp2
    refine ⟨by simp, .inl ⟨_, _, rfl, run_takeDeferred hK, ?_⟩⟩
    refine ⟨.tuple #[.slice (some ⟨gC, 0, none⟩) cs.length cC, .int .i64 0], by simp [results, Tryd.results19, go_sem], _, rfl, ?_, HBB.out.trans (belowK_b (w := w12) B12.out.size W D _ _ hD hK rfl rfl)⟩
    refine ownsRow_putObj (irow_up ?_ gC1) _ hK rfl
    rw [← HNL.out]
    exact HR.out
  case stop =>
    rintro D c pre W _ _ hh _
    exact hh.elim
theorem implSw_any (n la oth : Int) (v u : Value) (B : Nat) (ps : List (Int × Int)) (cs : List Int) (w : World) (hv : PAt w w.heap.size v ps) (hu : IRow w B u cs) (hl : ps.length ≤ 1048576) (hm : cs.length ≤ 1048576) (hT : TBl w) :
    Calls Tryd.prog 19 #[.int .i64 n, v, u, .int .i64 la, .int .i64 oth] w fun e w' => ∃ r, e = .returned (.tuple #[r, .int .i64 (codeSw n ps cs la oth)]) ∧ IRow w' w.heap.size r (valSw n ps cs la oth) ∧ Below w.heap.size w w' := by
  have nil : ∀ c : Int, codeSw n ps cs la oth = c → c ≠ 0 → valSw n ps cs la oth = [] := fun c h1 h2 => by
    unfold valSw; rw [h1, if_neg h2]
  have c12 : (if validC n ps = true then (2 : Int) else 1) ≠ 0 := by split <;> omega
  cases hi : inB la 0 (n - 1) with
  | false =>
    have e : codeSw n ps cs la oth = (if validC n ps = true then 2 else 1) := by rw [codeSw, hi, Bool.and_false, Bool.false_and]; rfl
    rw [nil _ e c12, e]
    exact implSw_badL n la oth v u B ps cs w hv hu hl hm hi
  | true =>
    cases ho : colsOk n cs with
    | false =>
      have e : codeSw n ps cs la oth = (if validC n ps = true then 2 else 1) := by rw [codeSw, ho, Bool.false_and, Bool.false_and]; rfl
      rw [nil _ e c12, e]
      exact implSw_badC n la oth v u B ps cs w hv hu hl hm hi ho
    | true =>
      cases hj : inB oth 0 9 with
      | false =>
        have e : codeSw n ps cs la oth = (if validC n ps = true then 2 else 1) := by rw [codeSw, hj, Bool.and_false]; rfl
        rw [nil _ e c12, e]
        exact implSw_badO n la oth v u B ps cs w hv hu hl hm hi ho hj
      | true =>
        cases hc : validC n ps with
        | false =>
          have e : codeSw n ps cs la oth = 1 := by rw [codeSw, hc]; rfl
          rw [nil _ e (by omega), e]
          exact implSw_badV n la oth v u B ps cs w hv hu hl hm hi ho hj hc
        | true =>
          have hi2 := inB_of hi
          have hj2 := inB_of hj
          obtain ⟨n0, n1, _⟩ := validC_facts hc
          obtain ⟨N, rfl⟩ : ∃ N : Nat, n = (N : Int) := ⟨n.toNat, by omega⟩
          obtain ⟨X, rfl⟩ : ∃ X : Nat, la = (X : Int) := ⟨la.toNat, by omega⟩
          obtain ⟨OT, rfl⟩ : ∃ OT : Nat, oth = (OT : Int) := ⟨oth.toNat, by omega⟩
          by_cases hk : clashV ps cs = -1
          · by_cases he : cAt cs (X : Int) = (OT : Int)
            · have e : codeSw (N : Int) ps cs (X : Int) (OT : Int) = 9 := by simp [codeSw, hc, ho, hi, hj, hk, he]
              rw [nil _ e (by omega), e]
              exact implSw_same N X OT v u B ps cs w hv hu hl hm hc hi ho hj hk he
            · have e : codeSw (N : Int) ps cs (X : Int) (OT : Int) = 0 := by simp [codeSw, hc, ho, hi, hj, hk, he]
              have e2 : valSw (N : Int) ps cs (X : Int) (OT : Int) = rowF N (swapF ps cs (X : Int) (OT : Int)) := by
                unfold valSw; rw [e, if_pos rfl, swapC, Int.toNat_natCast]
              rw [e2, e]
              exact implSw_good N X OT v u B ps cs w hv hu hl hm hc hi ho hj hk he hT
          · have hk2 : 0 ≤ clashV ps cs := by
              have : clashV ps cs = -1 ∨ 0 ≤ clashV ps cs := clashFrom_sign ps 0
              omega
            have e : codeSw (N : Int) ps cs (X : Int) (OT : Int) = 6 := by simp [codeSw, hc, ho, hi, hj, hk]
            rw [nil _ e (by omega), e]
            exact implSw_clash N X OT v u B ps cs w hv hu hl hm hc hi ho hj hk2
end Go.Proofs.YtemhmejjmhbfdabDoor.sines
