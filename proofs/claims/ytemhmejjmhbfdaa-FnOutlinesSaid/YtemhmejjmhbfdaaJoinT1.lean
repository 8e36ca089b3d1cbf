/- Lists of chains: their code, and the greatest outline. -/
import Derived.Test.YtemhmejjmhbfdaaJoinI3
import Derived.Test.YtemhmejjmhbfdaaJoinI5
import Derived.Test.YtemhmejjmhbfdaaJoinS1
import Derived.Deep.RegionHeld3
namespace Go.Proofs.Ytemhmejjmhbfdaa.sines
open Go.ChangeShapes Go.WideShapes Go.ChangeAt Go.RowKit Go.Proofs.Ytemhmejjmhbfdaa.spots Go.Proofs.Ytemhmejjmhbfdaa.irows Go.Proofs.Ytemhmejjmhbfdaa.pairsPlace
set_option linter.unusedSimpArgs false
set_option linter.unusedVariables false

def codeL (rows : List (List Pl)) : Int := if rows.all okC = true then (if rows.length ≤ 8 then 0 else 2) else 1
theorem codeL_of {rows : List (List Pl)} (h : codeL rows = 0) : rows.length ≤ 8 ∧ ∀ j, (hj : j < rows.length) → okC rows[j] = true := by
  unfold codeL at h
  split at h
  · rename_i h1
    split at h
    · refine ⟨by assumption, fun j hj => ?_⟩
      rw [List.all_eq_true] at h1
      exact h1 _ (List.getElem_mem hj)
    · omega
  · omega
set_option maxRecDepth 100000 in
set_option maxHeartbeats 1000000 in
theorem l10List_any (v : Value) (rows : List (List Pl)) (w : World) (hv : CAt w w.heap.size v rows) (hl : rows.length ≤ 1048576) (hr : ∀ j, (hj : j < rows.length) → rows[j].length ≤ 1048576) :
    Calls Try.prog 137 #[v] w fun e w' => e = .returned (.int .i64 (codeL rows)) ∧ Below w.heap.size w w' := by
  obtain ⟨a, c, rfl, hc⟩ := hv
  have HC := Lib.hid hc
  have HR := Lib.hid hr
  clear hc hr
  have hl2 : (rows.length : Int) ≤ 1048576 := by omega
  obtain ⟨R, hR⟩ : ∃ R, Hid (codeL rows = R) := ⟨_, Lib.hid rfl⟩
  rw [hR.out]
  go_enter Try.func137, Try.ntmps137
  go_wp2
  go_loopw [3] (fun i wr => ∃ k : Nat, k ≤ rows.length ∧ i = .int .i64 (k : Int) ∧ (∀ j, (hj : j < rows.length) → j < k → okC rows[j] = true) ∧ Below w.heap.size w wr) (fun i _ => rows.length - (intOf i).toNat)
  case atStart => exact ⟨0, Nat.zero_le _, rfl, fun j _ h => by omega, Below.refl _ _⟩
  case round =>
    obtain ⟨k, hk, rfl, hall, hb⟩ := hrel
    have hsz := hb.size
    have HA := Lib.hid hall
    have HB := Lib.hid hb
    clear hall hb
    by_cases hlt : k < rows.length
    · obtain ⟨b, off, x, rfl, hbs, c1, hx, _⟩ := HC.out k hlt
      have c1' : wr.cell? ⟨b, off + k, none⟩ = some x := by rw [HB.out.cell (p := ⟨b, off + k, none⟩) hbs]; exact c1
      have CK := Lib.hid (l07Ok_any x rows[k] wr (pat_up (pat_keep hx HB.out) hsz) (HR.out k hlt))
      have hk0 : 0 ≤ (k : Int) := by omega
      have hk1 : (k : Int) < (rows.length : Int) := by omega
      have NO := Lib.hid (fun h => rowsAll_not hlt h)
      have YES := Lib.hid (show okC rows[k] = true → ∀ j, (hj : j < rows.length) → j < k + 1 → okC rows[j] = true from fun h j hj hjk => by
        by_cases e : j = k
        · subst e; exact h
        · exact HA.out j hj (by omega))
      clear c1
      obtain ⟨ax, cx, rfl, hjx⟩ := hx
      clear hjx
      cases ho : okC rows[k] with
      | false =>
        rw [ho] at CK
        have RR := Lib.hid (show R = 1 by rw [← hR.out]; unfold codeL; rw [NO.out ho]; rfl)
        obtain rfl := RR.out
        go_wp2_with fail
        refine CK.out.mono ?_
        rintro e w1 ⟨rfl, hb1⟩
        have HB1 := Lib.hid (HB.out.trans (hb1.mono hsz))
        clear hb1
        go_wp2
        go_ret
        exact ⟨rfl, HB1.out⟩
      | true =>
        rw [ho] at CK
        have Y := Lib.hid (YES.out ho)
        go_wp2_with fail
        refine CK.out.mono ?_
        rintro e w1 ⟨rfl, hb1⟩
        have HB1 := Lib.hid (HB.out.trans (hb1.mono hsz))
        clear hb1
        go_wp2
        go_roundw
        case rel => exact ⟨k + 1, by omega, by go_num, Y.out, HB1.out⟩
        case measure => simp [intOf]; omega
    · obtain rfl : k = rows.length := by omega
      have OK := Lib.hid (rowsAll_of (fun j hj => HA.out j hj hj))
      by_cases h8 : rows.length ≤ 8
      · have h8i : ¬ 8 < (rows.length : Int) := by omega
        have RR := Lib.hid (show R = 0 by rw [← hR.out]; unfold codeL; rw [OK.out, if_pos rfl, if_pos h8])
        obtain rfl := RR.out
        clear h8
        go_wp2
        go_ret
        exact ⟨rfl, HB.out⟩
      · have h8i : 8 < (rows.length : Int) := by omega
        have RR := Lib.hid (show R = 2 by rw [← hR.out]; unfold codeL; rw [OK.out, if_pos rfl, if_neg h8])
        obtain rfl := RR.out
        clear h8
        go_wp2
        go_ret
        exact ⟨rfl, HB.out⟩
set_option maxHeartbeats 1000000 in
theorem chainsCode_any (v : Value) (rows : List (List Pl)) (w : World) (hv : CAt w w.heap.size v rows) (hl : rows.length ≤ 1048576) (hr : ∀ j, (hj : j < rows.length) → rows[j].length ≤ 1048576) :
    Calls Try.prog 135 #[v] w fun e w' => e = .returned (.int .i64 (codeL rows)) ∧ Below w.heap.size w w' := by
  have AC := Lib.hid (areChains_any v rows w hv hl hr)
  obtain ⟨a, c, rfl, _⟩ := hv
  obtain ⟨d, hd⟩ : ∃ d, decide ((rows.length : Int) ≤ 8) = d := ⟨_, rfl⟩
  have E := Lib.hid (show (if rows.all okC = false then 1 else if d = false then 2 else 0) = codeL rows by
    rw [show codeL rows = if rows.all okC = true then (if rows.length ≤ 8 then 0 else 2) else 1 from rfl, ← hd]
    cases rows.all okC <;> by_cases h8 : rows.length ≤ 8
    · rfl
    · rfl
    · have : decide ((rows.length : Int) ≤ 8) = true := by simp; omega
      rw [this, if_pos h8]; rfl
    · have : decide ((rows.length : Int) ≤ 8) = false := by simp; omega
      rw [this, if_neg h8]; rfl)
  generalize codeL rows = Z at E ⊢
  generalize rows.all okC = R at AC E
  go_enter Try.func135, Try.ntmps135
  go_wp2_with fail
  refine AC.out.mono ?_
  rintro e w1 ⟨rfl, hb⟩
  go_wp2_with fail
  refine (codeOf_any _ _ _).mono ?_
  rintro e w2 ⟨rfl, rfl⟩
  rw [E.out]
  go_wp2
  go_ret
  exact ⟨rfl, hb⟩
/-- The greatest of the first closed chains, and its size. -/
def sizeA (ps : List Pl) : Int := if areaI ps < 0 then -areaI ps else areaI ps
def bestN (rows : List (List Pl)) : Nat → Int × Int
  | 0 => (-1, -1)
  | k + 1 => if closedB (rows.getD k []) = true ∧ (bestN rows k).2 < sizeA (rows.getD k []) then ((k : Int), sizeA (rows.getD k [])) else bestN rows k
theorem sizeA_bounds {ps : List Pl} (h : okC ps = true) : 0 ≤ sizeA ps ∧ sizeA ps ≤ 100000000 := by
  have := areaI_bounds h
  unfold sizeA
  split <;> omega
theorem getD_row {rows : List (List Pl)} {k : Nat} (h : k < rows.length) : rows.getD k [] = rows[k] := by
  rw [List.getD_eq_getElem?_getD, List.getElem?_eq_getElem h]; rfl
/-- What is known of it. -/
theorem bestN_facts {rows : List (List Pl)} (ho : ∀ j, (hj : j < rows.length) → okC rows[j] = true) : ∀ k, k ≤ rows.length →
    ((bestN rows k).1 = -1 ∧ (bestN rows k).2 = -1) ∨ (∃ b : Nat, (bestN rows k).1 = (b : Int) ∧ b < k ∧ (bestN rows k).2 = sizeA (rows.getD b []))
  | 0, _ => .inl ⟨rfl, rfl⟩
  | k + 1, h => by
    simp only [bestN]
    split
    · exact .inr ⟨k, rfl, by omega, rfl⟩
    · rcases bestN_facts ho k (by omega) with h1 | ⟨b, h1, h2, h3⟩
      · exact .inl h1
      · exact .inr ⟨b, h1, by omega, h3⟩
def codeB9 (rows : List (List Pl)) : Int := if codeL rows = 0 then (if (bestN rows rows.length).1 < 0 then 3 else 0) else codeL rows
def bestV (rows : List (List Pl)) : Int := if codeB9 rows = 0 then (bestN rows rows.length).1 else 0
set_option maxRecDepth 100000 in
set_option maxHeartbeats 2000000 in
theorem implGreatestOutline_any (v : Value) (rows : List (List Pl)) (w : World) (hv : CAt w w.heap.size v rows) (hl : rows.length ≤ 1048576) (hr : ∀ j, (hj : j < rows.length) → rows[j].length ≤ 1048576) :
    Calls Try.prog 53 #[v] w fun e w' => e = .returned (.tuple #[.int .i64 (bestV rows), .int .i64 (codeB9 rows)]) ∧ Below w.heap.size w w' := by
  have CC := Lib.hid (chainsCode_any v rows w hv hl hr)
  obtain ⟨a, c, rfl, hc⟩ := hv
  have HC := Lib.hid hc
  clear hc
  by_cases h0 : codeL rows = 0
  · obtain ⟨h8, ho⟩ := codeL_of h0
    have HO := Lib.hid ho
    have BF := Lib.hid (bestN_facts ho)
    rw [h0] at CC
    have E1 := Lib.hid (show codeB9 rows = if (bestN rows rows.length).1 < 0 then 3 else 0 by unfold codeB9; rw [if_pos h0])
    have E2 := Lib.hid (show bestV rows = if codeB9 rows = 0 then (bestN rows rows.length).1 else 0 from rfl)
    rw [E2.out, E1.out]
    obtain ⟨b1, hb1⟩ : ∃ b, Hid ((bestN rows rows.length).1 = b) := ⟨_, Lib.hid rfl⟩
    rw [hb1.out]
    have h8i : (rows.length : Int) ≤ 8 := by omega
    clear h0 ho E1 E2
    go_enter Try.func53, Try.ntmps53
    go_wp2_with fail
    refine CC.out.mono ?_
    rintro e w1 ⟨rfl, hb⟩
    have HB1 := Lib.hid hb
    clear hb
    go_wp2
    go_loopw [5, 6, 18] (fun x s i wr => ∃ k : Nat, k ≤ rows.length ∧ i = .int .i64 (k : Int) ∧ x = .int .i64 (bestN rows k).1 ∧ s = .int .i64 (bestN rows k).2 ∧ Below w.heap.size w wr) (fun _ _ i _ => rows.length - (intOf i).toNat)
    case atStart => exact ⟨0, Nat.zero_le _, rfl, rfl, rfl, HB1.out⟩
    case round =>
      obtain ⟨k, hk, rfl, rfl, rfl, hb⟩ := hrel
      have HB := Lib.hid hb
      have hsz := hb.size
      have FB := BF.out k hk
      by_cases hlt : k < rows.length
      · obtain ⟨b, off, x, rfl, hbs, c1, hx, _⟩ := HC.out k hlt
        have c1' := (hb.cell (p := ⟨b, off + k, none⟩) hbs).trans c1
        have hok := HO.out k hlt
        have PX := Lib.hid (pat_up (pat_keep hx hb) hsz)
        have ISC := Lib.hid (isClosed_any x rows[k] wr PX.out (by have := (okC_of hok).2.1; omega))
        have TWA := Lib.hid (fun W (h : Below wr.heap.size wr W) => twiceArea_any x rows[k] W (pat_up (pat_keep PX.out h) h.size) hok)
        have AB := areaI_bounds hok
        have SB := sizeA_bounds hok
        have EN := Lib.hid (show bestN rows (k + 1) = if closedB rows[k] = true ∧ (bestN rows k).2 < sizeA rows[k] then ((k : Int), sizeA rows[k]) else bestN rows k by simp only [bestN]; rw [getD_row hlt])
        have ESA := Lib.hid (show sizeA rows[k] = if areaI rows[k] < 0 then -areaI rows[k] else areaI rows[k] from rfl)
        have hk0 : 0 ≤ (k : Int) := by omega
        have hk1 : (k : Int) < (rows.length : Int) := by omega
        have hs0 : -1 ≤ (bestN rows k).2 := by
          rcases FB with ⟨_, h⟩ | ⟨bb, _, hbk, h⟩
          · omega
          · have := (sizeA_bounds (HO.out bb (by omega))).1
            rw [getD_row (by omega)] at h
            omega
        have EB := Lib.hid (show bestN rows k = ((bestN rows k).1, (bestN rows k).2) from rfl)
        rw [EB.out] at EN
        obtain ⟨ax, cx, rfl, hjx⟩ := hx
        clear c1 hb hjx FB hok EB
        generalize (bestN rows k).1 = b0 at *
        generalize (bestN rows k).2 = b2 at *
        generalize sizeA rows[k] = SZ at *
        generalize areaI rows[k] = A at *
        generalize closedB rows[k] = cl at *
        have kn : IntKind.i64.wrap (-A) = -A := IntWalk.i64_in _ (by omega)
        cases cl with
        | false =>
          have E := Lib.hid (show bestN rows (k + 1) = (b0, b2) by rw [EN.out]; simp)
          go_wp2_with fail
          refine ISC.out.mono ?_
          rintro e w2 ⟨rfl, hb2⟩
          have HB2 := Lib.hid (HB.out.trans (hb2.mono hsz))
          clear hb2
          go_wp2
          go_roundw
          case rel => exact ⟨k + 1, by omega, by go_num, by rw [E.out], by rw [E.out], HB2.out⟩
          case measure => simp [intOf]; omega
        | true =>
          by_cases hA : A < 0
          · have eS : SZ = -A := by rw [ESA.out, if_pos hA]
            have mA : max A (-A) = -A := by omega
            have l1 : A < -A := by omega
            by_cases hg : b2 < -A
            · have E := Lib.hid (show bestN rows (k + 1) = ((k : Int), -A) by rw [EN.out, eS]; simp [hg])
              clear eS
              go_wp2_with fail
              refine ISC.out.mono ?_
              rintro e w2 ⟨rfl, hb2⟩
              have HB2 := Lib.hid (HB.out.trans (hb2.mono hsz))
              have HB2' := Lib.hid hb2
              clear hb2
              go_wp2_with fail
              refine (TWA.out _ HB2'.out).mono ?_
              rintro e w3 ⟨rfl, hb3⟩
              have HB3 := Lib.hid (HB2.out.trans (hb3.mono HB2.out.size))
              clear hb3
              go_wp2
              go_roundw
              case rel => exact ⟨k + 1, by omega, by go_num, by rw [E.out], by rw [E.out], HB3.out⟩
              case measure => simp [intOf]; omega
            · have E := Lib.hid (show bestN rows (k + 1) = (b0, b2) by rw [EN.out, eS]; simp [hg])
              clear eS
              go_wp2_with fail
              refine ISC.out.mono ?_
              rintro e w2 ⟨rfl, hb2⟩
              have HB2 := Lib.hid (HB.out.trans (hb2.mono hsz))
              have HB2' := Lib.hid hb2
              clear hb2
              go_wp2_with fail
              refine (TWA.out _ HB2'.out).mono ?_
              rintro e w3 ⟨rfl, hb3⟩
              have HB3 := Lib.hid (HB2.out.trans (hb3.mono HB2.out.size))
              clear hb3
              go_wp2
              go_roundw
              case rel => exact ⟨k + 1, by omega, by go_num, by rw [E.out], by rw [E.out], HB3.out⟩
              case measure => simp [intOf]; omega
          · have eS : SZ = A := by rw [ESA.out, if_neg hA]
            have mA : max A (-A) = A := by omega
            have HEQ : A = 0 ∨ -A < A := by omega
            by_cases hg : b2 < A
            · have E := Lib.hid (show bestN rows (k + 1) = ((k : Int), A) by rw [EN.out, eS]; simp [hg])
              clear eS
              rcases HEQ with l1 | l1
              · subst l1
                go_wp2_with fail
                refine ISC.out.mono ?_
                rintro e w2 ⟨rfl, hb2⟩
                have HB2 := Lib.hid (HB.out.trans (hb2.mono hsz))
                have HB2' := Lib.hid hb2
                clear hb2
                go_wp2_with fail
                refine (TWA.out _ HB2'.out).mono ?_
                rintro e w3 ⟨rfl, hb3⟩
                have HB3 := Lib.hid (HB2.out.trans (hb3.mono HB2.out.size))
                clear hb3
                go_wp2
                go_roundw
                case rel => exact ⟨k + 1, by omega, by go_num, by rw [E.out], by rw [E.out], HB3.out⟩
                case measure => simp [intOf]; omega
              · go_wp2_with fail
                refine ISC.out.mono ?_
                rintro e w2 ⟨rfl, hb2⟩
                have HB2 := Lib.hid (HB.out.trans (hb2.mono hsz))
                have HB2' := Lib.hid hb2
                clear hb2
                go_wp2_with fail
                refine (TWA.out _ HB2'.out).mono ?_
                rintro e w3 ⟨rfl, hb3⟩
                have HB3 := Lib.hid (HB2.out.trans (hb3.mono HB2.out.size))
                clear hb3
                go_wp2
                go_roundw
                case rel => exact ⟨k + 1, by omega, by go_num, by rw [E.out], by rw [E.out], HB3.out⟩
                case measure => simp [intOf]; omega
            · have E := Lib.hid (show bestN rows (k + 1) = (b0, b2) by rw [EN.out, eS]; simp [hg])
              clear eS
              rcases HEQ with l1 | l1
              · subst l1
                go_wp2_with fail
                refine ISC.out.mono ?_
                rintro e w2 ⟨rfl, hb2⟩
                have HB2 := Lib.hid (HB.out.trans (hb2.mono hsz))
                have HB2' := Lib.hid hb2
                clear hb2
                go_wp2_with fail
                refine (TWA.out _ HB2'.out).mono ?_
                rintro e w3 ⟨rfl, hb3⟩
                have HB3 := Lib.hid (HB2.out.trans (hb3.mono HB2.out.size))
                clear hb3
                go_wp2
                go_roundw
                case rel => exact ⟨k + 1, by omega, by go_num, by rw [E.out], by rw [E.out], HB3.out⟩
                case measure => simp [intOf]; omega
              · go_wp2_with fail
                refine ISC.out.mono ?_
                rintro e w2 ⟨rfl, hb2⟩
                have HB2 := Lib.hid (HB.out.trans (hb2.mono hsz))
                have HB2' := Lib.hid hb2
                clear hb2
                go_wp2_with fail
                refine (TWA.out _ HB2'.out).mono ?_
                rintro e w3 ⟨rfl, hb3⟩
                have HB3 := Lib.hid (HB2.out.trans (hb3.mono HB2.out.size))
                clear hb3
                go_wp2
                go_roundw
                case rel => exact ⟨k + 1, by omega, by go_num, by rw [E.out], by rw [E.out], HB3.out⟩
                case measure => simp [intOf]; omega
      · obtain rfl : k = rows.length := by omega
        clear hb FB
        rw [hb1.out]
        by_cases hneg : b1 < 0
        · go_wp2
          exact bodyPost_ret (v := .tuple #[.int .i64 0, .int .i64 3]) (by simp [results, Try.results53, go_sem]) rfl ⟨by first | (simp [hneg]; done) | (rw [if_neg hneg]; rfl) | (rw [if_pos hneg]; rfl), HB.out⟩
        · have hd : decide (b1 < 0) = false := by simp; omega
          have hd2 : 0 ≤ b1 := by omega
          go_wp2
          exact bodyPost_ret (v := .tuple #[.int .i64 b1, .int .i64 0]) (by simp [results, Try.results53, go_sem]) rfl ⟨by first | (simp [hneg]; done) | (rw [if_neg hneg]; rfl) | (rw [if_pos hneg]; rfl), HB.out⟩
  · have E1 : codeB9 rows = codeL rows := by unfold codeB9; rw [if_neg h0]
    have E2 : bestV rows = 0 := by unfold bestV; rw [E1, if_neg h0]
    rw [E1, E2]
    clear E1 E2
    generalize codeL rows = C at *
    go_enter Try.func53, Try.ntmps53
    go_wp2_with fail
    refine CC.out.mono ?_
    rintro e w1 ⟨rfl, hb⟩
    have HB1 := Lib.hid hb
    clear hb
    go_wp2
    exact bodyPost_ret (v := .tuple #[.int .i64 0, .int .i64 C]) (by simp [results, Try.results53, go_sem]) rfl ⟨rfl, HB1.out⟩
end Go.Proofs.Ytemhmejjmhbfdaa.sines
