/- The program's grids: which are valid: contracts. -/
import Derived.Test.YtpekchihdmhkkaaGridS1
import Derived.Lib.OthersKept
import Derived.Lib.SpaceUEq
import Derived.Lib.TrimUEq
import Derived.Laws.RangeAny
import Derived.Deep.LoopGhost
import Derived.Shelf.Abstract
namespace Go.Proofs.Ytpekchihdmhkkaa.stab
open Go.ChangeShapes Go.WideShapes Go.ChangeAt Go.RowKit Go.Proofs.Ytpekchihdmhkkaa.split Go.Proofs.Ytpekchihdmhkkaa.sines Go.Proofs.Ytpekchihdmhkkaa.names
set_option linter.unusedSimpArgs false
set_option linter.unusedVariables false

/-- A character that is no cell. -/
def noC (x : Nat) : Bool := !(decide (x = 46) || decide (97 ≤ x ∧ x ≤ 122))
theorem noC_byte (b : UInt8) : noC b.toNat = !cellB b := by
  unfold noC cellB smallB
  congr 1
  have e : decide (b.toNat = 46) = (b == 46) := by
    rw [Bool.eq_iff_iff]
    simp only [decide_eq_true_eq, beq_iff_eq]
    exact ⟨fun h => UInt8.toNat_inj.1 h, fun h => by rw [h]; rfl⟩
  rw [e]
theorem noC_high {x : Nat} (h : 128 ≤ x) : noC x = true := by
  unfold noC
  have h1 : ¬ x = 46 := by omega
  have h2 : ¬ (97 ≤ x ∧ x ≤ 122) := by omega
  simp only [h1, h2, decide_false, Bool.or_false, Bool.not_false]
theorem cellB_high {b : UInt8} (h : 128 ≤ b.toNat) : cellB b = false := by
  have := noC_byte b
  rw [noC_high h] at this
  cases h2 : cellB b
  · rfl
  · rw [h2] at this; cases this
set_option maxHeartbeats 400000 in
theorem isNoCell_any (x : Nat) (w : World) :
    Calls Try.prog 43 #[.int .i32 (x : Int)] w fun e w' => e = .returned (.bool (noC x)) ∧ w = w' := by
  by_cases h1 : x = 46
  · have hb : noC x = false := by simp [noC, h1]
    have h1' : ((x : Int) != 46) = false := by simp [h1]
    rw [hb]
    clear h1
    go_enter Try.func43, Try.ntmps43
    go_wp2
    all_goals (go_ret; exact ⟨rfl, rfl⟩)
  · have h1' : ((x : Int) != 46) = true := by simp; omega
    have hb : noC x = !smB (x : Int) := by
      unfold noC smB
      have e : decide (97 ≤ (x : Int) ∧ (x : Int) ≤ 122) = decide (97 ≤ x ∧ x ≤ 122) := by rw [Bool.eq_iff_iff]; simp; omega
      rw [e]; simp [h1]
    rw [hb]
    clear h1 hb
    obtain ⟨R, hR⟩ : ∃ R, Hid (smB (x : Int) = R) := ⟨_, Lib.hid rfl⟩
    rw [hR.out]
    go_enter Try.func43, Try.ntmps43
    go_wp2_with fail
    refine (isSmallLetter_any _ _).mono ?_
    rw [hR.out]
    rintro e w' ⟨rfl, rfl⟩
    go_wp2
    all_goals (go_ret; exact ⟨rfl, rfl⟩)
def allC (s : ByteArray) : Bool := s.data.toList.all cellB
theorem allC_no {s : ByteArray} {k : Nat} (hk : k < s.size) (h : cellB s[k] = false) : allC s = false := by
  unfold allC
  rw [List.all_eq_false]
  refine ⟨s[k], ?_, by simp [h]⟩
  have : s[k] = s.data.toList[k]'(by rw [size_list]; exact hk) := by rw [← bAt_eq hk]; unfold bAt; exact getD_lt (by rw [size_list]; assumption)
  rw [this]
  exact List.getElem_mem _
theorem allC_yes {s : ByteArray} (h : ∀ (j : Nat) (hj : j < s.size), cellB s[j] = true) : allC s = true := by
  unfold allC
  rw [List.all_eq_true]
  intro b hb
  obtain ⟨k, hk, rfl⟩ := List.mem_iff_getElem.1 hb
  have hk' : k < s.size := by rw [← size_list]; exact hk
  have e : s[k] = s.data.toList[k] := by rw [← bAt_eq hk']; unfold bAt; exact getD_lt (by rw [size_list]; assumption)
  rw [← e]
  exact h k hk'
set_option maxRecDepth 100000 in
set_option maxHeartbeats 2000000 in
theorem indexFuncG_any (s : ByteArray) (w : World) (hs : s.size ≤ 1048576) :
    Calls Try.prog 92 #[.string s, .func (.func 43) #[] #[], .bool true] w fun e w' => (∃ i : Int, e = .returned (.int .i64 i) ∧ decide (0 ≤ i) = !allC s) ∧ Below w.heap.size w w' := by
  have eg : ∀ args w, (callFunc 43 args).run Try.prog w = .ok (.enter 43 args) w := enters_of Try.func43 (by kernel_rfl) rfl
  obtain ⟨R, hR⟩ : ∃ R, Hid (allC s = R) := ⟨_, Lib.hid rfl⟩
  rw [hR.out]
  go_enter Try.func92, Try.ntmps92
  go_wp2
  go_loopg [] s.size (fun gf wx => ∃ pos : Nat, wx.heap[w.heap.size]? = some (.stringIter s pos) ∧ Below w.heap.size w wx ∧ (∀ (j : Nat) (h : j < s.size), j < pos → cellB s[j] = true) ∧ s.size ≤ pos + gf)
  case atStart => exact ⟨0, World.iter_heap w s 0, (Below.refl _ w).alloc (Nat.le_refl _) _, fun j _ hj => absurd hj (Nat.not_lt_zero _), by omega⟩
  case round =>
    obtain ⟨pos, hit, hbw, hfree, hfu⟩ := hrel
    have HF := Lib.hid hfree
    have HBW := Lib.hid hbw
    clear hfree
    by_cases hps : pos < s.size
    · obtain ⟨g', rfl⟩ : ∃ g', gk = g' + 1 := ⟨gk - 1, by omega⟩
      have hnx : ∀ ty, (Instr.next (.pointer (some ⟨w.heap.size, 0, none⟩)) true ty).run Try.prog wr = _ := fun ty => Lib.run_next_any_at wr w.heap.size s pos ty hit hps
      have hwd := Lib.width_pos s pos
      have HN := Lib.hid (show noC (Utf8.decode s pos).1 = false → (Utf8.decode s pos).2 = 1 ∧ ∀ (j : Nat) (h : j < s.size), j < pos + 1 → cellB s[j] = true from fun h => by
        by_cases h0 : s[pos].toNat < 128
        · rw [decode_ascii s pos hps h0] at h ⊢
          refine ⟨rfl, fun j hj hk => ?_⟩
          by_cases e : j = pos
          · subst e
            have := noC_byte s[j]
            rw [h] at this
            cases h2 : cellB s[j]
            · rw [h2] at this; cases this
            · rfl
          · exact HF.out j hj (by omega)
        · have h128 := (decode_high s pos hps (by omega)).1
          rw [noC_high (by omega)] at h
          cases h)
      have HY := Lib.hid (show noC (Utf8.decode s pos).1 = true → R = false from fun h => by
        rw [← hR.out]
        by_cases h0 : s[pos].toNat < 128
        · rw [decode_ascii s pos hps h0, noC_byte] at h
          exact allC_no hps (by simpa using h)
        · exact allC_no hps (cellB_high (by omega)))
      obtain ⟨X, hX⟩ : ∃ X, (Utf8.decode s pos).1 = X := ⟨_, rfl⟩
      obtain ⟨K, hK⟩ : ∃ K, (Utf8.decode s pos).2 = K := ⟨_, rfl⟩
      rw [hX, hK] at hnx
      rw [hK] at hwd
      rw [hX, hK] at HN
      rw [hX] at HY
      have hit2 := Lib.iterAt_heap wr w.heap.size s pos (pos + K) hit
      have hbw2 := Lib.below_iterAt hbw (k := w.heap.size) (Nat.le_refl _) s (pos + K)
      obtain ⟨W, hWd⟩ : ∃ W, wr.iterAt w.heap.size s (pos + K) = W := ⟨_, rfl⟩
      rw [hWd] at hnx hit2 hbw2
      have hWs : w.heap.size < W.heap.size := (Array.getElem?_eq_some_iff.1 hit2).1
      have HC := Lib.hid (isNoCell_any X W)
      have HB2 := Lib.hid hbw2
      have HI2 := Lib.hid hit2
      clear hbw2 hit2 hit hbw hWd
      cases hsp : noC X
      · go_wp2_with fail
        refine HC.out.mono ?_
        rintro e W' ⟨rfl, rfl⟩
        rw [hsp]
        go_wp2
        go_roundg g'
        case measure => omega
        case rel => exact ⟨pos + K, HI2.out, HB2.out, fun j hj hk => (HN.out hsp).2 j hj (by have := (HN.out hsp).1; omega), by omega⟩
      · obtain rfl := HY.out hsp
        go_wp2_with fail
        refine HC.out.mono ?_
        rintro e W' ⟨rfl, rfl⟩
        rw [hsp]
        go_wp2
        go_ret
        exact ⟨⟨_, rfl, by simp <;> omega⟩, HB2.out⟩
    · have hnx : ∀ ty, (Instr.next (.pointer (some ⟨w.heap.size, 0, none⟩)) true ty).run Try.prog wr = _ := fun ty => Lib.run_next_end_at wr w.heap.size s pos ty hit hps
      have RR := Lib.hid (show R = true by rw [← hR.out]; exact allC_yes fun j hj => HF.out j hj (by omega))
      obtain rfl := RR.out
      go_wp2
      go_ret
      exact ⟨⟨-1, rfl, by simp⟩, HBW.out⟩
set_option maxHeartbeats 400000 in
theorem IndexFuncG_any (s : ByteArray) (w : World) (hs : s.size ≤ 1048576) :
    Calls Try.prog 71 #[.string s, .func (.func 43) #[] #[]] w fun e w' => (∃ i : Int, e = .returned (.int .i64 i) ∧ decide (0 ≤ i) = !allC s) ∧ Below w.heap.size w w' := by
  have IX := Lib.hid (indexFuncG_any s w hs)
  go_enter Try.func71, Try.ntmps71
  go_wp2_with fail
  refine IX.out.mono ?_
  rintro e w' ⟨⟨i, rfl, hf⟩, hb⟩
  have HF := Lib.hid hf
  have HB := Lib.hid hb
  clear hf hb
  go_wp2
  go_ret
  exact ⟨⟨i, rfl, HF.out⟩, HB.out⟩
set_option maxHeartbeats 400000 in
theorem ContainsFuncG_any (s : ByteArray) (w : World) (hs : s.size ≤ 1048576) :
    Calls Try.prog 42 #[.string s, .func (.func 43) #[] #[]] w fun e w' => e = .returned (.bool (!allC s)) ∧ Below w.heap.size w w' := by
  have IX := Lib.hid (IndexFuncG_any s w hs)
  obtain ⟨R, hR⟩ : ∃ R, Hid ((!allC s) = R) := ⟨_, Lib.hid rfl⟩
  rw [hR.out] at IX ⊢
  go_enter Try.func42, Try.ntmps42
  go_wp2_with fail
  refine IX.out.mono ?_
  rintro e w' ⟨⟨i, rfl, hf⟩, hb⟩
  have HF := Lib.hid hf
  have HB := Lib.hid hb
  clear hf hb
  go_wp2
  go_ret
  exact ⟨retB (by rw [← HF.out]), HB.out⟩
/-- A row that is none of a grid whose first row has n bytes. -/
def badR (n : Nat) (s : ByteArray) : Bool := !decide (s.size = n) || !allC s
set_option maxHeartbeats 1000000 in
theorem validGrid1_any (v : Value) (ps : List ByteArray) (s : ByteArray) (b : Nat) (w : World) (hv : SAt w w.heap.size v ps) (h1 : 1 ≤ ps.length) (hs : s.size ≤ 1048576) (hs0 : (sAt ps 0).size ≤ 1048576) (hb : w.cell? ⟨b, 0, none⟩ = some v) :
    Calls Try.prog 41 #[.string s, .pointer (some ⟨b, 0, none⟩)] w fun e w' => e = .returned (.bool (badR (sAt ps 0).size s)) ∧ Below w.heap.size w w' := by
  obtain ⟨ar, c, rfl, _, hcl⟩ := hv
  obtain ⟨b0, off0, rfl, hb0, z0⟩ := hcl 0 (by omega)
  rw [Nat.add_zero] at z0
  have hp0 : (0 : Int) < (ps.length : Int) := by omega
  have hpN : 0 < ps.length := by omega
  clear hcl
  unfold badR
  generalize sAt ps 0 = t at z0 hs0 ⊢
  by_cases hz : s.size = t.size
  · have hz2 : ((s.size : Int) != (t.size : Int)) = false := by simp [hz]
    have CF := Lib.hid (ContainsFuncG_any s w hs)
    rw [show decide (s.size = t.size) = true by simp [hz], Bool.not_true, Bool.false_or]
    generalize (!allC s) = R at CF ⊢
    clear hz
    go_enter Try.func41, Try.ntmps41
    go_wp2_with fail
    refine CF.out.mono ?_
    rintro e w' ⟨rfl, hb⟩
    have HB := Lib.hid hb
    clear hb
    go_wp2
    go_ret
    exact ⟨rfl, HB.out⟩
  · have hz2 : ((s.size : Int) != (t.size : Int)) = true := by simp; omega
    rw [show decide (s.size = t.size) = false by simp [hz], Bool.not_false, Bool.true_or]
    clear hz
    go_enter Try.func41, Try.ntmps41
    go_wp2
    go_ret
    exact ⟨rfl, Below.refl _ _⟩
set_option maxRecDepth 100000 in
set_option maxHeartbeats 1000000 in
theorem indexBad_any (v : Value) (ps : List ByteArray) (b : Nat) (w : World) (hv : SAt w w.heap.size v ps) (h1 : 1 ≤ ps.length) (hl : ps.length ≤ 1048576) (hr : ∀ i, i < ps.length → (sAt ps i).size ≤ 1048576) (hb : w.cell? ⟨b, 0, none⟩ = some v) :
    Calls Try.prog 70 #[v, .func (.func 41) #[] #[.pointer (some ⟨b, 0, none⟩)]] w fun e w' => (∃ r : Int, e = .returned (.int .i64 r) ∧ decide (0 ≤ r) = ps.any (badR (sAt ps 0).size)) ∧ Below w.heap.size w w' := by
  have eg : ∀ args w, (callFunc 41 args).run Try.prog w = .ok (.enter 41 args) w := enters_of Try.func41 (by kernel_rfl) rfl
  have HV := Lib.hid hv
  have hbl := World.block_lt_of_cell? _ _ hb
  have V1 := Lib.hid (fun s (hs : s.size ≤ 1048576) W (h : Below w.heap.size w W) => validGrid1_any v ps s b W (sat_up (sat_keep hv h) h.size) h1 hs (hr 0 (by omega)) ((h.cell (p := ⟨b, 0, none⟩) hbl).trans hb))
  obtain ⟨ar, c, rfl, _, hcl⟩ := hv
  have HCL := Lib.hid hcl
  have HRS := Lib.hid hr
  obtain ⟨R, hR⟩ : ∃ R, Hid (ps.any (badR (sAt ps 0).size) = R) := ⟨_, Lib.hid rfl⟩
  rw [hR.out]
  have hl2 : (ps.length : Int) ≤ 1048576 := by omega
  clear hcl hr hb
  go_enter Try.func70, Try.ntmps70
  go_wp2
  go_loopw [8] (fun i wr => ∃ k : Nat, k ≤ ps.length ∧ i = .int .i64 (k : Int) ∧ (∀ j, j < k → badR (sAt ps 0).size (sAt ps j) = false) ∧ Below w.heap.size w wr) (fun i _ => ps.length - (intOf i).toNat)
  case atStart => exact ⟨0, Nat.zero_le _, rfl, fun j h => by omega, Below.refl _ _⟩
  case round =>
    obtain ⟨k, hk, rfl, ha, hb⟩ := hrel
    have HA := Lib.hid ha
    have HB := Lib.hid hb
    clear ha
    by_cases hlt : k < ps.length
    · obtain ⟨bb, off, rfl, hbs, c1⟩ := HCL.out k hlt
      have u1 := (hb.cell (p := ⟨bb, off + k, none⟩) hbs).trans c1
      have hk0 : 0 ≤ (k : Int) := by omega
      have hk1 : (k : Int) < (ps.length : Int) := by omega
      have YES := Lib.hid (show badR (sAt ps 0).size (sAt ps k) = true → R = true from fun h => by
        rw [← hR.out, List.any_eq_true]
        exact ⟨ps[k], List.getElem_mem _, by rw [sAt_eq hlt] at h; exact h⟩)
      have NX := Lib.hid (show badR (sAt ps 0).size (sAt ps k) = false → ∀ j, j < k + 1 → badR (sAt ps 0).size (sAt ps j) = false from fun h j hj => by
        by_cases e : j = k
        · subst e; exact h
        · exact HA.out j (by omega))
      have CV := Lib.hid (V1.out (sAt ps k) (HRS.out k hlt) wr hb)
      obtain ⟨S, hS⟩ : ∃ S, Hid (badR (sAt ps 0).size (sAt ps k) = S) := ⟨_, Lib.hid rfl⟩
      rw [hS.out] at YES NX CV
      generalize sAt ps k = x at u1 CV
      clear hb c1
      cases S with
      | true =>
        obtain rfl := YES.out rfl
        go_wp2_with fail
        refine CV.out.mono ?_
        rintro e w' ⟨rfl, hb⟩
        have HB2 := Lib.hid (HB.out.trans (hb.mono HB.out.size))
        clear hb
        go_wp2
        go_ret
        exact ⟨⟨_, rfl, by simp <;> omega⟩, HB2.out⟩
      | false =>
        have N2 := Lib.hid (NX.out rfl)
        go_wp2_with fail
        refine CV.out.mono ?_
        rintro e w' ⟨rfl, hb⟩
        have HB2 := Lib.hid (HB.out.trans (hb.mono HB.out.size))
        clear hb
        go_wp2
        go_roundw
        case rel => exact ⟨k + 1, by omega, by go_num, N2.out, HB2.out⟩
        case measure => simp [intOf]; omega
    · obtain rfl : k = ps.length := by omega
      have RR := Lib.hid (show R = false by
        rw [← hR.out, List.any_eq_false]
        intro x hx
        obtain ⟨j, hj, rfl⟩ := List.mem_iff_getElem.1 hx
        have := HA.out j hj
        rw [sAt_eq hj] at this
        simp [this])
      obtain rfl := RR.out
      go_wp2
      go_ret
      exact ⟨⟨_, rfl, by simp⟩, HB.out⟩
set_option maxHeartbeats 400000 in
theorem containsBad_any (v : Value) (ps : List ByteArray) (b : Nat) (w : World) (hv : SAt w w.heap.size v ps) (h1 : 1 ≤ ps.length) (hl : ps.length ≤ 1048576) (hr : ∀ i, i < ps.length → (sAt ps i).size ≤ 1048576) (hb : w.cell? ⟨b, 0, none⟩ = some v) :
    Calls Try.prog 40 #[v, .func (.func 41) #[] #[.pointer (some ⟨b, 0, none⟩)]] w fun e w' => e = .returned (.bool (ps.any (badR (sAt ps 0).size))) ∧ Below w.heap.size w w' := by
  have IX := Lib.hid (indexBad_any v ps b w hv h1 hl hr hb)
  obtain ⟨ar, c, rfl, _⟩ := hv
  clear hb hr
  generalize ps.any (badR (sAt ps 0).size) = R at *
  go_enter Try.func40, Try.ntmps40
  go_wp2_with fail
  refine IX.out.mono ?_
  rintro e w1 ⟨⟨r, rfl, hr⟩, hb⟩
  have HB := Lib.hid hb
  have HR := Lib.hid hr
  clear hb hr
  go_wp2
  go_ret
  exact ⟨retB HR.out, HB.out⟩
theorem okG_any {ps : List ByteArray} (h1 : inB (ps.length : Int) 1 16 = true) (h2 : inB ((sAt ps 0).size : Int) 1 32 = true) : okG ps = !ps.any (badR (sAt ps 0).size) := by
  have a1 := inB_of h1
  have a2 := inB_of h2
  unfold okG
  have e1 : decide (1 ≤ ps.length ∧ ps.length ≤ 16) = true := by simp; omega
  rw [e1, Bool.true_and]
  have each : ∀ s, rowOk (sAt ps 0).size s = !badR (sAt ps 0).size s := fun s => by
    unfold rowOk badR
    by_cases h : s.size = (sAt ps 0).size
    · have g1 : decide (1 ≤ s.size) = true := by simp; omega
      have g2 : decide (s.size ≤ 32) = true := by simp; omega
      rw [g1, g2, show decide (s.size = (sAt ps 0).size) = true by simp [h]]
      simp [allC]
    · rw [show decide (s.size = (sAt ps 0).size) = false by simp [h]]
      simp
  rw [Bool.eq_iff_iff]
  simp only [List.all_eq_true, each, Bool.not_eq_true', List.any_eq_false, Bool.not_eq_true]
end Go.Proofs.Ytpekchihdmhkkaa.stab
