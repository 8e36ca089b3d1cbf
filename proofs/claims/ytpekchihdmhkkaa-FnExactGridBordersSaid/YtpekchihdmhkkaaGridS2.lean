/- The model's grids: lands, codes, cells: contracts. -/
import Derived.Test.YtpekchihdmhkkaaGridS1
import Derived.Laws.IdiomStrings
import Derived.WalkSmall
namespace Go.Proofs.Ytpekchihdmhkkaa.stab
open Go.ChangeShapes Go.WideShapes Go.ChangeAt Go.RowKit Go.Proofs.Ytpekchihdmhkkaa.split Go.Proofs.Ytpekchihdmhkkaa.sines Go.Proofs.Ytpekchihdmhkkaa.names
set_option linter.unusedSimpArgs false
set_option linter.unusedVariables false

theorem cat' (a b : List UInt8) : (⟨a.toArray⟩ : ByteArray) ++ ⟨b.toArray⟩ = ⟨(a ++ b).toArray⟩ := by
  apply ByteArray.ext
  simp
theorem retS {a b : ByteArray} (h : a = b) : Ending.returned (.string a) = .returned (.string b) := by rw [h]
set_option maxRecDepth 100000 in
set_option maxHeartbeats 1000000 in
theorem l12Lands_any (v : Value) (ps : List ByteArray) (n : Nat) (w : World) (hv : SAt w w.heap.size v ps) (hG : Grid ps n) :
    Calls Try.prog 44 #[v] w fun e w' => e = .returned (.string (txt (landsC (cellsG ps)))) ∧ Below w.heap.size w w' := by
  have HV := Lib.hid hv
  have HG := Lib.hid hG
  obtain ⟨ar, c, rfl, _⟩ := hv
  clear hG
  go_enter Try.func44, Try.ntmps44
  go_wp2
  go_loopw [3, 4] (fun o i wr => ∃ k : Nat, k ≤ 26 ∧ i = .int .u8 (97 + (k : Int)) ∧ o = .string ⟨(landsTo (cellsG ps) k).toArray⟩ ∧ Below w.heap.size w wr) (fun _ i _ => 200 - (intOf i).toNat)
  case atStart => exact ⟨0, Nat.zero_le _, rfl, rfl, Below.refl _ _⟩
  case round =>
    obtain ⟨k, hk, rfl, rfl, hb⟩ := hrel
    have HB := Lib.hid hb
    have hlen := landsTo_len (cellsG ps) k
    by_cases hlt : k < 26
    · have hk0 : 97 + (k : Int) ≤ 122 := by omega
      have hk9 : 0 ≤ (k : Int) := by omega
      have hbn : ((UInt8.ofNat (97 + k)).toNat : Int) = 97 + (k : Int) := by rw [UInt8.toNat_ofNat']; omega
      have CT := Lib.hid (l12Count_any _ ps n (UInt8.ofNat (97 + k)) wr _ (sat_up (sat_keep HV.out hb) hb.size) HG.out)
      rw [hbn] at CT
      have SU := Lib.hid (landsTo_succ (cellsG ps) k)
      obtain ⟨C, hC⟩ : ∃ C, Hid ((cellsG ps).count (UInt8.ofNat (97 + k)) = C) := ⟨_, Lib.hid rfl⟩
      rw [hC.out] at CT SU
      obtain ⟨l, hl⟩ : ∃ l, Hid (landsTo (cellsG ps) k = l) := ⟨_, Lib.hid rfl⟩
      rw [hl.out] at SU hlen ⊢
      obtain ⟨cb, hcb⟩ : ∃ c, Hid (UInt8.ofNat (97 + k) = c) := ⟨_, Lib.hid rfl⟩
      rw [hcb.out] at SU hbn
      have HBN := Lib.hid hbn
      have kw : IntKind.u8.wrap (97 + (k : Int) + 1) = 97 + (k : Int) + 1 := by simp [IntKind.wrap, IntKind.bits, IntKind.signed]; omega
      clear hb hbn
      by_cases h0 : 0 < C
      · have h0b : (0 : Int) < (C : Int) := by omega
        rw [if_pos h0] at SU
        clear h0
        go_wp2_with fail
        refine CT.out.mono ?_
        rintro e w1 ⟨rfl, q, hw⟩
        have HB1 := Lib.hid (show Below w.heap.size w w1 by rw [hw]; exact bdr HB.out q)
        clear hw CT
        have hs := HB1.out.size
        have hcv : (convert 43 9 (.slice (some ⟨w1.heap.size, 0, none⟩) 1 1)).run Try.prog (w1.alloc (.cells #[.int .u8 (97 + (k : Int))] 5)) = .ok (.string ⟨[cb].toArray⟩) (w1.alloc (.cells #[.int .u8 (97 + (k : Int))] 5)) :=
          run_convert_bytes_back _ 43 9 5 ⟨w1.heap.size, 0, none⟩ 1 [cb] Try.underlying43 Try.underlying5 Try.underlying9 (fun j hj => by
            obtain rfl : j = 0 := by simpa using hj
            simp only [List.getElem_cons_zero, HBN.out]
            simp [Addr.add])
        go_wp2
        go_roundw
        case rel => exact ⟨k + 1, by omega, by go_num, by rw [cat', SU.out], HB1.out.alloc hs _⟩
        case measure => simp [intOf]; omega
      · have h0b : ¬ (0 : Int) < (C : Int) := by omega
        rw [if_neg h0, List.append_nil] at SU
        clear h0
        go_wp2_with fail
        refine CT.out.mono ?_
        rintro e w1 ⟨rfl, q, hw⟩
        have HB1 := Lib.hid (show Below w.heap.size w w1 by rw [hw]; exact bdr HB.out q)
        clear hw CT
        go_wp2
        go_roundw
        case rel => exact ⟨k + 1, by omega, by go_num, by rw [SU.out], HB1.out⟩
        case measure => simp [intOf]; omega
    · obtain rfl : k = 26 := by omega
      have HE := Lib.hid (show (⟨(landsTo (cellsG ps) 26).toArray⟩ : ByteArray) = txt (landsC (cellsG ps)) from rfl)
      clear hb
      generalize landsTo (cellsG ps) 26 = l at HE hlen
      go_wp2
      go_ret
      exact ⟨retS HE.out, HB.out⟩
def valLands (ps : List ByteArray) : List UInt8 := if okG ps = true then landsC (cellsG ps) else []
def codeV (ps : List ByteArray) : Int := if okG ps = true then 0 else 1
set_option maxHeartbeats 1000000 in
theorem specLandsOf_any (v : Value) (ps : List ByteArray) (w : World) (hv : SAt w w.heap.size v ps) (hl : ps.length ≤ 1048576) (hr : ∀ i, i < ps.length → (sAt ps i).size ≤ 1048576) :
    Calls Try.prog 18 #[v] w fun e w' => e = .returned (.tuple #[.string (txt (valLands ps)), .int .i64 (codeV ps)]) ∧ Below w.heap.size w w' := by
  have OK := Lib.hid (l12Ok_any v ps w _ hv hl hr)
  have HV := Lib.hid hv
  obtain ⟨ar, c, rfl, _⟩ := hv
  clear hl hr
  unfold valLands codeV
  cases h : okG ps with
  | false =>
    rw [h] at OK
    go_enter Try.func18, Try.ntmps18
    go_wp2_with fail
    refine OK.out.mono ?_
    rintro e w' ⟨rfl, q, rfl⟩
    go_wp2
    exact bodyPost_ret (v := .tuple #[.string ⟨#[]⟩, .int .i64 1]) (by simp [results, Try.results18, go_sem]) rfl ⟨rfl, below_drawn _ q⟩
  | true =>
    rw [h] at OK
    have HG := Lib.hid (grid_of h)
    simp only [if_true]
    clear h
    obtain ⟨L, hL⟩ : ∃ L, Hid (txt (landsC (cellsG ps)) = L) := ⟨_, Lib.hid rfl⟩
    rw [hL.out]
    go_enter Try.func18, Try.ntmps18
    go_wp2_with fail
    refine OK.out.mono ?_
    rintro e w1 ⟨rfl, q, hw⟩
    have HB1 := Lib.hid (show Below w.heap.size w w1 by rw [hw]; exact below_drawn _ q)
    have LL := Lib.hid (l12Lands_any _ ps _ w1 (sat_up (sat_keep HV.out HB1.out) HB1.out.size) HG.out)
    clear hw
    rw [hL.out] at LL
    go_wp2_with fail
    refine LL.out.mono ?_
    rintro e w2 ⟨rfl, hb⟩
    have HB2 := Lib.hid (HB1.out.trans (hb.mono HB1.out.size))
    clear hb
    go_wp2
    exact bodyPost_ret (v := .tuple #[.string L, .int .i64 0]) (by simp [results, Try.results18, go_sem]) rfl ⟨rfl, HB2.out⟩
theorem isL_size {s : ByteArray} (h : s.size ≠ 1) : isL s = false := by simp [isL, h]
theorem isL_no {s : ByteArray} (h : smallB (bAt s 0) = false) : isL s = false := by simp [isL, h]
theorem isL_yes {s : ByteArray} (h1 : s.size = 1) (h : smallB (bAt s 0) = true) : isL s = true := by simp [isL, h1, h]
set_option maxHeartbeats 1000000 in
theorem l12Code_any (v : Value) (ps : List ByteArray) (land : ByteArray) (w : World) (hv : SAt w w.heap.size v ps) (hl : ps.length ≤ 1048576) (hr : ∀ i, i < ps.length → (sAt ps i).size ≤ 1048576) (hs : land.size ≤ 1048576) :
    Calls Try.prog 47 #[v, .string land] w fun e w' => e = .returned (.int .i64 (codeG ps land)) ∧ ∃ q, w' = w.drewN q := by
  have OK := Lib.hid (l12Ok_any v ps w _ hv hl hr)
  have HV := Lib.hid hv
  obtain ⟨ar, c, rfl, _⟩ := hv
  clear hl hr
  unfold codeG
  have hs2 : (land.size : Int) ≤ 1048576 := by omega
  cases h : okG ps with
  | false =>
    rw [h] at OK
    go_enter Try.func47, Try.ntmps47
    go_wp2_with fail
    refine OK.out.mono ?_
    rintro e w' ⟨rfl, q, rfl⟩
    go_wp2
    go_ret
    exact ⟨rfl, q, rfl⟩
  | true =>
    rw [h] at OK
    have HG := Lib.hid (grid_of h)
    simp only [if_true]
    clear h
    by_cases h1 : land.size = 1
    · have h1a : ((land.size : Int) != 1) = false := by simp [h1]
      have hp : 0 < land.size := by omega
      have hp2 : (0 : Int) < (land.size : Int) := by omega
      cases hsm : smB (land[0].toNat : Int) with
      | false =>
        rw [isL_no (by rw [bAt_eq hp, ← smB_small]; exact hsm)]
        simp only [Bool.false_eq_true, if_false]
        go_enter Try.func47, Try.ntmps47
        go_wp2_with fail
        refine OK.out.mono ?_
        rintro e w' ⟨rfl, q, rfl⟩
        go_wp2_with fail
        refine (l01Small_any _ _).mono ?_
        rw [hsm]
        rintro e w' ⟨rfl, rfl⟩
        go_wp2
        go_ret
        exact ⟨rfl, q, rfl⟩
      | true =>
        rw [isL_yes h1 (by rw [bAt_eq hp, ← smB_small]; exact hsm), bAt_eq hp]
        simp only [if_true]
        have CT := Lib.hid (fun q => l12Count_any (.slice ar ps.length c) ps _ land[0] (w.drewN q) _ (sat_up (sat_keep HV.out (below_drawn w q)) (below_drawn w q).size) HG.out)
        generalize (cellsG ps).count land[0] = C at CT ⊢
        by_cases h0 : 0 < C
        · have h0a : ((C : Int) == 0) = false := by simp; omega
          rw [if_pos h0]
          clear h0
          go_enter Try.func47, Try.ntmps47
          go_wp2_with fail
          refine OK.out.mono ?_
          rintro e w' ⟨rfl, q, rfl⟩
          go_wp2_with fail
          refine (l01Small_any _ _).mono ?_
          rw [hsm]
          rintro e w' ⟨rfl, rfl⟩
          go_wp2_with fail
          refine (CT.out q).mono ?_
          rintro e w' ⟨rfl, q2, rfl⟩
          go_wp2
          go_ret
          exact ⟨rfl, _, rfl⟩
        · obtain rfl : C = 0 := by omega
          rw [if_neg h0]
          clear h0
          go_enter Try.func47, Try.ntmps47
          go_wp2_with fail
          refine OK.out.mono ?_
          rintro e w' ⟨rfl, q, rfl⟩
          go_wp2_with fail
          refine (l01Small_any _ _).mono ?_
          rw [hsm]
          rintro e w' ⟨rfl, rfl⟩
          go_wp2_with fail
          refine (CT.out q).mono ?_
          rintro e w' ⟨rfl, q2, rfl⟩
          go_wp2
          go_ret
          exact ⟨rfl, _, rfl⟩
    · have h1a : ((land.size : Int) != 1) = true := by simp; omega
      rw [isL_size h1]
      simp only [Bool.false_eq_true, if_false]
      go_enter Try.func47, Try.ntmps47
      go_wp2_with fail
      refine OK.out.mono ?_
      rintro e w' ⟨rfl, q, rfl⟩
      go_wp2
      go_ret
      exact ⟨rfl, q, rfl⟩
def valCells (ps : List ByteArray) (land : ByteArray) : Int := if codeG ps land = 0 then ((cellsG ps).count (bAt land 0) : Int) else 0
theorem codeG_zero {ps : List ByteArray} {land : ByteArray} (h : codeG ps land = 0) : okG ps = true ∧ isL land = true ∧ 0 < (cellsG ps).count (bAt land 0) := by
  unfold codeG at h
  split at h
  · split at h
    · split at h
      · exact ⟨‹_›, ‹_›, ‹_›⟩
      · simp at h
    · simp at h
  · simp at h
theorem codeG_in (ps : List ByteArray) (land : ByteArray) : codeG ps land = 0 ∨ codeG ps land = 1 ∨ codeG ps land = 2 ∨ codeG ps land = 3 := by
  unfold codeG
  split
  · split
    · split <;> simp
    · simp
  · simp
theorem isL_of {s : ByteArray} (h : isL s = true) : s.size = 1 ∧ smallB (bAt s 0) = true := by simpa [isL] using h
set_option maxHeartbeats 1000000 in
theorem specCellsOf_any (v : Value) (ps : List ByteArray) (land : ByteArray) (w : World) (hv : SAt w w.heap.size v ps) (hl : ps.length ≤ 1048576) (hr : ∀ i, i < ps.length → (sAt ps i).size ≤ 1048576) (hs : land.size ≤ 1048576) :
    Calls Try.prog 20 #[v, .string land] w fun e w' => e = .returned (.tuple #[.int .i64 (valCells ps land), .int .i64 (codeG ps land)]) ∧ Below w.heap.size w w' := by
  have CD := Lib.hid (l12Code_any v ps land w hv hl hr hs)
  have HV := Lib.hid hv
  obtain ⟨ar, c, rfl, _⟩ := hv
  clear hl hr
  unfold valCells
  have hs2 : (land.size : Int) ≤ 1048576 := by omega
  by_cases h : codeG ps land = 0
  · obtain ⟨g1, g2, _⟩ := codeG_zero h
    obtain ⟨h1, _⟩ := isL_of g2
    have hp : 0 < land.size := by omega
    have hp2 : (0 : Int) < (land.size : Int) := by omega
    have CT := Lib.hid (fun q => l12Count_any (.slice ar ps.length c) ps _ land[0] (w.drewN q) _ (sat_up (sat_keep HV.out (below_drawn w q)) (below_drawn w q).size) (grid_of g1))
    rw [if_pos h, bAt_eq hp, h]
    rw [h] at CD
    clear h h1 g1 g2
    generalize (cellsG ps).count land[0] = C at CT ⊢
    go_enter Try.func20, Try.ntmps20
    go_wp2_with fail
    refine CD.out.mono ?_
    rintro e w' ⟨rfl, q, rfl⟩
    go_wp2_with fail
    refine (CT.out q).mono ?_
    rintro e w' ⟨rfl, q2, rfl⟩
    go_wp2
    exact bodyPost_ret (v := .tuple #[.int .i64 (C : Int), .int .i64 0]) (by simp [results, Try.results20, go_sem]) rfl ⟨rfl, below_drawn _ _⟩
  · rw [if_neg h]
    have h2 : (codeG ps land != 0) = true := by simpa using h
    generalize codeG ps land = cd at CD h2 ⊢
    clear h
    go_enter Try.func20, Try.ntmps20
    go_wp2_with fail
    refine CD.out.mono ?_
    rintro e w' ⟨rfl, q, rfl⟩
    go_wp2
    exact bodyPost_ret (v := .tuple #[.int .i64 0, .int .i64 cd]) (by simp [results, Try.results20, go_sem]) rfl ⟨rfl, below_drawn _ q⟩
end Go.Proofs.Ytpekchihdmhkkaa.stab
