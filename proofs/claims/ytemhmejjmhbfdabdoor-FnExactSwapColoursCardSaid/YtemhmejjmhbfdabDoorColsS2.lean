/- The model's exchanged colours: contract. -/
import Derived.Test.YtemhmejjmhbfdabDoorColsM
namespace Go.Proofs.YtemhmejjmhbfdabDoor.sines
open Go.ChangeShapes Go.WideShapes Go.ChangeAt Go.RowKit Go.Proofs.YtemhmejjmhbfdabDoor.spots Go.Proofs.YtemhmejjmhbfdabDoor.irows Go.Proofs.YtemhmejjmhbfdabDoor.pairsBorder
set_option linter.unusedSimpArgs false
set_option linter.unusedVariables false

theorem irow_one (w : World) (B : Nat) (x : Int) (h : B ≤ w.heap.size) : IRow (w.alloc (.cells #[.int .i64 x] 2)) B (.slice (some ⟨w.heap.size, 0, none⟩) 1 1) [x] := ⟨rfl, .inr ⟨w.heap.size, 1, #[.int .i64 x], rfl, h, heap_alloc_new w _, Nat.le_refl _, by decide, rfl, rfl⟩⟩
theorem rowH_cell {w : World} {B g n c : Nat} {f : Nat → Int} (h : IRow w B (.slice (some ⟨g, 0, none⟩) n c) (rowF n f)) {k : Nat} (hk : k < n) : w.cell? ⟨g, k, none⟩ = some (.int .i64 (f k)) ∧ w.frozen? ⟨g, k, none⟩ = false := by
  have h2 : IRow w B (.slice (some ⟨g, 0, none⟩) (rowF n f).length c) (rowF n f) := by rw [rowF_len]; exact h
  refine ⟨?_, World.ownsRow.frozenAt h2 k⟩
  rw [irow_cell h2 k (by rw [rowF_len]; exact hk)]
  simp [rowF]
theorem rowH_store {w : World} {B g n c : Nat} {f f' : Nat → Int} (h : IRow w B (.slice (some ⟨g, 0, none⟩) n c) (rowF n f)) {k : Nat} (hk : k < n) (x : Int) (he : ∀ j, j < n → (if j = k then x else f j) = f' j) : IRow (w.setCell ⟨g, k, none⟩ (.int .i64 x)) B (.slice (some ⟨g, 0, none⟩) n c) (rowF n f') := by
  rw [← rowF_congr he]
  exact irow_store h (rowF_len n f) (rowF_set x hk) (rowF_len n _)
theorem cAt_row {cs : List Int} {k : Nat} (h : k < cs.length) : cs[k] = cAt cs (k : Int) := by rw [cAt_nat, zAt_eq h]
theorem colsOk_facts {n : Int} {cs : List Int} (h : colsOk n cs = true) : (cs.length : Int) = n ∧ ∀ c ∈ cs, 0 ≤ c ∧ c ≤ 9 := by
  simp only [colsOk, Bool.and_eq_true, List.all_eq_true, decide_eq_true_eq] at h
  exact ⟨h.2, fun c hc => inB_of (h.1 c hc)⟩

set_option maxRecDepth 100000 in
set_option maxHeartbeats 4000000 in
theorem specSw_good (n land oth : Int) (v u : Value) (B : Nat) (ps : List (Int × Int)) (cs : List Int) (w : World) (hv : PAt w w.heap.size v ps) (hu : IRow w B u cs) (hok : validC n ps = true) (hcs : colsOk n cs = true) (hla : inB land 0 (n - 1) = true) (hot : inB oth 0 9 = true) (hcl : clashV ps cs = -1) (hne : cAt cs land ≠ oth) :
    Calls Tryd.prog 18 #[.int .i64 n, v, u, .int .i64 land, .int .i64 oth] w fun e w' => ∃ r, e = .returned (.tuple #[r, .int .i64 0]) ∧ IRow w' w.heap.size r (swapC n ps cs land oth) ∧ Below w.heap.size w w' := by
  obtain ⟨i0, hi, hz0, hz1, hz2⟩ := info_parts info_int
  obtain ⟨n0, n1, hl30, hf⟩ := validC_facts hok
  obtain ⟨ce, _⟩ := colsOk_facts hcs
  obtain ⟨la0, la1⟩ := inB_of hla
  obtain ⟨N, rfl⟩ : ∃ N : Nat, n = (N : Int) := ⟨n.toNat, by omega⟩
  obtain ⟨La, rfl⟩ : ∃ La : Nat, land = (La : Int) := ⟨land.toNat, by omega⟩
  have OK := Lib.hid (l09Ok_any (N : Int) v ps w hv (by omega))
  rw [hok] at OK
  have HV := Lib.hid hv
  have HU := Lib.hid hu
  have CO := Lib.hid (fun W (h : IAt W W.heap.size u cs) => l09Colours_any (N : Int) u cs W h (by omega))
  rw [hcs] at CO
  have CL := Lib.hid (fun W (h : PAt W W.heap.size v ps) (h2 : IAt W W.heap.size u cs) => l09Clash_any v u ps cs W h h2 (by omega) (by omega) (fun i hi => by have := hf i hi; omega))
  rw [hcl] at CL
  have I1 := Lib.hid (fun W => l00In_any (La : Int) 0 ((N : Int) - 1) W)
  rw [hla] at I1
  have I2 := Lib.hid (fun W => l00In_any oth 0 9 W)
  rw [hot] at I2
  have HOK := Lib.hid hok
  have LL := Lib.hid (show 0 ≤ (La : Int) ∧ (La : Int) < (N : Int) by omega)
  have HLN := Lib.hid (show cs.length = N by omega)
  have hlan : La < cs.length := by omega
  have hlan2 : (La : Int) < (cs.length : Int) := by omega
  have hlan0 : 0 ≤ (La : Int) := by omega
  have NX := Lib.hid (fun x W (h : PAt W W.heap.size v ps) => l09Next_any (N : Int) v ps x W h hok)
  have kn : IntKind.i64.wrap ((N : Int) - 1) = (N : Int) - 1 := IntWalk.i64_in _ (by omega)
  have EX := Lib.hid (show swapC (N : Int) ps cs (La : Int) oth = rowF N (swapF ps cs (La : Int) oth) by rw [swapC, Int.toNat_natCast])
  rw [EX.out]
  obtain ⟨ap, cp, rfl, _⟩ := hv
  obtain ⟨⟨ac, cc, eu⟩, _⟩ := irow_shape hu
  subst eu
  obtain ⟨gc, egc, _, hcell⟩ := irow_at hu La hlan
  subst egc
  rw [cAt_row hlan] at hcell
  have gcl := World.block_lt_of_cell? _ _ hcell
  have HCE := Lib.hid (show ∀ k, k < cs.length → w.cell? ⟨gc, k, none⟩ = some (.int .i64 (cAt cs (k : Int))) from fun k hk => by
    obtain ⟨g2, e2, _, h2⟩ := irow_at hu k hk
    cases e2
    rw [← cAt_row hk]; exact h2)
  obtain ⟨own, hown⟩ : ∃ own, Hid (cAt cs (La : Int) = own) := ⟨_, Lib.hid rfl⟩
  rw [hown.out] at hcell hne
  have hne' : (own == oth) = false := by simpa using hne
  have hN10 : (N : Int) ≤ 10 := by omega
  have hc10 : cs.length ≤ 10 := by omega
  clear hok hcs hla hot hcl hu ce la0 la1 hf hl30 hne
  go_enter Tryd.func18, Tryd.ntmps18
  go_wp2_with fail
  refine OK.out.mono ?_
  rintro e w1 ⟨rfl, hb⟩
  have B1 := Lib.hid hb
  have CO1 := Lib.hid (CO.out w1 (iat_of_row (irow_keep HU.out hb)))
  clear hb
  go_wp2_with fail
  refine CO1.out.mono ?_
  rintro e w2 ⟨rfl, hb⟩
  have B2 := Lib.hid (B1.out.trans (hb.mono B1.out.size))
  clear hb
  go_wp2_with fail
  refine (I1.out _).mono ?_
  rintro e w' ⟨rfl, rfl⟩
  go_wp2_with fail
  refine (I2.out _).mono ?_
  rintro e w' ⟨rfl, rfl⟩
  have CL1 := Lib.hid (CL.out w2 (pat_up (pat_keep HV.out B2.out) B2.out.size) (iat_of_row (irow_keep HU.out B2.out)))
  go_wp2_with fail
  refine CL1.out.mono ?_
  rintro e w3 ⟨rfl, hb⟩
  have B3 := Lib.hid (B2.out.trans (hb.mono B2.out.size))
  have hc3 := (B3.out.cell (p := ⟨gc, La, none⟩) gcl).trans hcell
  have R3 := Lib.hid (irow_one w3 w.heap.size (La : Int) B3.out.size)
  have B4 := Lib.hid (B3.out.alloc B3.out.size (.cells #[.int .i64 (La : Int)] 2))
  clear hb
  go_wp2_with fail
  go_loopw [13, 14] (fun u i wx => ∃ (L : List Int) (k : Nat), i = .int .i64 (k : Int) ∧ IRow wx w.heap.size u L ∧ Bfs ps cs own oth (La : Int) L k ∧ Below w.heap.size w wx) (fun _ i _ => N - (intOf i).toNat)
  case atStart => exact ⟨[(La : Int)], 0, rfl, R3.out, bfs_start _ _ _ _ _, B4.out⟩
  case round =>
    obtain ⟨L, k, rfl, hl, hbf, hb⟩ := hrel
    obtain ⟨wq, rfl⟩ : ∃ x, x = wr := ⟨wr, rfl⟩
    have HL := Lib.hid hl
    have HF := Lib.hid hbf
    have HBq := Lib.hid hb
    have hLn : L.length ≤ 10 := by have := bfs_len HOK.out LL.out hbf; omega
    have hLN : (L.length : Int) ≤ (N : Int) := bfs_len HOK.out LL.out hbf
    have hkL : k ≤ L.length := hbf.2.2.2.1
    clear hl hbf
    by_cases hlt : k < L.length
    · obtain ⟨⟨aL, cL, eu⟩, _⟩ := irow_shape HL.out
      subst eu
      obtain ⟨gL, egL, _, hcL⟩ := irow_at HL.out k hlt
      have EGL := Lib.hid egL
      subst egL
      have hk0 : 0 ≤ (k : Int) := by omega
      have hk1 : (k : Int) < (L.length : Int) := by omega
      have MS0 := Lib.hid (mid_start (nx := nextOf (N : Int) ps (zAt L k)) HF.out hlt)
      rw [← zAt_eq hlt] at hcL
      obtain ⟨x, hx⟩ : ∃ x, Hid (zAt L k = x) := ⟨_, Lib.hid rfl⟩
      rw [hx.out] at hcL MS0
      have NK := Lib.hid (NX.out x wq (pat_up (pat_keep HV.out hb) hb.size))
      have NI := Lib.hid (fun y => (nextOf_iff (x := x) (y := y) HOK.out))
      have ME := Lib.hid (fun L' => mid_end (cs := cs) (own := own) (oth := oth) (land := (La : Int)) (L := L') (i := k) (x := x) HOK.out)
      have NIN := Lib.hid (fun y (h : y ∈ nextOf (N : Int) ps x) => nextOf_mem h)
      have nl := nextOf_len (N : Int) ps x hN10
      generalize nextOf (N : Int) ps x = nx at NK NI ME NIN nl MS0
      have nl2 : (nx.length : Int) ≤ 10 := by omega
      clear hb
      go_wp2_with fail
      refine NK.out.mono ?_
      rintro e w4 ⟨un, rfl, hr4, hb4⟩
      have HL4 := Lib.hid (irow_keep HL.out hb4)
      have HN4 := Lib.hid hr4
      have HB4 := Lib.hid (HBq.out.trans (hb4.mono HBq.out.size))
      have NE4 := Lib.hid (show ∀ g, un.ownBlock = some g → (Value.slice (some ⟨gL, 0, none⟩) L.length cL).ownBlock ≠ some g from fun g hg he => by
        have h1 := (World.ownsRow.lt hr4 g hg).1
        have h2 := irow_lt HL.out g he
        omega)
      obtain ⟨⟨an, cn, eu⟩, _⟩ := irow_shape hr4
      subst eu
      clear hr4 hb4 hcL
      go_wp2
      go_loopw [13, 16] (fun u i wx => ∃ (L : List Int) (m : Nat), m ≤ nx.length ∧ i = .int .i64 (m : Int) ∧ IRow wx w.heap.size u L ∧ IRow wx wq.heap.size (.slice an nx.length cn) nx ∧ (∀ g, (Value.slice an nx.length cn).ownBlock = some g → u.ownBlock ≠ some g) ∧ Mid ps cs own oth (La : Int) x nx L k m ∧ Below w.heap.size w wx) (fun _ i _ => nx.length - (intOf i).toNat)
      case atStart => exact ⟨L, 0, Nat.zero_le _, rfl, HL4.out, HN4.out, NE4.out, MS0.out, HB4.out⟩
      case round =>
        clear hlt hk1 hkL hLn hLN
        obtain ⟨L, m, hm, rfl, hl, hn, hne, hmd, hb⟩ := hrel
        have HL2 := Lib.hid hl
        have HN2 := Lib.hid hn
        have HNE := Lib.hid hne
        have HM := Lib.hid hmd
        have HBx := Lib.hid hb
        have hLn : L.length ≤ 10 := by have := bfs_len HOK.out LL.out hmd.1; omega
        clear hl hn hne hmd
        by_cases hlm : m < nx.length
        · obtain ⟨⟨aL2, cL2, eu⟩, _⟩ := irow_shape HL2.out
          subst eu
          obtain ⟨gn, egn, _, hcn⟩ := irow_at HN2.out m hlm
          have EGN := Lib.hid egn
          subst egn
          rw [← zAt_eq hlm] at hcn
          have hm0 : 0 ≤ (m : Int) := by omega
          have hm1 : (m : Int) < (nx.length : Int) := by omega
          have hmem : zAt nx m ∈ nx := by rw [zAt_eq hlm]; exact List.getElem_mem _
          have HNB := Lib.hid ((NI.out _).1 hmem)
          obtain ⟨y0, y1⟩ := NIN.out _ hmem
          have SK := Lib.hid (fun h => mid_skip HM.out h)
          have NW := Lib.hid (fun h1 h2 => mid_new HM.out h1 h2 HNB.out)
          have HAS := Lib.hid (l00Has_at _ L (zAt nx m) wr (iat_of_row HL2.out) (by omega))
          clear hmem
          generalize zAt nx m = y at hcn y0 y1 SK NW HAS
          obtain ⟨Y, rfl⟩ : ∃ Y : Nat, y = (Y : Int) := ⟨y.toNat, by omega⟩
          have hY : Y < cs.length := by have := HLN.out; omega
          have hY0 : 0 ≤ (Y : Int) := by omega
          have hY1 : (Y : Int) < (cs.length : Int) := by omega
          have hcy := (hb.cell (p := ⟨gc, Y, none⟩) gcl).trans (HCE.out Y hY)
          have OT := Lib.hid (show okTwo cs own oth (Y : Int) = (decide (cAt cs (Y : Int) = own) || decide (cAt cs (Y : Int) = oth)) from rfl)
          rw [OT.out] at SK NW
          generalize cAt cs (Y : Int) = c at hcy SK NW
          have L0 := Lib.hid (show ∀ z ∈ L, z ∈ L from fun z h => h)
          clear hb OT
          by_cases hin : (Y : Int) ∈ L
          · have MS := Lib.hid (SK.out (fun _ => hin))
            rw [show decide ((Y : Int) ∈ L) = true by simpa using hin] at HAS
            clear hin SK NW
            by_cases c1 : c = own
            · have f1 : (c == own) = true := by simpa using c1
              go_wp2_with (go_at_call 30; refine (HAS.out.mono fun _ _ h => (⟨h.1, h.2.symm⟩ : _ ∧ wr = _)).mono ?_; rintro e w' ⟨rfl, rfl⟩)
              go_roundw
              case rel => exact ⟨L, m + 1, by omega, by first | rfl | go_num, HL2.out, HN2.out, HNE.out, MS.out, HBx.out⟩
              case measure => simp [intOf]; omega
            · have f1 : (c == own) = false := by simpa using c1
              by_cases c2 : c = oth
              · have f2 : (c == oth) = true := by simpa using c2
                go_wp2_with (go_at_call 30; refine (HAS.out.mono fun _ _ h => (⟨h.1, h.2.symm⟩ : _ ∧ wr = _)).mono ?_; rintro e w' ⟨rfl, rfl⟩)
                go_roundw
                case rel => exact ⟨L, m + 1, by omega, by first | rfl | go_num, HL2.out, HN2.out, HNE.out, MS.out, HBx.out⟩
                case measure => simp [intOf]; omega
              · have f2 : (c == oth) = false := by simpa using c2
                go_wp2
                go_roundw
                case rel => exact ⟨L, m + 1, by omega, by first | rfl | go_num, HL2.out, HN2.out, HNE.out, MS.out, HBx.out⟩
                case measure => simp [intOf]; omega
          · rw [show decide ((Y : Int) ∈ L) = false by simpa using hin] at HAS
            by_cases c1 : c = own ∨ c = oth
            · have ML := Lib.hid (NW.out (by rcases c1 with h | h <;> simp [h]) hin)
              have hL9 := bfs_len HOK.out LL.out ML.out.1
              have f3 : ∀ p : Prop, p → True := fun _ _ => trivial
              clear SK NW hin
              by_cases c2 : c = own
              · have f1 : (c == own) = true := by simpa using c2
                clear c1
                go_wp2_with (first | (go_at_call 30; refine (HAS.out.mono fun _ _ h => (⟨h.1, h.2.symm⟩ : _ ∧ wr = _)).mono ?_; rintro e w' ⟨rfl, rfl⟩) | (at_builtin; refine wpList_append_keep _ rfl _ _ 24 rfl (w.heap.size) 2 i0 (.int .i64 0) Tryd.underlying24 hi hz0 (by rw [hz1]; rfl) (by rw [hz1]; decide) _ L.length _ rfl (by rw [hz1]; exact HL2.out.alloc _) ⟨wr.heap.size, 0, none⟩ 1 1 [.int .i64 (Y : Int)] rfl (by rw [hz1]; rfl) (newI _ _ _ rfl) (cellI _) (by unfold maxLen; omega) (by rw [hz2]; omega) (by have := HBx.out.size; simp; omega) ?_; intro v1 wn hown1 hold1 hg1 hat))
                rw [hz1] at hown1
                have HL3 := Lib.hid (snocI hown1)
                have HN3 := Lib.hid (show IRow wn wq.heap.size (.slice (some ⟨gn, 0, none⟩) nx.length cn) nx from World.ownsRow.kept (HN2.out.alloc _) hg1 (.inr (fun e => HNE.out gn rfl e.symm)))
                have NE3 := Lib.hid (show ∀ g, (Value.slice (some ⟨gn, 0, none⟩) nx.length cn).ownBlock = some g → v1.ownBlock ≠ some g from fun g hg he => by
                  rcases hat with e | e
                  · exact HNE.out g hg (e.symm.trans he)
                  · rw [e] at he
                    have h1 := irow_lt HN2.out g hg
                    simp at he
                    omega)
                have B3 := Lib.hid ((HBx.out.alloc HBx.out.size (.cells #[.int .i64 (Y : Int)] 2)).grown hg1 (by have := HBx.out.size; simp; omega) (fun j hj => (World.ownsRow.lt HL2.out j hj).1))
                clear hown1 hold1 hg1 hat
                go_wp2
                go_roundw
                case rel => exact ⟨L ++ [(Y : Int)], m + 1, by omega, by first | rfl | go_num, HL3.out, HN3.out, NE3.out, ML.out, B3.out⟩
                case measure => simp [intOf]; omega
              · have f1 : (c == own) = false := by simpa using c2
                have f2 : (c == oth) = true := by rcases c1 with h | h; exact absurd h c2; simpa using h
                clear c1 c2
                go_wp2_with (first | (go_at_call 30; refine (HAS.out.mono fun _ _ h => (⟨h.1, h.2.symm⟩ : _ ∧ wr = _)).mono ?_; rintro e w' ⟨rfl, rfl⟩) | (at_builtin; refine wpList_append_keep _ rfl _ _ 24 rfl (w.heap.size) 2 i0 (.int .i64 0) Tryd.underlying24 hi hz0 (by rw [hz1]; rfl) (by rw [hz1]; decide) _ L.length _ rfl (by rw [hz1]; exact HL2.out.alloc _) ⟨wr.heap.size, 0, none⟩ 1 1 [.int .i64 (Y : Int)] rfl (by rw [hz1]; rfl) (newI _ _ _ rfl) (cellI _) (by unfold maxLen; omega) (by rw [hz2]; omega) (by have := HBx.out.size; simp; omega) ?_; intro v1 wn hown1 hold1 hg1 hat))
                rw [hz1] at hown1
                have HL3 := Lib.hid (snocI hown1)
                have HN3 := Lib.hid (show IRow wn wq.heap.size (.slice (some ⟨gn, 0, none⟩) nx.length cn) nx from World.ownsRow.kept (HN2.out.alloc _) hg1 (.inr (fun e => HNE.out gn rfl e.symm)))
                have NE3 := Lib.hid (show ∀ g, (Value.slice (some ⟨gn, 0, none⟩) nx.length cn).ownBlock = some g → v1.ownBlock ≠ some g from fun g hg he => by
                  rcases hat with e | e
                  · exact HNE.out g hg (e.symm.trans he)
                  · rw [e] at he
                    have h1 := irow_lt HN2.out g hg
                    simp at he
                    omega)
                have B3 := Lib.hid ((HBx.out.alloc HBx.out.size (.cells #[.int .i64 (Y : Int)] 2)).grown hg1 (by have := HBx.out.size; simp; omega) (fun j hj => (World.ownsRow.lt HL2.out j hj).1))
                clear hown1 hold1 hg1 hat
                go_wp2
                go_roundw
                case rel => exact ⟨L ++ [(Y : Int)], m + 1, by omega, by first | rfl | go_num, HL3.out, HN3.out, NE3.out, ML.out, B3.out⟩
                case measure => simp [intOf]; omega
            · have MS := Lib.hid (SK.out (fun h => absurd (by simpa using h) c1))
              have f1 : (c == own) = false := by simpa using (fun h => c1 (.inl h))
              have f2 : (c == oth) = false := by simpa using (fun h => c1 (.inr h))
              clear SK NW hin c1
              go_wp2
              go_roundw
              case rel => exact ⟨L, m + 1, by omega, by first | rfl | go_num, HL2.out, HN2.out, HNE.out, MS.out, HBx.out⟩
              case measure => simp [intOf]; omega
        · obtain rfl : m = nx.length := by omega
          have BF := Lib.hid (ME.out L HM.out)
          have hkL2 := HM.out.2.1
          have hLN2 := bfs_len HOK.out LL.out HM.out.1
          obtain ⟨⟨aL2, cL2, eu⟩, _⟩ := irow_shape HL2.out
          subst eu
          clear hb
          go_wp2
          go_roundw
          case rel => exact ⟨L, k + 1, by first | rfl | go_num, HL2.out, BF.out, HBx.out⟩
          case measure => simp [intOf]; omega
    · obtain rfl : k = L.length := by omega
      have HUq := Lib.hid (irow_keep HU.out hb)
      have OW := Lib.hid (l00Own_any _ B cs wq HUq.out (by omega) (by omega))
      have hL0 : 0 < L.length := List.length_pos_of_mem HF.out.1
      obtain ⟨gL, cL, eu, _⟩ := (irow_shape HL.out).2 hL0
      subst eu
      have NoD := Lib.hid HF.out.2.1
      have RCH := Lib.hid (fun x hx => (HF.out.2.2.1 x hx).inN HOK.out LL.out)
      have SE := Lib.hid (show ∀ j, swapP cs own oth L L.length j = swapF ps cs (La : Int) oth j by
        have hB := HF.out
        rw [← hown.out] at hB ⊢
        exact fun j => swapP_end hB j)
      have hlL := irow_lt HL.out gL rfl
      clear hb
      go_wp2_with fail
      refine OW.out.mono ?_
      rintro e w5 ⟨u2, rfl, hr5, hb5⟩
      obtain ⟨go, co, eu, hgo⟩ := (irow_shape hr5).2 (by omega)
      subst eu
      have HL5 := Lib.hid (irow_keep HL.out hb5)
      have HB5 := Lib.hid (HBq.out.trans (hb5.mono HBq.out.size))
      have GO := Lib.hid (show w.heap.size ≤ go from Nat.le_trans HBq.out.size hgo)
      have NEo := Lib.hid (show (Value.slice (some ⟨gL, 0, none⟩) L.length cL).ownBlock ≠ some go by intro e; simp [Value.ownBlock] at e; omega)
      have HO5 := Lib.hid (show IRow w5 wq.heap.size (.slice (some ⟨go, 0, none⟩) cs.length co) (rowF cs.length (swapP cs own oth L 0)) by
        rw [show rowF cs.length (swapP cs own oth L 0) = cs by
          rw [rowF_congr (g := zAt cs) (fun j hj => by rw [swapP_zero, cAt_nat])]
          exact rowF_zAt cs]
        exact hr5)
      clear hr5 hb5 hgo hlL
      go_wp2
      go_loopw [19] (fun i wx => ∃ m : Nat, m ≤ L.length ∧ i = .int .i64 (m : Int) ∧ IRow wx wq.heap.size (.slice (some ⟨go, 0, none⟩) cs.length co) (rowF cs.length (swapP cs own oth L m)) ∧ IRow wx w.heap.size (.slice (some ⟨gL, 0, none⟩) L.length cL) L ∧ Below w.heap.size w wx) (fun i _ => L.length - (intOf i).toNat)
      case atStart => exact ⟨0, Nat.zero_le _, rfl, HO5.out, HL5.out, HB5.out⟩
      case round =>
        obtain ⟨m, hm, rfl, ho, hl, hb⟩ := hrel
        have HO := Lib.hid ho
        have HLx := Lib.hid hl
        have HBx := Lib.hid hb
        clear ho hl hb
        by_cases hlm : m < L.length
        · obtain ⟨g9, e9, _, hcm⟩ := irow_at HLx.out m hlm
          cases e9
          rw [← zAt_eq hlm] at hcm
          obtain ⟨x0, x1⟩ := RCH.out (zAt L m) (by rw [zAt_eq hlm]; exact List.getElem_mem _)
          obtain ⟨X, hX⟩ : ∃ X : Nat, Hid (zAt L m = (X : Int)) := ⟨(zAt L m).toNat, Lib.hid (by omega)⟩
          rw [hX.out] at hcm x0 x1
          have hX3 : X < cs.length := by have := HLN.out; omega
          have hX0 : 0 ≤ (X : Int) := by omega
          have hX1 : (X : Int) < (cs.length : Int) := by omega
          have hm0 : 0 ≤ (m : Int) := by omega
          have hm1 : (m : Int) < (L.length : Int) := by omega
          obtain ⟨co1, fo1⟩ := rowH_cell HO.out hX3
          rw [swapP_old NoD.out hlm hX.out] at co1
          have ST := Lib.hid (fun j => swapP_step (cs := cs) (own := own) (oth := oth) hlm hX.out j)
          obtain ⟨c, hc⟩ : ∃ c, cAt cs (X : Int) = c := ⟨_, rfl⟩
          rw [hc] at co1 ST
          clear hc
          by_cases c1 : c = own
          · have f1 : (c == own) = true := by simpa using c1
            have hcO := c1
            have RS := Lib.hid (rowH_store (f' := swapP cs own oth L (m + 1)) HO.out hX3 (oth) (fun j _ => by rw [ST.out j]; simp [hcO]))
            have LS := Lib.hid (show IRow (wr.setCell ⟨go, X, none⟩ (.int .i64 (oth))) w.heap.size (.slice (some ⟨gL, 0, none⟩) L.length cL) L from World.ownsRow.kept HLx.out (Lib.grownBy_setB (b := go) (World.grownBy.refl _ _) _ _) (.inr NEo.out))
            have BS := Lib.hid (HBx.out.setCell (p := ⟨go, X, none⟩) GO.out (.int .i64 (oth)))
            clear ST hcO
            go_wp2
            go_roundw
            case rel => exact ⟨m + 1, by omega, by first | rfl | go_num, RS.out, LS.out, BS.out⟩
            case measure => simp [intOf]; omega
          · have f1 : (c == own) = false := by simpa using c1
            have hcO := c1
            have RS := Lib.hid (rowH_store (f' := swapP cs own oth L (m + 1)) HO.out hX3 (own) (fun j _ => by rw [ST.out j]; simp [hcO]))
            have LS := Lib.hid (show IRow (wr.setCell ⟨go, X, none⟩ (.int .i64 (own))) w.heap.size (.slice (some ⟨gL, 0, none⟩) L.length cL) L from World.ownsRow.kept HLx.out (Lib.grownBy_setB (b := go) (World.grownBy.refl _ _) _ _) (.inr NEo.out))
            have BS := Lib.hid (HBx.out.setCell (p := ⟨go, X, none⟩) GO.out (.int .i64 (own)))
            clear ST hcO
            go_wp2
            go_roundw
            case rel => exact ⟨m + 1, by omega, by first | rfl | go_num, RS.out, LS.out, BS.out⟩
            case measure => simp [intOf]; omega
        · obtain rfl : m = L.length := by omega
          have HE := Lib.hid (irow_up (show IRow wr wq.heap.size (.slice (some ⟨go, 0, none⟩) cs.length co) (rowF N (swapF ps cs (La : Int) oth)) by
            have h1 := HO.out
            rw [rowF_congr (g := swapF ps cs (La : Int) oth) (fun j _ => SE.out j)] at h1
            rw [HLN.out] at h1 ⊢
            exact h1) HBq.out.size)
          go_wp2
          exact bodyPost_ret (v := .tuple #[.slice (some ⟨go, 0, none⟩) cs.length co, .int .i64 0]) (by simp [results, Tryd.results18, go_sem]) rfl ⟨_, rfl, HE.out, HBx.out⟩
end Go.Proofs.YtemhmejjmhbfdabDoor.sines
