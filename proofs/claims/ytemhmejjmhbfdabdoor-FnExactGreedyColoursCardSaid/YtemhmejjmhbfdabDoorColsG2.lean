/- The model's colours by an order: contract. -/
import Derived.Test.YtemhmejjmhbfdabDoorColsG1
namespace Go.Proofs.YtemhmejjmhbfdabDoor.sines
open Go.ChangeShapes Go.WideShapes Go.ChangeAt Go.RowKit Go.Proofs.YtemhmejjmhbfdabDoor.spots Go.Proofs.YtemhmejjmhbfdabDoor.irows Go.Proofs.YtemhmejjmhbfdabDoor.pairsBorder
set_option linter.unusedSimpArgs false
set_option linter.unusedVariables false

/-- The colours that the neighbours of a land have; one land more is coloured. -/
def usedG (n : Int) (ps : List (Int × Int)) (F : Nat → Int) (x : Int) : List Int := (nextOf n ps x).map fun y => F y.toNat
def stepG (n : Int) (ps : List (Int × Int)) (F : Nat → Int) (x : Int) : Nat → Int := fun j => if j = x.toNat then ((mexC (usedG n ps F x) : Nat) : Int) else F j
def greedyF (n : Int) (ps : List (Int × Int)) (os : List Int) : Nat → Int := os.foldl (stepG n ps) fun _ => -1
def greedyC (n : Int) (ps : List (Int × Int)) (os : List Int) : List Int := rowF n.toNat (greedyF n ps os)
theorem greedyF_snoc (n : Int) (ps : List (Int × Int)) (os : List Int) (k : Nat) (h : k < os.length) : greedyF n ps (os.take (k + 1)) = stepG n ps (greedyF n ps (os.take k)) (zAt os k) := by
  rw [← List.take_append_getElem h, greedyF, List.foldl_append, zAt_eq h]; rfl
def codeGr (n : Int) (ps : List (Int × Int)) (os : List Int) : Int := if validC n ps = true then (if orderOk n os = true then 0 else 2) else 1
def valGr (n : Int) (ps : List (Int × Int)) (os : List Int) : List Int := if codeGr n ps os = 0 then greedyC n ps os else []
theorem valGr_len (n : Int) (ps : List (Int × Int)) (os : List Int) : (valGr n ps os).length ≤ 10 := by
  unfold valGr
  split
  · rename_i h
    unfold codeGr at h
    split at h
    · rename_i g
      have := (validC_facts g).2.1
      rw [greedyC, rowF_len]; omega
    · omega
  · simp
theorem nextOf_len (n : Int) (ps : List (Int × Int)) (x : Int) (hn : n ≤ 10) : (nextOf n ps x).length ≤ 10 := by
  have := nextN_len ps x n.toNat
  unfold nextOf; omega
theorem nextOf_mem {n : Int} {ps : List (Int × Int)} {x y : Int} (h : y ∈ nextOf n ps x) : 0 ≤ y ∧ y < n := by
  unfold nextOf at h
  obtain ⟨a, b, _⟩ := nextN_mem.1 h
  omega
theorem take_map {α β : Type} (F : α → β) (l : List α) (k : Nat) (h : k < l.length) : (l.take (k + 1)).map F = (l.take k).map F ++ [F l[k]] := by
  rw [← List.take_append_getElem h, List.map_append]; rfl

set_option maxRecDepth 100000 in
set_option maxHeartbeats 4000000 in
theorem specGr_good (n : Int) (v u : Value) (ps : List (Int × Int)) (os : List Int) (w : World) (hv : PAt w w.heap.size v ps) (hu : IAt w w.heap.size u os) (hr : Room u os.length) (hl : ps.length ≤ 1048576) (hlo : os.length ≤ 1048576) (hok : validC n ps = true) (hor : orderOk n os = true) :
    Calls Tryd.prog 15 #[.int .i64 n, v, u] w fun e w' => ∃ r, e = .returned (.tuple #[r, .int .i64 0]) ∧ IRow w' w.heap.size r (greedyC n ps os) ∧ Below w.heap.size w w' := by
  obtain ⟨i0, hi, hz0, hz1, hz2⟩ := info_parts info_int
  obtain ⟨n0, n1, _, _⟩ := validC_facts hok
  obtain ⟨oe, of⟩ := orderOk_facts hor
  have OF := Lib.hid of
  obtain ⟨N, rfl⟩ : ∃ N : Nat, n = (N : Int) := ⟨n.toNat, by omega⟩
  have OK := Lib.hid (l09Ok_any (N : Int) v ps w hv hl)
  rw [hok] at OK
  have HV := Lib.hid hv
  have HU := Lib.hid hu
  have OD := Lib.hid (fun W (h : IAt W W.heap.size u os) => l09Order_any (N : Int) u os W h hr hlo n0 n1)
  rw [hor] at OD
  have NX := Lib.hid (fun x W (h : PAt W W.heap.size v ps) => l09Next_any (N : Int) v ps x W h hok)
  obtain ⟨ap, cp, rfl, _⟩ := hv
  obtain ⟨ao, co, rfl, hco⟩ := hu
  have HCO := Lib.hid hco
  have hN : N ≤ 10 := by omega
  have HLO := Lib.hid (show os.length = N by omega)
  rw [show greedyC (N : Int) ps os = rowF N (greedyF (N : Int) ps os) by rw [greedyC, Int.toNat_natCast]]
  clear hok hor of hco hr oe
  go_enter Tryd.func15, Tryd.ntmps15
  go_wp2_with fail
  refine OK.out.mono ?_
  rintro e w1 ⟨rfl, hb⟩
  have HB1 := Lib.hid hb
  go_wp2_with fail
  have OD1 := Lib.hid (OD.out w1 (iat_up (iat_keep HU.out hb) hb.size))
  refine OD1.out.mono ?_
  rintro e w2 ⟨rfl, hb2⟩
  have HB2 := Lib.hid (HB1.out.trans (hb2.mono HB1.out.size))
  clear hb hb2
  obtain ⟨w3, hmk1, hown1, hg1⟩ := run_make_full (P := Tryd.prog) (w := w2) w2.heap.size 24 2 i0 (.int .i64 0) 1 Tryd.underlying24 hi hz0 hz1 .i64 .i64 N (by rw [hz2]; omega) (by unfold maxLen; omega) (by simp)
  have R1 := Lib.hid (rowG_start hown1)
  have B1 := Lib.hid (show Below w2.heap.size w2 w3 from (Below.refl _ _).grown hg1 (by simp) (by simp))
  clear hown1 hg1
  have hN0 : 0 < N := by omega
  have hlo3 : (os.length : Int) ≤ 10 := by have := HLO.out; omega
  have hN2 : (N : Int) ≤ 10 := by omega
  go_wp2
  clear hmk1
  go_loopw [9] (fun i wr => ∃ k : Nat, k ≤ N ∧ i = .int .i64 (k : Int) ∧ RowG wr w2.heap.size w2.heap.size N (fun j => if j < k then -1 else 0) ∧ Below w2.heap.size w2 wr) (fun i _ => N - (intOf i).toNat)
  case atStart => exact ⟨0, Nat.zero_le _, rfl, rowG_congr R1.out (fun j _ => by simp), B1.out⟩
  case round =>
    obtain ⟨k, hk, rfl, hr, hb⟩ := hrel
    have HR := Lib.hid hr
    have HB := Lib.hid hb
    by_cases hlt : k < N
    · obtain ⟨ck, fk⟩ := rowG_cell HR.out (k := k) hlt
      rw [if_neg (by omega)] at ck
      have hk0 : 0 ≤ (k : Int) := by omega
      have hk1 : (k : Int) < (N : Int) := by omega
      have ST := Lib.hid (rowG_congr (f' := fun j => if j < k + 1 then (-1 : Int) else 0) (rowG_store HR.out (k := k) hlt (-1)) (fun j _ => by
        by_cases e : j = k
        · subst e; simp
        · by_cases e2 : j < k
          · simp [e, e2, show j < k + 1 by omega]
          · simp [e, e2, show ¬ j < k + 1 by omega]))
      clear hr hb
      go_wp2
      go_roundw
      case rel => exact ⟨k + 1, by omega, by go_num, ST.out, HB.out.setCell (p := ⟨w2.heap.size, k, none⟩) (Nat.le_refl _) _⟩
      case measure => simp [intOf]; omega
    · obtain rfl : k = N := by omega
      have RS := Lib.hid (rowG_congr (f' := greedyF (k : Int) ps (os.take 0)) HR.out (fun j hj => by simp [hj, greedyF]))
      have HBw := Lib.hid (HB2.out.trans (hb.mono HB2.out.size))
      clear hr hb
      go_wp2
      go_loopw [10] (fun i wx => ∃ m : Nat, m ≤ k ∧ i = .int .i64 (m : Int) ∧ RowG wx w2.heap.size w2.heap.size k (greedyF (k : Int) ps (os.take m)) ∧ Below w.heap.size w wx) (fun i _ => k - (intOf i).toNat)
      case atStart => exact ⟨0, Nat.zero_le _, rfl, RS.out, HBw.out⟩
      case round =>
        obtain ⟨m, hm, rfl, hr, hb⟩ := hrel
        have HR := Lib.hid hr
        have HB := Lib.hid hb
        by_cases hlt : m < k
        · have hm2 : m < os.length := by have := HLO.out; omega
          obtain ⟨x0, x1, _⟩ := OF.out m hm2
          obtain ⟨b, off, rfl, hbs, c1⟩ := HCO.out m hm2
          have u1 := (hb.cell (p := ⟨b, off + m, none⟩) hbs).trans c1
          have GS := Lib.hid (greedyF_snoc (k : Int) ps os m hm2)
          have NK := Lib.hid (NX.out (zAt os m) wr (pat_up (pat_keep HV.out hb) hb.size))
          have hm0 : 0 ≤ (m : Int) := by omega
          have hm1 : (m : Int) < (os.length : Int) := by omega
          have hm3 : (m : Int) < (k : Int) := by omega
          obtain ⟨x, hx⟩ : ∃ x, Hid (zAt os m = x) := ⟨_, Lib.hid rfl⟩
          rw [hx.out] at u1 x0 x1 NK GS c1
          obtain ⟨X, rfl⟩ : ∃ X : Nat, x = (X : Int) := ⟨x.toNat, by omega⟩
          obtain ⟨F, hF⟩ : ∃ F, Hid (greedyF (k : Int) ps (os.take m) = F) := ⟨_, Lib.hid rfl⟩
          rw [hF.out] at HR GS
          have NL := nextOf_len (k : Int) ps (X : Int) (by omega)
          have NM := Lib.hid (fun y (h : y ∈ nextOf (k : Int) ps (X : Int)) => nextOf_mem h)
          have SG := Lib.hid (show ∀ j, stepG (k : Int) ps F (X : Int) j = if j = X then ((mexC ((nextOf (k : Int) ps (X : Int)).map fun y => F y.toNat) : Nat) : Int) else F j from fun j => by rw [stepG, usedG, Int.toNat_natCast])
          generalize nextOf (k : Int) ps (X : Int) = nx at NK NL NM SG
          have C1 := Lib.hid c1
          clear hr hb c1
          go_wp2_with fail
          refine NK.out.mono ?_
          rintro e w4 ⟨un, rfl, hr4, hb4⟩
          have R4 := Lib.hid (rowG_keep HR.out hb4)
          have L4 := Lib.hid hr4
          have HB4 := Lib.hid (HB.out.trans (hb4.mono HB.out.size))
          obtain ⟨⟨an, cn, rfl⟩, _⟩ := irow_shape hr4
          have NL2 : (nx.length : Int) ≤ 10 := by omega
          clear hr4 hb4 u1
          go_wp2
          go_loopw [12, 13] (fun v i wy => ∃ j : Nat, j ≤ nx.length ∧ i = .int .i64 (j : Int) ∧ IRow wy w4.heap.size v ((nx.take j).map fun y => F y.toNat) ∧ Below w4.heap.size w4 wy) (fun _ i _ => nx.length - (intOf i).toNat)
          case atStart => exact ⟨0, Nat.zero_le _, rfl, irow_made w4 _ (Nat.le_refl _), (Below.refl _ _).alloc (Nat.le_refl _) _⟩
          case round =>
            obtain ⟨j, hj, rfl, hr, hb⟩ := hrel
            have HR5 := Lib.hid hr
            have HB5 := Lib.hid hb
            have hsz5 := hb.size
            clear hr
            by_cases hlj : j < nx.length
            · obtain ⟨gn, en, _, hc5⟩ := irow_at L4.out j hlj
              have gl := World.block_lt_of_cell? _ _ hc5
              have v1 := (hb.cell (p := ⟨gn, j, none⟩) gl).trans hc5
              obtain ⟨y0, y1⟩ := NM.out nx[j] (List.getElem_mem _)
              have TM := Lib.hid (take_map (fun y : Int => F y.toNat) nx j hlj)
              cases en
              generalize nx[j] = y at v1 y0 y1 TM
              obtain ⟨Y, rfl⟩ : ∃ Y : Nat, y = (Y : Int) := ⟨y.toNat, by omega⟩
              obtain ⟨cy, _⟩ := rowG_cell R4.out (k := Y) (by omega)
              have v2 := (hb.cell (p := ⟨w2.heap.size, Y, none⟩) (World.block_lt_of_cell? _ _ cy)).trans cy
              have hj0 : 0 ≤ (j : Int) := by omega
              have hj1 : (j : Int) < (nx.length : Int) := by omega
              have hY1 : (Y : Int) < (k : Int) := by omega
              have hY0 : 0 ≤ (Y : Int) := by omega
              have hY2 : Y < k := by omega
              have LU : ((nx.take j).map fun y => F y.toNat).length = j := by rw [List.length_map, List.length_take]; omega
              obtain ⟨us, hus⟩ : ∃ us, Hid (((nx.take j).map fun y => F y.toNat) = us) := ⟨_, Lib.hid rfl⟩
              rw [hus.out] at HR5 TM LU
              simp only [Int.toNat_natCast] at TM
              generalize F Y = fy at v2 TM
              clear hc5 cy hb
              go_wp2_with (at_builtin; refine wpList_append_own _ rfl _ _ 24 rfl (w4.heap.size) 2 i0 (.int .i64 0) 1 8 Tryd.underlying24 hi hz0 hz1 hz2 rfl (by decide) _ us.length _ rfl (HR5.out.alloc _) ⟨wr.heap.size, 0, none⟩ 1 1 [.int .i64 (fy)] rfl rfl (newI _ _ _ (by first | rfl | simp)) (cellI _) (by unfold maxLen; omega) (by omega) (by simp; omega) ?_; intro v1 w1 hown1 hg1 _)
              go_roundw
              case rel => exact ⟨j + 1, by omega, by go_num, by rw [TM.out]; exact snocI hown1, (HB5.out.alloc hsz5 _).grown hg1 (by simp; omega) (fun j hj => (HR5.out.lt j hj).1)⟩
              case measure => simp [intOf]; omega
            · obtain rfl : j = nx.length := by omega
              rw [List.take_length] at HR5
              obtain ⟨us, hus⟩ : ∃ us, Hid ((nx.map fun y => F y.toNat) = us) := ⟨_, Lib.hid rfl⟩
              have LU : us.length ≤ 10 := by rw [← hus.out, List.length_map]; omega
              rw [hus.out] at HR5 SG
              obtain ⟨MF1, MF2⟩ := mexC_facts us
              have ML := mexC_le us
              generalize mexC us = M at SG MF1 MF2 ML
              have HM1 := Lib.hid MF1
              have HM2 := Lib.hid MF2
              have HAS := Lib.hid (fun c : Int => l00Has_at _ us c wr (iat_of_row HR5.out) (by omega))
              obtain ⟨⟨au, cu, eu⟩, _⟩ := irow_shape HR5.out
              clear MF1 MF2 hb
              subst eu
              go_wp2
              go_loopw [14] (fun i wz => ∃ c : Nat, c ≤ M ∧ i = .int .i64 (c : Int) ∧ wz = wr) (fun i _ => M - (intOf i).toNat)
              case atStart => exact ⟨0, Nat.zero_le _, rfl, rfl⟩
              case round =>
                obtain ⟨c, hc, rfl, rfl⟩ := hrel
                have HC := Lib.hid (HAS.out (c : Int))
                by_cases hcm : c < M
                · rw [show decide ((c : Int) ∈ us) = true by simpa using HM1.out c hcm] at HC
                  have kw : IntKind.i64.wrap ((c : Int) + 1) = (c : Int) + 1 := IntWalk.i64_in _ (by omega)
                  go_wp2_with fail
                  refine HC.out.mono ?_
                  rintro e w' ⟨rfl, rfl⟩
                  go_wp2
                  go_roundw
                  case rel => exact ⟨c + 1, by omega, by go_num, by first | rfl | trivial⟩
                  case measure => simp [intOf]; omega
                · obtain rfl : c = M := by omega
                  rw [show decide ((c : Int) ∈ us) = false by simpa using HM2.out] at HC
                  have R6 := Lib.hid (rowG_keep R4.out HB5.out)
                  have HB6 := Lib.hid (HB4.out.trans (HB5.out.mono HB4.out.size))
                  obtain ⟨cx, fx⟩ := rowG_cell R6.out (k := X) (by omega)
                  have hX1 : (X : Int) < (k : Int) := by omega
                  have hX0 : 0 ≤ (X : Int) := by omega
                  have hX2 : X < k := by omega
                  have ST := Lib.hid (rowG_congr (f' := greedyF (k : Int) ps (os.take (m + 1))) (rowG_store R6.out (k := X) hX2 (c : Int)) (fun j _ => by rw [GS.out]; exact (SG.out j).symm))
                  have oc := (HB6.out.cell (p := ⟨b, off + m, none⟩) hbs).trans C1.out
                  go_wp2_with fail
                  refine HC.out.mono ?_
                  rintro e w' ⟨rfl, rfl⟩
                  go_wp2
                  go_roundw
                  case rel => exact ⟨m + 1, by omega, by go_num, ST.out, HB6.out.setCell (p := ⟨w2.heap.size, X, none⟩) HB2.out.size _⟩
                  case measure => simp [intOf]; omega
        · obtain rfl : m = k := by omega
          have hme : ¬ (m : Int) < (os.length : Int) := by have := HLO.out; omega
          have HE := Lib.hid (irow_up (show IRow wr w2.heap.size (.slice (some ⟨w2.heap.size, 0, none⟩) m m) (rowF m (greedyF (m : Int) ps os)) from by
            have := HR.out
            rw [List.take_of_length_le (by have := HLO.out; omega)] at this
            exact this) HB2.out.size)
          clear hr hb
          go_wp2
          exact bodyPost_ret (v := .tuple #[.slice (some ⟨w2.heap.size, 0, none⟩) m m, .int .i64 0]) (by simp [results, Tryd.results15, go_sem]) rfl ⟨_, rfl, HE.out, HB.out⟩

set_option maxRecDepth 100000 in
set_option maxHeartbeats 1000000 in
theorem specGr_any (n : Int) (v u : Value) (ps : List (Int × Int)) (os : List Int) (w : World) (hv : PAt w w.heap.size v ps) (hu : IAt w w.heap.size u os) (hr : Room u os.length) (hl : ps.length ≤ 1048576) (hlo : os.length ≤ 1048576) :
    Calls Tryd.prog 15 #[.int .i64 n, v, u] w fun e w' => ∃ r, e = .returned (.tuple #[r, .int .i64 (codeGr n ps os)]) ∧ IRow w' w.heap.size r (valGr n ps os) ∧ Below w.heap.size w w' := by
  have OK := Lib.hid (l09Ok_any n v ps w hv hl)
  cases hk : validC n ps with
  | false =>
    rw [hk] at OK
    have e1 : codeGr n ps os = 1 := by simp [codeGr, hk]
    rw [show valGr n ps os = [] by simp [valGr, e1], e1]
    obtain ⟨ap, cp, rfl, _⟩ := hv
    obtain ⟨ao, co, rfl, _⟩ := hu
    clear hk e1 hr
    go_enter Tryd.func15, Tryd.ntmps15
    go_wp2_with fail
    refine OK.out.mono ?_
    rintro e w1 ⟨rfl, hb⟩
    go_wp2
    exact bodyPost_ret (v := .tuple #[.slice none 0 0, .int .i64 1]) (by simp [results, Tryd.results15, go_sem]) rfl ⟨_, rfl, irow_nil _ _, hb⟩
  | true =>
    cases ho : orderOk n os with
    | true =>
      have e1 : codeGr n ps os = 0 := by simp [codeGr, hk, ho]
      rw [show valGr n ps os = greedyC n ps os by simp [valGr, e1], e1]
      exact specGr_good n v u ps os w hv hu hr hl hlo hk ho
    | false =>
      have e1 : codeGr n ps os = 2 := by simp [codeGr, hk, ho]
      rw [show valGr n ps os = [] by simp [valGr, e1], e1]
      obtain ⟨n0, n1, _, _⟩ := validC_facts hk
      have OD := Lib.hid (fun W (h : IAt W W.heap.size u os) => l09Order_any n u os W h hr hlo n0 n1)
      rw [ho] at OD
      rw [hk] at OK
      have HU := Lib.hid hu
      obtain ⟨ap, cp, rfl, _⟩ := hv
      obtain ⟨ao, co, rfl, _⟩ := hu
      clear hk e1 hr ho n0 n1
      go_enter Tryd.func15, Tryd.ntmps15
      go_wp2_with fail
      refine OK.out.mono ?_
      rintro e w1 ⟨rfl, hb⟩
      have HB := Lib.hid hb
      have OD1 := Lib.hid (OD.out w1 (iat_up (iat_keep HU.out hb) hb.size))
      go_wp2_with fail
      refine OD1.out.mono ?_
      rintro e w2 ⟨rfl, hb2⟩
      have HB2 := HB.out.trans (hb2.mono HB.out.size)
      clear hb hb2
      go_wp2
      exact bodyPost_ret (v := .tuple #[.slice none 0 0, .int .i64 2]) (by simp [results, Tryd.results15, go_sem]) rfl ⟨_, rfl, irow_nil _ _, HB2⟩
end Go.Proofs.YtemhmejjmhbfdabDoor.sines
