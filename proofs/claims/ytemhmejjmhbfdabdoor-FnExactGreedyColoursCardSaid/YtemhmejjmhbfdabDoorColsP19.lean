/- Colours by an order: contract of the program. -/
import Derived.Test.YtemhmejjmhbfdabDoorColsP18
import Derived.Test.YtemhmejjmhbfdabDoorColsY
import Derived.Laws.CopyOwn
namespace Go.Proofs.YtemhmejjmhbfdabDoor.sines
open Go.ChangeShapes Go.WideShapes Go.ChangeAt Go.RowKit Go.Proofs.YtemhmejjmhbfdabDoor.spots Go.Proofs.YtemhmejjmhbfdabDoor.irows Go.Proofs.YtemhmejjmhbfdabDoor.pairsBorder
set_option linter.unusedSimpArgs false
set_option linter.unusedVariables false
/-- The lands of each colour. -/
def setsG (G : Nat → Int) (c : Nat) : Nat := maskOf (fun y => decide (G y = (c : Int))) 10
theorem setsG_bit (G : Nat → Int) (c y : Nat) : (setsG G c).testBit y = (decide (y < 10) && decide (G y = (c : Int))) := maskOf_bit _ 10 y
theorem setsG_lt (G : Nat → Int) (c : Nat) : setsG G c < 1024 := maskOf_lt _ 10
theorem setsG_none (c : Nat) : setsG (fun _ => -1) c = 0 := mask_ext fun i => by
  rw [setsG_bit, Nat.zero_testBit, decide_eq_false (show ¬ ((-1 : Int) = (c : Int)) by omega), Bool.and_false]
theorem setsG_step {F : Nat → Int} {X M : Nat} {F' : Nat → Int} (hX : X < 10) (h : F X = -1) (h2 : ∀ j, F' j = if j = X then (M : Int) else F j) : setsG F' = updS (setsG F) M X := by
  funext c
  apply mask_ext
  intro i
  by_cases e : c = M
  · subst e
    rw [setsG_bit, updS, if_pos rfl, Nat.testBit_or, Nat.testBit_two_pow, setsG_bit, h2]
    by_cases ei : i = X
    · subst ei; simp [hX]
    · have : ¬ X = i := fun k => ei k.symm
      simp [ei, this]
  · rw [setsG_bit, updS, if_neg e, setsG_bit, h2]
    by_cases ei : i = X
    · subst ei
      have e1 : ¬ ((M : Int) = (c : Int)) := by omega
      have e2 : ¬ ((-1 : Int) = (c : Int)) := by omega
      simp [h, e1, e2]
    · simp [ei]
theorem free_G {n : Int} {ps : List (Int × Int)} {X : Nat} (hv : validC n ps = true) (G : Nat → Int) (c : Nat) : decide (setsG G c &&& maskN ps X = 0) = !decide ((c : Int) ∈ usedG n ps G (X : Int)) := by
  have n10 := (validC_facts hv).2.1
  rw [Bool.eq_iff_iff, decide_eq_true_eq, and_zero, Bool.not_eq_true', decide_eq_false_iff_not]
  constructor
  · intro h hm
    obtain ⟨y, hy, e⟩ := List.mem_map.1 hm
    have hb := (nextOf_iff hv).1 hy
    obtain ⟨y0, y1⟩ := nbr_in hv hb
    have hy10 : y.toNat < 10 := by omega
    refine h y.toNat ⟨?_, ?_⟩
    · rw [setsG_bit]; simp [hy10, e]
    · rw [maskN_bit ps X y.toNat hy10, Int.toNat_of_nonneg y0]; exact hb
  · rintro h i ⟨h1, h2⟩
    rw [setsG_bit, Bool.and_eq_true, decide_eq_true_eq, decide_eq_true_eq] at h1
    rw [maskN_bit ps X i h1.1] at h2
    exact h (List.mem_map.2 ⟨(i : Int), (nextOf_iff hv).2 h2, by rw [Int.toNat_natCast]; exact h1.2⟩)
theorem next_few {n : Int} {ps : List (Int × Int)} {X : Nat} (hv : validC n ps = true) (hX : (X : Int) < n) : (nextOf n ps (X : Int)).length < n.toNat := by
  have nd : (nextOf n ps (X : Int)).Nodup := by
    rw [nextOf, nextN, List.filter_map]
    exact List.pairwise_map.2 (((List.nodup_range (n := n.toNat)).filter _).imp (fun h e => h (Int.ofNat.inj e)))
  have hx : (X : Int) ∉ nextOf n ps (X : Int) := fun h => by
    obtain ⟨o1, o2⟩ := okPs_of hv
    have hb := (nextOf_iff hv).1 h
    rw [nbr, List.any_eq_true] at hb
    obtain ⟨p, hp, hj⟩ := hb
    have := o1 p hp
    simp only [joins, Bool.or_eq_true, decide_eq_true_eq] at hj
    omega
  have := nodup_few n.toNat ((X : Int) :: nextOf n ps (X : Int)) (List.nodup_cons.2 ⟨hx, nd⟩) (fun y hy => by
    rcases List.mem_cons.1 hy with rfl | hy
    · omega
    · have := nextOf_mem hy
      omega)
  rw [List.length_cons] at this
  omega
theorem mex_ten {n : Int} {ps : List (Int × Int)} {X : Nat} (hv : validC n ps = true) (hX : (X : Int) < n) (F : Nat → Int) : mexC (usedG n ps F (X : Int)) < 10 := by
  have h := mexC_le (usedG n ps F (X : Int))
  have h2 := next_few hv hX
  have n10 := (validC_facts hv).2.1
  rw [usedG, List.length_map] at h
  rw [usedG]
  omega
theorem greedy_ten {n : Int} {ps : List (Int × Int)} {os : List Int} (hv : validC n ps = true) (ho : orderOk n os = true) : ∀ k, k ≤ os.length → ∀ j, greedyF n ps (os.take k) j < 10
  | 0, _, j => by show (-1 : Int) < 10; omega
  | k + 1, hk, j => by
    obtain ⟨f0, f1, f2⟩ := (orderOk_facts ho).2 k (by omega)
    rw [greedyF_snoc n ps os k (by omega)]
    have ih := greedy_ten hv ho k (by omega) j
    obtain ⟨X, hX⟩ : ∃ X : Nat, zAt os k = (X : Int) := ⟨(zAt os k).toNat, by omega⟩
    rw [hX] at f1 ⊢
    have := mex_ten hv f1 (greedyF n ps (os.take k))
    rw [stepG]
    split
    · omega
    · exact ih
theorem colR_G {G : Nat → Int} {x : Nat} (hx : x < 10) (h0 : 0 ≤ G x) : ∀ k : Nat, G x < (k : Int) → colR (setsG G) k x = G x
  | 0, h => by omega
  | k + 1, h => by
    rw [colR, setsG_bit]
    by_cases e : G x = (k : Int)
    · simp [hx, e]
    · have := colR_G hx h0 k (by omega)
      simp [hx, e, this]
theorem order_in {n : Int} {os : List Int} (ho : orderOk n os = true) {x : Int} (h : x ∈ os) : 0 ≤ x ∧ x < n := by
  obtain ⟨k, hk, e⟩ := List.mem_iff_getElem.1 h
  have := (orderOk_facts ho).2 k hk
  rw [zAt_eq hk, e] at this
  exact ⟨this.1, this.2.1⟩
theorem rowP_size (u : Nat) (f : Nat → Nat) : (rowP u f).size = 11 := rfl
theorem rowP_one (u : Nat) (f : Nat → Nat) : (rowP u f).all (·.oneCell') = true := by simp [rowP, Value.oneCell']
set_option maxRecDepth 100000 in
set_option maxHeartbeats 2000000 in
theorem implGr_badB (n : Int) (v u : Value) (ps : List (Int × Int)) (os : List Int) (w : World) (hv : PAt w w.heap.size v ps) (hu : IAt w w.heap.size u os) (hl : ps.length ≤ 1048576) (hlo : os.length ≤ 1048576) (hc : validC n ps = false) :
    Calls Tryd.prog 17 #[.int .i64 n, v, u] w fun e w' => ∃ r, e = .returned (.tuple #[r, .int .i64 1]) ∧ IRow w' w.heap.size r [] ∧ Below w.heap.size w w' := by
  have CD := Lib.hid (fun b W (hb : Below w.heap.size w W) => bordersCode_any n v ps b W (pat_up (pat_keep hv hb) hb.size) hl)
  rw [hc] at CD
  simp only [Bool.false_eq_true, if_false] at CD
  have IO := Lib.hid (isOrderU_any n u os w hu hlo)
  obtain ⟨av, c, rfl, _⟩ := hv
  obtain ⟨ao, co, rfl, _⟩ := hu
  go_enter Tryd.func17, Tryd.ntmps17
  go_wp2_with fail
  refine IO.out.mono ?_
  rintro e w0 ⟨⟨b, rfl⟩, hb⟩
  have HB := Lib.hid hb
  clear hb
  go_wp2_with fail
  refine (CD.out b w0 HB.out).mono ?_
  rintro e w1 ⟨rfl, hb⟩
  have HB1 := Lib.hid (HB.out.trans (hb.mono HB.out.size))
  clear hb
  go_wp2
  exact bodyPost_ret (v := .tuple #[.slice none 0 0, .int .i64 1]) (by simp [results, Tryd.results17, go_sem]) rfl ⟨_, rfl, irow_nil _ _, HB1.out⟩
set_option maxRecDepth 100000 in
set_option maxHeartbeats 2000000 in
theorem implGr_badO (n : Int) (v u : Value) (ps : List (Int × Int)) (os : List Int) (w : World) (hv : PAt w w.heap.size v ps) (hu : IAt w w.heap.size u os) (hl : ps.length ≤ 1048576) (hlo : os.length ≤ 1048576) (hc : validC n ps = true) (ho : orderOk n os = false) :
    Calls Tryd.prog 17 #[.int .i64 n, v, u] w fun e w' => ∃ r, e = .returned (.tuple #[r, .int .i64 2]) ∧ IRow w' w.heap.size r [] ∧ Below w.heap.size w w' := by
  have CD := Lib.hid (fun W (hb : Below w.heap.size w W) => bordersCode_any n v ps false W (pat_up (pat_keep hv hb) hb.size) hl)
  rw [hc] at CD
  simp only [Bool.false_eq_true, if_false, if_true] at CD
  have IO := Lib.hid (isOrder_any n u os w hu hlo (validC_facts hc).2.1)
  rw [ho] at IO
  obtain ⟨av, c, rfl, _⟩ := hv
  obtain ⟨ao, co, rfl, _⟩ := hu
  go_enter Tryd.func17, Tryd.ntmps17
  go_wp2_with fail
  refine IO.out.mono ?_
  rintro e w0 ⟨rfl, hb⟩
  have HB := Lib.hid hb
  clear hb
  go_wp2_with fail
  refine (CD.out w0 HB.out).mono ?_
  rintro e w1 ⟨rfl, hb⟩
  have HB1 := Lib.hid (HB.out.trans (hb.mono HB.out.size))
  clear hb
  go_wp2
  exact bodyPost_ret (v := .tuple #[.slice none 0 0, .int .i64 2]) (by simp [results, Tryd.results17, go_sem]) rfl ⟨_, rfl, irow_nil _ _, HB1.out⟩
theorem rowP_none : (#[.int .i64 0, .int .u64 0, .int .u64 0, .int .u64 0, .int .u64 0, .int .u64 0, .int .u64 0, .int .u64 0, .int .u64 0, .int .u64 0, .int .u64 0] : Array Value) = rowP 0 (setsG fun _ => -1) := by
  unfold rowP; rw [setsG_none, setsG_none, setsG_none, setsG_none, setsG_none, setsG_none, setsG_none, setsG_none, setsG_none, setsG_none]; rfl
set_option maxRecDepth 100000 in
set_option maxHeartbeats 4000000 in
theorem implGr_good (N : Nat) (v u : Value) (ps : List (Int × Int)) (os : List Int) (w : World) (hv : PAt w w.heap.size v ps) (hu : IAt w w.heap.size u os) (hl : ps.length ≤ 1048576) (hlo : os.length ≤ 1048576) (hok : validC (N : Int) ps = true) (hor : orderOk (N : Int) os = true) (hT : TBl w) :
    Calls Tryd.prog 17 #[.int .i64 (N : Int), v, u] w fun e w' => ∃ r, e = .returned (.tuple #[r, .int .i64 0]) ∧ IRow w' w.heap.size r (rowF N (greedyF (N : Int) ps os)) ∧ Below w.heap.size w w' := by
  obtain ⟨n0, n1, _⟩ := validC_facts hok
  have hN0 : 1 ≤ N := by omega
  have hN : N ≤ 10 := by omega
  have CD := Lib.hid (fun W (hb : Below w.heap.size w W) => bordersCode_any (N : Int) v ps true W (pat_up (pat_keep hv hb) hb.size) hl)
  rw [hok] at CD
  simp only [if_true] at CD
  have IO := Lib.hid (isOrder_any (N : Int) u os w hu hlo n1)
  rw [hor] at IO
  have LM := Lib.hid (fun W (hb : Below w.heap.size w W) => landMapOf_any (N : Int) v ps W (pat_up (pat_keep hv hb) hb.size) hok)
  rw [Int.toNat_natCast] at LM
  have LO := Lib.hid (show os.length = N by have := (orderOk_facts hor).1; omega)
  have OF := Lib.hid (orderOk_facts hor).2
  have HT := Lib.hid hT
  have GI := Lib.hid (fun k hk => (ginv_all hok hor k hk).1)
  have ST := Lib.hid (fun (X : Nat) (c : Nat) (G : Nat → Int) => free_G (X := X) hok G c)
  have MX := Lib.hid (fun (X : Nat) (h : (X : Int) < (N : Int)) F => mex_ten hok h F)
  have FIN := Lib.hid (show rowF N (colR (setsG (greedyF (N : Int) ps (os.take os.length))) 10) = rowF N (greedyF (N : Int) ps os) by
    have h3 := greedy_ten hok hor os.length (Nat.le_refl _)
    have hi := ginv_all hok hor os.length (Nat.le_refl _)
    have lo := LO.out
    rw [List.take_length] at hi h3 ⊢
    exact List.map_congr_left fun j hj => by
      have hj2 := List.mem_range.1 hj
      exact colR_G (by omega) (hi.2.1 j (order_has hor (by omega) (by omega))) 10 (h3 j))
  have BND := Lib.hid (show ∀ c x, (setsG (greedyF (N : Int) ps (os.take os.length)) c).testBit x = true → x < N from fun c x h => by
    have hi := ginv_all hok hor os.length (Nat.le_refl _)
    rw [setsG_bit, Bool.and_eq_true, decide_eq_true_eq, decide_eq_true_eq] at h
    rw [List.take_length] at hi h
    by_cases hx : (x : Int) ∈ os
    · have := order_in hor hx; omega
    · have := hi.1 x hx; omega)
  have ML := Lib.hid (show ∀ x, maskN ps x < 1024 from fun x => nbM_lt ps ps.length x)
  obtain ⟨av, c, rfl, _⟩ := hv
  obtain ⟨ao, co, rfl, hco⟩ := hu
  have HCO := Lib.hid hco
  clear hco hT
  go_enter Tryd.func17, Tryd.ntmps17
  go_wp2_with fail
  refine IO.out.mono ?_
  rintro e w0 ⟨rfl, hb⟩
  have HB0 := Lib.hid hb
  clear hb
  go_wp2_with fail
  refine (CD.out w0 HB0.out).mono ?_
  rintro e w1 ⟨rfl, hb⟩
  have HB1 := Lib.hid (HB0.out.trans (hb.mono HB0.out.size))
  clear hb
  go_wp2_with fail
  refine (LM.out w1 HB1.out).mono ?_
  rintro e w2 ⟨um, rfl, hm, hb⟩
  have HB2 := Lib.hid (HB1.out.trans (hb.mono HB1.out.size))
  have HM2 := Lib.hid (mown_at hm)
  obtain ⟨gm, em, _⟩ := HM2.out
  subst em
  clear hb hm CD IO LM
  have hz : (os.length : Int) ≤ 10 := by have := LO.out; omega
  go_wp2
  rw [rowP_none]
  have HB3 := Lib.hid (HB2.out.alloc HB2.out.size (.cells (rowP 0 (setsG fun _ => -1)) 61))
  have HM3 := Lib.hid (mat_keep HM2.out ((Below.refl _ _).alloc (Nat.le_refl _) (.cells (rowP 0 (setsG fun _ => -1)) 61)))
  have HP3 := Lib.hid (show (w2.alloc (.cells (rowP 0 (setsG fun _ => -1)) 61)).heap[w2.heap.size]? = some (.cells (rowP 0 (setsG (greedyF (N : Int) ps (os.take 0)))) 61 (0, 0)) by rw [show greedyF (N : Int) ps (os.take 0) = fun _ => -1 from by rw [List.take_zero]; rfl]; exact heap_alloc_new w2 _)
  have sz3 : w2.heap.size < (w2.alloc (.cells (rowP 0 (setsG fun _ => -1)) 61)).heap.size := by simp
  have gB := HB2.out.size
  generalize w2.alloc (.cells (rowP 0 (setsG fun _ => -1)) 61) = w3 at *
  generalize w2.heap.size = gp at *
  go_loopw [28] (fun i wr => ∃ k q : Nat, k ≤ os.length ∧ i = .int .i64 (k : Int) ∧ q ≤ 10 ∧ wr.heap[gp]? = some (.cells (rowP q (setsG (greedyF (N : Int) ps (os.take k)))) 61 (0, 0)) ∧ MAt wr gp (.slice (some ⟨gm, 0, none⟩) N N) N (maskN ps) ∧ Below w.heap.size w wr) (fun i _ => os.length - (intOf i).toNat)
  case atStart => exact ⟨0, 0, Nat.zero_le _, rfl, by omega, HP3.out, HM3.out, HB3.out⟩
  case round =>
    obtain ⟨k, q, hk, rfl, hq, hp, hm, hb⟩ := hrel
    have HP := Lib.hid hp
    have HM := Lib.hid hm
    have HB := Lib.hid hb
    have gP : gp < wr.heap.size := (Array.getElem?_eq_some_iff.1 hp).1
    clear hp hm
    by_cases hlt : k < os.length
    · obtain ⟨b, off, rfl, hbs, c1⟩ := HCO.out k hlt
      have u1 := (hb.cell (p := ⟨b, off + k, none⟩) hbs).trans c1
      obtain ⟨x0, x1, x2⟩ := OF.out k hlt
      have GS := Lib.hid (greedyF_snoc (N : Int) ps os k hlt)
      obtain ⟨X, hX⟩ : ∃ X : Nat, zAt os k = (X : Int) := ⟨(zAt os k).toNat, by omega⟩
      have FX := Lib.hid (GI.out k hk X (by rw [← hX]; exact x2))
      rw [hX] at u1 x1 GS
      obtain ⟨F, hF⟩ : ∃ F, Hid (greedyF (N : Int) ps (os.take k) = F) := ⟨_, Lib.hid rfl⟩
      rw [hF.out] at HP GS FX
      have FR := Lib.hid (fun c => ST.out X c F)
      have MT := MX.out X x1 F
      obtain ⟨MF1, MF2⟩ := mexC_facts (usedG (N : Int) ps F (X : Int))
      have SG := Lib.hid (show setsG (greedyF (N : Int) ps (os.take (k + 1))) = updS (setsG F) (mexC (usedG (N : Int) ps F (X : Int))) X from setsG_step (by omega) FX.out (fun j => by rw [GS.out, stepG, Int.toNat_natCast]))
      generalize usedG (N : Int) ps F (X : Int) = US at *
      generalize mexC US = M at *
      have HF1 := Lib.hid MF1
      have HF2 := Lib.hid MF2
      have hk0 : 0 ≤ (k : Int) := by omega
      have hk1 : (k : Int) < (os.length : Int) := by omega
      have hXN : X < N := by omega
      have SL := Lib.hid (setsG_lt F)
      clear c1 hb x0 x2 hX MF1 MF2 GS
      generalize setsG F = S at *
      go_wp2
      go_loopw [13] (fun i wy => ∃ c : Nat, c ≤ M ∧ i = .int .i64 (c : Int) ∧ Below wr.heap.size wr wy) (fun i _ => M - (intOf i).toNat)
      case atStart => exact ⟨0, Nat.zero_le _, rfl, Below.refl _ _⟩
      case round =>
        obtain ⟨c, hc, rfl, hy⟩ := hrel
        have HY := Lib.hid hy
        have HPy := Lib.hid ((hy.block gp gP).trans HP.out)
        have HMy := Lib.hid (mat_keep HM.out (hy.mono (Nat.le_of_lt gP)))
        have MH := Lib.hid (mayHave_any (.slice (some ⟨gm, 0, none⟩) N N) N (maskN ps) q S X c wr (mat_up HMy.out (by have := hy.size; omega)) hXN hN (by omega) (SL.out c) (ML.out X))
        rw [FR.out c] at MH
        clear hy
        by_cases hcm : c < M
        · rw [show decide ((c : Int) ∈ US) = true by simpa using HF1.out c hcm] at MH
          have kw : IntKind.i64.wrap ((c : Int) + 1) = (c : Int) + 1 := IntWalk.i64_in _ (by omega)
          unfold encP at MH
          go_wp2_with (refine wpList_load_row rfl 61 _ rfl gp rfl 61 (rowP q S) (0, 0) _ HPy.out Tryd.underlying61 rfl (by rw [rowP_size]; kernel_rfl) ?_)
          refine MH.out.mono ?_
          rintro e w' ⟨rfl, hb⟩
          have HY2 := Lib.hid (HY.out.trans (hb.mono HY.out.size))
          clear hb
          go_wp2
          go_roundw
          case rel => exact ⟨c + 1, by omega, by go_num, HY2.out⟩
          case measure => simp [intOf]; omega
        · obtain rfl : c = M := by omega
          rw [show decide ((c : Int) ∈ US) = false by simpa using HF2.out] at MH
          unfold encP at MH
          go_wp2_with (refine wpList_load_row rfl 61 _ rfl gp rfl 61 (rowP q S) (0, 0) _ HPy.out Tryd.underlying61 rfl (by rw [rowP_size]; kernel_rfl) ?_)
          refine MH.out.mono ?_
          rintro e w' ⟨rfl, hb⟩
          have HY2 := Lib.hid (HY.out.trans (hb.mono HY.out.size))
          have HP5 := Lib.hid ((HY2.out.block gp gP).trans HP.out)
          have PW := Lib.hid (paintWith_any q S X c w' hq SL.out (by omega) (by omega))
          unfold encP at PW
          clear hb HPy HMy MH HY
          go_wp2_with (refine wpList_load_row rfl 61 _ rfl gp rfl 61 (rowP q S) (0, 0) _ HP5.out Tryd.underlying61 rfl (by rw [rowP_size]; kernel_rfl) ?_)
          refine PW.out.mono ?_
          rintro e w6 ⟨rfl, hb⟩
          have HY6 := Lib.hid (HY2.out.trans (hb.mono HY2.out.size))
          have HP6 := Lib.hid ((HY6.out.block gp gP).trans HP.out)
          clear hb
          go_wp2_with (refine wpList_store_row rfl 61 _ _ rfl gp (rowP (max q (c + 1)) (updS S c X)) rfl rfl 61 (rowP q S) HP6.out (by rw [rowP_size]; kernel_rfl) (by rw [rowP_size, rowP_size]) (rowP_one _ _) ?_)
          go_roundw
          case rel =>
            have hm6 := mat_keep HM.out (HY6.out.mono (Nat.le_of_lt gP))
            refine ⟨k + 1, max q (c + 1), by omega, by go_num, by omega, ?_, mat_keep hm6 (below_setRow (Below.refl gp w6) (Nat.le_refl gp) _), below_setRow (HB.out.trans (HY6.out.mono HB.out.size)) gB _⟩
            rw [SG.out]
            exact setRow_heap w6 gp _ _ _ _ HP6.out
          case measure => simp [intOf]; omega
    · obtain rfl : k = os.length := by omega
      have CO := Lib.hid (colours_any q N (setsG (greedyF (N : Int) ps (os.take os.length))) wr (setsG_lt _) BND.out hN hN0 (TBl_keep HT.out HB.out))
      rw [FIN.out] at CO
      unfold encP at CO
      clear hb
      generalize setsG (greedyF (N : Int) ps (os.take os.length)) = S at *
      go_wp2_with (refine wpList_load_row rfl 61 _ rfl gp rfl 61 (rowP q S) (0, 0) _ HP.out Tryd.underlying61 rfl (by rw [rowP_size]; kernel_rfl) ?_)
      refine CO.out.mono ?_
      rintro e w7 ⟨r, rfl, hr, hb⟩
      have HR := Lib.hid hr
      have HB7 := Lib.hid (HB.out.trans (hb.mono HB.out.size))
      obtain ⟨⟨ar, cr, er⟩, _⟩ := irow_shape hr
      subst er
      have HU := Lib.hid (show IRow w7 w.heap.size (.slice ar (rowF N (greedyF (N : Int) ps os)).length cr) (rowF N (greedyF (N : Int) ps os)) from irow_up hr HB.out.size)
      clear hb hr
      go_wp2
      exact bodyPost_ret (v := .tuple #[_, .int .i64 0]) (by simp [results, Tryd.results17, go_sem]) rfl ⟨_, rfl, HU.out, HB7.out⟩
theorem implGr_any (n : Int) (v u : Value) (ps : List (Int × Int)) (os : List Int) (w : World) (hv : PAt w w.heap.size v ps) (hu : IAt w w.heap.size u os) (hr : Room u os.length) (hl : ps.length ≤ 1048576) (hlo : os.length ≤ 1048576) (hT : TBl w) :
    Calls Tryd.prog 17 #[.int .i64 n, v, u] w fun e w' => ∃ r, e = .returned (.tuple #[r, .int .i64 (codeGr n ps os)]) ∧ IRow w' w.heap.size r (valGr n ps os) ∧ Below w.heap.size w w' := by
  cases hv1 : validC n ps with
  | false =>
    have e : codeGr n ps os = 1 := by rw [codeGr, hv1]; rfl
    rw [valGr, e, if_neg (by omega)]
    exact implGr_badB n v u ps os w hv hu hl hlo hv1
  | true =>
    cases ho1 : orderOk n os with
    | false =>
      have e : codeGr n ps os = 2 := by rw [codeGr, hv1, ho1]; rfl
      rw [valGr, e, if_neg (by omega)]
      exact implGr_badO n v u ps os w hv hu hl hlo hv1 ho1
    | true =>
      have e : codeGr n ps os = 0 := by rw [codeGr, hv1, ho1]; rfl
      rw [valGr, e, if_pos rfl]
      obtain ⟨n0, n1, _⟩ := validC_facts hv1
      obtain ⟨N, rfl⟩ : ∃ N : Nat, n = (N : Int) := ⟨n.toNat, by omega⟩
      rw [greedyC, Int.toNat_natCast]
      exact implGr_good N v u ps os w hv hu hl hlo hv1 ho1 hT
end Go.Proofs.YtemhmejjmhbfdabDoor.sines
