/- Lands that are reached, as bits: mathematics and contract of the program. -/
import Derived.Test.YtemhmejjmhbfdabDoorColsP16
import Derived.Test.YtemhmejjmhbfdabDoorColsM
namespace Go.Proofs.YtemhmejjmhbfdabDoor.sines
open Go.ChangeShapes Go.WideShapes Go.ChangeAt Go.RowKit Go.Shelf Go.Proofs.YtemhmejjmhbfdabDoor.spots Go.Proofs.YtemhmejjmhbfdabDoor.irows Go.Proofs.YtemhmejjmhbfdabDoor.pairsBorder
attribute [local go_sem] Oper.semAt_some
set_option linter.unusedSimpArgs false
set_option linter.unusedVariables false
/-- A set after some lands' steps. -/
def accR (M : Nat → Nat) (S R : Nat) (xs : List Nat) : Nat := xs.foldl (fun r x => r ||| (M x &&& S)) R
theorem accR_snoc (M : Nat → Nat) (S R : Nat) (xs : List Nat) (x : Nat) : accR M S R (xs ++ [x]) = accR M S R xs ||| (M x &&& S) := by rw [accR, accR, List.foldl_append]; rfl
theorem accR_lt {M : Nat → Nat} {S R : Nat} (hS : S < 1024) : ∀ (xs : List Nat), R < 1024 → accR M S R xs < 1024
  | [], h => h
  | x :: xs, h => by
    show accR M S (R ||| (M x &&& S)) xs < 1024
    exact accR_lt hS xs (or_10 h (Nat.lt_of_le_of_lt Nat.and_le_right hS))
theorem accR_bit (M : Nat → Nat) (S : Nat) : ∀ (xs : List Nat) (R y : Nat), (accR M S R xs).testBit y = (R.testBit y || (xs.any fun x => (M x).testBit y && S.testBit y))
  | [], R, y => by simp [accR]
  | x :: xs, R, y => by
    show (accR M S (R ||| (M x &&& S)) xs).testBit y = _
    rw [accR_bit M S xs, Nat.testBit_or, Nat.testBit_and, List.any_cons, Bool.or_assoc]
def rndK (M : Nat → Nat) (S R : Nat) : Nat → Nat
  | 0 => R
  | k + 1 => accR M S (rndK M S R k) (bitsL (rndK M S R k))
theorem rndK_lt {M : Nat → Nat} {S R : Nat} (hS : S < 1024) (hR : R < 1024) : ∀ k, rndK M S R k < 1024
  | 0 => hR
  | k + 1 => accR_lt hS _ (rndK_lt hS hR k)
theorem rndK_up {M : Nat → Nat} {S R y : Nat} {k : Nat} (h : (rndK M S R k).testBit y = true) : (rndK M S R (k + 1)).testBit y = true := by
  rw [rndK, accR_bit, h]; rfl
def cntB (R : Nat) : Nat → Nat
  | 0 => 0
  | k + 1 => cntB R k + (if R.testBit k = true then 1 else 0)
theorem cntB_mono {R R' : Nat} (h : ∀ y, R.testBit y = true → R'.testBit y = true) : ∀ k, cntB R k ≤ cntB R' k
  | 0 => Nat.le_refl _
  | k + 1 => by
    have := cntB_mono h k
    rw [cntB, cntB]
    by_cases e : R.testBit k = true
    · rw [if_pos e, if_pos (h k e)]; omega
    · rw [if_neg e]; omega
theorem cntB_more {R R' y : Nat} (h : ∀ y, R.testBit y = true → R'.testBit y = true) (h0 : ¬ R.testBit y = true) (h1 : R'.testBit y = true) : ∀ k, y < k → cntB R k + 1 ≤ cntB R' k
  | 0, hk => by omega
  | k + 1, hk => by
    rw [cntB, cntB]
    by_cases e : y = k
    · subst e
      have := cntB_mono h y
      rw [if_neg h0, if_pos h1]; omega
    · have := cntB_more h h0 h1 k (by omega)
      by_cases e2 : R.testBit k = true
      · rw [if_pos e2, if_pos (h k e2)]; omega
      · rw [if_neg e2]; omega
theorem cntB_le {R n : Nat} (h : ∀ y, R.testBit y = true → y < n) : ∀ k, cntB R k ≤ n ∧ cntB R k ≤ k
  | 0 => ⟨Nat.zero_le _, Nat.le_refl _⟩
  | k + 1 => by
    have := cntB_le h k
    rw [cntB]
    by_cases e : R.testBit k = true
    · have := h k e; rw [if_pos e]; omega
    · rw [if_neg e]; omega
/-- The lands of both colours. -/
def twoS (cs : List Int) (own oth : Int) : Nat := maskOf (fun y => decide (y < cs.length) && okTwo cs own oth (y : Int)) 10
theorem twoS_lt (cs : List Int) (own oth : Int) : twoS cs own oth < 1024 := maskOf_lt _ 10
theorem twoS_bit (cs : List Int) (own oth : Int) (y : Nat) : (twoS cs own oth).testBit y = (decide (y < 10) && (decide (y < cs.length) && okTwo cs own oth (y : Int))) := maskOf_bit _ 10 y
def clos (ps : List (Int × Int)) (cs : List Int) (own oth : Int) (R : Nat) : Prop := ∀ x y : Nat, R.testBit x = true → nbr ps (x : Int) (y : Int) = true → okTwo cs own oth (y : Int) = true → R.testBit y = true
theorem rnd_sound {n : Int} {ps : List (Int × Int)} {cs : List Int} {own oth : Int} {X : Nat} (hX : X < 10) : ∀ (k y : Nat), (rndK (maskN ps) (twoS cs own oth) (2 ^ X) k).testBit y = true → y < 10 ∧ Reach ps cs own oth (X : Int) (y : Int)
  | 0, y, h => by
    rw [rndK, Nat.testBit_two_pow, decide_eq_true_eq] at h
    subst h
    exact ⟨hX, Reach.base⟩
  | k + 1, y, h => by
    rw [rndK, accR_bit, Bool.or_eq_true, List.any_eq_true] at h
    rcases h with h | ⟨x, hx, h⟩
    · exact rnd_sound (n := n) hX k y h
    · obtain ⟨x10, hb⟩ := bitsL_mem.1 hx
      have hr := (rnd_sound (n := n) hX k x hb).2
      rw [twoS_bit, Bool.and_eq_true, Bool.and_eq_true, Bool.and_eq_true, decide_eq_true_eq] at h
      obtain ⟨h1, h2, h3, h4⟩ := h
      rw [maskN_bit ps x y h2] at h1
      exact ⟨h2, Reach.step hr h1 h4⟩
theorem rnd_closed {n : Int} {ps : List (Int × Int)} {cs : List Int} {own oth : Int} {X : Nat} (hv : validC n ps = true) (hl : (cs.length : Int) = n) (hX : (X : Int) < n) : ∀ k, clos ps cs own oth (rndK (maskN ps) (twoS cs own oth) (2 ^ X) k) ∨ k + 1 ≤ cntB (rndK (maskN ps) (twoS cs own oth) (2 ^ X) k) 10
  | 0 => .inr (by
      have n10 := (validC_facts hv).2.1
      have := cntB_more (R := 0) (R' := 2 ^ X) (y := X) (fun y h => by rw [Nat.zero_testBit] at h; cases h) (by rw [Nat.zero_testBit]; simp) (by rw [Nat.testBit_two_pow]; simp) 10 (by omega)
      have h0 : ∀ k, cntB 0 k = 0 := fun k => by
        induction k with
        | zero => rfl
        | succ k ih => rw [cntB, ih, Nat.zero_testBit]; rfl
      rw [h0] at this
      rw [rndK]; exact this)
  | k + 1 => by
    have n10 := (validC_facts hv).2.1
    have key : ∀ x y : Nat, (rndK (maskN ps) (twoS cs own oth) (2 ^ X) k).testBit x = true → nbr ps (x : Int) (y : Int) = true → okTwo cs own oth (y : Int) = true → (rndK (maskN ps) (twoS cs own oth) (2 ^ X) (k + 1)).testBit y = true := fun x y h1 h2 h3 => by
      have hy := nbr_in hv h2
      have hx := (rnd_sound (n := n) (show X < 10 by omega) k x h1).1
      rw [rndK, accR_bit, Bool.or_eq_true, List.any_eq_true]
      refine .inr ⟨x, bitsL_mem.2 ⟨hx, h1⟩, ?_⟩
      rw [maskN_bit ps x y (by omega), twoS_bit, h2, h3]
      simp; omega
    rcases rnd_closed (own := own) (oth := oth) hv hl hX k with h | h
    · refine .inl fun x y h1 h2 h3 => ?_
      have e : ∀ z, (rndK (maskN ps) (twoS cs own oth) (2 ^ X) (k + 1)).testBit z = true → (rndK (maskN ps) (twoS cs own oth) (2 ^ X) k).testBit z = true := fun z hz => by
        rw [rndK, accR_bit, Bool.or_eq_true, List.any_eq_true] at hz
        rcases hz with hz | ⟨x, hx, hz⟩
        · exact hz
        · obtain ⟨x10, hb⟩ := bitsL_mem.1 hx
          rw [twoS_bit, Bool.and_eq_true, Bool.and_eq_true, Bool.and_eq_true, decide_eq_true_eq] at hz
          obtain ⟨z1, z2, z3, z4⟩ := hz
          rw [maskN_bit ps x z z2] at z1
          exact h x z hb z1 z4
      exact key x y (e x h1) h2 h3
    · by_cases hc : clos ps cs own oth (rndK (maskN ps) (twoS cs own oth) (2 ^ X) k)
      · refine .inl fun x y h1 h2 h3 => ?_
        have e : ∀ z, (rndK (maskN ps) (twoS cs own oth) (2 ^ X) (k + 1)).testBit z = true → (rndK (maskN ps) (twoS cs own oth) (2 ^ X) k).testBit z = true := fun z hz => by
          rw [rndK, accR_bit, Bool.or_eq_true, List.any_eq_true] at hz
          rcases hz with hz | ⟨x, hx, hz⟩
          · exact hz
          · obtain ⟨x10, hb⟩ := bitsL_mem.1 hx
            rw [twoS_bit, Bool.and_eq_true, Bool.and_eq_true, Bool.and_eq_true, decide_eq_true_eq] at hz
            obtain ⟨z1, z2, z3, z4⟩ := hz
            rw [maskN_bit ps x z z2] at z1
            exact hc x z hb z1 z4
        exact key x y (e x h1) h2 h3
      · refine .inr ?_
        have hex : ∃ x y : Nat, (rndK (maskN ps) (twoS cs own oth) (2 ^ X) k).testBit x = true ∧ nbr ps (x : Int) (y : Int) = true ∧ okTwo cs own oth (y : Int) = true ∧ ¬ (rndK (maskN ps) (twoS cs own oth) (2 ^ X) k).testBit y = true := by
          apply Classical.byContradiction
          intro hn
          exact hc fun x y h1 h2 h3 => Classical.byContradiction fun h4 => hn ⟨x, y, h1, h2, h3, h4⟩
        obtain ⟨x, y, h1, h2, h3, h4⟩ := hex
        have hy := nbr_in hv h2
        have := cntB_more (fun z hz => rndK_up hz) h4 (key x y h1 h2 h3) 10 (by omega)
        omega
/-- After as many rounds as there are lands, all that are reached are there. -/
theorem rnd_all {n : Int} {ps : List (Int × Int)} {cs : List Int} {own oth : Int} {X : Nat} (hv : validC n ps = true) (hl : (cs.length : Int) = n) (hX : (X : Int) < n) (y : Nat) : (rndK (maskN ps) (twoS cs own oth) (2 ^ X) n.toNat).testBit y = true ↔ Reach ps cs own oth (X : Int) (y : Int) := by
  have n10 := (validC_facts hv).2.1
  refine ⟨fun h => (rnd_sound (n := n) (show X < 10 by omega) _ y h).2, fun hr => ?_⟩
  have hin : ∀ y : Nat, (rndK (maskN ps) (twoS cs own oth) (2 ^ X) n.toNat).testBit y = true → y < n.toNat := fun y h => by
    have := ((rnd_sound (n := n) (show X < 10 by omega) _ y h).2).inN hv ⟨by omega, hX⟩
    omega
  have hc : clos ps cs own oth (rndK (maskN ps) (twoS cs own oth) (2 ^ X) n.toNat) := by
    rcases rnd_closed (own := own) (oth := oth) hv hl hX n.toNat with h | h
    · exact h
    · have := (cntB_le hin 10).1
      omega
  have h0 : ∀ k, (rndK (maskN ps) (twoS cs own oth) (2 ^ X) k).testBit X = true := fun k => by
    induction k with
    | zero => rw [rndK, Nat.testBit_two_pow]; simp
    | succ k ih => exact rndK_up ih
  have key : ∀ z : Int, Reach ps cs own oth (X : Int) z → (rndK (maskN ps) (twoS cs own oth) (2 ^ X) n.toNat).testBit z.toNat = true := fun z hz => by
    induction hz with
    | base => rw [Int.toNat_natCast]; exact h0 _
    | step h1 h2 h3 ih =>
      have a := h1.inN hv ⟨by omega, hX⟩
      have b := nbr_in hv h2
      exact hc _ _ ih (by rw [Int.toNat_of_nonneg a.1, Int.toNat_of_nonneg b.1]; exact h2) (by rw [Int.toNat_of_nonneg b.1]; exact h3)
  have := key _ hr
  rwa [Int.toNat_natCast] at this
set_option maxRecDepth 100000 in
set_option maxHeartbeats 1000000 in
theorem reached_any (gm n : Nat) (M : Nat → Nat) (S X : Nat) (w : World) (hM : MAt w w.heap.size (.slice (some ⟨gm, 0, none⟩) n n) n M) (hb : ∀ k x, (rndK M S (2 ^ X) k).testBit x = true → x < n) (hn : n ≤ 10) (hm : ∀ x, M x < 1024) (hS : S < 1024) (hX : X < 10) (hT : TBl w) :
    Calls Tryd.prog 43 #[.slice (some ⟨gm, 0, none⟩) n n, .int .i64 (X : Int), .int .u64 (S : Int)] w fun e w' => e = .returned (.int .u64 (rndK M S (2 ^ X) n : Int)) ∧ Below w.heap.size w w' := by
  have BW := Lib.hid (show ∀ W, Calls Tryd.prog 46 #[.int .u64 0, .int .i64 (X : Int)] W (fun e w' => e = .returned (.int .u64 ((2 ^ X : Nat) : Int)) ∧ W = w') from fun W => by
    have h := bitWith_any 0 X W (by omega) hX
    rw [Nat.zero_or] at h
    exact h)
  have HT := Lib.hid hT
  have gT := TBl_lt hT
  have HBT := Lib.hid hb
  have HMM := Lib.hid hm
  have HCM := Lib.hid (show ∀ W, Below w.heap.size w W → ∀ k, k < n → W.cell? ⟨gm, k, none⟩ = some (.int .u64 (M k : Int)) by
    obtain ⟨g, e, h1, h⟩ := hM; cases e
    exact fun W hW k hk => (hW.cell (p := ⟨gm, k, none⟩) h1).trans (h k hk))
  have RL := Lib.hid (fun k => rndK_lt (M := M) (R := 2 ^ X) hS (pow2_10 hX) k)
  have RS := Lib.hid (show ∀ k, rndK M S (2 ^ X) (k + 1) = accR M S (rndK M S (2 ^ X) k) (bitsL (rndK M S (2 ^ X) k)) from fun k => rfl)
  have P10 := pow2_10 hX
  generalize 2 ^ X = P at *
  have bB := Lib.hid ((((Below.refl w.heap.size w).alloc (Nat.le_refl _) (.cells #[.slice (some ⟨gm, 0, none⟩) n n] 53)).alloc (by simp) (.cells #[.int .u64 (S : Int)] 51)))
  have b1 := Lib.hid ((Boxed.new w 53 (.slice (some ⟨gm, 0, none⟩) n n)).alloc (.cells #[.int .u64 (S : Int)] 51))
  have b2 := Lib.hid (show Boxed ((w.alloc (.cells #[.slice (some ⟨gm, 0, none⟩) n n] 53)).alloc (.cells #[.int .u64 (S : Int)] 51)) (w.heap.size + 1) 51 (.int .u64 (S : Int)) by
    have := Boxed.new (w.alloc (.cells #[.slice (some ⟨gm, 0, none⟩) n n] 53)) 51 (.int .u64 (S : Int))
    simpa using this)
  clear hM hm hb hT
  refine (callsIn_wide (n := 5)).1 ?_
  refine callsIn_of_wp_marks Tryd.func43 rfl trivial ?_ rfl
  simp only [Tryd.ntmps43, List.size_toArray, List.length_cons, List.length_nil, Nat.reduceAdd, Nat.reduceSub, Array.replicate_succ, Array.replicate_zero, List.push_toArray, List.append_toArray, List.nil_append, List.cons_append]
  gi_wp2_with fail
  generalize (w.alloc (.cells #[.slice (some ⟨gm, 0, none⟩) n n] 53)).alloc (.cells #[.int .u64 (S : Int)] 51) = w2 at *
  refine ⟨trivial, (callsIn_wide.2 (BW.out w2)).mono ?_⟩
  rintro e w0 ⟨rfl, hw0⟩
  subst hw0
  have bR3 := Lib.hid (Boxed.new w2 51 (.int .u64 (P : Int)))
  have b13 := Lib.hid (b1.out.alloc (.cells #[.int .u64 (P : Int)] 51))
  have b23 := Lib.hid (b2.out.alloc (.cells #[.int .u64 (P : Int)] 51))
  have bB3 := Lib.hid (bB.out.alloc bB.out.size (.cells #[.int .u64 (P : Int)] 51))
  have gR1 : w.heap.size + 1 < w2.heap.size := b2.out.lt
  have cM3 := b13.out.cell
  gi_wp2_with fail
  generalize w2.alloc (.cells #[.int .u64 (P : Int)] 51) = w3 at *
  clear b1 b2 bB cM3 BW
  generalize w2.heap.size = gR at *
  change Code.wpIn _ _ _ _ _ _ _
  refine wpIn_loop (fun a' w' => ∃ (k : Nat) (ds : List Deferred) (u8 u14 u15 u16 u17 u18 u19 u20 u21 u22 u23 u24 u25 u26 : Value), k ≤ n ∧ Marks9 w.heap.size ds w' ∧ Boxed w' w.heap.size 53 (.slice (some ⟨gm, 0, none⟩) n n) ∧ Boxed w' (w.heap.size + 1) 51 (.int .u64 (S : Int)) ∧ Boxed w' gR 51 (.int .u64 (rndK M S P k : Int)) ∧ Below w.heap.size w w' ∧ a' = { tmps := #[.slice (some ⟨gm, 0, none⟩) n n, .int .i64 (X : Int), .int .u64 (S : Int), .pointer (some ⟨w.heap.size, 0, none⟩), undef, .pointer (some ⟨w.heap.size + 1, 0, none⟩), .int .u64 0, .pointer (some ⟨gR, 0, none⟩), u8, .int .i64 (X : Int), .int .u64 (P : Int), .slice (some ⟨gm, 0, none⟩) n n, .int .i64 (n : Int), .int .i64 (k : Int), u14, u15, u16, u17, u18, u19, u20, u21, u22, u23, u24, u25, u26, undef], defers := ds }) (fun a' _ => n - (intOf (a'.tmps.getD 13 undef)).toNat) ?start ?round
  case start => exact ⟨0, [], _, _, _, _, _, _, _, _, _, _, _, _, _, _, Nat.zero_le _, marks_nil _ _, b13.out, b23.out, bR3.out, bB3.out, rfl⟩
  case round =>
    rintro a' wr ⟨k, ds, u8, u14, u15, u16, u17, u18, u19, u20, u21, u22, u23, u24, u25, u26, hk, hm, hx1, hx2, hxR, hbw, rfl⟩
    obtain ⟨rs, rfl, hnd, hms⟩ := hm
    have HX1 := Lib.hid hx1
    have HX2 := Lib.hid hx2
    have HXR := Lib.hid hxR
    have HBW := Lib.hid hbw
    have HMS := Lib.hid hms
    have cR := hxR.cell
    clear hms hx1 hx2 hxR
    by_cases hlt : k < n
    · have hk0 : 0 ≤ (k : Int) := by omega
      have hk1 : (k : Int) < (n : Int) := by omega
      have hwl := HBW.out.size
      have RK := RL.out k
      have BK := Lib.hid (HBT.out k)
      have NK := Lib.hid (RS.out k)
      generalize rndK M S P k = R at *
      gi_wp2_with fail
      refine ⟨trivial, (callsIn_wide.2 (members_any R wr)).mono ?_⟩
      rintro e w4 ⟨rfl, hw4⟩
      have s4 : w4.cell? ⟨wr.heap.size, 0, none⟩ = some (.int .u64 (R : Int)) := by rw [hw4]; simp
      have x14 := Lib.hid (show Boxed w4 w.heap.size 53 (.slice (some ⟨gm, 0, none⟩) n n) by rw [hw4]; exact HX1.out.alloc _)
      have x24 := Lib.hid (show Boxed w4 (w.heap.size + 1) 51 (.int .u64 (S : Int)) by rw [hw4]; exact HX2.out.alloc _)
      have xR4 := Lib.hid (show Boxed w4 gR 51 (.int .u64 (R : Int)) by rw [hw4]; exact HXR.out.alloc _)
      have b4 := Lib.hid (show Below w.heap.size w w4 by rw [hw4]; exact HBW.out.alloc HBW.out.size _)
      have m4 : ∀ r ∈ rs, r < w4.heap.size ∧ w4.heap[r]? = some (.deferred (some [])) := fun r hr => by
        have h1 := (HMS.out r hr).2
        have h2 := (Array.getElem?_eq_some_iff.1 h1).1
        rw [hw4]
        exact ⟨by simp; omega, (Below.heap_alloc _ _ _ h2).trans h1⟩
      have rB : ∀ r ∈ rs, w.heap.size ≤ r := fun r hr => (HMS.out r hr).1
      have M4 := Lib.hid m4
      have RB := Lib.hid rB
      have gR4 : wr.heap.size ≤ w4.heap.size := by rw [hw4]; simp
      clear hw4 m4 rB HMS HX1 HX2 HXR hbw HBW cR
      gi_wp2_with fail
      refine' wpIn_rangeFunc_ownF (F := Fence.wide) (n := 5) rfl (by omega) (gf := 47) (lb := #[.pointer (some ⟨wr.heap.size, 0, none⟩)]) rfl trivial (enters_of Tryd.func47 (by kernel_rfl) rfl)
        (mem_stops (5 - 1) wr.heap.size w.heap.size R RK gT w4 b4.out.size s4 (TBl_keep HT.out b4.out)) belowK_t (belowK_b b4.out.size) (Below.refl _ _) (fun _ => rfl)
        (fun pre W => (((Boxed W w.heap.size 53 (.slice (some ⟨gm, 0, none⟩) n n) ∧ Boxed W (w.heap.size + 1) 51 (.int .u64 (S : Int))) ∧ Boxed W gR 51 (.int .u64 (accR M S R (pre.map Subtype.val) : Int))) ∧ (∀ r ∈ rs, r < w4.heap.size ∧ W.heap[r]? = some (.deferred (some [])))) ∧ Below w.heap.size w W)
        (fun _ _ _ => False)
        (OwnFrom.and (fun s A B row hs hg hr => ⟨⟨⟨boxed_own w.heap.size 53 (fun _ : List { x : Nat // x ∈ bitsL R } => Value.slice (some ⟨gm, 0, none⟩) n n) s A B row hs.1.1.1 hg (fun r e => (hr r e).2), boxed_own (w.heap.size + 1) 51 (fun _ : List { x : Nat // x ∈ bitsL R } => Value.int .u64 (S : Int)) s A B row hs.1.1.2 hg (fun r e => (hr r e).2)⟩, boxed_own gR 51 (fun pre : List { x : Nat // x ∈ bitsL R } => Value.int .u64 (accR M S R (pre.map Subtype.val) : Int)) s A B row hs.1.2 hg (fun r e => (hr r e).2)⟩, marks_abide hs.2 hg (fun r e => (hr r e).1)⟩) (ownFrom_below (Nat.le_refl _) b4.out.size))
        (fun _ _ _ _ _ hs _ _ => hs)
        ⟨⟨⟨⟨x14.out, x24.out⟩, xR4.out⟩, M4.out⟩, b4.out⟩
        _ ?assign ?body ?done ?stop
      case assign =>
        intro l x W K hK
        gi_wp2
        exact hK
      case body =>
        rintro l pre x W ⟨⟨⟨⟨h1, h2⟩, hR5⟩, hm5⟩, hb5⟩ hlp
        have hd : 1 ≤ 5 - 1 - 1 := by omega
        have hmx : Tryd.prog.follows .mixedOrders = true := by kernel_rfl
        have xN : x.1 < n := BK.out x.1 (bitsL_mem.1 x.2).2
        have c1 := h1.cell
        have c2 := h2.cell
        have cR := hR5.cell
        have fR := hR5.frozen
        have cX := HCM.out W hb5 x.1 xN
        have x0 : 0 ≤ (x.1 : Int) := by omega
        have x1 : (x.1 : Int) < (n : Int) := by omega
        have AS := Lib.hid (show accR M S R ((pre ++ [x]).map Subtype.val) = accR M S R (pre.map Subtype.val) ||| (M x.1 &&& S) by rw [List.map_append, List.map_cons, List.map_nil, accR_snoc])
        have AL : accR M S R (pre.map Subtype.val) < 1024 := accR_lt hS _ RK
        have ML := HMM.out x.1
        have EA := Lib.hid (bits_and_u64n (M x.1) S (by omega) (by omega))
        have EO := Lib.hid (bits_or_u64n (accR M S R (pre.map Subtype.val)) (M x.1 &&& S) (by omega) (Nat.lt_of_le_of_lt Nat.and_le_right (by omega)))
        have H1 := Lib.hid h1
        have H2 := Lib.hid h2
        have HR5 := Lib.hid hR5
        have HM5 := Lib.hid hm5
        have HB5 := Lib.hid hb5
        clear hR5 hm5 hb5 h1 h2 hlp
        generalize accR M S R (pre.map Subtype.val) = A at *
        generalize M x.1 = MX at *
        have post : ∀ V : World, V = W.setCell ⟨gR, 0, none⟩ (.int .u64 ((A ||| MX &&& S : Nat) : Int)) → KeepsOthers W V.drew ∧ Below w.heap.size W V.drew ∧ ((((Boxed V.drew w.heap.size 53 (.slice (some ⟨gm, 0, none⟩) n n) ∧ Boxed V.drew (w.heap.size + 1) 51 (.int .u64 (S : Int))) ∧ Boxed V.drew gR 51 (.int .u64 (accR M S R ((pre ++ [x]).map Subtype.val) : Int))) ∧ (∀ r ∈ rs, r < w4.heap.size ∧ V.drew.heap[r]? = some (.deferred (some [])))) ∧ Below w.heap.size w V.drew) := by
          intro V hV
          have a1 : Boxed V w.heap.size 53 (.slice (some ⟨gm, 0, none⟩) n n) := by rw [hV]; exact (heap_setCell_other W ⟨gR, 0, none⟩ _ _ (by show w.heap.size ≠ gR; omega)).trans H1.out
          have a2 : Boxed V (w.heap.size + 1) 51 (.int .u64 (S : Int)) := by rw [hV]; exact (heap_setCell_other W ⟨gR, 0, none⟩ _ _ (by show w.heap.size + 1 ≠ gR; omega)).trans H2.out
          have a3 : Boxed V gR 51 (.int .u64 (accR M S R ((pre ++ [x]).map Subtype.val) : Int)) := by rw [hV, AS.out]; exact HR5.out.set _
          have a4 : ∀ r ∈ rs, r < w4.heap.size ∧ V.heap[r]? = some (.deferred (some [])) := fun r hr => ⟨(HM5.out r hr).1, by
            have h1 := (HM5.out r hr).2
            rw [hV]
            refine (heap_setCell_other W ⟨gR, 0, none⟩ r _ (fun e => ?_)).trans h1
            subst e
            have e2 : W.heap[r]? = _ := HR5.out
            rw [h1] at e2; cases e2⟩
          have a5 : Below w.heap.size W V := by rw [hV]; exact (Below.refl _ _).setCell (p := ⟨gR, 0, none⟩) (by show w.heap.size ≤ gR; omega) _
          have a6 : KeepsOthers W V := by rw [hV]; exact KeepsOthers.setCell _ _ _
          exact ⟨a6.trans (KeepsOthers.drew V), Below.drew a5, ⟨⟨⟨⟨a1, a2⟩, a3⟩, a4⟩, Below.drew (HB5.out.trans a5)⟩⟩
        have POST := Lib.hid post
        clear post H1 H2 HR5 HM5 HB5 AS
        gi_wp2
        gi_region_with_o fail
        all_goals
          rw [EA.out, EO.out]
          exact POST.out _ rfl
      case done =>
        rintro D ys W hD hys ⟨⟨⟨⟨h1, h2⟩, hR5⟩, hm5⟩, hb5⟩ hK
        have hys' : ys.map Subtype.val = bitsL R := hys
        rw [hys', ← NK.out] at hR5
        have H1 := Lib.hid h1
        have H2 := Lib.hid h2
        have HR5 := Lib.hid hR5
        have HB5 := Lib.hid hb5
        have HMK := Lib.hid (show Marks9 w.heap.size ({ target := .collected D, args := #[] } :: rs.map mkD) W from ⟨D :: rs, rfl, List.nodup_cons.2 ⟨fun h => by have := (hm5 D h).1; omega, hnd⟩, fun r hr => by
          rcases List.mem_cons.1 hr with rfl | hr
          · exact ⟨by have := b4.out.size; omega, hK⟩
          · exact ⟨RB.out r hr, (hm5 r hr).2⟩⟩)
        clear hR5 hm5 hb5 h1 h2 hys hys' hK
        gi_wp2_with fail
        refine ⟨⟨k + 1, _, _, _, _, _, _, _, _, _, _, _, _, _, _, _, by omega, HMK.out, H1.out, H2.out, HR5.out, HB5.out, rfl⟩, ?_⟩
        simp [intOf]; omega
      case stop =>
        rintro D c pre W _ _ hh _
        exact hh.elim
    · obtain rfl : k = n := by omega
      gi_wp2_with fail
      refine leaves_marks rs wr hnd (fun r hr => (HMS.out r hr).2) ?_
      refine ⟨.int .u64 (rndK M S P k : Int), by simp [results, Tryd.results43, go_sem], rfl, shut_below rs wr HMS.out hnd HBW.out⟩
end Go.Proofs.YtemhmejjmhbfdabDoor.sines
