/- The model's labels and places: codes, faults, weights, what is left out, filled rows: contracts. -/
import Derived.Test.YtmfjpmimkpldjaaLabS2
namespace Go.Proofs.Ytmfjpmimkpldjaa.ltab
open Go.ChangeShapes Go.WideShapes Go.ChangeAt Go.RowKit Go.Proofs.Ytmfjpmimkpldjaa.irows Go.Proofs.Ytmfjpmimkpldjaa.sines
set_option linter.unusedSimpArgs false
set_option linter.unusedVariables false

def lbAt (ps : List Lb) (k : Nat) : Lb := ps.getD k (0, 0, [], 0)
theorem lbAt_eq {ps : List Lb} {k : Nat} (h : k < ps.length) : ps[k] = lbAt ps k := by simp [lbAt, h]
def inP (ps : List Lb) (zs : List Int) (k : Nat) : Bool := inB (zAt zs k) (-1) (((lbAt ps k).2.2.1.length : Int) - 1)
def placesOk (ps : List Lb) (zs : List Int) : Bool := decide (zs.length = ps.length) && (List.range zs.length).all fun k => inP ps zs k
def codeK (ps : List Lb) (zs : List Int) : Int := if okL ps = false then 1 else if placesOk ps zs = false then 2 else 0
theorem placesOk_no {ps : List Lb} {zs : List Int} {k : Nat} (hk : k < zs.length) (h : inP ps zs k = false) : placesOk ps zs = false := by
  cases e : placesOk ps zs with
  | false => rfl
  | true =>
    simp only [placesOk, Bool.and_eq_true, List.all_eq_true, List.mem_range] at e
    have := e.2 k hk
    rw [h] at this
    cases this
theorem placesOk_all {ps : List Lb} {zs : List Int} (hl : zs.length = ps.length) (h : ∀ j, j < zs.length → inP ps zs j = true) : placesOk ps zs = true := by
  simp only [placesOk, Bool.and_eq_true, List.all_eq_true, List.mem_range, decide_eq_true_eq]; exact ⟨hl, h⟩
theorem codeK_zero {ps : List Lb} {zs : List Int} (h : codeK ps zs = 0) : okL ps = true ∧ placesOk ps zs = true := by
  unfold codeK at h
  cases h1 : okL ps with
  | false => rw [h1] at h; simp at h
  | true =>
    cases h2 : placesOk ps zs with
    | false => rw [h1, h2] at h; simp at h
    | true => exact ⟨rfl, rfl⟩
/-- What valid labels and places are known by. -/
theorem places_facts {ps : List Lb} {zs : List Int} (h1 : okL ps = true) (h2 : placesOk ps zs = true) : ps.length ≤ 8 ∧ zs.length = ps.length ∧ ∀ k, k < ps.length → oneL (lbAt ps k) = true ∧ -1 ≤ zAt zs k ∧ zAt zs k < ((lbAt ps k).2.2.1.length : Int) := by
  obtain ⟨a1, a2⟩ := okL_facts h1
  simp only [placesOk, Bool.and_eq_true, List.all_eq_true, List.mem_range, decide_eq_true_eq] at h2
  refine ⟨a1, h2.1, fun k hk => ⟨by rw [← lbAt_eq hk]; exact a2 k hk, ?_⟩⟩
  have := inB_of (h2.2 k (by omega))
  omega
/-- Where label k begins. -/
def sAt (ps : List Lb) (zs : List Int) (k : Nat) : Int := zAt (lbAt ps k).2.2.1 (zAt zs k).toNat
def onB (zs : List Int) (k : Nat) : Bool := decide (0 ≤ zAt zs k)
def freeK (ps : List Lb) (zs : List Int) (k : Nat) (x : Int) : Bool := (List.range k).all fun i => !(onB zs i && meetL (lbAt ps i) (lbAt ps k) (sAt ps zs i) x)
def badK (ps : List Lb) (zs : List Int) (k : Nat) : Bool := onB zs k && !freeK ps zs k (sAt ps zs k)
/-- The first one from k on, of r. -/
def firstN (P : Nat → Bool) : Nat → Nat → Int
  | _, 0 => -1
  | k, r + 1 => if P k = true then (k : Int) else firstN P (k + 1) r
theorem firstN_skip (P : Nat → Bool) : ∀ (m k r : Nat), (∀ j, k ≤ j → j < k + m → P j = false) → firstN P k (m + r) = firstN P (k + m) r
  | 0, k, r, _ => by simp
  | m + 1, k, r, h => by
    rw [show m + 1 + r = (m + r) + 1 by omega, firstN, if_neg (by rw [h k (Nat.le_refl _) (by omega)]; simp), firstN_skip P m (k + 1) r (fun j h1 h2 => h j (by omega) (by omega))]
    congr 1
    omega
def faultK (ps : List Lb) (zs : List Int) : Int := firstN (badK ps zs) 0 ps.length
theorem faultK_at {ps : List Lb} {zs : List Int} {k : Nat} (hk : k < ps.length) (h : badK ps zs k = true) (hb : ∀ j, j < k → badK ps zs j = false) : faultK ps zs = (k : Int) := by
  unfold faultK
  rw [show ps.length = k + ((ps.length - k - 1) + 1) by omega, firstN_skip _ k 0 _ (fun j _ h2 => hb j (by omega)), Nat.zero_add, firstN, if_pos h]
theorem faultK_none {ps : List Lb} {zs : List Int} (hb : ∀ j, j < ps.length → badK ps zs j = false) : faultK ps zs = -1 := by
  unfold faultK
  have := firstN_skip (badK ps zs) ps.length 0 0 (fun j _ h2 => hb j (by omega))
  rw [Nat.add_zero] at this
  rw [this]; rfl
def weightK (ps : List Lb) (zs : List Int) : Nat → Int
  | 0 => 0
  | k + 1 => weightK ps zs k + (if onB zs k = true then (lbAt ps k).2.2.2 else 0)
theorem weightK_b {ps : List Lb} {zs : List Int} (h : ∀ k, k < ps.length → oneL (lbAt ps k) = true) : ∀ k, k ≤ ps.length → 0 ≤ weightK ps zs k ∧ weightK ps zs k ≤ 1000 * (k : Int)
  | 0, _ => by simp [weightK]
  | k + 1, hk => by
    have ih := weightK_b (zs := zs) h k (by omega)
    have f := (oneL_facts (h k (by omega))).2.2.2.1
    unfold weightK
    split <;> omega
def valW (ps : List Lb) (zs : List Int) : Int := if codeK ps zs = 0 then weightK ps zs ps.length else 0
def valPF (ps : List Lb) (zs : List Int) : Int := if codeK ps zs = 0 then faultK ps zs else 0
def outK (zs : List Int) : Nat → List Int
  | 0 => []
  | k + 1 => if zAt zs k < 0 then outK zs k ++ [(k : Int)] else outK zs k
theorem outK_len (zs : List Int) : ∀ k, (outK zs k).length ≤ k
  | 0 => Nat.le_refl _
  | k + 1 => by
    have := outK_len zs k
    unfold outK
    split
    · simp; omega
    · omega
def valLO (ps : List Lb) (zs : List Int) : List Int := if codeK ps zs = 0 then outK zs zs.length else []
theorem valLO_len (ps : List Lb) (zs : List Int) : (valLO ps zs).length ≤ zs.length := by
  unfold valLO
  split
  · exact outK_len _ _
  · simp
def fillK (ps : List Lb) (zs : List Int) (row : Int) : Nat → Int
  | 0 => 0
  | k + 1 => fillK ps zs row k + (if (decide ((lbAt ps k).1 = row) && onB zs k) = true then (lbAt ps k).2.1 else 0)
theorem fillK_b {ps : List Lb} {zs : List Int} {row : Int} (h : ∀ k, k < ps.length → oneL (lbAt ps k) = true) : ∀ k, k ≤ ps.length → 0 ≤ fillK ps zs row k ∧ fillK ps zs row k ≤ 1000 * (k : Int)
  | 0, _ => by simp [fillK]
  | k + 1, hk => by
    have ih := fillK_b (zs := zs) (row := row) h k (by omega)
    have f := (oneL_facts (h k (by omega))).2.2.1
    unfold fillK
    split <;> omega
def codeRF (ps : List Lb) (zs : List Int) (row : Int) : Int := if okL ps = false then 1 else if (placesOk ps zs && inB row 0 11) = false then 2 else if 0 ≤ faultK ps zs then 9 else 0
def valRF (ps : List Lb) (zs : List Int) (row : Int) : Int := if codeRF ps zs row = 0 then fillK ps zs row ps.length else 0
theorem drL {w : World} {a b : Nat} : (w.drewN a).drewN b = w.drewN (a + b) := World.drewN_drewN _ _ _
/-- Label k, as it is read. -/
theorem lat_k {w : World} {B : Nat} {v : Value} {ps : List Lb} (h : LAt w B v ps) : ∃ a c, v = .slice a ps.length c ∧ ∀ k, k < ps.length → ∃ b off, a = some ⟨b, off, none⟩ ∧ b < B ∧ LCell w B b (off + k * 4) (lbAt ps k) := by
  obtain ⟨a, c, e, _, h⟩ := h
  refine ⟨a, c, e, fun k hk => ?_⟩
  obtain ⟨b, off, e1, e2, e3⟩ := h k hk
  exact ⟨b, off, e1, e2, by rw [← lbAt_eq hk]; exact e3⟩
set_option maxRecDepth 100000 in
set_option maxHeartbeats 2000000 in
theorem l11Code_any (v u : Value) (ps : List Lb) (zs : List Int) (w : World) (hv : LAt w w.heap.size v ps) (hu : IAt w w.heap.size u zs) (hl : ps.length ≤ 1048576) (hr : ∀ i, (hi : i < ps.length) → ps[i].2.2.1.length ≤ 1048576) (hz : zs.length ≤ 1048576) :
    Calls Try.prog 110 #[v, u] w fun e w' => e = .returned (.int .i64 (codeK ps zs)) ∧ ∃ q, w' = w.drewN q := by
  have OK := Lib.hid (l11Ok_any v ps w hv hl hr)
  have HR := Lib.hid hr
  obtain ⟨a, c, rfl, hcl⟩ := lat_k hv
  have HCL := Lib.hid hcl
  obtain ⟨au, cu, rfl, hcu⟩ := hu
  have HCU := Lib.hid hcu
  clear hcl hcu hr hv
  have hl2 : (ps.length : Int) ≤ 1048576 := by omega
  have hz2 : (zs.length : Int) ≤ 1048576 := by omega
  have E := Lib.hid (show codeK ps zs = if okL ps = false then 1 else if placesOk ps zs = false then 2 else 0 from rfl)
  cases h1 : okL ps with
  | false =>
    have RR := Lib.hid (show codeK ps zs = 1 by rw [E.out, h1]; rfl)
    rw [RR.out]
    rw [h1] at OK
    go_enter Try.func110, Try.ntmps110
    go_wp2_with fail
    refine OK.out.mono ?_
    rintro e w1 ⟨rfl, q, rfl⟩
    go_wp2
    go_ret
    exact ⟨rfl, q, rfl⟩
  | true =>
    rw [h1] at OK
    by_cases hlen : zs.length = ps.length
    · obtain ⟨R, hR⟩ : ∃ R, Hid (codeK ps zs = R) := ⟨_, Lib.hid rfl⟩
      rw [hR.out]
      have NO := Lib.hid (show ∀ k, k < ps.length → inP ps zs k = false → R = 2 from fun k hk h => by rw [← hR.out, E.out, h1, placesOk_no (by omega) h]; rfl)
      have YES := Lib.hid (show (∀ j, j < ps.length → inP ps zs j = true) → R = 0 from fun h => by rw [← hR.out, E.out, h1, placesOk_all hlen (fun j hj => h j (by omega))]; rfl)
      have HI := Lib.hid (fun k => show inP ps zs k = inB (zAt zs k) (-1) (((lbAt ps k).2.2.1.length : Int) - 1) from rfl)
      have HLB := Lib.hid (fun k (hk : k < ps.length) => show (lbAt ps k).2.2.1.length ≤ 1048576 by rw [← lbAt_eq hk]; exact HR.out k hk)
      rw [hlen] at HCU ⊢
      clear hlen hz hz2 E
      go_enter Try.func110, Try.ntmps110
      go_wp2_with fail
      refine OK.out.mono ?_
      rintro e w1 ⟨rfl, q, rfl⟩
      go_wp2
      go_loopw [5] (fun i wr => ∃ k n : Nat, k ≤ ps.length ∧ i = .int .i64 (k : Int) ∧ (∀ j, j < k → inP ps zs j = true) ∧ wr = w.drewN n) (fun i _ => ps.length - (intOf i).toNat)
      case atStart => exact ⟨0, q, Nat.zero_le _, rfl, fun j h => by omega, rfl⟩
      case round =>
        obtain ⟨k, n, hk, rfl, ha, rfl⟩ := hrel
        have HA := Lib.hid ha
        clear ha
        by_cases hlt : k < ps.length
        · obtain ⟨b, off, rfl, hbs, x, _, _, c3, _, hx, _⟩ := HCL.out k hlt
          obtain ⟨b2, off2, rfl, hbs2, d1⟩ := HCU.out k hlt
          have hk0 : 0 ≤ (k : Int) := by omega
          have hk1 : (k : Int) < (ps.length : Int) := by omega
          have LB := HLB.out k hlt
          have HIk := HI.out k
          have N := Lib.hid (NO.out k hlt)
          have Y := Lib.hid (show inP ps zs k = true → ∀ j, j < k + 1 → inP ps zs j = true from fun h j hj => by
            by_cases e : j = k
            · subst e; exact h
            · exact HA.out j (by omega))
          generalize inP ps zs k = g at N Y HIk
          generalize zAt zs k = z at d1 HIk
          generalize lbAt ps k = p at c3 hx LB HIk
          obtain ⟨ax, cx, rfl, _⟩ := hx
          generalize p.2.2.1.length = L at c3 LB HIk
          have kw : IntKind.i64.wrap ((L : Int) - 1) = (L : Int) - 1 := IntWalk.i64_in _ (by omega)
          have H2 := HIk.symm
          clear HIk
          cases g with
          | false =>
            obtain rfl := N.out rfl
            go_wp2_with fail
            go_quiet ((go_at_call 108; exact (l00InL _ H2).mono fun _ _ h => ⟨h.1, _, h.2⟩))
            all_goals
              go_wp2
              go_ret
              exact ⟨rfl, by first | exact ⟨_, rfl⟩ | exact ⟨_, World.drewN_drewN _ _ _⟩ | exact ⟨_, (World.drew_drewN _ _).symm⟩⟩
          | true =>
            have Y2 := Lib.hid (Y.out rfl)
            go_wp2_with fail
            go_quiet ((go_at_call 108; exact (l00InL _ H2).mono fun _ _ h => ⟨h.1, _, h.2⟩))
            all_goals
              go_wp2
              go_roundw
              case rel => exact ⟨k + 1, _, by omega, by go_num, Y2.out, by first | rfl | exact World.drewN_drewN _ _ _ | exact (World.drew_drewN _ _).symm⟩
              case measure => simp [intOf]; omega
        · obtain rfl : k = ps.length := by omega
          obtain rfl := YES.out HA.out
          go_wp2
          go_ret
          exact ⟨rfl, n, rfl⟩
    · have RR := Lib.hid (show codeK ps zs = 2 by rw [E.out, h1, show placesOk ps zs = false by simp [placesOk, hlen]]; rfl)
      rw [RR.out]
      have hne : decide ((zs.length : Int) = (ps.length : Int)) = false := by simpa using fun h => hlen (by omega)
      have hne2 : ((zs.length : Int) == (ps.length : Int)) = false := by simpa using fun h => hlen (by omega)
      have hne3 : ¬ (zs.length : Int) = (ps.length : Int) := fun h => hlen (by omega)
      clear hlen
      go_enter Try.func110, Try.ntmps110
      go_wp2_with fail
      refine OK.out.mono ?_
      rintro e w1 ⟨rfl, q, rfl⟩
      go_wp2
      go_ret
      exact ⟨rfl, q, rfl⟩
end Go.Proofs.Ytmfjpmimkpldjaa.ltab
