/- The model's drawn lists of chains. -/
import Derived.Test.YtemhmejjmhbfdaaRing
import Derived.Test.YtemhmejjmhbfdaaCTab
namespace Go.Proofs.Ytemhmejjmhbfdaa.srcP
open Go.ChangeShapes Go.WideShapes Go.ChangeAt Go.RowKit Go.Proofs.Ytemhmejjmhbfdaa.irows Go.Proofs.Ytemhmejjmhbfdaa.pairsPlace Go.Proofs.Ytemhmejjmhbfdaa.src Go.Proofs.Ytemhmejjmhbfdaa.sines Go.Proofs.Ytemhmejjmhbfdaa.ctab
set_option linter.unusedSimpArgs false
set_option linter.unusedVariables false

/-- A list of slices, each one a row of the call's own. -/
def DT (w : World) (B : Nat) (v : Value) (vs : List Value) (rows : List (List Pl)) : Prop :=
  w.ownsRow B 52 1 v rows.length vs ∧ vs.length = rows.length ∧ ∀ (k : Nat) (x : Value) (zs : List Pl), vs[k]? = some x → rows[k]? = some zs → PRow w B x zs
theorem own_ne {w : World} {B B' n m : Nat} {x v : Value} {xs vs : List Value} (hx : w.ownsRow B 60 2 x n xs) (hv : w.ownsRow B' 52 1 v m vs) : x.ownBlock = none ∨ x.ownBlock ≠ v.ownBlock := by
  rcases hx.2 with ⟨h, _⟩ | ⟨g, c, cur, h, _, hg, _⟩
  · rw [h]; exact .inl rfl
  · rcases hv.2 with ⟨k, _⟩ | ⟨g2, c2, cur2, k, _, hg2, _⟩
    · rw [h, k]; exact .inr (by simp [Value.ownBlock])
    · rw [h, k]
      refine .inr fun e => ?_
      simp [Value.ownBlock] at e
      subst e
      rw [hg] at hg2
      simp at hg2
theorem dt_alloc {w : World} {B : Nat} {v : Value} {vs : List Value} {rows : List (List Pl)} (h : DT w B v vs rows) (ob : Obj) : DT (w.alloc ob) B v vs rows :=
  ⟨World.ownsRow.alloc h.1 _, h.2.1, fun k x zs hx hz => World.ownsRow.alloc (h.2.2 k x zs hx hz) _⟩
theorem dt_keep {w w' : World} {B : Nat} {v : Value} {vs : List Value} {rows : List (List Pl)} (h : DT w B v vs rows) (hb : Below w.heap.size w w') : DT w' B v vs rows :=
  ⟨own_keep h.1 hb, h.2.1, fun k x zs hx hz => prow_keep (h.2.2 k x zs hx hz) hb⟩
theorem dt_src {W0 w w' : World} {B : Nat} {v : Value} {vs : List Value} {rows : List (List Pl)} (h : DT w W0.heap.size v vs rows) (hB : B < W0.heap.size) (hg : w.grownBy w' (some B)) : DT w' W0.heap.size v vs rows := by
  refine ⟨World.ownsRow.kept h.1 hg ?_, h.2.1, fun k x zs hx hz => row_src (h.2.2 k x zs hx hz) hB hg⟩
  cases hv : v.ownBlock with
  | none => exact .inl rfl
  | some k =>
    refine .inr fun e => ?_
    have h1 := (World.ownsRow.lt h.1 k hv).1
    cases e
    omega
theorem dt_snoc {w w' : World} {B : Nat} {v v' x : Value} {vs : List Value} {rows : List (List Pl)} {zs : List Pl} (h : DT w B v vs rows) (hx : PRow w B x zs) (hown : w'.ownsRow B 52 1 v' (rows.length + 1) (vs ++ [x])) (hg : w.grownBy w' v.ownBlock) : DT w' B v' (vs ++ [x]) (rows ++ [zs]) := by
  refine ⟨by simpa using hown, by simp [h.2.1], fun k y ys hy hz => ?_⟩
  by_cases hk : k < vs.length
  · rw [List.getElem?_append_left hk] at hy
    rw [List.getElem?_append_left (by rw [← h.2.1]; exact hk)] at hz
    have hr := h.2.2 k y ys hy hz
    exact World.ownsRow.kept hr hg (own_ne hr h.1)
  · have hk2 : k < (vs ++ [x]).length := (List.getElem?_eq_some_iff.1 hy).1
    have hk3 : k = vs.length := by simp at hk2; omega
    subst hk3
    rw [List.getElem?_append_right (Nat.le_refl _), Nat.sub_self] at hy
    rw [h.2.1, List.getElem?_append_right (Nat.le_refl _), Nat.sub_self] at hz
    simp at hy hz
    subst hy hz
    exact World.ownsRow.kept hx hg (own_ne hx h.1)
theorem dt_at {w : World} {B : Nat} {v : Value} {vs : List Value} {rows : List (List Pl)} (h : DT w B v vs rows) : CAt w w.heap.size v rows := by
  obtain ⟨h1, h2, h3⟩ := h
  rcases h1.2 with ⟨hv, h0⟩ | ⟨g, cap, cur, hv, hB, hc, _⟩
  · exact ⟨none, 0, by rw [hv, h0], fun k hk => by omega⟩
  · refine ⟨some ⟨g, 0, none⟩, cap, hv, fun k hk => ?_⟩
    have hk2 : k < vs.length := by omega
    have hr := h3 k vs[k] rows[k] (List.getElem?_eq_getElem hk2) (List.getElem?_eq_getElem hk)
    refine ⟨g, 0, vs[k], rfl, (Array.getElem?_eq_some_iff.1 hc).1, ?_, prow_at hr, prow_capOk hr⟩
    rw [hv] at h1
    rw [Nat.zero_add, World.ownsRow.cellAt h1 k (by omega), List.getElem?_eq_getElem hk2]
theorem dt_form {w : World} {B : Nat} {v : Value} {vs : List Value} {rows : List (List Pl)} (h : DT w B v vs rows) : ∃ a c, v = .slice a rows.length c := by
  rcases h.1.2 with ⟨hv, h0⟩ | ⟨g, cap, cur, hv, _⟩
  · exact ⟨none, 0, by rw [hv, h0]⟩
  · exact ⟨_, cap, hv⟩
def lenOf (v : Value) : Nat := match v with | .slice _ n _ => n | _ => 0
theorem dt_nil (w : World) (B : Nat) (h : B ≤ w.heap.size) : DT (w.alloc (.cells #[] 52)) B (.slice (some ⟨w.heap.size, 0, none⟩) 0 0) [] [] :=
  ⟨World.ownsRow_made w #[] 0 h (by decide) rfl, rfl, fun k x zs hx _ => by simp at hx⟩
theorem own_zero' {w : World} {B n : Nat} {v : Value} {ps : List (Int × Int)} (hn : ps.length = n) (h : w.ownsRow B 60 2 v (0 + n) ([] ++ ints (flat ps))) : PRow w B v ps := by
  subst hn; exact own_zero h
theorem one_slice (a : Option Addr) (n c : Nat) : ∀ u ∈ ([.slice a n c] : List Value), u.oneCell' = true := fun u hu => by simp at hu; subst hu; rfl
theorem pat_take {w : World} {B k n c : Nat} {a : Option Addr} {ps : List Pl} (h : PAt w B (.slice a n c) ps) (hk : k ≤ ps.length) : PAt w B (.slice a k c) (ps.take k) := by
  obtain ⟨a', c', e, h⟩ := h
  cases e
  refine ⟨a, c, by simp; omega, fun i hi => ?_⟩
  have hi2 : i < ps.length := by simp at hi; omega
  obtain ⟨b, off, e1, e2, e3, e4⟩ := h i hi2
  exact ⟨b, off, e1, e2, by rw [List.getElem_take]; exact e3, by rw [List.getElem_take]; exact e4⟩
theorem pat_drop {w : World} {B b off k n c : Nat} {ps : List Pl} (h : PAt w B (.slice (some ⟨b, off, none⟩) n c) ps) (hk : k ≤ ps.length) : PAt w B (.slice (some ⟨b, off + k * 2, none⟩) (n - k) (c - k)) (ps.drop k) := by
  obtain ⟨a, c', e, h⟩ := h
  injection e with e1 e2 e3
  subst e1 e2 e3
  refine ⟨some ⟨b, off + k * 2, none⟩, c - k, by simp, fun i hi => ?_⟩
  have hi2 : k + i < ps.length := by simp at hi; omega
  obtain ⟨b', off', e4, hb, c1, c2⟩ := h (k + i) hi2
  simp only [Option.some.injEq, Addr.mk.injEq, and_true] at e4
  obtain ⟨rfl, rfl⟩ := e4
  refine ⟨b, off + k * 2, rfl, hb, ?_, ?_⟩
  · rw [show off + k * 2 + i * 2 = off + (k + i) * 2 by omega, c1]; simp
  · rw [show off + k * 2 + i * 2 + 1 = off + (k + i) * 2 + 1 by omega, c2]; simp
set_option maxRecDepth 100000 in
set_option maxHeartbeats 8000000 in
theorem l10Parts_any {W0 : World} (w : World) (B : Nat) (a : Option Addr) (len cap : Nat) (m : Int) (h : St W0 w B a len cap m) (hm : m ≤ 300) :
    Calls Try.prog 134 #[.pointer (some ⟨B, 0, none⟩)] w fun e w' => ∃ u rows, e = .returned u ∧ rows.length ≤ 10 ∧ (∀ zs ∈ rows, zs.length ≤ 24) ∧ CAt w' w'.heap.size u rows ∧ St W0 w' B a len cap (m + 400) ∧ w.grownBy w' (some B) := by
  obtain ⟨i0, hi, hz0, hz1, hz2⟩ := info_parts info_pair
  obtain ⟨i1, hi1, hy0, hy1, hy2⟩ := info_parts info_rowC
  have H0 := Lib.hid h
  have S0 := Lib.hid (st_alloc (st_self h) (.cells #[] 52))
  have D0 := Lib.hid (dt_nil w w.heap.size (Nat.le_refl _))
  have hB : B < w.heap.size := (st_self h).2.2.2
  clear h
  go_enter Try.func134, Try.ntmps134
  go_wp2_with fail
  refine (pick_keep 3 S0.out (by omega) (by decide) (by decide)).mono ?_
  rintro e w1 ⟨K, rfl, K0, K1, s2, g3⟩
  have S4 := Lib.hid s2
  have D5 := Lib.hid (dt_src D0.out hB g3)
  clear s2 g3
  obtain ⟨K, rfl⟩ := Int.eq_ofNat_of_zero_le K0
  have hK : K < 3 := by omega
  go_wp2
  go_loopw [3, 4] (fun u i wr => ∃ (j : Nat) (vs : List Value) (rows : List (List Pl)), j ≤ K ∧ i = .int .i64 ((K : Int) - (j : Int)) ∧ DT wr w.heap.size u vs rows ∧ rows.length ≤ 3 * j ∧ (∀ zs ∈ rows, zs.length ≤ 24) ∧ St w wr B a len cap (m + 2 + 24 * (j : Int))) (fun _ i _ => (intOf i).toNat)
  case atStart => exact ⟨0, [], [], Nat.zero_le _, by simp, D5.out, by simp, (fun zs hz => by simp at hz), st_le S4.out (by omega)⟩
  case round =>
    obtain ⟨j, vs, rows, hj, rfl, hd, hrl, hall, hs⟩ := hrel
    have DD := Lib.hid hd
    have SS := Lib.hid hs
    have RL := Lib.hid hrl
    have AL := Lib.hid hall
    clear hd hs hall
    by_cases hlt : j < K
    · have k1 : 0 < (K : Int) - (j : Int) := by omega
      have k2 : IntKind.i64.wrap ((K : Int) - (j : Int) - 1) = (K : Int) - (j : Int) - 1 := IntWalk.i64_in _ (by omega)
      clear hrl
      go_wp2_with fail
      refine (l10Ring_any wr B a len cap _ SS.out (by omega)).mono ?_
      rintro e w6 ⟨ur, PS, rfl, hpl, hr, hs, hg⟩
      have HPL := Lib.hid hpl
      have SR := Lib.hid hs
      have DR := Lib.hid (dt_src DD.out hB hg)
      have RR := Lib.hid (prow_up hr SS.out.2.1.size)
      obtain ⟨gr, cr, er⟩ := prow_form hr (by omega)
      rw [hpl] at er
      subst er
      have hcr : 6 ≤ cr := prow_capOk hr _ _ _ rfl
      clear hr hs hg hpl
      have LPS := Lib.hid (show PS.length ≤ 24 by have := HPL.out; omega)
      have k6 : IntKind.i64.wrap (6 - 2) = 4 := by decide
      go_wp2_with fail
      refine (pick_keep 4 SR.out (by omega) (by decide) (by decide)).mono ?_
      rintro e w7 ⟨v, rfl, v0, v1, s8, g9⟩
      have S10 := Lib.hid s8
      have R11 := Lib.hid (row_src RR.out hB g9)
      have D12 := Lib.hid (dt_src DR.out hB g9)
      clear s8 g9
      obtain ⟨V, rfl⟩ := Int.eq_ofNat_of_zero_le v0
      have hV : V < 4 := by omega
      have q1 : IntKind.i64.wrap (1 + (V : Int)) = 1 + (V : Int) := IntWalk.i64_in _ (by omega)
      have q2 : IntKind.i64.wrap (1 + (V : Int) + 1) = 1 + (V : Int) + 1 := IntWalk.i64_in _ (by omega)
      have q3 : (1 + (V : Int) + 1).toNat = V + 2 := by omega
      have q4 : (1 + (V : Int)).toNat = V + 1 := by omega
      have q5 : 0 ≤ 1 + (V : Int) + 1 := by omega
      have q6 : 1 + (V : Int) + 1 ≤ (cr : Int) := by omega
      have q7 : 0 ≤ 1 + (V : Int) := by omega
      have q8 : 1 + (V : Int) ≤ 6 := by omega
      have q9 : ¬ cr = V + 1 := by omega
      have qa : (6 : Int) ≤ (cr : Int) := by omega
      go_wp2_with (first
        | (at_builtin
           refine wpList_append_own _ rfl _ _ 52 rfl w.heap.size 60 i0 (.agg #[.int .i64 0, .int .i64 0]) 2 16 Try.underlying52 hi hz0 hz1 hz2 rfl (by decide) (.slice (some ⟨w7.heap.size, 0, none⟩) 0 0) 0 [] (by simp [Act.eval, Act.put]) (prow_made w7 _ S10.out.2.1.size) ⟨gr, 0, none⟩ (V + 2) cr (ints (flat (PS.take (V + 2)))) (by simp [Act.eval, Act.put]) (by rw [ints_flat_len']; have := HPL.out; simp; omega) (pat_flat' (pat_keep (pat_take (k := V + 2) (by have h := prow_at R11.out; exact h) (by have := HPL.out; omega)) ((Below.refl w7.heap.size w7).alloc (Nat.le_refl _) _))) (ints_one _) (by unfold maxLen; omega) (by omega) (by have := S10.out.2.1.size; simp; omega) ?_
           intro v14 w13 h15 g16 _
           have b17 := Lib.hid (show Below w7.heap.size w7 w13 from ((Below.refl w7.heap.size w7).alloc (Nat.le_refl _) _).grown g16 (by simp) (fun j hj => by cases hj; exact Nat.le_refl _))
           have R18 := Lib.hid (show PRow w13 w.heap.size v14 (PS.take (V + 2)) from own_zero' (by have := HPL.out; simp; omega) h15)
           clear h15 g16
           have S19 := Lib.hid (st_own S10.out (below_grown b17.out none) (fun k hk => by cases hk))
           have R20 := Lib.hid (prow_keep R11.out b17.out)
           have D21 := Lib.hid (dt_keep D12.out b17.out)
           obtain ⟨z26, hz26⟩ : ∃ z, Hid (PS.take (V + 2) = z) := ⟨_, Lib.hid rfl⟩
           rw [hz26.out] at R18
           have Lz26 := Lib.hid (show z26.length ≤ 24 by rw [← hz26.out]; have := HPL.out; simp; omega)
           obtain ⟨a22, c23, e24, _⟩ := prow_at R18.out
           subst e24)
        | (at_builtin
           refine wpList_append_own _ rfl _ _ 52 rfl w.heap.size 60 i0 (.agg #[.int .i64 0, .int .i64 0]) 2 16 Try.underlying52 hi hz0 hz1 hz2 rfl (by decide) (.slice (some ⟨w13.heap.size, 0, none⟩) 0 0) 0 [] (by simp [Act.eval, Act.put]) (prow_made w13 _ S19.out.2.1.size) ⟨gr, 0 + (V + 1) * 2, none⟩ (6 - (V + 1)) (cr - (V + 1)) (ints (flat (PS.drop (V + 1)))) (by simp [Act.eval, Act.put]) (by rw [ints_flat_len']; have := HPL.out; simp; omega) (pat_flat' (pat_keep (pat_drop (k := V + 1) (by have h := prow_at R20.out; exact h) (by have := HPL.out; omega)) ((Below.refl w13.heap.size w13).alloc (Nat.le_refl _) _))) (ints_one _) (by unfold maxLen; omega) (by omega) (by have := S19.out.2.1.size; simp; omega) ?_
           intro v28 w27 h29 g30 _
           have b31 := Lib.hid (show Below w13.heap.size w13 w27 from ((Below.refl w13.heap.size w13).alloc (Nat.le_refl _) _).grown g30 (by simp) (fun j hj => by cases hj; exact Nat.le_refl _))
           have R32 := Lib.hid (show PRow w27 w.heap.size v28 (PS.drop (V + 1)) from own_zero' (by have := HPL.out; simp; omega) h29)
           clear h29 g30
           have S33 := Lib.hid (st_own S19.out (below_grown b31.out none) (fun k hk => by cases hk))
           have R34 := Lib.hid (prow_keep R20.out b31.out)
           have R35 := Lib.hid (prow_keep R18.out b31.out)
           have D36 := Lib.hid (dt_keep D21.out b31.out)
           obtain ⟨z41, hz41⟩ : ∃ z, Hid (PS.drop (V + 1) = z) := ⟨_, Lib.hid rfl⟩
           rw [hz41.out] at R32
           have Lz41 := Lib.hid (show z41.length ≤ 24 by rw [← hz41.out]; have := HPL.out; simp; omega)
           obtain ⟨a37, c38, e39, _⟩ := prow_at R32.out
           subst e39))
      go_wp2_with fail
      refine (one_keep 2 S33.out (by omega) (by decide) (by decide)).mono ?_
      rintro e w43 ⟨b42, rfl, s44, g45⟩
      have S46 := Lib.hid s44
      have R47 := Lib.hid (row_src R34.out hB g45)
      have R48 := Lib.hid (row_src R35.out hB g45)
      have R49 := Lib.hid (row_src R32.out hB g45)
      have D50 := Lib.hid (dt_src D36.out hB g45)
      clear s44 g45
      cases b42 with
      | false =>
        have D57 := Lib.hid (dt_alloc D50.out (.cells #[(Value.slice a22 z26.length c23)] 52))
        go_wp2_with (at_builtin; refine wpList_append_own _ rfl _ _ 64 rfl w.heap.size 52 i1 (.slice none 0 0) 1 24 Try.underlying64 hi1 hy0 hy1 hy2 rfl (by decide) _ rows.length vs rfl D57.out.1 ⟨w43.heap.size, 0, none⟩ 1 1 [(Value.slice a22 z26.length c23)] rfl rfl (cell_one_new _ _ _) (one_slice _ _ _) (by have := RL.out; unfold maxLen; simp; omega) (by have := RL.out; simp; omega) (by have := S46.out.2.1.size; simp; omega) ?_; intro v52 w51 h53 g54 _)
        have R58 := Lib.hid (World.ownsRow.kept (World.ownsRow.alloc R47.out _) g54 (own_ne (World.ownsRow.alloc R47.out _) D57.out.1))
        have R59 := Lib.hid (World.ownsRow.kept (World.ownsRow.alloc R48.out _) g54 (own_ne (World.ownsRow.alloc R48.out _) D57.out.1))
        have R60 := Lib.hid (World.ownsRow.kept (World.ownsRow.alloc R49.out _) g54 (own_ne (World.ownsRow.alloc R49.out _) D57.out.1))
        have S56 := Lib.hid (st_own (st_alloc S46.out _) g54 (fun k hk => (World.ownsRow.lt D57.out.1 k hk).1))
        have D55 := Lib.hid (dt_snoc D57.out (World.ownsRow.alloc R48.out _) h53 g54)
        clear h53 g54
        go_wp2_with fail
        refine (one_keep 4 S56.out (by omega) (by decide) (by decide)).mono ?_
        rintro e w62 ⟨b61, rfl, s63, g64⟩
        have S65 := Lib.hid s63
        have R66 := Lib.hid (row_src R58.out hB g64)
        have R67 := Lib.hid (row_src R59.out hB g64)
        have R68 := Lib.hid (row_src R60.out hB g64)
        have D69 := Lib.hid (dt_src D55.out hB g64)
        clear s63 g64
        cases b61 with
        | false =>
          have D76 := Lib.hid (dt_alloc D69.out (.cells #[(Value.slice a37 z41.length c38)] 52))
          go_wp2_with (at_builtin; refine wpList_append_own _ rfl _ _ 64 rfl w.heap.size 52 i1 (.slice none 0 0) 1 24 Try.underlying64 hi1 hy0 hy1 hy2 rfl (by decide) _ (rows ++ [z26]).length (vs ++ [(Value.slice a22 z26.length c23)]) rfl D76.out.1 ⟨w62.heap.size, 0, none⟩ 1 1 [(Value.slice a37 z41.length c38)] rfl rfl (cell_one_new _ _ _) (one_slice _ _ _) (by have := RL.out; unfold maxLen; simp; omega) (by have := RL.out; simp; omega) (by have := S65.out.2.1.size; simp; omega) ?_; intro v71 w70 h72 g73 _)
          have R77 := Lib.hid (World.ownsRow.kept (World.ownsRow.alloc R66.out _) g73 (own_ne (World.ownsRow.alloc R66.out _) D76.out.1))
          have R78 := Lib.hid (World.ownsRow.kept (World.ownsRow.alloc R67.out _) g73 (own_ne (World.ownsRow.alloc R67.out _) D76.out.1))
          have R79 := Lib.hid (World.ownsRow.kept (World.ownsRow.alloc R68.out _) g73 (own_ne (World.ownsRow.alloc R68.out _) D76.out.1))
          have S75 := Lib.hid (st_own (st_alloc S65.out _) g73 (fun k hk => (World.ownsRow.lt D76.out.1 k hk).1))
          have D74 := Lib.hid (dt_snoc D76.out (World.ownsRow.alloc R68.out _) h72 g73)
          clear h72 g73
          go_wp2_with fail
          refine (one_keep 3 S75.out (by omega) (by decide) (by decide)).mono ?_
          rintro e w81 ⟨b80, rfl, s82, g83⟩
          have S84 := Lib.hid s82
          have R85 := Lib.hid (row_src R77.out hB g83)
          have R86 := Lib.hid (row_src R78.out hB g83)
          have R87 := Lib.hid (row_src R79.out hB g83)
          have D88 := Lib.hid (dt_src D74.out hB g83)
          clear s82 g83
          cases b80 with
          | false =>
            go_wp2
            go_roundw
            case rel => exact ⟨j + 1, _, _, by omega, by go_num, D88.out, by have := RL.out; simp; omega, (fun zs hz => by simp only [List.mem_append, List.mem_singleton] at hz; rcases hz with (hz | rfl) | rfl; exact AL.out _ hz; exact Lz26.out; exact Lz41.out), st_le S84.out (by omega)⟩
            case measure => simp [intOf]; omega
          | true =>
            have D95 := Lib.hid (dt_alloc D88.out (.cells #[(Value.slice (some ⟨gr, 0, none⟩) 6 cr)] 52))
            go_wp2_with (at_builtin; refine wpList_append_own _ rfl _ _ 64 rfl w.heap.size 52 i1 (.slice none 0 0) 1 24 Try.underlying64 hi1 hy0 hy1 hy2 rfl (by decide) _ ((rows ++ [z26]) ++ [z41]).length ((vs ++ [(Value.slice a22 z26.length c23)]) ++ [(Value.slice a37 z41.length c38)]) rfl D95.out.1 ⟨w81.heap.size, 0, none⟩ 1 1 [(Value.slice (some ⟨gr, 0, none⟩) 6 cr)] rfl rfl (cell_one_new _ _ _) (one_slice _ _ _) (by have := RL.out; unfold maxLen; simp; omega) (by have := RL.out; simp; omega) (by have := S84.out.2.1.size; simp; omega) ?_; intro v90 w89 h91 g92 _)
            have R96 := Lib.hid (World.ownsRow.kept (World.ownsRow.alloc R85.out _) g92 (own_ne (World.ownsRow.alloc R85.out _) D95.out.1))
            have R97 := Lib.hid (World.ownsRow.kept (World.ownsRow.alloc R86.out _) g92 (own_ne (World.ownsRow.alloc R86.out _) D95.out.1))
            have R98 := Lib.hid (World.ownsRow.kept (World.ownsRow.alloc R87.out _) g92 (own_ne (World.ownsRow.alloc R87.out _) D95.out.1))
            have S94 := Lib.hid (st_own (st_alloc S84.out _) g92 (fun k hk => (World.ownsRow.lt D95.out.1 k hk).1))
            have D93 := Lib.hid (dt_snoc D95.out (World.ownsRow.alloc R85.out _) h91 g92)
            clear h91 g92
            go_wp2
            go_roundw
            case rel => exact ⟨j + 1, _, _, by omega, by go_num, D93.out, by have := RL.out; simp; omega, (fun zs hz => by simp only [List.mem_append, List.mem_singleton] at hz; rcases hz with ((hz | rfl) | rfl) | rfl; exact AL.out _ hz; exact Lz26.out; exact Lz41.out; exact LPS.out), st_le S94.out (by omega)⟩
            case measure => simp [intOf]; omega
        | true =>
          go_wp2_with fail
          refine (one_keep 3 S65.out (by omega) (by decide) (by decide)).mono ?_
          rintro e w100 ⟨b99, rfl, s101, g102⟩
          have S103 := Lib.hid s101
          have R104 := Lib.hid (row_src R66.out hB g102)
          have R105 := Lib.hid (row_src R67.out hB g102)
          have R106 := Lib.hid (row_src R68.out hB g102)
          have D107 := Lib.hid (dt_src D69.out hB g102)
          clear s101 g102
          cases b99 with
          | false =>
            go_wp2
            go_roundw
            case rel => exact ⟨j + 1, _, _, by omega, by go_num, D107.out, by have := RL.out; simp; omega, (fun zs hz => by simp only [List.mem_append, List.mem_singleton] at hz; rcases hz with hz | rfl; exact AL.out _ hz; exact Lz26.out), st_le S103.out (by omega)⟩
            case measure => simp [intOf]; omega
          | true =>
            have D114 := Lib.hid (dt_alloc D107.out (.cells #[(Value.slice (some ⟨gr, 0, none⟩) 6 cr)] 52))
            go_wp2_with (at_builtin; refine wpList_append_own _ rfl _ _ 64 rfl w.heap.size 52 i1 (.slice none 0 0) 1 24 Try.underlying64 hi1 hy0 hy1 hy2 rfl (by decide) _ (rows ++ [z26]).length (vs ++ [(Value.slice a22 z26.length c23)]) rfl D114.out.1 ⟨w100.heap.size, 0, none⟩ 1 1 [(Value.slice (some ⟨gr, 0, none⟩) 6 cr)] rfl rfl (cell_one_new _ _ _) (one_slice _ _ _) (by have := RL.out; unfold maxLen; simp; omega) (by have := RL.out; simp; omega) (by have := S103.out.2.1.size; simp; omega) ?_; intro v109 w108 h110 g111 _)
            have R115 := Lib.hid (World.ownsRow.kept (World.ownsRow.alloc R104.out _) g111 (own_ne (World.ownsRow.alloc R104.out _) D114.out.1))
            have R116 := Lib.hid (World.ownsRow.kept (World.ownsRow.alloc R105.out _) g111 (own_ne (World.ownsRow.alloc R105.out _) D114.out.1))
            have R117 := Lib.hid (World.ownsRow.kept (World.ownsRow.alloc R106.out _) g111 (own_ne (World.ownsRow.alloc R106.out _) D114.out.1))
            have S113 := Lib.hid (st_own (st_alloc S103.out _) g111 (fun k hk => (World.ownsRow.lt D114.out.1 k hk).1))
            have D112 := Lib.hid (dt_snoc D114.out (World.ownsRow.alloc R104.out _) h110 g111)
            clear h110 g111
            go_wp2
            go_roundw
            case rel => exact ⟨j + 1, _, _, by omega, by go_num, D112.out, by have := RL.out; simp; omega, (fun zs hz => by simp only [List.mem_append, List.mem_singleton] at hz; rcases hz with (hz | rfl) | rfl; exact AL.out _ hz; exact Lz26.out; exact LPS.out), st_le S113.out (by omega)⟩
            case measure => simp [intOf]; omega
      | true =>
        go_wp2_with fail
        refine (l10Back_any _ z41 w43 (by have h := prow_at R49.out; exact h) Lz41.out).mono ?_
        rintro e w118 ⟨ub, rfl, hrb, hbb⟩
        have S119 := Lib.hid (st_own S46.out (below_grown hbb none) (fun k hk => by cases hk))
        have R120 := Lib.hid (prow_keep R47.out hbb)
        have R121 := Lib.hid (prow_keep R48.out hbb)
        have R122 := Lib.hid (prow_keep R49.out hbb)
        have D123 := Lib.hid (dt_keep D50.out hbb)
        have RB := Lib.hid (prow_up hrb S46.out.2.1.size)
        obtain ⟨z124, hz124⟩ : ∃ z, Hid (z41.reverse = z) := ⟨_, Lib.hid rfl⟩
        rw [hz124.out] at RB
        have Lz124 := Lib.hid (show z124.length ≤ 24 by rw [← hz124.out, List.length_reverse]; exact Lz41.out)
        obtain ⟨ab, cb, eb, _⟩ := prow_at RB.out
        subst eb
        clear hrb hbb
        have D131 := Lib.hid (dt_alloc D123.out (.cells #[(Value.slice a22 z26.length c23)] 52))
        go_wp2_with (at_builtin; refine wpList_append_own _ rfl _ _ 64 rfl w.heap.size 52 i1 (.slice none 0 0) 1 24 Try.underlying64 hi1 hy0 hy1 hy2 rfl (by decide) _ rows.length vs rfl D131.out.1 ⟨w118.heap.size, 0, none⟩ 1 1 [(Value.slice a22 z26.length c23)] rfl rfl (cell_one_new _ _ _) (one_slice _ _ _) (by have := RL.out; unfold maxLen; simp; omega) (by have := RL.out; simp; omega) (by have := S119.out.2.1.size; simp; omega) ?_; intro v126 w125 h127 g128 _)
        have R132 := Lib.hid (World.ownsRow.kept (World.ownsRow.alloc R120.out _) g128 (own_ne (World.ownsRow.alloc R120.out _) D131.out.1))
        have R133 := Lib.hid (World.ownsRow.kept (World.ownsRow.alloc R121.out _) g128 (own_ne (World.ownsRow.alloc R121.out _) D131.out.1))
        have R134 := Lib.hid (World.ownsRow.kept (World.ownsRow.alloc RB.out _) g128 (own_ne (World.ownsRow.alloc RB.out _) D131.out.1))
        have S130 := Lib.hid (st_own (st_alloc S119.out _) g128 (fun k hk => (World.ownsRow.lt D131.out.1 k hk).1))
        have D129 := Lib.hid (dt_snoc D131.out (World.ownsRow.alloc R121.out _) h127 g128)
        clear h127 g128
        go_wp2_with fail
        refine (one_keep 4 S130.out (by omega) (by decide) (by decide)).mono ?_
        rintro e w136 ⟨b135, rfl, s137, g138⟩
        have S139 := Lib.hid s137
        have R140 := Lib.hid (row_src R132.out hB g138)
        have R141 := Lib.hid (row_src R133.out hB g138)
        have R142 := Lib.hid (row_src R134.out hB g138)
        have D143 := Lib.hid (dt_src D129.out hB g138)
        clear s137 g138
        cases b135 with
        | false =>
          have D150 := Lib.hid (dt_alloc D143.out (.cells #[(Value.slice ab z124.length cb)] 52))
          go_wp2_with (at_builtin; refine wpList_append_own _ rfl _ _ 64 rfl w.heap.size 52 i1 (.slice none 0 0) 1 24 Try.underlying64 hi1 hy0 hy1 hy2 rfl (by decide) _ (rows ++ [z26]).length (vs ++ [(Value.slice a22 z26.length c23)]) rfl D150.out.1 ⟨w136.heap.size, 0, none⟩ 1 1 [(Value.slice ab z124.length cb)] rfl rfl (cell_one_new _ _ _) (one_slice _ _ _) (by have := RL.out; unfold maxLen; simp; omega) (by have := RL.out; simp; omega) (by have := S139.out.2.1.size; simp; omega) ?_; intro v145 w144 h146 g147 _)
          have R151 := Lib.hid (World.ownsRow.kept (World.ownsRow.alloc R140.out _) g147 (own_ne (World.ownsRow.alloc R140.out _) D150.out.1))
          have R152 := Lib.hid (World.ownsRow.kept (World.ownsRow.alloc R141.out _) g147 (own_ne (World.ownsRow.alloc R141.out _) D150.out.1))
          have R153 := Lib.hid (World.ownsRow.kept (World.ownsRow.alloc R142.out _) g147 (own_ne (World.ownsRow.alloc R142.out _) D150.out.1))
          have S149 := Lib.hid (st_own (st_alloc S139.out _) g147 (fun k hk => (World.ownsRow.lt D150.out.1 k hk).1))
          have D148 := Lib.hid (dt_snoc D150.out (World.ownsRow.alloc R142.out _) h146 g147)
          clear h146 g147
          go_wp2_with fail
          refine (one_keep 3 S149.out (by omega) (by decide) (by decide)).mono ?_
          rintro e w155 ⟨b154, rfl, s156, g157⟩
          have S158 := Lib.hid s156
          have R159 := Lib.hid (row_src R151.out hB g157)
          have R160 := Lib.hid (row_src R152.out hB g157)
          have R161 := Lib.hid (row_src R153.out hB g157)
          have D162 := Lib.hid (dt_src D148.out hB g157)
          clear s156 g157
          cases b154 with
          | false =>
            go_wp2
            go_roundw
            case rel => exact ⟨j + 1, _, _, by omega, by go_num, D162.out, by have := RL.out; simp; omega, (fun zs hz => by simp only [List.mem_append, List.mem_singleton] at hz; rcases hz with (hz | rfl) | rfl; exact AL.out _ hz; exact Lz26.out; exact Lz124.out), st_le S158.out (by omega)⟩
            case measure => simp [intOf]; omega
          | true =>
            have D169 := Lib.hid (dt_alloc D162.out (.cells #[(Value.slice (some ⟨gr, 0, none⟩) 6 cr)] 52))
            go_wp2_with (at_builtin; refine wpList_append_own _ rfl _ _ 64 rfl w.heap.size 52 i1 (.slice none 0 0) 1 24 Try.underlying64 hi1 hy0 hy1 hy2 rfl (by decide) _ ((rows ++ [z26]) ++ [z124]).length ((vs ++ [(Value.slice a22 z26.length c23)]) ++ [(Value.slice ab z124.length cb)]) rfl D169.out.1 ⟨w155.heap.size, 0, none⟩ 1 1 [(Value.slice (some ⟨gr, 0, none⟩) 6 cr)] rfl rfl (cell_one_new _ _ _) (one_slice _ _ _) (by have := RL.out; unfold maxLen; simp; omega) (by have := RL.out; simp; omega) (by have := S158.out.2.1.size; simp; omega) ?_; intro v164 w163 h165 g166 _)
            have R170 := Lib.hid (World.ownsRow.kept (World.ownsRow.alloc R159.out _) g166 (own_ne (World.ownsRow.alloc R159.out _) D169.out.1))
            have R171 := Lib.hid (World.ownsRow.kept (World.ownsRow.alloc R160.out _) g166 (own_ne (World.ownsRow.alloc R160.out _) D169.out.1))
            have R172 := Lib.hid (World.ownsRow.kept (World.ownsRow.alloc R161.out _) g166 (own_ne (World.ownsRow.alloc R161.out _) D169.out.1))
            have S168 := Lib.hid (st_own (st_alloc S158.out _) g166 (fun k hk => (World.ownsRow.lt D169.out.1 k hk).1))
            have D167 := Lib.hid (dt_snoc D169.out (World.ownsRow.alloc R159.out _) h165 g166)
            clear h165 g166
            go_wp2
            go_roundw
            case rel => exact ⟨j + 1, _, _, by omega, by go_num, D167.out, by have := RL.out; simp; omega, (fun zs hz => by simp only [List.mem_append, List.mem_singleton] at hz; rcases hz with ((hz | rfl) | rfl) | rfl; exact AL.out _ hz; exact Lz26.out; exact Lz124.out; exact LPS.out), st_le S168.out (by omega)⟩
            case measure => simp [intOf]; omega
        | true =>
          go_wp2_with fail
          refine (one_keep 3 S139.out (by omega) (by decide) (by decide)).mono ?_
          rintro e w174 ⟨b173, rfl, s175, g176⟩
          have S177 := Lib.hid s175
          have R178 := Lib.hid (row_src R140.out hB g176)
          have R179 := Lib.hid (row_src R141.out hB g176)
          have R180 := Lib.hid (row_src R142.out hB g176)
          have D181 := Lib.hid (dt_src D143.out hB g176)
          clear s175 g176
          cases b173 with
          | false =>
            go_wp2
            go_roundw
            case rel => exact ⟨j + 1, _, _, by omega, by go_num, D181.out, by have := RL.out; simp; omega, (fun zs hz => by simp only [List.mem_append, List.mem_singleton] at hz; rcases hz with hz | rfl; exact AL.out _ hz; exact Lz26.out), st_le S177.out (by omega)⟩
            case measure => simp [intOf]; omega
          | true =>
            have D188 := Lib.hid (dt_alloc D181.out (.cells #[(Value.slice (some ⟨gr, 0, none⟩) 6 cr)] 52))
            go_wp2_with (at_builtin; refine wpList_append_own _ rfl _ _ 64 rfl w.heap.size 52 i1 (.slice none 0 0) 1 24 Try.underlying64 hi1 hy0 hy1 hy2 rfl (by decide) _ (rows ++ [z26]).length (vs ++ [(Value.slice a22 z26.length c23)]) rfl D188.out.1 ⟨w174.heap.size, 0, none⟩ 1 1 [(Value.slice (some ⟨gr, 0, none⟩) 6 cr)] rfl rfl (cell_one_new _ _ _) (one_slice _ _ _) (by have := RL.out; unfold maxLen; simp; omega) (by have := RL.out; simp; omega) (by have := S177.out.2.1.size; simp; omega) ?_; intro v183 w182 h184 g185 _)
            have R189 := Lib.hid (World.ownsRow.kept (World.ownsRow.alloc R178.out _) g185 (own_ne (World.ownsRow.alloc R178.out _) D188.out.1))
            have R190 := Lib.hid (World.ownsRow.kept (World.ownsRow.alloc R179.out _) g185 (own_ne (World.ownsRow.alloc R179.out _) D188.out.1))
            have R191 := Lib.hid (World.ownsRow.kept (World.ownsRow.alloc R180.out _) g185 (own_ne (World.ownsRow.alloc R180.out _) D188.out.1))
            have S187 := Lib.hid (st_own (st_alloc S177.out _) g185 (fun k hk => (World.ownsRow.lt D188.out.1 k hk).1))
            have D186 := Lib.hid (dt_snoc D188.out (World.ownsRow.alloc R178.out _) h184 g185)
            clear h184 g185
            go_wp2
            go_roundw
            case rel => exact ⟨j + 1, _, _, by omega, by go_num, D186.out, by have := RL.out; simp; omega, (fun zs hz => by simp only [List.mem_append, List.mem_singleton] at hz; rcases hz with (hz | rfl) | rfl; exact AL.out _ hz; exact Lz26.out; exact LPS.out), st_le S187.out (by omega)⟩
            case measure => simp [intOf]; omega
    · obtain rfl : j = K := by omega
      have k0 : (j : Int) - (j : Int) = 0 := by omega
      rw [k0]
      clear hrl k0
      go_wp2_with fail
      refine (one_keep 20 SS.out (by omega) (by decide) (by decide)).mono ?_
      rintro e w193 ⟨b192, rfl, s194, g195⟩
      have S196 := Lib.hid s194
      have D197 := Lib.hid (dt_src DD.out hB g195)
      clear s194 g195
      have RL0 := Lib.hid (show rows.length ≤ 6 by have := RL.out; omega)
      have RL2 := Lib.hid (show rows.length ≤ 9 by have := RL.out; omega)
      clear RL
      have RL := RL2
      clear RL2
      cases b192 with
      | false =>
        go_wp2_with fail
        refine (one_keep 10 S196.out (by have := RL.out; omega) (by decide) (by decide)).mono ?_
        rintro e w199 ⟨b198, rfl, s200, g201⟩
        have S202 := Lib.hid s200
        have D203 := Lib.hid (dt_src D197.out hB g201)
        clear s200 g201
        cases b198 with
        | false =>
          obtain ⟨a204, c205, e206⟩ := dt_form D203.out
          first | subst e206 | clear e206
          go_wp2
          go_ret
          exact ⟨_, _, rfl, by have := RL.out; simp; omega, AL.out, dt_at D203.out, st_le (st_trans H0.out S202.out) (by have := RL.out; omega), S202.out.2.1⟩
        | true =>
          go_wp2_with fail
          refine (l10Any_any w199 B a len cap _ S202.out (by have := RL.out; omega)).mono ?_
          rintro e w207 ⟨ux, z208, rfl, hpl, hr, hs, hg⟩
          have D209 := Lib.hid (dt_src D203.out hB hg)
          have R210 := Lib.hid (prow_up hr S202.out.2.1.size)
          have S211 := Lib.hid hs
          obtain ⟨ax, cx, ex, _⟩ := prow_at hr
          subst ex
          have Lz208 := Lib.hid (show z208.length ≤ 24 by omega)
          clear hr hs hg hpl
          have D218 := Lib.hid (dt_alloc D209.out (.cells #[(Value.slice ax z208.length cx)] 52))
          go_wp2_with (at_builtin; refine wpList_append_own _ rfl _ _ 64 rfl w.heap.size 52 i1 (.slice none 0 0) 1 24 Try.underlying64 hi1 hy0 hy1 hy2 rfl (by decide) _ rows.length vs rfl D218.out.1 ⟨w207.heap.size, 0, none⟩ 1 1 [(Value.slice ax z208.length cx)] rfl rfl (cell_one_new _ _ _) (one_slice _ _ _) (by have := RL.out; unfold maxLen; simp; omega) (by have := RL.out; simp; omega) (by have := S211.out.2.1.size; simp; omega) ?_; intro v213 w212 h214 g215 _)
          have S217 := Lib.hid (st_own (st_alloc S211.out _) g215 (fun k hk => (World.ownsRow.lt D218.out.1 k hk).1))
          have D216 := Lib.hid (dt_snoc D218.out (World.ownsRow.alloc R210.out _) h214 g215)
          clear h214 g215
          obtain ⟨a219, c220, e221⟩ := dt_form D216.out
          first | subst e221 | clear e221
          go_wp2
          go_ret
          exact ⟨_, _, rfl, by have := RL.out; simp; omega, (fun zs hz => by simp only [List.mem_append, List.mem_singleton] at hz; rcases hz with hz | rfl; exact AL.out _ hz; exact Lz208.out), dt_at D216.out, st_le (st_trans H0.out S217.out) (by have := RL.out; omega), S217.out.2.1⟩
      | true =>
        go_wp2_with fail
        refine (pick_keep 2 S196.out (by omega) (by decide) (by decide)).mono ?_
        rintro e w222 ⟨n, rfl, n0, n1, s223, g224⟩
        have S225 := Lib.hid s223
        have D226 := Lib.hid (dt_src D197.out hB g224)
        clear s223 g224
        obtain ⟨N, rfl⟩ := Int.eq_ofNat_of_zero_le n0
        have hN : N < 2 := by omega
        have x1 : IntKind.i64.wrap (8 + (N : Int)) = 8 + (N : Int) := IntWalk.i64_in _ (by omega)
        have hrN : Hid (rows.length ≤ 8) := Lib.hid (by have := RL0.out; omega)
        go_wp2
        go_loopw [3] (fun u wr => ∃ (vs : List Value) (rows : List (List Pl)), DT wr w.heap.size u vs rows ∧ rows.length ≤ 9 ∧ (∀ zs ∈ rows, zs.length ≤ 24) ∧ St w wr B a len cap (m + 60 + 12 * (rows.length : Int))) (fun u _ => 10 - lenOf u)
        case atStart => exact ⟨vs, rows, D226.out, by have := hrN.out; omega, AL.out, st_le S225.out (by omega)⟩
        case round =>
          clear RL AL hrN RL0
          obtain ⟨vs2, rows2, hd, hrl, hall, hs⟩ := hrel
          have DD := Lib.hid hd
          have SS := Lib.hid hs
          have RL := Lib.hid hrl
          have AL := Lib.hid hall
          obtain ⟨au, cu, eu⟩ := dt_form hd
          subst eu
          clear hd hs hall
          have y1 : IntKind.i64.wrap (rows2.length : Int) = (rows2.length : Int) := IntWalk.i64_in _ (by omega)
          by_cases hlt2 : rows2.length < 8 + N
          · have y2 : (rows2.length : Int) < 8 + (N : Int) := by omega
            have RQ := Lib.hid (show rows2.length ≤ 8 by omega)
            clear hrl
            go_wp2_with fail
            refine (l10Ring_any wr B a len cap _ SS.out (by have := RL.out; omega)).mono ?_
            rintro e w227 ⟨ur, PS, rfl, hpl, hr, hs, hg⟩
            have HPL := Lib.hid hpl
            have SR := Lib.hid hs
            have DR := Lib.hid (dt_src DD.out hB hg)
            have RR := Lib.hid (prow_up hr SS.out.2.1.size)
            obtain ⟨gr, cr, er⟩ := prow_form hr (by omega)
            rw [hpl] at er
            subst er
            clear hr hs hg hpl
            have LPS := Lib.hid (show PS.length ≤ 24 by have := HPL.out; omega)
            have D234 := Lib.hid (dt_alloc DR.out (.cells #[(Value.slice (some ⟨gr, 0, none⟩) 6 cr)] 52))
            go_wp2_with (at_builtin; refine wpList_append_own _ rfl _ _ 64 rfl w.heap.size 52 i1 (.slice none 0 0) 1 24 Try.underlying64 hi1 hy0 hy1 hy2 rfl (by decide) _ rows2.length vs2 rfl D234.out.1 ⟨w227.heap.size, 0, none⟩ 1 1 [(Value.slice (some ⟨gr, 0, none⟩) 6 cr)] rfl rfl (cell_one_new _ _ _) (one_slice _ _ _) (by have := RL.out; unfold maxLen; simp; omega) (by have := RL.out; simp; omega) (by have := SR.out.2.1.size; simp; omega) ?_; intro v229 w228 h230 g231 _)
            have S233 := Lib.hid (st_own (st_alloc SR.out _) g231 (fun k hk => (World.ownsRow.lt D234.out.1 k hk).1))
            have D232 := Lib.hid (dt_snoc D234.out (World.ownsRow.alloc RR.out _) h230 g231)
            clear h230 g231
            go_wp2
            go_roundw
            case rel => exact ⟨_, _, D232.out, by have := RQ.out; simp; omega, (fun zs hz => by simp only [List.mem_append, List.mem_singleton] at hz; rcases hz with hz | rfl; exact AL.out _ hz; exact LPS.out), st_le S233.out (by simp; omega)⟩
            case measure => obtain ⟨ay, cy, ey⟩ := dt_form D232.out; rw [ey]; have := RQ.out; simp [lenOf]; omega
          · have y2 : ¬ (rows2.length : Int) < 8 + (N : Int) := by omega
            clear hrl
            go_wp2_with fail
            refine (one_keep 10 SS.out (by have := RL.out; omega) (by decide) (by decide)).mono ?_
            rintro e w236 ⟨b235, rfl, s237, g238⟩
            have S239 := Lib.hid s237
            have D240 := Lib.hid (dt_src DD.out hB g238)
            clear s237 g238
            cases b235 with
            | false =>
              obtain ⟨a241, c242, e243⟩ := dt_form D240.out
              first | subst e243 | clear e243
              go_wp2
              go_ret
              exact ⟨_, _, rfl, by have := RL.out; simp; omega, AL.out, dt_at D240.out, st_le (st_trans H0.out S239.out) (by have := RL.out; omega), S239.out.2.1⟩
            | true =>
              go_wp2_with fail
              refine (l10Any_any w236 B a len cap _ S239.out (by have := RL.out; omega)).mono ?_
              rintro e w244 ⟨ux, z245, rfl, hpl, hr, hs, hg⟩
              have D246 := Lib.hid (dt_src D240.out hB hg)
              have R247 := Lib.hid (prow_up hr S239.out.2.1.size)
              have S248 := Lib.hid hs
              obtain ⟨ax, cx, ex, _⟩ := prow_at hr
              subst ex
              have Lz245 := Lib.hid (show z245.length ≤ 24 by omega)
              clear hr hs hg hpl
              have D255 := Lib.hid (dt_alloc D246.out (.cells #[(Value.slice ax z245.length cx)] 52))
              go_wp2_with (at_builtin; refine wpList_append_own _ rfl _ _ 64 rfl w.heap.size 52 i1 (.slice none 0 0) 1 24 Try.underlying64 hi1 hy0 hy1 hy2 rfl (by decide) _ rows2.length vs2 rfl D255.out.1 ⟨w244.heap.size, 0, none⟩ 1 1 [(Value.slice ax z245.length cx)] rfl rfl (cell_one_new _ _ _) (one_slice _ _ _) (by have := RL.out; unfold maxLen; simp; omega) (by have := RL.out; simp; omega) (by have := S248.out.2.1.size; simp; omega) ?_; intro v250 w249 h251 g252 _)
              have S254 := Lib.hid (st_own (st_alloc S248.out _) g252 (fun k hk => (World.ownsRow.lt D255.out.1 k hk).1))
              have D253 := Lib.hid (dt_snoc D255.out (World.ownsRow.alloc R247.out _) h251 g252)
              clear h251 g252
              obtain ⟨a256, c257, e258⟩ := dt_form D253.out
              first | subst e258 | clear e258
              go_wp2
              go_ret
              exact ⟨_, _, rfl, by have := RL.out; simp; omega, (fun zs hz => by simp only [List.mem_append, List.mem_singleton] at hz; rcases hz with hz | rfl; exact AL.out _ hz; exact Lz245.out), dt_at D253.out, st_le (st_trans H0.out S254.out) (by have := RL.out; omega), S254.out.2.1⟩
end Go.Proofs.Ytemhmejjmhbfdaa.srcP
