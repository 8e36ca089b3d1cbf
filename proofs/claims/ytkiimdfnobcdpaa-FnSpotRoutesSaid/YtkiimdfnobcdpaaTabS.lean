/- The model's table of distances. -/
import Derived.Test.YtkiimdfnobcdpaaTabD
import Derived.Deep.AppendLies
namespace Go.Proofs.Ytkiimdfnobcdpaa.sines
open Go.ChangeShapes Go.WideShapes Go.ChangeAt Go.RowKit Go.Proofs.Ytkiimdfnobcdpaa.spots Go.Proofs.Ytkiimdfnobcdpaa.irows Go.Proofs.Ytkiimdfnobcdpaa.pairs Go.Proofs.Ytkiimdfnobcdpaa.trows

def rowN (ps : List (Int × Int)) (i : Nat) : Nat → List Int
  | 0 => []
  | k + 1 => rowN ps i k ++ [dd ps i k]
theorem rowN_len (ps : List (Int × Int)) (i : Nat) : ∀ k, (rowN ps i k).length = k
  | 0 => rfl
  | k + 1 => by simp [rowN, rowN_len ps i k]
theorem rowN_take (ps : List (Int × Int)) (i : Nat) (hi : i < ps.length) : ∀ k, k ≤ ps.length → rowN ps i k = (rowD ps ps[i].1 ps[i].2).take k
  | 0, _ => rfl
  | k + 1, h => by
    have hk : k < (rowD ps ps[i].1 ps[i].2).length := by rw [rowD_len]; omega
    rw [rowN, rowN_take ps i hi k (by omega), List.take_add_one, List.getElem?_eq_getElem hk, rowD_at ps _ _ k (by omega), dd_of hi (by omega)]
    rfl
theorem rowN_all (ps : List (Int × Int)) (i : Nat) (hi : i < ps.length) : rowN ps i ps.length = rowD ps ps[i].1 ps[i].2 := by
  rw [rowN_take ps i hi _ (Nat.le_refl _)]
  exact List.take_of_length_le (by rw [rowD_len]; exact Nat.le_refl _)
theorem irow_heap {w w' : World} {B : Nat} {v : Value} {zs : List Int} (h : IRow w B v zs) (e : w'.heap = w.heap) : IRow w' B v zs := by
  refine ⟨h.1, ?_⟩
  rw [e]
  exact h.2
theorem newV (w : World) (x : Value) (T : TypeId) (n : Nat) (h : w.heap.size = n) : ∀ j u, ([x] : List Value)[j]? = some u → (w.alloc (.cells #[x] T)).cell? ((⟨n, 0, none⟩ : Addr).add j) = some u := by
  subst h
  intro j u hj
  match j, hj with
  | 0, hj => simp at hj; subst hj; simp [Addr.add]
theorem cellV (a : Option Addr) (n c : Nat) : ∀ u ∈ ([.slice a n c] : List Value), u.oneCell' = true := fun u hu => by simp at hu; subst hu; rfl
theorem tab_cell {w : World} {B C : Nat} {v : Value} {vs : List Value} {ps : List (Int × Int)} {i : Nat} (h : TV w B C v vs (tabK ps i)) (hi : i < ps.length) (k : Nat) (hk : k < i) :
    ∃ a c b ar cr g, v = .slice a i c ∧ a = some ⟨b, 0, none⟩ ∧ b < w.heap.size ∧ w.cell? ⟨b, k, none⟩ = some (.slice ar ps.length cr) ∧ ar = some ⟨g, 0, none⟩ ∧ g < w.heap.size ∧ w.cell? ⟨g, i, none⟩ = some (.int .i64 (dd ps i k)) := by
  have hl := tabK_len ps i (by omega)
  obtain ⟨a, c, e⟩ := trow_shape ⟨vs, h⟩
  rw [e] at h
  obtain ⟨b, x, e1, _, _, e2, e3, _, e5⟩ := tv_at h k (by omega)
  have hr : (tabK ps i)[k]'(by omega) = rowD ps ps[k].1 ps[k].2 := tabK_at ps i k (by omega) hk
  rw [hr] at e5
  obtain ⟨⟨ar, cr, rfl⟩, _⟩ := irow_shape e5
  obtain ⟨g, f1, _, f2⟩ := irow_at e5 i (by rw [rowD_len]; exact hi)
  refine ⟨a, c, b, ar, cr, g, by rw [e, hl], e1, e2, by rw [e3, rowD_len], f1, World.block_lt_of_cell? _ _ f2, ?_⟩
  rw [f2, rowD_at ps _ _ i hi, dd_sym, dd_of (by omega) hi]
theorem tv_shape' {w : World} {B C : Nat} {v : Value} {vs : List Value} {ps : List (Int × Int)} {i : Nat} (h : TV w B C v vs (tabK ps i)) (hi : i ≤ ps.length) : ∃ a c, v = .slice a i c := by
  obtain ⟨a, c, e⟩ := trow_shape ⟨vs, h⟩
  exact ⟨a, c, by rw [e, tabK_len ps i hi]⟩

set_option maxRecDepth 100000 in
set_option maxHeartbeats 4000000 in
theorem l05Table_any (v : Value) (ps : List (Int × Int)) (w : World) (hv : PAt w w.heap.size v ps) (hl : ps.length ≤ 12) (hk : okL ps = true) :
    Calls Try.prog 43 #[v] w fun e w' => ∃ u, e = .returned u ∧ TRow w' w.heap.size w'.heap.size u (tabD ps) ∧ Below w.heap.size w w' := by
  obtain ⟨ar, c, rfl, hc⟩ := hv
  obtain ⟨i0, hi, hz0, hz1, hz2⟩ := info_parts info_int
  obtain ⟨j0, ji, jz0, jz1, jz2⟩ := info_parts info_row
  have HC := Lib.hid hc
  have HK := Lib.hid hk
  clear hc hk
  have hl2 : (ps.length : Int) ≤ 12 := by omega
  go_enter Try.func43, Try.ntmps43
  go_wp2
  go_loopw [3, 4] (fun u i wr => ∃ k : Nat, k ≤ ps.length ∧ i = .int .i64 (k : Int) ∧ (∃ C vs, C ≤ wr.heap.size ∧ TV wr w.heap.size C u vs (tabK ps k)) ∧ Below w.heap.size w wr) (fun _ i _ => ps.length - (intOf i).toNat)
  case atStart => exact ⟨0, Nat.zero_le _, rfl, ⟨_, [], Nat.le_refl _, World.ownsRow_made w #[] 0 (Nat.le_refl _) (by decide) rfl, rfl, fun b hb => by simp [Value.ownBlock] at hb; subst hb; simp, ⟨fun k x zs hx _ => by simp at hx, fun k x hx => by simp at hx, fun i j x y _ hx _ => by simp at hx⟩⟩, (Below.refl _ _).alloc (Nat.le_refl _) _⟩
  case round =>
    obtain ⟨i, hik, rfl, ⟨C, vs, hC, hr⟩, hb⟩ := hrel
    have HR := Lib.hid hr
    have HB := Lib.hid hb
    have hsz := hb.size
    clear hr hb
    obtain ⟨W1, rfl⟩ : ∃ W1, W1 = wr := ⟨wr, rfl⟩
    obtain ⟨at_, ct, rfl⟩ := tv_shape' HR.out hik
    by_cases hlt : i < ps.length
    · have hi0 : 0 ≤ (i : Int) := by omega
      have hi1 : (i : Int) < (ps.length : Int) := by omega
      obtain ⟨bb, off, rfl, hbs, c1, c2⟩ := HC.out i hlt
      have OKI := okL_at HK.out i hlt
      have DI := Lib.hid (show ∀ k, (hk : k < ps.length) → distL ps[i].1 ps[i].2 ps[k].1 ps[k].2 = dd ps i k from fun k hk => (dd_of hlt hk).symm)
      have RA := Lib.hid (rowN_all ps i hlt)
      have TS := Lib.hid (tabK_succ ps i hlt)
      rw [← RA.out] at TS
      generalize ps[i] = x at c1 c2 OKI DI
      obtain ⟨x1, x2⟩ := x
      have C1 := Lib.hid c1
      have C2 := Lib.hid c2
      clear c1 c2 RA
      go_wp2
      go_loopw [5, 6] (fun u5 k wy => ∃ q : Nat, q ≤ ps.length ∧ k = .int .i64 (q : Int) ∧ IRow wy W1.heap.size u5 (rowN ps i q) ∧ Below W1.heap.size W1 wy) (fun _ k _ => ps.length - (intOf k).toNat)
      case atStart => exact ⟨0, Nat.zero_le _, rfl, irow_made _ _ (Nat.le_refl _), (Below.refl _ _).alloc (Nat.le_refl _) _⟩
      case round =>
        obtain ⟨q, hq, rfl, hr2, hb2⟩ := hrel
        have HR2 := Lib.hid hr2
        have HB2 := Lib.hid hb2
        have hsz2 := hb2.size
        have RL := Lib.hid (rowN_len ps i q)
        have RS := Lib.hid (show rowN ps i (q + 1) = rowN ps i q ++ [dd ps i q] from rfl)
        clear hr2 hb2
        by_cases hlq : q < ps.length
        · have hq0 : 0 ≤ (q : Int) := by omega
          have hq1 : (q : Int) < (ps.length : Int) := by omega
          by_cases hqi : q < i
          · have d1 : decide ((q : Int) < (i : Int)) = true := decide_eq_true (by omega)
            have hqi2 : (q : Int) < (i : Int) := by omega
            obtain ⟨a2, c2, b2, ar2, cr2, g2, e0, e1, e2, e3, e4, e5, e6⟩ := tab_cell (tv_keep HR.out (HB2.out.mono hC)) hlt q hqi
            simp at e0
            obtain ⟨rfl, rfl⟩ := e0
            subst e1 e4
            obtain ⟨d, hd⟩ : ∃ d, Hid (dd ps i q = d) := ⟨_, Lib.hid rfl⟩
            rw [hd.out] at e6 RS
            obtain ⟨ns, hns⟩ : ∃ ns, Hid (rowN ps i q = ns) := ⟨_, Lib.hid rfl⟩
            rw [hns.out] at HR2 RS RL
            have nl : ns.length = q := RL.out
            have nl2 : ns.length ≤ 12 := by omega
            clear nl
            go_wp2_with (at_builtin; refine wpList_append_own _ rfl _ _ 29 rfl (W1.heap.size) 2 i0 (.int .i64 0) 1 8 Try.underlying29 hi hz0 hz1 hz2 rfl (by decide) _ ns.length _ rfl (HR2.out.alloc _) ⟨wr.heap.size, 0, none⟩ 1 1 [.int .i64 d] rfl rfl (newI _ _ _ (by first | rfl | simp)) (cellI _) (by unfold maxLen; omega) (by omega) (by simp; omega) ?_; intro v1 w1 hown1 hg1 _)
            go_roundw
            case rel => exact ⟨q + 1, by omega, by go_num, by rw [RS.out]; exact snocI hown1, (HB2.out.alloc hsz2 _).grown hg1 (by simp; omega) (fun j hj => (HR2.out.lt j hj).1)⟩
            case measure => simp [intOf]; omega
          · have hqi2 : ¬ (q : Int) < (i : Int) := by omega
            have k1 := ((HB.out.trans (HB2.out.mono hsz)).cell (p := ⟨bb, off + i * 2, none⟩) hbs).trans C1.out
            have k2 := ((HB.out.trans (HB2.out.mono hsz)).cell (p := ⟨bb, off + i * 2 + 1, none⟩) hbs).trans C2.out
            obtain ⟨bb2, off2, e2, _, c3, c4⟩ := HC.out q hlq
            simp at e2
            obtain ⟨rfl, rfl⟩ := e2
            have k3 := ((HB.out.trans (HB2.out.mono hsz)).cell (p := ⟨bb, off + q * 2, none⟩) hbs).trans c3
            have k4 := ((HB.out.trans (HB2.out.mono hsz)).cell (p := ⟨bb, off + q * 2 + 1, none⟩) hbs).trans c4
            have hbw : bb < wr.heap.size := by omega
            have b1 := Lib.hid ((HB.out.cell (p := ⟨bb, off + i * 2, none⟩) hbs).trans C1.out)
            have b2 := Lib.hid ((HB.out.cell (p := ⟨bb, off + i * 2 + 1, none⟩) hbs).trans C2.out)
            have b3 := Lib.hid ((HB.out.cell (p := ⟨bb, off + q * 2, none⟩) hbs).trans c3)
            have b4 := Lib.hid ((HB.out.cell (p := ⟨bb, off + q * 2 + 1, none⟩) hbs).trans c4)
            have OKQ := okL_at HK.out q hlq
            have DQ := Lib.hid (DI.out q hlq)
            clear c3 c4
            generalize ps[q] = y at k3 k4 b3 b4 OKQ DQ
            obtain ⟨y1, y2⟩ := y
            obtain ⟨d, hd⟩ : ∃ d, Hid (dd ps i q = d) := ⟨_, Lib.hid rfl⟩
            rw [hd.out] at RS DQ
            obtain ⟨ns, hns⟩ : ∃ ns, Hid (rowN ps i q = ns) := ⟨_, Lib.hid rfl⟩
            rw [hns.out] at HR2 RS RL
            have nl : ns.length = q := RL.out
            have nl2 : ns.length ≤ 12 := by omega
            have nm1 : ns.length + 1 ≤ maxLen := by unfold maxLen; omega
            have nm2 : (ns.length + 1) * 8 ≤ 140737488355328 := by omega
            clear nl
            have hbW : bb < W1.heap.size := by omega
            go_wp2_with fail
            go_region_held3 (fun W => W.cell? ⟨bb, off + i * 2, none⟩ = some (.int .i64 x1) ∧ W.cell? ⟨bb, off + i * 2 + 1, none⟩ = some (.int .i64 x2) ∧ W.cell? ⟨bb, off + q * 2, none⟩ = some (.int .i64 y1) ∧ W.cell? ⟨bb, off + q * 2 + 1, none⟩ = some (.int .i64 y2)) (first | exact ⟨k1, k2, k3, k4⟩ | exact ⟨n1, n2, n3, n4⟩ | exact ⟨t1, t2, t3, t4⟩ | exact ⟨m1, m2, m3, m4⟩ | (simp [go_sem]; first | exact ⟨k1, k2, k3, k4⟩ | exact ⟨n1, n2, n3, n4⟩ | exact ⟨m1, m2, m3, m4⟩)) (first | (go_at_call 33; refine (l05Distance_rel _ _ _ _ wr _ (by repeat (first | assumption | exact Below.refl _ _ | refine Below.drew ?_ | refine bdq ?_ _ | refine Below.alloc ?_ (by first | exact Nat.le_refl _ | omega | (simp; done) | (simp; omega)) _ | refine Below.setCell ?_ (by first | exact Nat.le_refl _ | omega | (simp; done) | (simp; omega)) _)) (by assumption) (by assumption)).mono ?_; rw [DQ.out]; rintro e w1 ⟨rfl, hb1⟩; have HRR := Lib.hid (irow_keep HR2.out hb1); have hsz1 := hb1.size; have BN := Lib.hid (HB2.out.trans (hb1.mono hsz2)); have n1 := (BN.out.cell (p := ⟨bb, off + i * 2, none⟩) hbW).trans b1.out; have n2 := (BN.out.cell (p := ⟨bb, off + i * 2 + 1, none⟩) hbW).trans b2.out; have n3 := (BN.out.cell (p := ⟨bb, off + q * 2, none⟩) hbW).trans b3.out; have n4 := (BN.out.cell (p := ⟨bb, off + q * 2 + 1, none⟩) hbW).trans b4.out; have BA := Lib.hid (BN.out.alloc (Nat.le_trans hsz2 hsz1) (.cells #[.int .i64 d] 2)); have t1 := (BA.out.cell (p := ⟨bb, off + i * 2, none⟩) hbW).trans b1.out; have t2 := (BA.out.cell (p := ⟨bb, off + i * 2 + 1, none⟩) hbW).trans b2.out; have t3 := (BA.out.cell (p := ⟨bb, off + q * 2, none⟩) hbW).trans b3.out; have t4 := (BA.out.cell (p := ⟨bb, off + q * 2 + 1, none⟩) hbW).trans b4.out; skip) | ((refine step_append_lies _ (by rfl) _ _ 29 (by rfl) (W1.heap.size) 2 i0 (.int .i64 0) 1 8 Try.underlying29 hi hz0 hz1 hz2 rfl (by decide) _ ns.length _ (by rfl) (irow_heap (HRR.out.alloc (.cells #[.int .i64 d] 2)) rfl) ⟨w1.heap.size, 0, none⟩ 1 1 [.int .i64 d] (by rfl) rfl (newI w1 _ _ rfl) (cellI _) (by decide) nm1 nm2 (by simp; omega) (w1.heap.size + 1) (by simp) ?_; intro g4 cap4 w4 hown4 hg4 hat4 hlt4; have BG := Lib.hid (BA.out.grown hg4 (by simp; omega) (fun j hj => (HRR.out.lt j hj).1)); have m1 := (BG.out.cell (p := ⟨bb, off + i * 2, none⟩) hbW).trans b1.out; have m2 := (BG.out.cell (p := ⟨bb, off + i * 2 + 1, none⟩) hbW).trans b2.out; have m3 := (BG.out.cell (p := ⟨bb, off + q * 2, none⟩) hbW).trans b3.out; have m4 := (BG.out.cell (p := ⟨bb, off + q * 2 + 1, none⟩) hbW).trans b4.out; skip)))
            go_wp2
            go_roundw
            case rel => exact ⟨q + 1, by omega, by go_num, by rw [RS.out]; exact snocI hown4, BG.out⟩
            case measure => simp [intOf]; omega
        · obtain rfl : q = ps.length := by omega
          obtain ⟨⟨a5, c5, rfl⟩, _⟩ := irow_shape HR2.out
          have TK := Lib.hid (tv_keep HR.out ((HB2.out.mono hC).alloc (Nat.le_trans hC hsz2) (.cells #[.slice a5 (rowN ps i ps.length).length c5] 29)))
          have IL2 := Lib.hid (tabK_len ps i (by omega))
          have il1 : (tabK ps i).length + 1 ≤ maxLen := by rw [IL2.out]; unfold maxLen; omega
          have il2 : ((tabK ps i).length + 1) * 24 ≤ 140737488355328 := by rw [IL2.out]; omega
          go_wp2_with (at_builtin; refine wpList_append_own_at _ rfl _ _ 26 rfl (w.heap.size) 29 j0 (.slice none 0 0) 1 24 Try.underlying26 ji jz0 jz1 jz2 rfl (by decide) _ (tabK ps i).length _ rfl TK.out.1 ⟨wr.heap.size, 0, none⟩ 1 1 [.slice a5 (rowN ps i ps.length).length c5] rfl rfl (newV _ _ _ _ rfl) (cellV _ _ _) il1 il2 (by simp; omega) ?_; intro v6 w6 hown6 hg6 _ hv6)
          go_roundw
          case rel => exact ⟨i + 1, by omega, by go_num, ⟨_, _, Nat.le_refl _, by rw [TS.out]; exact tv_snoc TK.out (irow_up (HR2.out.alloc _) hsz) (fun b hb => Nat.le_trans hC (own_ge HR2.out b hb)) hown6 hg6 hv6⟩, ((HB.out.trans (HB2.out.mono hsz)).alloc (Nat.le_trans hsz hsz2) _).grown hg6 (by simp; omega) (fun j hj => (World.ownsRow.lt TK.out.1 j hj).1)⟩
          case measure => simp [intOf]; omega
    · obtain rfl : i = ps.length := by omega
      have HE := Lib.hid (show TRow W1 w.heap.size C (.slice at_ ps.length ct) (tabD ps) by rw [← tabK_all]; exact ⟨vs, HR.out⟩)
      go_wp2
      go_ret
      exact ⟨_, rfl, trow_up HE.out (Nat.le_refl _) hC, HB.out⟩

end Go.Proofs.Ytkiimdfnobcdpaa.sines
