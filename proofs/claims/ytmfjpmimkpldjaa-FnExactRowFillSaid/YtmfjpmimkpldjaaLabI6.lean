/- Room among spans: contracts of the program. -/
import Derived.Test.YtmfjpmimkpldjaaLabI2
namespace Go.Proofs.Ytmfjpmimkpldjaa.ltab
open Go.ChangeShapes Go.WideShapes Go.ChangeAt Go.RowKit Go.Proofs.Ytmfjpmimkpldjaa.irows Go.Proofs.Ytmfjpmimkpldjaa.sines
set_option linter.unusedSimpArgs false
set_option linter.unusedVariables false

/-- What is read of a list of spans. -/
def SpAt (w : World) (B : Nat) (v : Value) (cs : List Sp) : Prop :=
  ∃ a c, v = .slice a cs.length c ∧ ∀ k, (h : k < cs.length) → ∃ b off, a = some ⟨b, off, none⟩ ∧ b < B ∧ w.cell? ⟨b, off + k * 3, none⟩ = some (.int .i64 cs[k].1) ∧ w.cell? ⟨b, off + k * 3 + 1, none⟩ = some (.int .i64 cs[k].2.1) ∧ w.cell? ⟨b, off + k * 3 + 2, none⟩ = some (.int .i64 cs[k].2.2)
theorem spat_keep {w w' : World} {B : Nat} {v : Value} {cs : List Sp} (h : SpAt w B v cs) (hb : Below B w w') : SpAt w' B v cs := by
  obtain ⟨a, c, e, h⟩ := h
  refine ⟨a, c, e, fun k hk => ?_⟩
  obtain ⟨b, off, e1, e2, e3, e4, e5⟩ := h k hk
  exact ⟨b, off, e1, e2, (hb.cell (p := ⟨b, off + k * 3, none⟩) e2).trans e3, (hb.cell (p := ⟨b, off + k * 3 + 1, none⟩) e2).trans e4, (hb.cell (p := ⟨b, off + k * 3 + 2, none⟩) e2).trans e5⟩
theorem spat_up {w : World} {B B' : Nat} {v : Value} {cs : List Sp} (h : SpAt w B v cs) (hB : B ≤ B') : SpAt w B' v cs := by
  obtain ⟨a, c, e, h⟩ := h
  refine ⟨a, c, e, fun k hk => ?_⟩
  obtain ⟨b, off, e1, e2, e3⟩ := h k hk
  exact ⟨b, off, e1, by omega, e3⟩
def roomB (cs : List Sp) (s : Sp) : Bool := cs.all fun c => !meetS s c
theorem roomB_no {cs : List Sp} {s : Sp} {k : Nat} (hk : k < cs.length) (h : meetS s cs[k] = true) : roomB cs s = false := by
  cases e : roomB cs s with
  | false => rfl
  | true =>
    simp only [roomB, List.all_eq_true] at e
    have := e _ (List.getElem_mem hk)
    rw [h] at this
    cases this
theorem roomB_yes {cs : List Sp} {s : Sp} (h : ∀ k, (hk : k < cs.length) → meetS s cs[k] = false) : roomB cs s = true := by
  simp only [roomB, List.all_eq_true]
  intro p hp
  obtain ⟨j, hj, rfl⟩ := List.mem_iff_getElem.1 hp
  rw [h j hj]; rfl
set_option maxRecDepth 100000 in
set_option maxHeartbeats 1000000 in
theorem indexSp_any (v : Value) (cs : List Sp) (s : Sp) (w : World) (hv : SpAt w w.heap.size v cs) (hl : cs.length ≤ 1048576) :
    Calls Try.prog 145 #[v, .func (.func 82) #[sv s] #[]] w fun e w' => (∃ r : Int, e = .returned (.int .i64 r) ∧ decide (0 ≤ r) = !roomB cs s) ∧ Below w.heap.size w w' := by
  obtain ⟨a, c, rfl, hc⟩ := hv
  have HC := Lib.hid hc
  have MT := Lib.hid (fun o W => meets_any s o W)
  clear hc
  have hl2 : (cs.length : Int) ≤ 1048576 := by omega
  obtain ⟨R, hR⟩ : ∃ R, Hid (roomB cs s = R) := ⟨_, Lib.hid rfl⟩
  rw [hR.out]
  unfold sv at MT ⊢
  go_enter Try.func145, Try.ntmps145
  go_wp2
  go_loopw [8] (fun i wr => ∃ k : Nat, k ≤ cs.length ∧ i = .int .i64 (k : Int) ∧ (∀ j, (hj : j < cs.length) → j < k → meetS s cs[j] = false) ∧ Below w.heap.size w wr) (fun i _ => cs.length - (intOf i).toNat)
  case atStart => exact ⟨0, Nat.zero_le _, rfl, fun j _ h => by omega, Below.refl _ _⟩
  case round =>
    obtain ⟨k, hk, rfl, ha, hb⟩ := hrel
    have HA := Lib.hid ha
    have HB := Lib.hid hb
    have hsz := hb.size
    clear ha hb
    by_cases hlt : k < cs.length
    · obtain ⟨b, off, rfl, hbs, c1, c2, c3⟩ := HC.out k hlt
      have u1 := (HB.out.cell (p := ⟨b, off + k * 3, none⟩) hbs).trans c1
      have u2 := (HB.out.cell (p := ⟨b, off + k * 3 + 1, none⟩) hbs).trans c2
      have u3 := (HB.out.cell (p := ⟨b, off + k * 3 + 2, none⟩) hbs).trans c3
      have hk0 : 0 ≤ (k : Int) := by omega
      have hk1 : (k : Int) < (cs.length : Int) := by omega
      have NO := Lib.hid (show meetS s cs[k] = true → R = false from fun h => by rw [← hR.out]; exact roomB_no hlt h)
      have YES := Lib.hid (show meetS s cs[k] = false → ∀ j, (hj : j < cs.length) → j < k + 1 → meetS s cs[j] = false from fun h j hj hjk => by
        by_cases e : j = k
        · subst e; exact h
        · exact HA.out j hj (by omega))
      have EK := Lib.hid (MT.out cs[k] wr)
      clear c1 c2 c3
      generalize meetS s cs[k] = fp at NO YES EK
      generalize cs[k] = o at u1 u2 u3 EK
      obtain ⟨o1, o2, o3⟩ := o
      simp only at u1 u2 u3 EK
      cases fp with
      | true =>
        obtain rfl := NO.out rfl
        go_wp2_with fail
        refine EK.out.mono ?_
        rintro e w1 ⟨rfl, q1, q2, hw⟩
        have HB1 := Lib.hid (show Below w.heap.size w w1 by rw [hw]; exact (HB.out.alloc hsz _).alloc (by simp; omega) _)
        clear hw
        go_wp2
        go_ret
        exact ⟨⟨_, rfl, by simp <;> omega⟩, HB1.out⟩
      | false =>
        have Y := Lib.hid (YES.out rfl)
        go_wp2_with fail
        refine EK.out.mono ?_
        rintro e w1 ⟨rfl, q1, q2, hw⟩
        have HB1 := Lib.hid (show Below w.heap.size w w1 by rw [hw]; exact (HB.out.alloc hsz _).alloc (by simp; omega) _)
        clear hw
        go_wp2
        go_roundw
        case rel => exact ⟨k + 1, by omega, by go_num, Y.out, HB1.out⟩
        case measure => simp [intOf]; omega
    · obtain rfl : k = cs.length := by omega
      have RR := Lib.hid (show R = true by rw [← hR.out]; exact roomB_yes fun j hj => HA.out j hj hj)
      obtain rfl := RR.out
      go_wp2
      go_ret
      exact ⟨⟨_, rfl, by simp⟩, HB.out⟩
set_option maxHeartbeats 400000 in
theorem containsSp_any (v : Value) (cs : List Sp) (s : Sp) (w : World) (hv : SpAt w w.heap.size v cs) (hl : cs.length ≤ 1048576) :
    Calls Try.prog 119 #[v, .func (.func 82) #[sv s] #[]] w fun e w' => e = .returned (.bool (!roomB cs s)) ∧ Below w.heap.size w w' := by
  have IX := Lib.hid (indexSp_any v cs s w hv hl)
  obtain ⟨a, c, rfl, _⟩ := hv
  unfold sv at IX ⊢
  generalize roomB cs s = R at *
  go_enter Try.func119, Try.ntmps119
  go_wp2_with fail
  refine IX.out.mono ?_
  rintro e w1 ⟨⟨r, rfl, hr⟩, hb⟩
  have HB := Lib.hid hb
  have HR := Lib.hid hr
  clear hb hr
  go_wp2
  go_ret
  exact ⟨retBL HR.out, HB.out⟩
set_option maxHeartbeats 400000 in
theorem haveRoom_any (v : Value) (cs : List Sp) (s : Sp) (w : World) (hv : SpAt w w.heap.size v cs) (hl : cs.length ≤ 1048576) :
    Calls Try.prog 72 #[v, sv s] w fun e w' => e = .returned (.bool (roomB cs s)) ∧ Below w.heap.size w w' := by
  have CF := Lib.hid (fun W (h : Below w.heap.size w W) => containsSp_any v cs s W (spat_up (spat_keep hv h) h.size) hl)
  obtain ⟨a, c, rfl, _⟩ := hv
  unfold sv at CF ⊢
  generalize roomB cs s = R at *
  go_enter Try.func72, Try.ntmps72
  go_wp2_with fail
  refine (CF.out _ ((Below.refl _ _).alloc (Nat.le_refl _) _)).mono ?_
  rintro e w1 ⟨rfl, hb⟩
  have HB := Lib.hid (((Below.refl w.heap.size w).alloc (Nat.le_refl _) _).trans (hb.mono (by simp)))
  clear hb
  go_wp2
  go_ret
  exact ⟨by first | rfl | simp, HB.out⟩
end Go.Proofs.Ytmfjpmimkpldjaa.ltab
