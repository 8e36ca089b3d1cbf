/- The model's neighbours: contracts. -/
import Derived.Test.YtemhmejjmhbfdabDoorColsV
import Derived.Maps.AppendAt
namespace Go.Proofs.YtemhmejjmhbfdabDoor.sines
open Go.ChangeShapes Go.WideShapes Go.ChangeAt Go.RowKit Go.Proofs.YtemhmejjmhbfdabDoor.spots Go.Proofs.YtemhmejjmhbfdabDoor.irows Go.Proofs.YtemhmejjmhbfdabDoor.pairsBorder
set_option linter.unusedSimpArgs false
set_option linter.unusedVariables false

theorem newI (w : World) (s : Int) (n : Nat) (h : w.heap.size = n) : ∀ j u, ([.int .i64 s] : List Value)[j]? = some u → (w.alloc (.cells #[.int .i64 s] 2)).cell? ((⟨n, 0, none⟩ : Addr).add j) = some u := by
  subst h
  intro j u hj
  match j, hj with
  | 0, hj => simp at hj; subst hj; simp [Addr.add]
theorem cellI (s : Int) : ∀ u ∈ ([.int .i64 s] : List Value), u.oneCell' = true := fun u hu => by simp at hu; subst hu; rfl
theorem snocI {w : World} {B : Nat} {v : Value} {o : List Int} {x : Int} (h : w.ownsRow B 2 1 v (o.length + 1) (ints o ++ [.int .i64 x])) : IRow w B v (o ++ [x]) := by
  unfold IRow
  rw [List.length_append, show [x].length = 1 from rfl, show ints (o ++ [x]) = ints o ++ [.int .i64 x] by simp [ints]]
  exact h
theorem irow_made (w : World) (B : Nat) (h : B ≤ w.heap.size) : IRow (w.alloc (.cells #[] 2)) B (.slice (some ⟨w.heap.size, 0, none⟩) 0 0) [] := World.ownsRow_made w #[] 0 h (by decide) rfl


/-- What is held of the neighbours when the first m borders are seen for the land k. -/
def midR (ps : List (Int × Int)) (a : Int) (k m : Nat) : List Int := nextN ps a k ++ (if (ps.take m).any (fun p => joins p a (k : Int)) = true then [(k : Int)] else [])
theorem midR_zero (ps : List (Int × Int)) (a : Int) (k : Nat) : midR ps a k 0 = nextN ps a k := by simp [midR]
theorem midR_end (ps : List (Int × Int)) (a : Int) (k : Nat) : midR ps a k ps.length = nextN ps a (k + 1) := by rw [midR, nextN_succ, List.take_length, nbr]
theorem midR_len (ps : List (Int × Int)) (a : Int) (k m : Nat) : (midR ps a k m).length ≤ k + 1 := by
  have := nextN_len ps a k
  rw [midR, List.length_append]
  split <;> simp <;> omega
theorem take_any {ps : List (Int × Int)} {a x : Int} {m : Nat} (h : m < ps.length) : (ps.take (m + 1)).any (fun p => joins p a x) = ((ps.take m).any (fun p => joins p a x) || joins (bAt ps m) a x) := by
  rw [List.take_succ_eq_append_getElem h, List.any_append, bAt_of h]
  simp
theorem midR_no {ps : List (Int × Int)} {a : Int} {k m : Nat} (h : m < ps.length) (hj : joins (bAt ps m) a (k : Int) = false) : midR ps a k (m + 1) = midR ps a k m := by
  rw [midR, midR, take_any h, hj, Bool.or_false]
theorem midR_yes {n : Int} {ps : List (Int × Int)} {a : Int} {k m : Nat} (hv : validC n ps = true) (h : m < ps.length) (hj : joins (bAt ps m) a (k : Int) = true) : midR ps a k (m + 1) = midR ps a k m ++ [(k : Int)] ∧ (midR ps a k m).length ≤ k := by
  have h0 : (ps.take m).any (fun p => joins p a (k : Int)) = false := by
    cases e : (ps.take m).any (fun p => joins p a (k : Int)) with
    | false => rfl
    | true =>
      simp only [List.any_eq_true] at e
      obtain ⟨p, hp, h1⟩ := e
      obtain ⟨i, hi, rfl⟩ := List.mem_iff_getElem.1 hp
      simp only [List.length_take] at hi
      rw [List.getElem_take, bAt_of (by omega)] at h1
      rw [joins_once hv h (show i < m by omega) h1] at hj; cases hj
  have h1 : midR ps a k m = nextN ps a k := by rw [midR, h0]; simp
  refine ⟨by rw [h1, midR, take_any h, hj, Bool.or_true, if_pos rfl], by rw [h1]; exact nextN_len _ _ _⟩

set_option maxRecDepth 100000 in
set_option maxHeartbeats 8000000 in
theorem l09Next_any (n : Int) (v : Value) (ps : List (Int × Int)) (a : Int) (w : World) (hv : PAt w w.heap.size v ps) (hok : validC n ps = true) :
    Calls Tryd.prog 22 #[.int .i64 n, v, .int .i64 a] w fun e w' => ∃ u, e = .returned u ∧ IRow w' w.heap.size u (nextOf n ps a) ∧ Below w.heap.size w w' := by
  obtain ⟨ar, c, rfl, hcl⟩ := hv
  have HCL := Lib.hid hcl
  clear hcl
  obtain ⟨i0, hi, hz0, hz1, hz2⟩ := info_parts info_int
  obtain ⟨n0, n1, hl30, _⟩ := validC_facts hok
  have hl2 : (ps.length : Int) ≤ 30 := by omega
  obtain ⟨N, rfl⟩ : ∃ N : Nat, n = (N : Int) := ⟨n.toNat, by omega⟩
  have HOK := Lib.hid hok
  clear hok
  rw [show nextOf (N : Int) ps a = nextN ps a N by simp [nextOf]]
  go_enter Tryd.func22, Tryd.ntmps22
  go_wp2
  go_loopw [7, 8] (fun u i wr => ∃ k : Nat, k ≤ N ∧ i = .int .i64 (k : Int) ∧ IRow wr w.heap.size u (nextN ps a k) ∧ Below w.heap.size w wr) (fun _ i _ => N - (intOf i).toNat)
  case atStart => exact ⟨0, Nat.zero_le _, rfl, irow_made w _ (Nat.le_refl _), (Below.refl _ _).alloc (Nat.le_refl _) _⟩
  case round =>
    obtain ⟨k, hk, rfl, hr, hb⟩ := hrel
    have HR := Lib.hid hr
    have HB := Lib.hid hb
    clear hr hb
    by_cases hlt : k < N
    · have hk0 : 0 ≤ (k : Int) := by omega
      have hk1 : (k : Int) < (N : Int) := by omega
      have kw : IntKind.i64.wrap ((k : Int) + 1) = (k : Int) + 1 := IntWalk.i64_in _ (by omega)
      go_wp2
      go_loopw [7, 9] (fun u i wr2 => ∃ m : Nat, m ≤ ps.length ∧ i = .int .i64 (m : Int) ∧ IRow wr2 w.heap.size u (midR ps a k m) ∧ Below w.heap.size w wr2) (fun _ i _ => ps.length - (intOf i).toNat)
      case atStart => exact ⟨0, Nat.zero_le _, rfl, by rw [midR_zero]; exact HR.out, HB.out⟩
      case round =>
        obtain ⟨m, hm, rfl, hr, hb⟩ := hrel
        have HR2 := Lib.hid hr
        have HB2 := Lib.hid hb
        have hsz2 := hb.size
        clear hr
        by_cases hlm : m < ps.length
        · have hm0 : 0 ≤ (m : Int) := by omega
          have hm1 : (m : Int) < (ps.length : Int) := by omega
          obtain ⟨b, off, rfl, hbs, c1, c2⟩ := HCL.out m hlm
          rw [bAt_of hlm] at c1 c2
          have u1 := (hb.cell (p := ⟨b, off + m * 2, none⟩) hbs).trans c1
          have u2 := (hb.cell (p := ⟨b, off + m * 2 + 1, none⟩) hbs).trans c2
          have NO := Lib.hid (show joins (bAt ps m) a (k : Int) = false → midR ps a k (m + 1) = midR ps a k m from midR_no hlm)
          have YES := Lib.hid (show joins (bAt ps m) a (k : Int) = true → midR ps a k (m + 1) = midR ps a k m ++ [(k : Int)] from fun h => (midR_yes HOK.out hlm h).1)
          have MN := Lib.hid (show joins (bAt ps m) a (k : Int) = true → (midR ps a k m).length ≤ k from fun h => (midR_yes HOK.out hlm h).2)
          clear c1 c2 hb
          obtain ⟨⟨x1, x2⟩, hx⟩ : ∃ x, Hid (bAt ps m = x) := ⟨_, Lib.hid rfl⟩
          rw [hx.out] at u1 u2 NO YES MN
          simp only at u1 u2
          have NL := midR_len ps a k m
          obtain ⟨ns, hns⟩ : ∃ ns, Hid (midR ps a k m = ns) := ⟨_, Lib.hid rfl⟩
          rw [hns.out] at NL HR2 YES NO MN
          by_cases g1 : x1 = a
          · by_cases g2 : x2 = (k : Int)
            · have f1 : (x1 == a) = true := by simpa using g1
              have f2 : (x2 == (k : Int)) = true := by simpa using g2
              have SM := Lib.hid (YES.out (by simp only [joins, Bool.or_eq_true, decide_eq_true_eq]; omega))
              have ML := Lib.hid (MN.out (by simp only [joins, Bool.or_eq_true, decide_eq_true_eq]; omega))
              go_wp2_with (at_builtin; refine wpList_append_own _ rfl _ _ 24 rfl (w.heap.size) 2 i0 (.int .i64 0) 1 8 Tryd.underlying24 hi hz0 hz1 hz2 rfl (by decide) _ ns.length _ rfl (HR2.out.alloc _) ⟨wr.heap.size, 0, none⟩ 1 1 [.int .i64 (k : Int)] rfl rfl (newI _ _ _ (by first | rfl | simp)) (cellI _) (by unfold maxLen; omega) (by omega) (by simp; omega) ?_; intro v1 w1 hown1 hg1 _)
              go_roundw
              case rel => exact ⟨m + 1, by omega, by go_num, by rw [SM.out]; exact snocI hown1, (HB2.out.alloc hsz2 _).grown hg1 (by simp; omega) (fun j hj => (HR2.out.lt j hj).1)⟩
              case measure => simp [intOf]; omega
            · by_cases g3 : x2 = a
              · by_cases g4 : x1 = (k : Int)
                · exfalso; omega
                · have f1 : (x1 == a) = true := by simpa using g1
                  have f2 : (x2 == (k : Int)) = false := by simpa using g2
                  have f3 : (x2 == a) = true := by simpa using g3
                  have f4 : (x1 == (k : Int)) = false := by simpa using g4
                  have SM := Lib.hid (NO.out (by simp only [joins, Bool.or_eq_false_iff, decide_eq_false_iff_not]; omega))
                  go_wp2
                  go_roundw
                  case rel => exact ⟨m + 1, by omega, by go_num, by rw [SM.out]; exact HR2.out, HB2.out⟩
                  case measure => simp [intOf]; omega
              · have f1 : (x1 == a) = true := by simpa using g1
                have f2 : (x2 == (k : Int)) = false := by simpa using g2
                have f3 : (x2 == a) = false := by simpa using g3
                have SM := Lib.hid (NO.out (by simp only [joins, Bool.or_eq_false_iff, decide_eq_false_iff_not]; omega))
                go_wp2
                go_roundw
                case rel => exact ⟨m + 1, by omega, by go_num, by rw [SM.out]; exact HR2.out, HB2.out⟩
                case measure => simp [intOf]; omega
          · by_cases g3 : x2 = a
            · by_cases g4 : x1 = (k : Int)
              · have f1 : (x1 == a) = false := by simpa using g1
                have f3 : (x2 == a) = true := by simpa using g3
                have f4 : (x1 == (k : Int)) = true := by simpa using g4
                have SM := Lib.hid (YES.out (by simp only [joins, Bool.or_eq_true, decide_eq_true_eq]; omega))
                have ML := Lib.hid (MN.out (by simp only [joins, Bool.or_eq_true, decide_eq_true_eq]; omega))
                go_wp2_with (at_builtin; refine wpList_append_own _ rfl _ _ 24 rfl (w.heap.size) 2 i0 (.int .i64 0) 1 8 Tryd.underlying24 hi hz0 hz1 hz2 rfl (by decide) _ ns.length _ rfl (HR2.out.alloc _) ⟨wr.heap.size, 0, none⟩ 1 1 [.int .i64 (k : Int)] rfl rfl (newI _ _ _ (by first | rfl | simp)) (cellI _) (by unfold maxLen; omega) (by omega) (by simp; omega) ?_; intro v1 w1 hown1 hg1 _)
                go_roundw
                case rel => exact ⟨m + 1, by omega, by go_num, by rw [SM.out]; exact snocI hown1, (HB2.out.alloc hsz2 _).grown hg1 (by simp; omega) (fun j hj => (HR2.out.lt j hj).1)⟩
                case measure => simp [intOf]; omega
              · have f1 : (x1 == a) = false := by simpa using g1
                have f3 : (x2 == a) = true := by simpa using g3
                have f4 : (x1 == (k : Int)) = false := by simpa using g4
                have SM := Lib.hid (NO.out (by simp only [joins, Bool.or_eq_false_iff, decide_eq_false_iff_not]; omega))
                go_wp2
                go_roundw
                case rel => exact ⟨m + 1, by omega, by go_num, by rw [SM.out]; exact HR2.out, HB2.out⟩
                case measure => simp [intOf]; omega
            · have f1 : (x1 == a) = false := by simpa using g1
              have f3 : (x2 == a) = false := by simpa using g3
              have SM := Lib.hid (NO.out (by simp only [joins, Bool.or_eq_false_iff, decide_eq_false_iff_not]; omega))
              go_wp2
              go_roundw
              case rel => exact ⟨m + 1, by omega, by go_num, by rw [SM.out]; exact HR2.out, HB2.out⟩
              case measure => simp [intOf]; omega
        · obtain rfl : m = ps.length := by omega
          have HE := Lib.hid (show IRow wr w.heap.size u7 (nextN ps a (k + 1)) by rw [← midR_end]; exact HR2.out)
          clear hb
          go_wp2
          go_roundw
          case rel => exact ⟨k + 1, by omega, by go_num, HE.out, HB2.out⟩
          case measure => simp [intOf]; omega
    · obtain rfl : k = N := by omega
      go_wp2
      go_ret
      exact ⟨_, rfl, HR.out, HB.out⟩

def valNb (n : Int) (ps : List (Int × Int)) (a : Int) : List Int := if codeNb n ps a = 0 then nextOf n ps a else []
theorem valNb_len (n : Int) (ps : List (Int × Int)) (a : Int) : (valNb n ps a).length ≤ n.toNat := by
  unfold valNb
  split
  · exact nextN_len _ _ _
  · simp
theorem valNb_ten (n : Int) (ps : List (Int × Int)) (a : Int) : (valNb n ps a).length ≤ 10 := by
  have := valNb_len n ps a
  by_cases h : validC n ps = true
  · obtain ⟨n0, n1, _⟩ := validC_facts h; omega
  · simp [valNb, codeNb, h]
set_option maxRecDepth 100000 in
set_option maxHeartbeats 4000000 in
theorem specNb_any (n : Int) (v : Value) (ps : List (Int × Int)) (a : Int) (w : World) (hv : PAt w w.heap.size v ps) (hl : ps.length ≤ 1048576) :
    Calls Tryd.prog 7 #[.int .i64 n, v, .int .i64 a] w fun e w' => ∃ u, e = .returned (.tuple #[u, .int .i64 (codeNb n ps a)]) ∧ IRow w' w.heap.size u (valNb n ps a) ∧ Below w.heap.size w w' := by
  have HV := Lib.hid hv
  clear hv
  cases hv9 : validC n ps with
  | false =>
    rw [show codeNb n ps a = 1 by simp [codeNb, hv9], show valNb n ps a = [] by simp [valNb, codeNb, hv9]]
    go_enter Tryd.func7, Tryd.ntmps7
    go_wp2_with fail
    refine (l09Ok_any _ _ ps _ HV.out hl).mono ?_
    rw [hv9]
    rintro e w2 ⟨rfl, hb⟩
    have HB := Lib.hid hb
    clear hb
    go_wp2
    exact bodyPost_ret (v := .tuple #[.slice none 0 0, .int .i64 1]) (by simp [results, Tryd.results7, go_sem]) rfl ⟨_, rfl, irow_nil _ _, HB.out⟩
  | true =>
    obtain ⟨n0, n1, _⟩ := validC_facts hv9
    have nw : IntKind.i64.wrap (n - 1) = n - 1 := IntWalk.i64_in _ (by omega)
    have HOK := Lib.hid hv9
    cases h1 : inB a 0 (n - 1) with
    | false =>
      rw [show codeNb n ps a = 2 by simp [codeNb, hv9, h1], show valNb n ps a = [] by simp [valNb, codeNb, hv9, h1]]
      go_enter Tryd.func7, Tryd.ntmps7
      go_wp2_with fail
      refine (l09Ok_any _ _ ps _ HV.out hl).mono ?_
      rw [hv9]
      rintro e w2 ⟨rfl, hb⟩
      have HB := Lib.hid hb
      clear hb
      clear hv9
      go_wp2_with fail
      refine (l00In_any _ _ _ _).mono ?_
      rw [h1]
      rintro e w3 ⟨rfl, rfl⟩
      go_wp2
      exact bodyPost_ret (v := .tuple #[.slice none 0 0, .int .i64 2]) (by simp [results, Tryd.results7, go_sem]) rfl ⟨_, rfl, irow_nil _ _, HB.out⟩
    | true =>
      rw [show codeNb n ps a = 0 by simp [codeNb, hv9, h1], show valNb n ps a = nextOf n ps a by simp [valNb, codeNb, hv9, h1]]
      go_enter Tryd.func7, Tryd.ntmps7
      go_wp2_with fail
      refine (l09Ok_any _ _ ps _ HV.out hl).mono ?_
      rw [hv9]
      rintro e w2 ⟨rfl, hb⟩
      have HB := Lib.hid hb
      clear hb
      clear hv9
      go_wp2_with fail
      refine (l00In_any _ _ _ _).mono ?_
      rw [h1]
      rintro e w3 ⟨rfl, rfl⟩
      go_wp2_with fail
      refine (l09Next_any _ _ ps _ _ (pat_up (pat_keep HV.out HB.out) HB.out.size) HOK.out).mono ?_
      rintro e w4 ⟨u9, rfl, hr, hb⟩
      have HB2 := Lib.hid (HB.out.trans (hb.mono HB.out.size))
      have HR := Lib.hid (irow_up hr HB.out.size)
      clear hr hb
      go_wp2
      exact bodyPost_ret (v := .tuple #[u9, .int .i64 0]) (by simp [results, Tryd.results7, go_sem]) rfl ⟨_, rfl, HR.out, HB2.out⟩
end Go.Proofs.YtemhmejjmhbfdabDoor.sines
