/- The functions of caps that answer lists, and the ring of a place, of the model: contracts. -/
import Derived.Test.YtiemealkdgnhcaaCapsS
import Derived.Maps.AppendAt
namespace Go.Proofs.Ytiemealkdgnhcaa.sines
open Go.ChangeShapes Go.WideShapes Go.ChangeAt Go.RowKit Go.Proofs.Ytiemealkdgnhcaa.spots Go.Proofs.Ytiemealkdgnhcaa.irows Go.Proofs.Ytiemealkdgnhcaa.pairs
set_option linter.unusedSimpArgs false
set_option linter.unusedVariables false

def ringsV (r d : Int) : List Int := if codeN r d = 0 then ringsL r d else []
theorem ringsV_len (r d : Int) : (ringsV r d).length ≤ 61 := by
  unfold ringsV
  split
  · exact ringsL_len (by assumption)
  · simp
theorem ringsV_bad {r d : Int} (h : codeN r d ≠ 0) : ringsV r d = [] := by simp [ringsV, h]
theorem ringsV_zero {d : Int} (h : codeN 0 d = 0) : ringsV 0 d = [] := by simp [ringsV, h, ringsL]
theorem ringsV_pos {r d : Int} (h : codeN r d = 0) (k : 0 < r) : ringsV r d = ringsK d (wholeN r d) ++ [r] := by simp [ringsV, h, ringsL, k]
theorem underL_len (a r : Int) (ps : List (Int × Int)) : (underL a r ps).length ≤ ps.length := by
  unfold underL
  split
  · exact underK_len _ _ _
  · simp
theorem underL_bad {a r : Int} {ps : List (Int × Int)} (h : codeU a r ps ≠ 0) : underL a r ps = [] := by simp [underL, h]
theorem codeU_of {a r : Int} {ps : List (Int × Int)} (h : codeU a r ps = 0) : okL ps = true ∧ codeR a r = 0 ∧ ps.length ≤ 100 := by
  unfold codeU at h
  split at h
  · split at h
    · omega
    · exact ⟨by assumption, h, by omega⟩
  · omega
theorem ringC_facts {a d p : Int} (a1 : 1 ≤ a) (a2 : a ≤ 1000000) (p1 : 0 ≤ p) (p2 : p ≤ 324000) (d1 : 1 ≤ d) : 0 ≤ a * (324000 - p) ∧ a * (324000 - p) ≤ 1296000000000 ∧ 0 ≤ a * (324000 - p) / 1296000 ∧ a * (324000 - p) / 1296000 ≤ 1000000 ∧ 0 ≤ ringC a d p ∧ ringC a d p ≤ 1000000 := by
  obtain ⟨m1, m2⟩ := mul_small (n := 324000 - p) a1 a2 (by omega) (by omega)
  have h1 : 0 ≤ a * (324000 - p) / 1296000 := Int.ediv_nonneg m1 (by decide)
  have h2 : a * (324000 - p) / 1296000 ≤ 1000000 := by omega
  refine ⟨m1, m2, h1, h2, Int.ediv_nonneg h1 (by omega), ?_⟩
  have h3 : a * (324000 - p) / 1296000 / d ≤ a * (324000 - p) / 1296000 := Int.ediv_le_self _ h1
  unfold ringC
  omega
theorem bdk {B : Nat} {a w : World} (h : Below B a w) (q : Nat) : Below B a (w.drewN q) := ⟨h.os, h.tape, h.output, h.size, h.block⟩
theorem okB_ofK {a b : Int} (h : okB a b = true) : -324000 ≤ a ∧ a ≤ 324000 ∧ -648000 ≤ b ∧ b ≤ 647999 := by
  simp [okB] at h
  omega
theorem newK (w : World) (s : Int) (n : Nat) (h : w.heap.size = n) : ∀ j u, ([.int .i64 s] : List Value)[j]? = some u → (w.alloc (.cells #[.int .i64 s] 2)).cell? ((⟨n, 0, none⟩ : Addr).add j) = some u := by
  subst h
  intro j u hj
  match j, hj with
  | 0, hj => simp at hj; subst hj; simp [Addr.add]
theorem cellK (s : Int) : ∀ u ∈ ([.int .i64 s] : List Value), u.oneCell' = true := fun u hu => by simp at hu; subst hu; rfl
theorem snocK {w : World} {B : Nat} {v : Value} {o : List Int} {x : Int} (h : w.ownsRow B 2 1 v (o.length + 1) (ints o ++ [.int .i64 x])) : IRow w B v (o ++ [x]) := by
  unfold IRow
  rw [List.length_append, show [x].length = 1 from rfl, show ints (o ++ [x]) = ints o ++ [.int .i64 x] by simp [ints]]
  exact h
theorem irow_madeK (w : World) (B : Nat) (h : B ≤ w.heap.size) : IRow (w.alloc (.cells #[] 2)) B (.slice (some ⟨w.heap.size, 0, none⟩) 0 0) [] := World.ownsRow_made w #[] 0 h (by decide) rfl

set_option maxRecDepth 100000 in
set_option maxHeartbeats 2000000 in
theorem specRingsOf_any (r d : Int) (w : World) :
    Calls Try.prog 24 #[.int .i64 r, .int .i64 d] w fun e w' => ∃ u, e = .returned (.tuple #[u, .int .i64 (codeN r d)]) ∧ IRow w' w.heap.size u (ringsV r d) ∧ Below w.heap.size w w' := by
  obtain ⟨i0, hi, hz0, hz1, hz2⟩ := info_parts info_int
  by_cases hc : codeN r d = 0
  · obtain ⟨r1, r2, d1, d2, hm⟩ := codeN_of hc
    have WL := wholeN_le hc
    by_cases hr0 : r = 0
    · subst hr0
      rw [ringsV_zero hc, hc]
      have HC := Lib.hid hc
      clear hc
      go_enter Try.func24, Try.ntmps24
      go_wp2_with fail
      refine (l06Rings_any _ _ _).mono ?_
      rw [HC.out]
      rintro e w' ⟨rfl, rfl⟩
      go_wp2
      go_loopw [7, 8] (fun u i wr => i = .int .i64 d ∧ IRow wr w.heap.size u [] ∧ Below w.heap.size w wr) (fun _ i _ => 0)
      case atStart => exact ⟨rfl, irow_madeK _ _ (Nat.le_refl _), (Below.refl _ _).alloc (Nat.le_refl _) _⟩
      case round =>
        obtain ⟨rfl, hr, hb⟩ := hrel
        have HR := Lib.hid hr
        have HB := Lib.hid hb
        clear hr hb
        have hn : ¬ d < 0 := by omega
        go_wp2
        exact bodyPost_ret (v := .tuple #[u7, .int .i64 0]) (by simp [results, Try.results24, go_sem]) rfl ⟨_, rfl, HR.out, HB.out⟩
    · have hpos : 0 < r := by omega
      rw [ringsV_pos hc hpos, hc]
      have HC := Lib.hid hc
      clear hc hr0
      go_enter Try.func24, Try.ntmps24
      go_wp2_with fail
      refine (l06Rings_any _ _ _).mono ?_
      rw [HC.out]
      rintro e w' ⟨rfl, rfl⟩
      go_wp2
      go_loopw [7, 8] (fun u i wr => ∃ (k : Nat) (z : Int), z = ((k : Int) + 1) * d ∧ k ≤ wholeN r d ∧ 0 < z ∧ z ≤ 200000 ∧ i = .int .i64 z ∧ IRow wr w.heap.size u (ringsK d k) ∧ Below w.heap.size w wr) (fun _ i _ => (200001 - intOf i).toNat)
      case atStart => exact ⟨0, d, by simp, Nat.zero_le _, by omega, by omega, rfl, irow_madeK _ _ (Nat.le_refl _), (Below.refl _ _).alloc (Nat.le_refl _) _⟩
      case round =>
        obtain ⟨k, z, hz, hk, z0, z1, rfl, hr, hb⟩ := hrel
        have HZ := Lib.hid hz
        have HR := Lib.hid hr
        have HB := Lib.hid hb
        have hsz := hb.size
        have IFF := wholeN_iff hpos d1 k
        rw [← hz] at IFF
        have NL := Lib.hid (ringsK_len d k)
        have RS := Lib.hid (ringsK_succ d k)
        rw [← hz] at RS
        obtain ⟨ns, hns⟩ : ∃ ns, Hid (ringsK d k = ns) := ⟨_, Lib.hid rfl⟩
        rw [hns.out] at HR NL RS
        have nl : ns.length ≤ 60 := by rw [NL.out]; omega
        clear hr hb hz
        by_cases hlt : z < r
        · have hk2 := IFF.1 hlt
          have kw : IntKind.i64.wrap (z + d) = z + d := IntWalk.i64_in _ (by omega)
          clear IFF
          go_wp2_with (at_builtin; refine wpList_append_own _ rfl _ _ 27 rfl (w.heap.size) 2 i0 (.int .i64 0) 1 8 Try.underlying27 hi hz0 hz1 hz2 rfl (by decide) _ ns.length _ rfl (HR.out.alloc _) ⟨wr.heap.size, 0, none⟩ 1 1 [.int .i64 (z)] rfl rfl (newK _ _ _ (by first | rfl | simp)) (cellK _) (by unfold maxLen; omega) (by omega) (by simp; omega) ?_; intro v4 w4 hown1 hg1 _)
          go_roundw
          case rel => exact ⟨k + 1, z + d, by rw [HZ.out, ← Int.one_mul d, ← Int.mul_assoc, ← Int.add_mul]; simp, by omega, by omega, by omega, rfl, by rw [RS.out]; exact snocK hown1, (HB.out.alloc hsz _).grown hg1 (by simp; omega) (fun j hj => (HR.out.lt j hj).1)⟩
          case measure => simp [intOf]; omega
        · have hk2 : k = wholeN r d := by have : ¬ k < wholeN r d := fun h => hlt (IFF.2 h); omega
          have NE := Lib.hid (show ns = ringsK d (wholeN r d) by rw [← hns.out, hk2])
          clear IFF hk2
          go_wp2_with (at_builtin; refine wpList_append_own _ rfl _ _ 27 rfl (w.heap.size) 2 i0 (.int .i64 0) 1 8 Try.underlying27 hi hz0 hz1 hz2 rfl (by decide) _ ns.length _ rfl (HR.out.alloc _) ⟨wr.heap.size, 0, none⟩ 1 1 [.int .i64 (r)] rfl rfl (newK _ _ _ (by first | rfl | simp)) (cellK _) (by unfold maxLen; omega) (by omega) (by simp; omega) ?_; intro v4 w4 hown1 hg1 _)
          exact bodyPost_ret (v := .tuple #[v4, .int .i64 0]) (by simp [results, Try.results24, go_sem]) rfl ⟨_, rfl, by rw [← NE.out]; exact snocK hown1, (HB.out.alloc hsz _).grown hg1 (by simp; omega) (fun j hj => (HR.out.lt j hj).1)⟩
  · rw [ringsV_bad hc]
    obtain ⟨C, HC⟩ : ∃ C, Hid (codeN r d = C) := ⟨_, Lib.hid rfl⟩
    rw [HC.out] at hc ⊢
    have hc1 : (C != 0) = true := by simpa using hc
    clear hc
    go_enter Try.func24, Try.ntmps24
    go_wp2_with fail
    refine (l06Rings_any _ _ _).mono ?_
    rw [HC.out]
    rintro e w' ⟨rfl, rfl⟩
    go_wp2
    exact bodyPost_ret (v := .tuple #[.slice none 0 0, .int .i64 C]) (by simp [results, Try.results24, go_sem]) rfl ⟨_, rfl, irow_nil _ _, Below.refl _ _⟩

set_option maxRecDepth 100000 in
set_option maxHeartbeats 1000000 in
theorem specRingOf_1 (a r d p q : Int) (w : World) (h : okB p q = false) :
    Calls Try.prog 33 #[.int .i64 a, .int .i64 r, .int .i64 d, .agg #[.int .i64 p, .int .i64 q]] w fun e w' => e = .returned (.tuple #[.int .i64 (0), .int .i64 1]) ∧ Below w.heap.size w w' := by
  go_enter Try.func33, Try.ntmps33
  go_wp2_with (first | (go_at_call 81; refine (l02Ok_any _ _ _).mono ?_; rw [h]; rintro e w' ⟨rfl, o1, rfl⟩))
  exact bodyPost_ret (v := .tuple #[.int .i64 (0), .int .i64 1]) (by simp [results, Try.results33, go_sem]) rfl ⟨rfl, ((Below.refl _ _).alloc (Nat.le_refl _) _).alloc (by simp) _⟩
set_option maxRecDepth 100000 in
set_option maxHeartbeats 1000000 in
theorem specRingOf_2 (a r d p q : Int) (w : World) (h : okB p q = true) (k : codeR a r = 2) :
    Calls Try.prog 33 #[.int .i64 a, .int .i64 r, .int .i64 d, .agg #[.int .i64 p, .int .i64 q]] w fun e w' => e = .returned (.tuple #[.int .i64 (0), .int .i64 2]) ∧ Below w.heap.size w w' := by
  go_enter Try.func33, Try.ntmps33
  go_wp2_with (first | (go_at_call 81; refine (l02Ok_any _ _ _).mono ?_; rw [h]; rintro e w' ⟨rfl, o1, rfl⟩) | (go_at_call 61; refine (l06Radius_any _ _ _).mono ?_; rw [k]; rintro e w' ⟨rfl, rfl⟩))
  exact bodyPost_ret (v := .tuple #[.int .i64 (0), .int .i64 2]) (by simp [results, Try.results33, go_sem]) rfl ⟨rfl, ((Below.refl _ _).alloc (Nat.le_refl _) _).alloc (by simp) _⟩
set_option maxRecDepth 100000 in
set_option maxHeartbeats 1000000 in
theorem specRingOf_2w0 (a r d p q : Int) (w : World) (h : okB p q = true) (k : codeR a r = 0) (g : inB d 1 100000 = false) :
    Calls Try.prog 33 #[.int .i64 a, .int .i64 r, .int .i64 d, .agg #[.int .i64 p, .int .i64 q]] w fun e w' => e = .returned (.tuple #[.int .i64 (0), .int .i64 2]) ∧ Below w.heap.size w w' := by
  go_enter Try.func33, Try.ntmps33
  go_wp2_with (first | (go_at_call 81; refine (l02Ok_any _ _ _).mono ?_; rw [h]; rintro e w' ⟨rfl, o1, rfl⟩) | (go_at_call 61; refine (l06Radius_any _ _ _).mono ?_; rw [k]; rintro e w' ⟨rfl, rfl⟩) | (go_at_call 85; refine (l00In_any _ _ _ _).mono ?_; rw [g]; rintro e w' ⟨rfl, rfl⟩))
  exact bodyPost_ret (v := .tuple #[.int .i64 (0), .int .i64 2]) (by simp [results, Try.results33, go_sem]) rfl ⟨rfl, ((Below.refl _ _).alloc (Nat.le_refl _) _).alloc (by simp) _⟩
set_option maxRecDepth 100000 in
set_option maxHeartbeats 1000000 in
theorem specRingOf_2w5 (a r d p q : Int) (w : World) (h : okB p q = true) (k : codeR a r = 5) (g : inB d 1 100000 = false) :
    Calls Try.prog 33 #[.int .i64 a, .int .i64 r, .int .i64 d, .agg #[.int .i64 p, .int .i64 q]] w fun e w' => e = .returned (.tuple #[.int .i64 (0), .int .i64 2]) ∧ Below w.heap.size w w' := by
  go_enter Try.func33, Try.ntmps33
  go_wp2_with (first | (go_at_call 81; refine (l02Ok_any _ _ _).mono ?_; rw [h]; rintro e w' ⟨rfl, o1, rfl⟩) | (go_at_call 61; refine (l06Radius_any _ _ _).mono ?_; rw [k]; rintro e w' ⟨rfl, rfl⟩) | (go_at_call 85; refine (l00In_any _ _ _ _).mono ?_; rw [g]; rintro e w' ⟨rfl, rfl⟩))
  exact bodyPost_ret (v := .tuple #[.int .i64 (0), .int .i64 2]) (by simp [results, Try.results33, go_sem]) rfl ⟨rfl, ((Below.refl _ _).alloc (Nat.le_refl _) _).alloc (by simp) _⟩
set_option maxRecDepth 100000 in
set_option maxHeartbeats 1000000 in
theorem specRingOf_5 (a r d p q : Int) (w : World) (h : okB p q = true) (k : codeR a r = 5) (g : inB d 1 100000 = true) :
    Calls Try.prog 33 #[.int .i64 a, .int .i64 r, .int .i64 d, .agg #[.int .i64 p, .int .i64 q]] w fun e w' => e = .returned (.tuple #[.int .i64 (0), .int .i64 5]) ∧ Below w.heap.size w w' := by
  go_enter Try.func33, Try.ntmps33
  go_wp2_with (first | (go_at_call 81; refine (l02Ok_any _ _ _).mono ?_; rw [h]; rintro e w' ⟨rfl, o1, rfl⟩) | (go_at_call 61; refine (l06Radius_any _ _ _).mono ?_; rw [k]; rintro e w' ⟨rfl, rfl⟩) | (go_at_call 85; refine (l00In_any _ _ _ _).mono ?_; rw [g]; rintro e w' ⟨rfl, rfl⟩))
  exact bodyPost_ret (v := .tuple #[.int .i64 (0), .int .i64 5]) (by simp [results, Try.results33, go_sem]) rfl ⟨rfl, ((Below.refl _ _).alloc (Nat.le_refl _) _).alloc (by simp) _⟩
set_option maxRecDepth 100000 in
set_option maxHeartbeats 1000000 in
theorem specRingOf_n2 (a r d p q : Int) (w : World) (h : okB p q = true) (k : codeR a r = 0) (g : inB d 1 100000 = true) (n : codeN r d = 2) :
    Calls Try.prog 33 #[.int .i64 a, .int .i64 r, .int .i64 d, .agg #[.int .i64 p, .int .i64 q]] w fun e w' => e = .returned (.tuple #[.int .i64 (0), .int .i64 2]) ∧ Below w.heap.size w w' := by
  go_enter Try.func33, Try.ntmps33
  go_wp2_with (first | (go_at_call 81; refine (l02Ok_any _ _ _).mono ?_; rw [h]; rintro e w' ⟨rfl, o1, rfl⟩) | (go_at_call 61; refine (l06Radius_any _ _ _).mono ?_; rw [k]; rintro e w' ⟨rfl, rfl⟩) | (go_at_call 85; refine (l00In_any _ _ _ _).mono ?_; rw [g]; rintro e w' ⟨rfl, rfl⟩) | (go_at_call 74; refine (l06Rings_any _ _ _).mono ?_; rw [n]; rintro e w' ⟨rfl, rfl⟩))
  exact bodyPost_ret (v := .tuple #[.int .i64 (0), .int .i64 2]) (by simp [results, Try.results33, go_sem]) rfl ⟨rfl, ((Below.refl _ _).alloc (Nat.le_refl _) _).alloc (by simp) _⟩
set_option maxRecDepth 100000 in
set_option maxHeartbeats 1000000 in
theorem specRingOf_n5 (a r d p q : Int) (w : World) (h : okB p q = true) (k : codeR a r = 0) (g : inB d 1 100000 = true) (n : codeN r d = 5) :
    Calls Try.prog 33 #[.int .i64 a, .int .i64 r, .int .i64 d, .agg #[.int .i64 p, .int .i64 q]] w fun e w' => e = .returned (.tuple #[.int .i64 (0), .int .i64 5]) ∧ Below w.heap.size w w' := by
  go_enter Try.func33, Try.ntmps33
  go_wp2_with (first | (go_at_call 81; refine (l02Ok_any _ _ _).mono ?_; rw [h]; rintro e w' ⟨rfl, o1, rfl⟩) | (go_at_call 61; refine (l06Radius_any _ _ _).mono ?_; rw [k]; rintro e w' ⟨rfl, rfl⟩) | (go_at_call 85; refine (l00In_any _ _ _ _).mono ?_; rw [g]; rintro e w' ⟨rfl, rfl⟩) | (go_at_call 74; refine (l06Rings_any _ _ _).mono ?_; rw [n]; rintro e w' ⟨rfl, rfl⟩))
  exact bodyPost_ret (v := .tuple #[.int .i64 (0), .int .i64 5]) (by simp [results, Try.results33, go_sem]) rfl ⟨rfl, ((Below.refl _ _).alloc (Nat.le_refl _) _).alloc (by simp) _⟩
set_option maxRecDepth 100000 in
set_option maxHeartbeats 1000000 in
theorem specRingOf_3 (a r d p q : Int) (w : World) (h : okB p q = true) (k : codeR a r = 0) (g : inB d 1 100000 = true) (n : codeN r d = 0) (m : p < edgeC a r) :
    Calls Try.prog 33 #[.int .i64 a, .int .i64 r, .int .i64 d, .agg #[.int .i64 p, .int .i64 q]] w fun e w' => e = .returned (.tuple #[.int .i64 (0), .int .i64 3]) ∧ Below w.heap.size w w' := by
  obtain ⟨a1, a2, r1, r2, r3⟩ := codeR_of k
  obtain ⟨d1, d2⟩ := inB_of g
  obtain ⟨x1, x2⟩ := edgeC_bounds a1 r1 r3
  go_enter Try.func33, Try.ntmps33
  go_wp2_with (first | (go_at_call 81; refine (l02Ok_any _ _ _).mono ?_; rw [h]; rintro e w' ⟨rfl, o1, rfl⟩) | (go_at_call 61; refine (l06Radius_any _ _ _).mono ?_; rw [k]; rintro e w' ⟨rfl, rfl⟩) | (go_at_call 85; refine (l00In_any _ _ _ _).mono ?_; rw [g]; rintro e w' ⟨rfl, rfl⟩) | (go_at_call 74; refine (l06Rings_any _ _ _).mono ?_; rw [n]; rintro e w' ⟨rfl, rfl⟩))
  have q0 : ((w.alloc (.cells #[.int .i64 p, .int .i64 q] 35)).alloc o1).cell? ⟨w.heap.size, 0, none⟩ = some (.int .i64 p) := by rw [World.cell?_alloc_past _ _ _ (by simp)]; simp
  have hbl := Lib.hid (show Below w.heap.size w ((w.alloc (.cells #[.int .i64 p, .int .i64 q] 35)).alloc o1) from ((Below.refl _ _).alloc (Nat.le_refl _) _).alloc (by simp) _)
  generalize ((w.alloc (.cells #[.int .i64 p, .int .i64 q] 35)).alloc o1) = W at q0 hbl ⊢
  go_quiet ((go_at_call 62; exact Calls.quiet_of_same ((l06Edge_any _ _ _ a1 a2 r1 r2 r3).mono fun _ _ h => ⟨h.1, h.2.symm⟩)))
  go_wp2
  exact bodyPost_ret (v := .tuple #[.int .i64 (0), .int .i64 3]) (by simp [results, Try.results33, go_sem]) rfl ⟨rfl, bdk hbl.out _⟩
set_option maxRecDepth 100000 in
set_option maxHeartbeats 1000000 in
theorem specRingOf_yes (a r d p q : Int) (w : World) (h : okB p q = true) (k : codeR a r = 0) (g : inB d 1 100000 = true) (n : codeN r d = 0) (m : ¬ p < edgeC a r) :
    Calls Try.prog 33 #[.int .i64 a, .int .i64 r, .int .i64 d, .agg #[.int .i64 p, .int .i64 q]] w fun e w' => e = .returned (.tuple #[.int .i64 (ringC a d p), .int .i64 0]) ∧ Below w.heap.size w w' := by
  obtain ⟨a1, a2, r1, r2, r3⟩ := codeR_of k
  obtain ⟨d1, d2⟩ := inB_of g
  obtain ⟨x1, x2⟩ := edgeC_bounds a1 r1 r3
  obtain ⟨p1, p2, _, _⟩ := okB_ofK h
  have e0 : 0 ≤ p := by unfold edgeC at m; omega
  obtain ⟨y1, y2, y3, y4, y5, y6⟩ := ringC_facts a1 a2 e0 p2 d1
  have k1 : IntKind.i64.wrap (324000 - p) = 324000 - p := IntWalk.i64_in _ (by omega)
  have k2 : IntKind.i64.wrap (a * (324000 - p)) = a * (324000 - p) := IntWalk.i64_in _ (by omega)
  have k3 : (a * (324000 - p)).tdiv 1296000 = a * (324000 - p) / 1296000 := Int.tdiv_eq_ediv_of_nonneg y1
  have k4 : IntKind.i64.wrap (a * (324000 - p) / 1296000) = a * (324000 - p) / 1296000 := IntWalk.i64_in _ (by omega)
  have k5 : (a * (324000 - p) / 1296000).tdiv d = ringC a d p := Int.tdiv_eq_ediv_of_nonneg y3
  have k6 : IntKind.i64.wrap (ringC a d p) = ringC a d p := IntWalk.i64_in _ (by omega)
  have hz : d ≠ 0 := by omega
  have hm : d ≠ -1 := by omega
  go_enter Try.func33, Try.ntmps33
  go_wp2_with (first | (go_at_call 81; refine (l02Ok_any _ _ _).mono ?_; rw [h]; rintro e w' ⟨rfl, o1, rfl⟩) | (go_at_call 61; refine (l06Radius_any _ _ _).mono ?_; rw [k]; rintro e w' ⟨rfl, rfl⟩) | (go_at_call 85; refine (l00In_any _ _ _ _).mono ?_; rw [g]; rintro e w' ⟨rfl, rfl⟩) | (go_at_call 74; refine (l06Rings_any _ _ _).mono ?_; rw [n]; rintro e w' ⟨rfl, rfl⟩))
  have q0 : ((w.alloc (.cells #[.int .i64 p, .int .i64 q] 35)).alloc o1).cell? ⟨w.heap.size, 0, none⟩ = some (.int .i64 p) := by rw [World.cell?_alloc_past _ _ _ (by simp)]; simp
  have hbl := Lib.hid (show Below w.heap.size w ((w.alloc (.cells #[.int .i64 p, .int .i64 q] 35)).alloc o1) from ((Below.refl _ _).alloc (Nat.le_refl _) _).alloc (by simp) _)
  generalize ((w.alloc (.cells #[.int .i64 p, .int .i64 q] 35)).alloc o1) = W at q0 hbl ⊢
  go_quiet ((go_at_call 62; exact Calls.quiet_of_same ((l06Edge_any _ _ _ a1 a2 r1 r2 r3).mono fun _ _ h => ⟨h.1, h.2.symm⟩)))
  go_wp2
  exact bodyPost_ret (v := .tuple #[.int .i64 (ringC a d p), .int .i64 0]) (by simp [results, Try.results33, go_sem]) rfl ⟨rfl, bdk hbl.out _⟩
theorem codeQ_1 {a r d p q : Int} (h : okB p q = false) : codeQ a r d p q = 1 := by simp [codeQ, h]
theorem codeR_in {a r : Int} (h : codeR a r ≠ 2) : (inB a 1 1000000 && inB r 0 100000) = true ∧ codeR a r = if a < 4 * r then 5 else 0 := by
  unfold codeR at h ⊢
  split at h
  · rename_i k
    exact ⟨k, by rw [if_pos k]⟩
  · omega
theorem codeQ_in {a r d p q : Int} (h : okB p q = true) (k : codeR a r ≠ 2) (g : inB d 1 100000 = true) : codeQ a r d p q = if codeR a r = 5 then 5 else if 60 < manyN r d then 5 else if p < edgeC a r then 3 else 0 := by
  obtain ⟨k1, k2⟩ := codeR_in k
  unfold codeQ
  rw [if_pos h, k1, g, k2]
  simp only [Bool.and_self, if_true]
  split
  · simp
  · simp
theorem codeQ_2 {a r d p q : Int} (h : okB p q = true) (k : codeR a r = 2) : codeQ a r d p q = 2 := by
  unfold codeQ
  rw [if_pos h, if_neg]
  intro c
  unfold codeR at k
  rw [if_pos (by revert c; cases inB a 1 1000000 <;> cases inB r 0 100000 <;> simp)] at k
  split at k <;> omega
theorem codeQ_2w {a r d p q : Int} (h : okB p q = true) (g : inB d 1 100000 = false) : codeQ a r d p q = 2 := by
  unfold codeQ
  rw [if_pos h, g]
  simp
theorem codeN_in {r d : Int} (h : inB r 0 100000 = true) (g : inB d 1 100000 = true) : codeN r d = if 60 < manyN r d then 5 else 0 := by
  unfold codeN
  rw [h, g]
  rfl
theorem specRingOf_any (a r d p q : Int) (w : World) :
    Calls Try.prog 33 #[.int .i64 a, .int .i64 r, .int .i64 d, .agg #[.int .i64 p, .int .i64 q]] w fun e w' => e = .returned (.tuple #[.int .i64 (ansK (codeQ a r d p q) (ringC a d p)), .int .i64 (codeQ a r d p q)]) ∧ Below w.heap.size w w' := by
  cases h : okB p q with
  | false => rw [codeQ_1 h]; exact specRingOf_1 a r d p q w h
  | true =>
    by_cases k : codeR a r = 2
    · rw [codeQ_2 h k]; exact specRingOf_2 a r d p q w h k
    · cases g : inB d 1 100000 with
      | false =>
        rw [codeQ_2w h g]
        rcases codeR_cases a r with j | j | j
        · exact specRingOf_2w0 a r d p q w h j g
        · exact absurd j k
        · exact specRingOf_2w5 a r d p q w h j g
      | true =>
        rw [codeQ_in h k g]
        rcases codeR_cases a r with j | j | j
        · have hr : inB r 0 100000 = true := by
            have := (codeR_in k).1
            revert this
            cases inB a 1 1000000 <;> cases inB r 0 100000 <;> simp
          rw [if_neg (by omega)]
          by_cases n : 60 < manyN r d
          · rw [if_pos n]
            exact specRingOf_n5 a r d p q w h j g (by rw [codeN_in hr g, if_pos n])
          · have n0 : codeN r d = 0 := by rw [codeN_in hr g, if_neg n]
            rw [if_neg n]
            by_cases m : p < edgeC a r
            · rw [if_pos m]; exact specRingOf_3 a r d p q w h j g n0 m
            · rw [if_neg m]; exact specRingOf_yes a r d p q w h j g n0 m
        · exact absurd j k
        · rw [if_pos j]; exact specRingOf_5 a r d p q w h j g

end Go.Proofs.Ytiemealkdgnhcaa.sines
