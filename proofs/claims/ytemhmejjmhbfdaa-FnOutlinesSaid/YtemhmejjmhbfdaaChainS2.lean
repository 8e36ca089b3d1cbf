/- The model's functions of chains that answer numbers, and chains from their end: contracts. -/
import Derived.Test.YtemhmejjmhbfdaaChainS1
import Derived.Maps.AppendAt
import Derived.BigQuiet
namespace Go.Proofs.Ytemhmejjmhbfdaa.sines
open Go.ChangeShapes Go.WideShapes Go.ChangeAt Go.RowKit Go.Proofs.Ytemhmejjmhbfdaa.spots Go.Proofs.Ytemhmejjmhbfdaa.irows Go.Proofs.Ytemhmejjmhbfdaa.pairsPlace
set_option linter.unusedSimpArgs false
set_option linter.unusedVariables false

theorem okC_no {ps : List Pl} {k : Nat} (h : k < ps.length) (hp : okP (pAt ps k) = false) : okC ps = false := by
  cases e : okC ps with
  | false => rfl
  | true => rw [(okC_of e).2.2 k h] at hp; cases hp
theorem okC_all {ps : List Pl} (h : ∀ j, j < ps.length → okP (pAt ps j) = true) : okC ps = inB (ps.length : Int) 2 24 := by
  have : ps.all okP = true := by
    rw [List.all_eq_true]
    intro p hp
    obtain ⟨j, hj, rfl⟩ := List.mem_iff_getElem.1 hp
    rw [pat_of hj]; exact h j hj
  simp [okC, this]
set_option maxRecDepth 100000 in
set_option maxHeartbeats 1000000 in
theorem l07Ok_any (v : Value) (ps : List (Int × Int)) (w : World) (hv : PAt w w.heap.size v ps) (hl : ps.length ≤ 1048576) :
    Calls Try.prog 131 #[v] w fun e w' => e = .returned (.bool (okC ps)) ∧ Below w.heap.size w w' := by
  obtain ⟨ar, c, rfl, hcl⟩ := hv
  have HCL := Lib.hid hcl
  clear hcl
  obtain ⟨R, hR⟩ : ∃ R, Hid (okC ps = R) := ⟨_, Lib.hid rfl⟩
  have hl2 : (ps.length : Int) ≤ 1048576 := by omega
  rw [hR.out]
  go_enter Try.func131, Try.ntmps131
  go_wp2
  go_loopw [3] (fun i wr => ∃ k : Nat, k ≤ ps.length ∧ i = .int .i64 (k : Int) ∧ (∀ j, j < k → okP (pAt ps j) = true) ∧ w = wr) (fun i _ => ps.length - (intOf i).toNat)
  case atStart => exact ⟨0, Nat.zero_le _, rfl, fun j h => by omega, rfl⟩
  case round =>
    obtain ⟨k, hk, rfl, ha, rfl⟩ := hrel
    have HA := Lib.hid ha
    clear ha
    by_cases hlt : k < ps.length
    · obtain ⟨b, off, rfl, hbs, c1, c2⟩ := HCL.out k hlt
      rw [pat_of hlt] at c1 c2
      have hk0 : 0 ≤ (k : Int) := by omega
      have hk1 : (k : Int) < (ps.length : Int) := by omega
      have NO := Lib.hid (show okP (pAt ps k) = false → R = false from fun h => by rw [← hR.out]; exact okC_no hlt h)
      have YES := Lib.hid (show okP (pAt ps k) = true → ∀ j, j < k + 1 → okP (pAt ps j) = true from fun h j hj => by
        by_cases e : j = k
        · subst e; exact h
        · exact HA.out j (by omega))
      have eo : okP (pAt ps k) = (inB (pAt ps k).1 0 2000 && inB (pAt ps k).2 0 2000) := rfl
      rw [eo] at NO YES
      clear eo
      generalize (pAt ps k).1 = x1 at c1 NO YES
      generalize (pAt ps k).2 = x2 at c2 NO YES
      cases h1 : inB x1 0 2000 with
      | false =>
        obtain rfl := NO.out (by simp [h1])
        go_wp2_with (first | (go_at_call 88; refine (l00In_any _ _ _ _).mono ?_; rw [h1]; rintro e w' ⟨rfl, rfl⟩))
        go_ret
        exact ⟨rfl, Below.refl _ _⟩
      | true =>
        cases h2 : inB x2 0 2000 with
        | false =>
          obtain rfl := NO.out (by simp [h2])
          go_wp2_with (first | (go_at_call 88; refine (l00In_any _ _ _ _).mono ?_; (first | rw [h1] | rw [h2]); rintro e w' ⟨rfl, rfl⟩))
          go_ret
          exact ⟨rfl, Below.refl _ _⟩
        | true =>
          have Y := Lib.hid (YES.out (by simp [h1, h2]))
          go_wp2_with (first | (go_at_call 88; refine (l00In_any _ _ _ _).mono ?_; (first | rw [h1] | rw [h2]); rintro e w' ⟨rfl, rfl⟩))
          go_roundw
          case rel => exact ⟨k + 1, by omega, by go_num, Y.out, by trivial⟩
          case measure => simp [intOf]; omega
    · obtain rfl : k = ps.length := by omega
      have RT := Lib.hid (show inB (ps.length : Int) 2 24 = R by rw [← hR.out]; exact (okC_all HA.out).symm)
      go_wp2_with (first | (go_at_call 88; refine (l00In_any _ _ _ _).mono ?_; rw [RT.out]; rintro e w' ⟨rfl, rfl⟩))
      go_ret
      exact ⟨rfl, Below.refl _ _⟩
/-- The code of a chain and a bound. -/
def codeC (ps : List Pl) (d : Int) : Int := if okC ps = true then (if inB d 0 3000 = true then 0 else 2) else 1
theorem codeC_of {ps : List Pl} {d : Int} (h : codeC ps d = 0) : okC ps = true ∧ 0 ≤ d ∧ d ≤ 3000 := by
  unfold codeC at h
  split at h
  · split at h
    · rename_i h1 h2
      obtain ⟨h3, h4⟩ := inB_of h2
      exact ⟨h1, h3, h4⟩
    · omega
  · omega
set_option maxHeartbeats 1000000 in
theorem l07Code_any (v : Value) (ps : List (Int × Int)) (d : Int) (w : World) (hv : PAt w w.heap.size v ps) (hl : ps.length ≤ 1048576) :
    Calls Try.prog 140 #[v, .int .i64 d] w fun e w' => e = .returned (.int .i64 (codeC ps d)) ∧ Below w.heap.size w w' := by
  have HV := Lib.hid hv
  obtain ⟨ar, c, rfl, _⟩ := hv
  have hl2 : (ps.length : Int) ≤ 1048576 := by omega
  cases h1 : okC ps with
  | false =>
    go_enter Try.func140, Try.ntmps140
    go_wp2_with (first | (go_at_call 131; refine (l07Ok_any _ ps _ HV.out hl).mono ?_; rw [h1]; rintro e w1 ⟨rfl, hb⟩))
    go_ret
    exact ⟨retI (by simp [codeC, h1]), hb⟩
  | true =>
    cases h2 : inB d 0 3000 with
    | false =>
      go_enter Try.func140, Try.ntmps140
      go_wp2_with (first | (go_at_call 131; refine (l07Ok_any _ ps _ HV.out hl).mono ?_; rw [h1]; rintro e w1 ⟨rfl, hb⟩) | (go_at_call 88; refine (l00In_any _ _ _ _).mono ?_; rw [h2]; rintro e w' ⟨rfl, rfl⟩))
      go_ret
      exact ⟨retI (by simp [codeC, h1, h2]), hb⟩
    | true =>
      go_enter Try.func140, Try.ntmps140
      go_wp2_with (first | (go_at_call 131; refine (l07Ok_any _ ps _ HV.out hl).mono ?_; rw [h1]; rintro e w1 ⟨rfl, hb⟩) | (go_at_call 88; refine (l00In_any _ _ _ _).mono ?_; rw [h2]; rintro e w' ⟨rfl, rfl⟩))
      go_ret
      exact ⟨retI (by simp [codeC, h1, h2]), hb⟩
def codeW (ps : List Pl) (i k d : Int) : Int := if codeC ps d = 0 then (if (inB k 0 ((ps.length : Int) - 1) && inB i 0 (k - 1)) = true then 0 else 2) else codeC ps d
def valW (ps : List Pl) (i k d : Int) : Bool := decide (codeW ps i k d = 0) && withinB ps d i.toNat k.toNat
theorem retW {a b : Bool} {c d : Int} (h : a = b) (g : c = d) : Ending.returned (.tuple #[.bool a, .int .i64 c]) = .returned (.tuple #[.bool b, .int .i64 d]) := by rw [h, g]
set_option maxRecDepth 100000 in
set_option maxHeartbeats 1000000 in
theorem specStaysWithin_any (v : Value) (ps : List (Int × Int)) (i k d : Int) (w : World) (hv : PAt w w.heap.size v ps) (hl : ps.length ≤ 1048576) :
    Calls Try.prog 59 #[v, .int .i64 i, .int .i64 k, .int .i64 d] w fun e w' => e = .returned (.tuple #[.bool (valW ps i k d), .int .i64 (codeW ps i k d)]) ∧ Below w.heap.size w w' := by
  have HV := Lib.hid hv
  obtain ⟨ar, c, rfl, _⟩ := hv
  have hl2 : (ps.length : Int) ≤ 1048576 := by omega
  have kl : IntKind.i64.wrap ((ps.length : Int) - 1) = (ps.length : Int) - 1 := IntWalk.i64_in _ (by omega)
  by_cases hc : codeC ps d = 0
  · obtain ⟨hok, d0, d1⟩ := codeC_of hc
    have hn := (okC_of hok).1
    cases h1 : inB k 0 ((ps.length : Int) - 1) with
    | false =>
      have e1 : codeW ps i k d = 2 := by simp [codeW, hc, h1]
      have e2 : valW ps i k d = false := by simp [valW, e1]
      rw [e1, e2]
      go_enter Try.func59, Try.ntmps59
      go_wp2_with (first | (go_at_call 140; refine (l07Code_any _ ps _ _ HV.out hl).mono ?_; rw [hc]; rintro e w1 ⟨rfl, hb⟩) | (go_at_call 88; refine (l00In_any _ _ _ _).mono ?_; rw [h1]; rintro e w' ⟨rfl, rfl⟩))
      exact bodyPost_ret (v := .tuple #[.bool false, .int .i64 2]) (by simp [results, Try.results59, go_sem]) rfl ⟨rfl, hb⟩
    | true =>
      obtain ⟨k0, k1⟩ := inB_of h1
      have kk : IntKind.i64.wrap (k - 1) = k - 1 := IntWalk.i64_in _ (by omega)
      cases h2 : inB i 0 (k - 1) with
      | false =>
        have e1 : codeW ps i k d = 2 := by simp [codeW, hc, h1, h2]
        have e2 : valW ps i k d = false := by simp [valW, e1]
        rw [e1, e2]
        go_enter Try.func59, Try.ntmps59
        go_wp2_with (first | (go_at_call 140; refine (l07Code_any _ ps _ _ HV.out hl).mono ?_; rw [hc]; rintro e w1 ⟨rfl, hb⟩) | (go_at_call 88; refine (l00In_any _ _ _ _).mono ?_; (first | rw [h1] | rw [h2]); rintro e w' ⟨rfl, rfl⟩))
        exact bodyPost_ret (v := .tuple #[.bool false, .int .i64 2]) (by simp [results, Try.results59, go_sem]) rfl ⟨rfl, hb⟩
      | true =>
        obtain ⟨i0, i1⟩ := inB_of h2
        have e1 : codeW ps i k d = 0 := by simp [codeW, hc, h1, h2]
        have e2 : valW ps i k d = withinB ps d i.toNat k.toNat := by simp [valW, e1]
        rw [e1, e2]
        obtain ⟨i', rfl⟩ := Int.eq_ofNat_of_zero_le i0
        obtain ⟨k', rfl⟩ := Int.eq_ofNat_of_zero_le k0
        obtain ⟨q1, q2, q3⟩ := okC_of hok
        have WI := Lib.hid (fun W (h : Below w.heap.size w W) => l07Within_any _ ps d i' k' W (pat_up (pat_keep HV.out h) h.size) q2 (by omega) (by omega) q3 d0 d1)
        simp only [Int.toNat_natCast]
        generalize withinB ps d i' k' = R at WI ⊢
        go_enter Try.func59, Try.ntmps59
        go_wp2_with (first | (go_at_call 140; refine (l07Code_any _ ps _ _ HV.out hl).mono ?_; rw [hc]; rintro e w1 ⟨rfl, hb⟩) | (go_at_call 88; refine (l00In_any _ _ _ _).mono ?_; (first | rw [h1] | rw [h2]); rintro e w' ⟨rfl, rfl⟩) | (go_at_call 141; refine (WI.out _ hb).mono ?_; rintro e w2 ⟨rfl, hb2⟩; have HB2 := Lib.hid (hb.trans (hb2.mono hb.size)); clear hb2))
        exact bodyPost_ret (v := .tuple #[.bool R, .int .i64 0]) (by simp [results, Try.results59, go_sem]) rfl ⟨rfl, HB2.out⟩
  · have e1 : codeW ps i k d = codeC ps d := by simp [codeW, hc]
    have e2 : valW ps i k d = false := by simp [valW, e1, hc]
    rw [e1, e2]
    obtain ⟨C, hC⟩ : ∃ C, Hid (codeC ps d = C) := ⟨_, Lib.hid rfl⟩
    rw [hC.out] at hc ⊢
    have hc1 : (C != 0) = true := by simpa using hc
    have hc2 : (C == 0) = false := by simpa using hc
    clear hc e1 e2
    go_enter Try.func59, Try.ntmps59
    go_wp2_with (first | (go_at_call 140; refine (l07Code_any _ ps _ _ HV.out hl).mono ?_; rw [hC.out]; rintro e w1 ⟨rfl, hb⟩))
    exact bodyPost_ret (v := .tuple #[.bool false, .int .i64 C]) (by simp [results, Try.results59, go_sem]) rfl ⟨rfl, hb⟩
theorem newPl (w : World) (s t : Int) (n : Nat) (h : w.heap.size = n) : ∀ j u, ([.int .i64 s, .int .i64 t] : List Value)[j]? = some u → (w.alloc (.cells #[.int .i64 s, .int .i64 t] 60)).cell? ((⟨n, 0, none⟩ : Addr).add j) = some u := by
  subst h
  intro j u hj
  match j, hj with
  | 0, hj => simp at hj; subst hj; simp [Addr.add]
  | 1, hj => simp at hj; subst hj; simp [Addr.add]
theorem cellPl (s t : Int) : ∀ u ∈ ([.int .i64 s, .int .i64 t] : List Value), u.oneCell' = true := fun u hu => by simp at hu; rcases hu with rfl | rfl <;> rfl
theorem snocPl {w : World} {B : Nat} {v : Value} {ps : List (Int × Int)} {x y : Int} (h : w.ownsRow B 60 2 v (ps.length + 1) (ints (flat ps) ++ [.int .i64 x, .int .i64 y])) : PRow w B v (ps ++ [(x, y)]) := by
  unfold PRow
  rw [List.length_append, flat_append]
  simpa [ints, flat] using h
theorem prow_nil (w : World) (B : Nat) : PRow w B (.slice none 0 0) [] := ⟨rfl, .inl ⟨rfl, rfl⟩⟩
theorem prow_made (w : World) (B : Nat) (h : B ≤ w.heap.size) : PRow (w.alloc (.cells #[] 60)) B (.slice (some ⟨w.heap.size, 0, none⟩) 0 0) [] := World.ownsRow_made w #[] 0 h (by decide) rfl
def revV (ps : List Pl) : List Pl := if okC ps = true then ps.reverse else []
def code1 (ps : List Pl) : Int := if okC ps = true then 0 else 1
theorem drop_rev {ps : List Pl} {k : Nat} (h : k < ps.length) : (ps.drop k).reverse = (ps.drop (k + 1)).reverse ++ [((pAt ps k).1, (pAt ps k).2)] := by
  rw [List.drop_eq_getElem_cons h, List.reverse_cons, pat_of h]
end Go.Proofs.Ytemhmejjmhbfdaa.sines
