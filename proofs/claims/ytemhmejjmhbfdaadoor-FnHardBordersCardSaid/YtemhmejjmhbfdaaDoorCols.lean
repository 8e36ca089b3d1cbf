/- Borders, neighbours, right colours: mathematics. -/
import Derived.Test.YtemhmejjmhbfdaaDoorSines
namespace Go.Proofs.YtemhmejjmhbfdaaDoor.sines
set_option linter.unusedSimpArgs false
set_option linter.unusedVariables false

/-- The border at a place of the list. -/
def bAt (ps : List (Int × Int)) (i : Nat) : Int × Int := ps.getD i (0, 0)
theorem bAt_of {ps : List (Int × Int)} {k : Nat} (h : k < ps.length) : ps[k] = bAt ps k := by simp [bAt, h]
def okBd (n : Int) (p : Int × Int) : Bool := inB p.2 0 (n - 1) && inB p.1 0 (p.2 - 1)
theorem okBd_of {n : Int} {p : Int × Int} (h : okBd n p = true) : 0 ≤ p.1 ∧ p.1 < p.2 ∧ p.2 < n := by
  simp only [okBd, Bool.and_eq_true, inB, decide_eq_true_eq] at h; omega
/-- Borders that are valid for lands. -/
def validC (n : Int) (ps : List (Int × Int)) : Bool :=
  inB n 1 10 && ((List.range ps.length).all fun i => okBd n (bAt ps i) && (List.range i).all fun k => bAt ps k != bAt ps i) && decide (ps.length ≤ 30)
theorem validC_iff {n : Int} {ps : List (Int × Int)} : validC n ps = true ↔ inB n 1 10 = true ∧ (∀ i, i < ps.length → okBd n (bAt ps i) = true ∧ ∀ k, k < i → bAt ps k ≠ bAt ps i) ∧ ps.length ≤ 30 := by
  simp only [validC, Bool.and_eq_true, List.all_eq_true, List.mem_range, bne_iff_ne, decide_eq_true_eq, and_assoc]
theorem validC_num {n : Int} {ps : List (Int × Int)} (h : inB n 1 10 = false) : validC n ps = false := by simp [validC, h]
theorem validC_no {n : Int} {ps : List (Int × Int)} {i : Nat} (hi : i < ps.length) (h : okBd n (bAt ps i) = false) : validC n ps = false := by
  cases e : validC n ps with
  | false => rfl
  | true => rw [(validC_iff.1 e).2.1 i hi |>.1] at h; cases h
theorem validC_twice {n : Int} {ps : List (Int × Int)} {i k : Nat} (hi : i < ps.length) (hk : k < i) (h : bAt ps k = bAt ps i) : validC n ps = false := by
  cases e : validC n ps with
  | false => rfl
  | true => exact absurd h ((validC_iff.1 e).2.1 i hi |>.2 k hk)
theorem validC_all {n : Int} {ps : List (Int × Int)} (h1 : inB n 1 10 = true) (h2 : ∀ i, i < ps.length → okBd n (bAt ps i) = true ∧ ∀ k, k < i → bAt ps k ≠ bAt ps i) : validC n ps = decide (ps.length ≤ 30) := by
  rw [Bool.eq_iff_iff, validC_iff, decide_eq_true_eq]
  exact ⟨fun h => h.2.2, fun h => ⟨h1, h2, h⟩⟩
theorem validC_facts {n : Int} {ps : List (Int × Int)} (h : validC n ps = true) : 1 ≤ n ∧ n ≤ 10 ∧ ps.length ≤ 30 ∧ ∀ i, i < ps.length → 0 ≤ (bAt ps i).1 ∧ (bAt ps i).1 < (bAt ps i).2 ∧ (bAt ps i).2 < n := by
  obtain ⟨h1, h2, h3⟩ := validC_iff.1 h
  obtain ⟨a, b⟩ := inB_of h1
  exact ⟨a, b, h3, fun i hi => okBd_of (h2 i hi).1⟩
/-- A border joins two lands. -/
def joins (p : Int × Int) (a x : Int) : Bool := decide (p.1 = a ∧ p.2 = x) || decide (p.2 = a ∧ p.1 = x)
theorem joins_comm (p : Int × Int) (a x : Int) : joins p a x = joins p x a := by
  rw [Bool.eq_iff_iff]; simp only [joins, Bool.or_eq_true, decide_eq_true_eq]; omega
def nbr (ps : List (Int × Int)) (a x : Int) : Bool := ps.any fun p => joins p a x
theorem nbr_iff {ps : List (Int × Int)} {a x : Int} : nbr ps a x = true ↔ ∃ i, i < ps.length ∧ joins (bAt ps i) a x = true := by
  simp only [nbr, List.any_eq_true]
  constructor
  · rintro ⟨p, hp, h⟩
    obtain ⟨i, hi, rfl⟩ := List.mem_iff_getElem.1 hp
    exact ⟨i, hi, by rw [← bAt_of hi]; exact h⟩
  · rintro ⟨i, hi, h⟩
    exact ⟨ps[i], List.getElem_mem _, by rw [bAt_of hi]; exact h⟩
/-- The neighbours of a land among the lands below k. -/
def nextN (ps : List (Int × Int)) (a : Int) (k : Nat) : List Int := ((List.range k).map Int.ofNat).filter fun x => nbr ps a x
theorem nextN_succ (ps : List (Int × Int)) (a : Int) (k : Nat) : nextN ps a (k + 1) = nextN ps a k ++ (if nbr ps a k = true then [(k : Int)] else []) := by
  simp only [nextN, List.range_succ, List.map_append, List.filter_append, List.map_cons, List.map_nil]
  congr 1
  by_cases h : nbr ps a (k : Int) = true
  · rw [List.filter_cons_of_pos (show nbr ps a (Int.ofNat k) = true from h), if_pos h]; rfl
  · rw [List.filter_cons_of_neg (show ¬ nbr ps a (Int.ofNat k) = true from h), if_neg h]; rfl
theorem nextN_len (ps : List (Int × Int)) (a : Int) (k : Nat) : (nextN ps a k).length ≤ k := by
  have := List.length_filter_le (fun x => nbr ps a x) ((List.range k).map Int.ofNat)
  simpa [nextN] using this
theorem nextN_mem {ps : List (Int × Int)} {a x : Int} {k : Nat} : x ∈ nextN ps a k ↔ 0 ≤ x ∧ x < k ∧ nbr ps a x = true := by
  simp only [nextN, List.mem_filter, List.mem_map, List.mem_range]
  constructor
  · rintro ⟨⟨m, hm, rfl⟩, h⟩
    exact ⟨Int.natCast_nonneg m, by simpa using hm, h⟩
  · rintro ⟨h0, h1, h⟩
    exact ⟨⟨x.toNat, by omega, Int.toNat_of_nonneg h0⟩, h⟩
/-- No two borders of a valid list join the same lands. -/
theorem joins_once {n : Int} {ps : List (Int × Int)} (h : validC n ps = true) {i k : Nat} {a x : Int} (hi : i < ps.length) (hk : k < i) (h1 : joins (bAt ps k) a x = true) : joins (bAt ps i) a x = false := by
  cases e : joins (bAt ps i) a x with
  | false => rfl
  | true =>
    exfalso
    obtain ⟨o1, o2⟩ := (validC_iff.1 h).2.1 i hi
    obtain ⟨o3, _⟩ := (validC_iff.1 h).2.1 k (by omega)
    have f1 := okBd_of o1
    have f2 := okBd_of o3
    apply o2 k hk
    simp only [joins, Bool.or_eq_true, decide_eq_true_eq] at e h1
    apply Prod.ext <;> omega
def nextOf (n : Int) (ps : List (Int × Int)) (a : Int) : List Int := nextN ps a n.toNat
def codeNb (n : Int) (ps : List (Int × Int)) (a : Int) : Int := if validC n ps = true then (if inB a 0 (n - 1) = true then 0 else 2) else 1
def cAt (cs : List Int) (i : Int) : Int := cs.getD i.toNat 0
/-- Colours of lands. -/
def colsOk (n : Int) (cs : List Int) : Bool := (cs.all fun c => inB c 0 9) && decide ((cs.length : Int) = n)
/-- The first border between lands of one colour, among those from k on; -1 if there is none. -/
def clashFrom (cs : List Int) : List (Int × Int) → Nat → Int
  | [], _ => -1
  | p :: ps, k => if cAt cs p.1 = cAt cs p.2 then (k : Int) else clashFrom cs ps (k + 1)
def clashV (ps : List (Int × Int)) (cs : List Int) : Int := clashFrom cs ps 0
theorem clashFrom_yes {cs : List Int} : ∀ {ps : List (Int × Int)} {k i : Nat}, i < ps.length → (∀ j, j < i → cAt cs (bAt ps j).1 ≠ cAt cs (bAt ps j).2) → cAt cs (bAt ps i).1 = cAt cs (bAt ps i).2 → clashFrom cs ps k = ((k + i : Nat) : Int)
  | [], _, _, h, _, _ => by simp at h
  | p :: ps, k, 0, _, _, h => by simp only [bAt, List.getD_cons_zero] at h; simp [clashFrom, h]
  | p :: ps, k, i + 1, hi, hj, h => by
    have h0 : cAt cs p.1 ≠ cAt cs p.2 := by simpa [bAt] using hj 0 (by omega)
    rw [clashFrom, if_neg h0, clashFrom_yes (i := i) (by simpa using hi) (fun j hjj => by simpa [bAt] using hj (j + 1) (by omega)) (by simpa [bAt] using h)]
    congr 1; omega
theorem clashFrom_no {cs : List Int} : ∀ {ps : List (Int × Int)} {k : Nat}, (∀ j, j < ps.length → cAt cs (bAt ps j).1 ≠ cAt cs (bAt ps j).2) → clashFrom cs ps k = -1
  | [], _, _ => rfl
  | p :: ps, k, h => by
    have h0 : cAt cs p.1 ≠ cAt cs p.2 := by simpa [bAt] using h 0 (by simp)
    rw [clashFrom, if_neg h0]
    exact clashFrom_no fun j hj => by simpa [bAt] using h (j + 1) (by simpa using hj)
theorem clashV_yes {ps : List (Int × Int)} {cs : List Int} {i : Nat} (hi : i < ps.length) (h : ∀ j, j < i → cAt cs (bAt ps j).1 ≠ cAt cs (bAt ps j).2) (hc : cAt cs (bAt ps i).1 = cAt cs (bAt ps i).2) : clashV ps cs = (i : Int) := by
  have := clashFrom_yes (k := 0) hi h hc
  simpa [clashV] using this
theorem clashV_no {ps : List (Int × Int)} {cs : List Int} (h : ∀ j, j < ps.length → cAt cs (bAt ps j).1 ≠ cAt cs (bAt ps j).2) : clashV ps cs = -1 := clashFrom_no h
def rightC (ps : List (Int × Int)) (cs : List Int) : Bool := ps.all fun p => cAt cs p.1 != cAt cs p.2
theorem rightC_iff {ps : List (Int × Int)} {cs : List Int} : rightC ps cs = true ↔ ∀ j, j < ps.length → cAt cs (bAt ps j).1 ≠ cAt cs (bAt ps j).2 := by
  simp only [rightC, List.all_eq_true, bne_iff_ne]
  constructor
  · intro h j hj; rw [← bAt_of hj]; exact h _ (List.getElem_mem _)
  · intro h p hp
    obtain ⟨i, hi, rfl⟩ := List.mem_iff_getElem.1 hp
    rw [bAt_of hi]; exact h i hi
theorem clashV_right {ps : List (Int × Int)} {cs : List Int} : clashV ps cs = -1 ↔ rightC ps cs = true := by
  constructor
  · intro h
    rw [rightC_iff]
    apply Classical.byContradiction
    intro hn
    have hex : ∃ j, j < ps.length ∧ cAt cs (bAt ps j).1 = cAt cs (bAt ps j).2 := by
      apply Classical.byContradiction
      intro h2
      exact hn fun j hj e => h2 ⟨j, hj, e⟩
    obtain ⟨j, ⟨hj, hc⟩, hm⟩ : ∃ j, (j < ps.length ∧ cAt cs (bAt ps j).1 = cAt cs (bAt ps j).2) ∧ ∀ m, m < j → ¬ (m < ps.length ∧ cAt cs (bAt ps m).1 = cAt cs (bAt ps m).2) := by
      obtain ⟨j, hj⟩ := hex
      induction j using Nat.strongRecOn with
      | ind j ih =>
        by_cases hs : ∃ m, m < j ∧ m < ps.length ∧ cAt cs (bAt ps m).1 = cAt cs (bAt ps m).2
        · obtain ⟨m, hm, h1⟩ := hs
          exact ih m hm h1
        · exact ⟨j, hj, fun m hm h1 => hs ⟨m, hm, h1⟩⟩
    rw [clashV_yes hj (fun m hmj e => hm m hmj ⟨by omega, e⟩) hc] at h
    · omega
  · intro h; exact clashV_no (rightC_iff.1 h)
/-- All lists of r colours below m, in order. -/
def allC (m : Nat) : Nat → List (List Int)
  | 0 => [[]]
  | r + 1 => (List.range m).flatMap fun (c : Nat) => (allC m r).map ((c : Int) :: ·)
theorem allC_len {m : Nat} : ∀ {r : Nat} {ds : List Int}, ds ∈ allC m r → ds.length = r ∧ ∀ d ∈ ds, 0 ≤ d ∧ d < m
  | 0, ds, h => by
    simp only [allC, List.mem_singleton] at h
    subst h; simp
  | r + 1, ds, h => by
    simp only [allC, List.mem_flatMap, List.mem_range, List.mem_map] at h
    obtain ⟨c, hc, es, he, rfl⟩ := h
    obtain ⟨h1, h2⟩ := allC_len he
    refine ⟨by simp [h1], fun d hd => ?_⟩
    rcases List.mem_cons.1 hd with rfl | hd
    · omega
    · exact h2 d hd
theorem allC_mem {m : Nat} : ∀ {r : Nat} {ds : List Int}, ds.length = r → (∀ d ∈ ds, 0 ≤ d ∧ d < m) → ds ∈ allC m r
  | 0, ds, h, _ => by
    have : ds = [] := List.eq_nil_of_length_eq_zero h
    subst this; simp [allC]
  | r + 1, [], h, _ => by simp at h
  | r + 1, d :: ds, h, hd => by
    simp only [allC, List.mem_flatMap, List.mem_range, List.mem_map]
    obtain ⟨h0, h1⟩ := hd d (by simp)
    refine ⟨d.toNat, by omega, ds, allC_mem (by simpa using h) (fun e he => hd e (by simp [he])), ?_⟩
    rw [Int.toNat_of_nonneg h0]
/-- Of the lands that have colours already no two neighbours have the same. -/
def partR (ps : List (Int × Int)) (cs : List Int) : Prop := ∀ p ∈ ps, p.2 < (cs.length : Int) → cAt cs p.1 ≠ cAt cs p.2
/-- The next land may have a colour. -/
def freeC (ps : List (Int × Int)) (cs : List Int) (c : Int) : Bool := ps.all fun p => !(decide (p.2 = (cs.length : Int)) && decide (cAt cs p.1 = c))
def okPs (ps : List (Int × Int)) : Prop := ∀ p ∈ ps, 0 ≤ p.1 ∧ p.1 < p.2
theorem cAt_app_lt {cs ds : List Int} {i : Int} (h0 : 0 ≤ i) (h : i < cs.length) : cAt (cs ++ ds) i = cAt cs i := by
  have : i.toNat < cs.length := by omega
  simp [cAt, List.getD_eq_getElem?_getD, List.getElem?_append_left this]
theorem cAt_app_at {cs ds : List Int} {c : Int} : cAt (cs ++ c :: ds) (cs.length : Int) = c := by
  simp [cAt, List.getD_eq_getElem?_getD]
theorem partR_step {ps : List (Int × Int)} {cs : List Int} {c : Int} (ho : okPs ps) (h : partR ps cs) : partR ps (cs ++ [c]) ↔ freeC ps cs c = true := by
  simp only [freeC, List.all_eq_true, Bool.not_eq_true', Bool.and_eq_false_iff, decide_eq_false_iff_not]
  constructor
  · intro hp p hm
    by_cases e : p.2 = (cs.length : Int)
    · right
      have h1 := hp p hm (by simp; omega)
      obtain ⟨o1, o2⟩ := ho p hm
      rw [e, cAt_app_at, cAt_app_lt o1 (by omega)] at h1
      exact h1
    · exact .inl e
  · intro hf p hm hl
    obtain ⟨o1, o2⟩ := ho p hm
    simp only [List.length_append, List.length_cons, List.length_nil] at hl
    by_cases e : p.2 = (cs.length : Int)
    · rw [e, cAt_app_at, cAt_app_lt o1 (by omega)]
      rcases hf p hm with h1 | h1
      · exact absurd e h1
      · exact h1
    · rw [cAt_app_lt (by omega) (by omega), cAt_app_lt (by omega) (by omega)]
      exact h p hm (by omega)
theorem partR_pre {ps : List (Int × Int)} {cs ds : List Int} (ho : okPs ps) (h : partR ps (cs ++ ds)) : partR ps cs := by
  intro p hm hl
  obtain ⟨o1, o2⟩ := ho p hm
  have := h p hm (by simp; omega)
  rwa [cAt_app_lt (by omega) (by omega), cAt_app_lt (by omega) (by omega)] at this
theorem rightC_part {ps : List (Int × Int)} {cs : List Int} (hn : ∀ p ∈ ps, p.2 < (cs.length : Int)) : rightC ps cs = true ↔ partR ps cs := by
  simp only [rightC, List.all_eq_true, bne_iff_ne, partR]
  exact ⟨fun h p hm _ => h p hm, fun h p hm => h p hm (hn p hm)⟩
/-- The first completion found by trying the colours below m for the next lands, one after the other. -/
def search (ps : List (Int × Int)) (m : Nat) : Nat → List Int → Option (List Int)
  | 0, cs => some cs
  | r + 1, cs => (List.range m).findSome? fun (c : Nat) => if freeC ps cs c = true then search ps m r (cs ++ [(c : Int)]) else none
theorem find_flatMap {α β : Type} (f : α → List β) (q : β → Bool) : ∀ xs : List α, (xs.flatMap f).find? q = xs.findSome? fun x => (f x).find? q
  | [] => rfl
  | x :: xs => by
    rw [List.flatMap_cons, List.find?_append, List.findSome?_cons, find_flatMap f q xs]
    cases (f x).find? q <;> rfl
/-- It is the first of all right completions. -/
theorem search_is {ps : List (Int × Int)} {m : Nat} (ho : okPs ps) : ∀ (r : Nat) (cs : List Int), partR ps cs → (∀ p ∈ ps, p.2 < ((cs.length + r : Nat) : Int)) → search ps m r cs = ((allC m r).find? fun ds => rightC ps (cs ++ ds)).map (cs ++ ·)
  | 0, cs, h, hn => by
    have : rightC ps (cs ++ []) = true := by rw [List.append_nil]; exact (rightC_part (by simpa using hn)).2 h
    rw [List.append_nil] at this
    simp [search, allC, this]
  | r + 1, cs, h, hn => by
    rw [search, allC, find_flatMap]
    have : ∀ xs : List Nat, (xs.findSome? fun (c : Nat) => if freeC ps cs c = true then search ps m r (cs ++ [(c : Int)]) else none) = ((xs.findSome? fun (c : Nat) => ((allC m r).map ((c : Int) :: ·)).find? fun ds => rightC ps (cs ++ ds)).map (cs ++ ·)) := by
      intro xs
      induction xs with
      | nil => rfl
      | cons x xs ih =>
        rw [List.findSome?_cons, List.findSome?_cons, ih]
        have e : (((allC m r).map ((x : Int) :: ·)).find? fun ds => rightC ps (cs ++ ds)).map (cs ++ ·) = ((allC m r).find? fun ds => rightC ps (cs ++ [(x : Int)] ++ ds)).map ((cs ++ [(x : Int)]) ++ ·) := by
          rw [List.find?_map, Option.map_map]
          simp only [Function.comp_def, List.append_assoc, List.singleton_append]
        by_cases hf : freeC ps cs (x : Int) = true
        · rw [if_pos hf, search_is ho r (cs ++ [(x : Int)]) ((partR_step ho h).2 hf) (fun p hp => by have := hn p hp; simp; omega), ← e]
          cases ((allC m r).map ((x : Int) :: ·)).find? fun ds => rightC ps (cs ++ ds) <;> rfl
        · rw [if_neg hf]
          have hno : (((allC m r).map ((x : Int) :: ·)).find? fun ds => rightC ps (cs ++ ds)) = none := by
            rw [List.find?_eq_none]
            intro ds hd hr
            apply hf
            obtain ⟨es, he, rfl⟩ := List.mem_map.1 hd
            have hlen := (allC_len he).1
            have hp := (rightC_part (cs := cs ++ (x : Int) :: es) (fun p hp => by have := hn p hp; simp [hlen]; omega)).1 hr
            rw [show cs ++ (x : Int) :: es = cs ++ [(x : Int)] ++ es by simp] at hp
            exact (partR_step ho h).1 (partR_pre ho hp)
          rw [hno]
    exact this _
/-- The first right colours with m of them. -/
def firstC (n : Int) (ps : List (Int × Int)) (m : Int) : Option (List Int) := (allC m.toNat n.toNat).find? (rightC ps)
theorem okPs_of {n : Int} {ps : List (Int × Int)} (h : validC n ps = true) : okPs ps ∧ ∀ p ∈ ps, p.2 < n := by
  have hf := (validC_facts h).2.2.2
  refine ⟨fun p hp => ?_, fun p hp => ?_⟩ <;> (obtain ⟨i, hi, rfl⟩ := List.mem_iff_getElem.1 hp; rw [bAt_of hi]; have := hf i hi; omega)
theorem search_first {n : Int} {ps : List (Int × Int)} (h : validC n ps = true) (m : Int) : search ps m.toNat n.toNat [] = firstC n ps m := by
  obtain ⟨h1, h2⟩ := okPs_of h
  obtain ⟨n0, n1, _⟩ := validC_facts h
  rw [search_is h1 n.toNat [] (fun p hp hl => by have := h1 p hp; simp at hl; omega) (fun p hp => by have := h2 p hp; simp; omega)]
  simp [firstC]
theorem firstC_some {n : Int} {ps : List (Int × Int)} {m : Int} {cs : List Int} (h : firstC n ps m = some cs) : rightC ps cs = true ∧ cs.length = n.toNat ∧ ∀ d ∈ cs, 0 ≤ d ∧ d < m := by
  obtain ⟨h1, h2⟩ := allC_len (List.mem_of_find?_eq_some h)
  refine ⟨List.find?_some h, h1, fun d hd => ?_⟩
  have := h2 d hd; omega
theorem firstC_none {n : Int} {ps : List (Int × Int)} {m : Int} (h : firstC n ps m = none) {cs : List Int} (hl : cs.length = n.toNat) (hc : ∀ d ∈ cs, 0 ≤ d ∧ d < m) : rightC ps cs = false := by
  have := List.find?_eq_none.1 h cs (allC_mem hl (fun d hd => by have := hc d hd; omega))
  simpa using this
/-- More colours are enough when fewer are. -/
theorem firstC_mono {n : Int} {ps : List (Int × Int)} {m m' : Int} (hm : m ≤ m') (h : (firstC n ps m).isSome = true) : (firstC n ps m').isSome = true := by
  obtain ⟨cs, hc⟩ := Option.isSome_iff_exists.1 h
  obtain ⟨h1, h2, h3⟩ := firstC_some hc
  cases e : firstC n ps m' with
  | some _ => rfl
  | none => rw [firstC_none e h2 (fun d hd => by have := h3 d hd; omega)] at h1; cases h1
/-- As many colours as lands are enough. -/
theorem firstC_lands {n : Int} {ps : List (Int × Int)} (h : validC n ps = true) : (firstC n ps n).isSome = true := by
  obtain ⟨h1, h2⟩ := okPs_of h
  obtain ⟨n0, n1, _⟩ := validC_facts h
  cases e : firstC n ps n with
  | some _ => rfl
  | none =>
    exfalso
    have hr := firstC_none e (cs := (List.range n.toNat).map Int.ofNat) (by simp) (fun d hd => by
      simp only [List.mem_map, List.mem_range] at hd
      obtain ⟨k, hk, rfl⟩ := hd
      simp only [Int.ofNat_eq_natCast]; omega)
    have : rightC ps ((List.range n.toNat).map Int.ofNat) = true := by
      simp only [rightC, List.all_eq_true, bne_iff_ne]
      intro p hp
      have a := h1 p hp
      have b := h2 p hp
      have c : ∀ i : Int, 0 ≤ i → i < n → cAt ((List.range n.toNat).map Int.ofNat) i = i := fun i i0 i1 => by
        have : i.toNat < n.toNat := by omega
        simp only [cAt, List.getD_eq_getElem?_getD, List.getElem?_map, List.getElem?_range this, Option.map_some, Option.getD_some, Int.ofNat_eq_natCast]; omega
      rw [c _ (by omega) (by omega), c _ (by omega) (by omega)]; omega
    rw [this] at hr; cases hr
/-- The least number of colours, looked for from k on. -/
def fewFrom (n : Int) (ps : List (Int × Int)) : Nat → Int → Int
  | 0, _ => n
  | r + 1, k => if (firstC n ps k).isSome = true then k else fewFrom n ps r (k + 1)
def fewest (n : Int) (ps : List (Int × Int)) : Int := fewFrom n ps (n - 1).toNat 1
theorem fewFrom_is {n : Int} {ps : List (Int × Int)} (h : validC n ps = true) : ∀ (r : Nat) (k : Int), k + r = n → (∀ j, j < k → (firstC n ps j).isSome = false) →
    k ≤ fewFrom n ps r k ∧ fewFrom n ps r k ≤ n ∧ (firstC n ps (fewFrom n ps r k)).isSome = true ∧ ∀ j, j < fewFrom n ps r k → (firstC n ps j).isSome = false
  | 0, k, hk, hj => by
    have : k = n := by omega
    subst this
    exact ⟨by simp [fewFrom], by simp [fewFrom], by simpa [fewFrom] using firstC_lands h, by simpa [fewFrom] using hj⟩
  | r + 1, k, hk, hj => by
    by_cases hs : (firstC n ps k).isSome = true
    · rw [show fewFrom n ps (r + 1) k = k by rw [fewFrom, if_pos hs]]
      exact ⟨by omega, by omega, hs, hj⟩
    · rw [show fewFrom n ps (r + 1) k = fewFrom n ps r (k + 1) by rw [fewFrom, if_neg hs]]
      obtain ⟨a, b, c, d⟩ := fewFrom_is h r (k + 1) (by omega) (fun j hjk => by
        by_cases e : j = k
        · subst e; simpa using hs
        · exact hj j (by omega))
      exact ⟨by omega, b, c, d⟩
theorem firstC_zero {n : Int} {ps : List (Int × Int)} (h : 1 ≤ n) {j : Int} (hj : j < 1) : (firstC n ps j).isSome = false := by
  cases e : firstC n ps j with
  | none => rfl
  | some cs =>
    obtain ⟨_, h2, h3⟩ := firstC_some e
    cases cs with
    | nil => simp at h2; omega
    | cons d ds => have := h3 d (by simp); omega
theorem fewest_is {n : Int} {ps : List (Int × Int)} (h : validC n ps = true) : 1 ≤ fewest n ps ∧ fewest n ps ≤ n ∧ (firstC n ps (fewest n ps)).isSome = true ∧ ∀ j, j < fewest n ps → (firstC n ps j).isSome = false := by
  obtain ⟨n0, n1, _⟩ := validC_facts h
  exact fewFrom_is h (n - 1).toNat 1 (by omega) (fun j hj => firstC_zero n0 hj)
/-- It is known by what it says. -/
theorem fewest_eq {n : Int} {ps : List (Int × Int)} (h : validC n ps = true) {k : Int} (h1 : (firstC n ps k).isSome = true) (h2 : ∀ j, j < k → (firstC n ps j).isSome = false) : fewest n ps = k := by
  obtain ⟨_, _, a, b⟩ := fewest_is h
  rcases Int.lt_trichotomy (fewest n ps) k with e | e | e
  · rw [h2 _ e] at a; cases a
  · exact e
  · rw [b _ e] at h1; cases h1
def sumL {α : Type} (f : α → Nat) (l : List α) : Nat := (l.map f).sum
theorem sumL_nil {α : Type} (f : α → Nat) : sumL f [] = 0 := rfl
theorem sumL_cons {α : Type} (f : α → Nat) (x : α) (l : List α) : sumL f (x :: l) = f x + sumL f l := by simp [sumL]
theorem sumL_app {α : Type} (f : α → Nat) (l r : List α) : sumL f (l ++ r) = sumL f l + sumL f r := by simp [sumL]
theorem sumL_map {α β : Type} (f : β → Nat) (g : α → β) (l : List α) : sumL f (l.map g) = sumL (fun x => f (g x)) l := by simp [sumL, Function.comp_def]
theorem sumL_flat {α β : Type} (f : β → Nat) (g : α → List β) : ∀ l : List α, sumL f (l.flatMap g) = sumL (fun x => sumL f (g x)) l
  | [] => rfl
  | x :: l => by rw [List.flatMap_cons, sumL_app, sumL_cons, sumL_flat f g l]
theorem sumL_congr {α : Type} {f g : α → Nat} : ∀ {l : List α}, (∀ x ∈ l, f x = g x) → sumL f l = sumL g l
  | [], _ => rfl
  | x :: l, h => by rw [sumL_cons, sumL_cons, h x (by simp), sumL_congr fun y hy => h y (by simp [hy])]
theorem sumL_add {α : Type} (f g : α → Nat) : ∀ l : List α, sumL (fun x => f x + g x) l = sumL f l + sumL g l
  | [] => rfl
  | x :: l => by rw [sumL_cons, sumL_cons, sumL_cons, sumL_add f g l]; omega
theorem sumL_zero {α : Type} : ∀ l : List α, sumL (fun _ => 0) l = 0
  | [] => rfl
  | x :: l => by rw [sumL_cons, sumL_zero l]
theorem sumL_swap {α β : Type} (f : α → β → Nat) : ∀ (l : List α) (r : List β), sumL (fun x => sumL (f x) r) l = sumL (fun y => sumL (fun x => f x y) l) r
  | [], r => by simp only [sumL_nil]; rw [sumL_zero]
  | x :: l, r => by
    rw [sumL_cons, sumL_swap f l r, ← sumL_add]
    exact sumL_congr fun y _ => (sumL_cons (fun x => f x y) x l).symm
theorem sumL_filter_new {α : Type} [DecidableEq α] (f : α → Nat) {P Q : α → Bool} {x : α} : ∀ {l : List α}, l.Nodup → x ∈ l → P x = false → Q x = true → (∀ y ∈ l, y ≠ x → Q y = P y) → sumL f (l.filter Q) = sumL f (l.filter P) + f x
  | [], _, h, _, _, _ => by simp at h
  | z :: l, hn, hm, hP, hQ, h => by
    obtain ⟨n1, n2⟩ := List.nodup_cons.1 hn
    by_cases e : z = x
    · subst e
      have : l.filter Q = l.filter P := List.filter_congr fun y hy => h y (by simp [hy]) (fun e => n1 (e ▸ hy))
      rw [List.filter_cons_of_pos hQ, List.filter_cons_of_neg (by simp [hP]), sumL_cons, this]; omega
    · have hm' : x ∈ l := by rcases List.mem_cons.1 hm with h1 | h1; exact absurd h1.symm e; exact h1
      have ih := sumL_filter_new f n2 hm' hP hQ (fun y hy hne => h y (by simp [hy]) hne)
      have hz := h z (by simp) e
      cases hPz : P z with
      | true => rw [List.filter_cons_of_pos (by rw [hz, hPz]), List.filter_cons_of_pos hPz, sumL_cons, sumL_cons, ih]; omega
      | false => rw [List.filter_cons_of_neg (by rw [hz, hPz]; simp), List.filter_cons_of_neg (by simp [hPz]), ih]
/-- Colours below m for the lands of a set of n lands, -1 for the others. -/
def partC (m : Nat) : Nat → Nat → List (List Int)
  | 0, _ => [[]]
  | n + 1, s => if s % 2 = 1 then (List.range m).flatMap fun (c : Nat) => (partC m n (s / 2)).map ((c : Int) :: ·) else (partC m n (s / 2)).map ((-1 : Int) :: ·)
/-- The sets within a set of n lands, from the least on. -/
def subs : Nat → Nat → List Nat
  | 0, _ => [0]
  | n + 1, s => (subs n (s / 2)).flatMap fun q => if s % 2 = 1 then [2 * q, 2 * q + 1] else [2 * q]
def paint (m : Int) : Nat → List Int → List Int
  | _, [] => []
  | q, e :: es => (if q % 2 = 1 then m else e) :: paint m (q / 2) es
theorem subs_le : ∀ {n s q : Nat}, q ∈ subs n s → q ≤ s
  | 0, s, q, h => by simp only [subs, List.mem_singleton] at h; omega
  | n + 1, s, q, h => by
    simp only [subs, List.mem_flatMap] at h
    obtain ⟨p, hp, hq⟩ := h
    have := subs_le hp
    split at hq
    · simp at hq; omega
    · simp at hq; omega
/-- With one colour more each set of lands may have it. -/
theorem paint_sum (m : Nat) : ∀ (n s : Nat) (f : List Int → Nat), sumL f (partC (m + 1) n s) = sumL (fun q => sumL (fun es => f (paint m q es)) (partC m n (s - q))) (subs n s)
  | 0, s, f => by simp [partC, subs, sumL, paint]
  | n + 1, s, f => by
    rw [subs, sumL_flat]
    by_cases hs : s % 2 = 1
    · rw [partC, if_pos hs, sumL_flat, List.range_succ, sumL_app]
      have e1 : ∀ c : Int, sumL f ((partC (m + 1) n (s / 2)).map (c :: ·)) = sumL (fun q => sumL (fun es => f (c :: paint m q es)) (partC m n (s / 2 - q))) (subs n (s / 2)) := fun c => by
        rw [sumL_map, paint_sum m n (s / 2)]
      rw [sumL_congr (fun (c : Nat) _ => e1 (c : Int)), sumL_swap, sumL_cons, sumL_nil, e1, Nat.add_zero, ← sumL_add]
      refine sumL_congr fun q hq => ?_
      have hle := subs_le hq
      rw [if_pos hs, sumL_cons, sumL_cons, sumL_nil, Nat.add_zero]
      have e2 : s - 2 * q = 2 * (s / 2 - q) + 1 := by omega
      have e3 : s - (2 * q + 1) = 2 * (s / 2 - q) := by omega
      rw [e2, e3, partC, partC, if_pos (by omega), if_neg (by omega), sumL_flat, sumL_map]
      rw [show (2 * (s / 2 - q) + 1) / 2 = s / 2 - q by omega, show (2 * (s / 2 - q)) / 2 = s / 2 - q by omega]
      congr 1
      · refine sumL_congr fun c _ => ?_
        rw [sumL_map]
        refine sumL_congr fun es _ => ?_
        rw [paint, if_neg (by omega), show 2 * q / 2 = q by omega]
      · refine sumL_congr fun es _ => ?_
        rw [paint, if_pos (by omega), show (2 * q + 1) / 2 = q by omega]
    · rw [partC, if_neg hs, sumL_map, paint_sum m n (s / 2)]
      refine sumL_congr fun q hq => ?_
      have hle := subs_le hq
      rw [if_neg hs, sumL_cons, sumL_nil, Nat.add_zero, show s - 2 * q = 2 * (s / 2 - q) by omega, partC, if_neg (by omega), sumL_map, show (2 * (s / 2 - q)) / 2 = s / 2 - q by omega]
      refine sumL_congr fun es _ => ?_
      rw [paint, if_neg (by omega), show 2 * q / 2 = q by omega]
theorem partC_full (m : Nat) : ∀ n : Nat, partC m n (2 ^ n - 1) = allC m n
  | 0 => rfl
  | n + 1 => by
    have h : 0 < 2 ^ n := Nat.two_pow_pos n
    have e : 2 ^ (n + 1) - 1 = 2 * (2 ^ n - 1) + 1 := by rw [Nat.pow_succ]; omega
    rw [e, partC, if_pos (by omega), show (2 * (2 ^ n - 1) + 1) / 2 = 2 ^ n - 1 by omega, partC_full m n, allC]
theorem partC_none : ∀ (n s : Nat), s < 2 ^ n → partC 0 n s = if s = 0 then [List.replicate n (-1)] else []
  | 0, s, h => by
    have : s = 0 := by simpa using h
    subst this; simp [partC]
  | n + 1, s, h => by
    rw [Nat.pow_succ] at h
    rw [partC]
    by_cases hs : s % 2 = 1
    · rw [if_pos hs, if_neg (by omega)]; rfl
    · rw [if_neg hs, partC_none n (s / 2) (by omega)]
      by_cases h0 : s = 0
      · subst h0; rfl
      · rw [if_neg (by omega), if_neg h0]; rfl
theorem partC_mem {m : Nat} : ∀ {n s : Nat} {es : List Int}, es ∈ partC m n s → es.length = n ∧ ∀ i, i < n → (s.testBit i = true → 0 ≤ es.getD i 0 ∧ es.getD i 0 < m) ∧ (s.testBit i = false → es.getD i 0 = -1)
  | 0, s, es, h => by simp only [partC, List.mem_singleton] at h; subst h; simp
  | n + 1, s, es, h => by
    rw [partC] at h
    by_cases hs : s % 2 = 1
    · rw [if_pos hs] at h
      simp only [List.mem_flatMap, List.mem_range, List.mem_map] at h
      obtain ⟨c, hc, ds, hd, rfl⟩ := h
      obtain ⟨h1, h2⟩ := partC_mem hd
      refine ⟨by simp [h1], fun i hi => ?_⟩
      cases i with
      | zero => exact ⟨fun _ => by simp; omega, fun h0 => by simp [Nat.testBit_zero, hs] at h0⟩
      | succ i =>
        have := h2 i (by omega)
        rw [Nat.testBit_succ]
        simpa using this
    · rw [if_neg hs] at h
      simp only [List.mem_map] at h
      obtain ⟨ds, hd, rfl⟩ := h
      obtain ⟨h1, h2⟩ := partC_mem hd
      refine ⟨by simp [h1], fun i hi => ?_⟩
      cases i with
      | zero => exact ⟨fun h0 => by simp [Nat.testBit_zero] at h0; omega, fun _ => by simp⟩
      | succ i =>
        have := h2 i (by omega)
        rw [Nat.testBit_succ]
        simpa using this
theorem paint_at (m : Int) : ∀ (es : List Int) (q i : Nat), i < es.length → (paint m q es).getD i 0 = if q.testBit i = true then m else es.getD i 0
  | [], q, i, h => by simp at h
  | e :: es, q, 0, _ => by
    simp only [paint, List.getD_cons_zero, Nat.testBit_zero]
    by_cases h : q % 2 = 1 <;> simp [h]
  | e :: es, q, i + 1, h => by
    rw [paint, List.getD_cons_succ, paint_at m es (q / 2) i (by simpa using h), Nat.testBit_succ, List.getD_cons_succ]
theorem subs_small : ∀ {n s q : Nat}, q ∈ subs n s → q < 2 ^ n
  | 0, s, q, h => by simp only [subs, List.mem_singleton] at h; subst h; simp
  | n + 1, s, q, h => by
    simp only [subs, List.mem_flatMap] at h
    obtain ⟨p, hp, hq⟩ := h
    have := subs_small hp
    rw [Nat.pow_succ]
    split at hq
    · simp at hq; omega
    · simp at hq; omega
/-- What is in a set within s, and what is left of s. -/
theorem subs_bits : ∀ {n s q : Nat}, q ∈ subs n s → ∀ i, i < n → (q.testBit i = true → s.testBit i = true) ∧ (s - q).testBit i = (s.testBit i && !q.testBit i)
  | 0, s, q, h, i, hi => by omega
  | n + 1, s, q, h, i, hi => by
    simp only [subs, List.mem_flatMap] at h
    obtain ⟨p, hp, hq⟩ := h
    have hle := subs_le hp
    have ih := subs_bits hp
    by_cases hs : s % 2 = 1
    · rw [if_pos hs] at hq
      simp only [List.mem_cons, List.not_mem_nil, or_false] at hq
      cases i with
      | zero =>
        simp only [Nat.testBit_zero]
        rcases hq with rfl | rfl
        · have : (s - 2 * p) % 2 = 1 := by omega
          simp [hs, this]
        · have : (s - (2 * p + 1)) % 2 = 0 := by omega
          have h3 : (2 * p + 1) % 2 = 1 := by omega
          simp [hs, this, h3]
      | succ i =>
        simp only [Nat.testBit_succ]
        have := ih i (by omega)
        rcases hq with rfl | rfl
        · rw [show (s - 2 * p) / 2 = s / 2 - p by omega, show 2 * p / 2 = p by omega]; exact this
        · rw [show (s - (2 * p + 1)) / 2 = s / 2 - p by omega, show (2 * p + 1) / 2 = p by omega]; exact this
    · rw [if_neg hs] at hq
      simp only [List.mem_cons, List.not_mem_nil, or_false] at hq
      subst hq
      cases i with
      | zero =>
        have h1 : (s - 2 * p) % 2 = 0 := by omega
        have h2 : s % 2 = 0 := by omega
        simp [Nat.testBit_zero, h1, h2]
      | succ i =>
        simp only [Nat.testBit_succ]
        rw [show (s - 2 * p) / 2 = s / 2 - p by omega, show 2 * p / 2 = p by omega]; exact ih i (by omega)
/-- No two lands of a set are neighbours. -/
def apartM (ps : List (Int × Int)) (s : Nat) : Bool := ps.all fun p => !(s.testBit p.1.toNat && s.testBit p.2.toNat)
/-- Among the lands that have colours no two neighbours have the same. -/
def rightP (ps : List (Int × Int)) (es : List Int) : Bool := ps.all fun p => !(decide (cAt es p.1 = cAt es p.2) && decide (0 ≤ cAt es p.1))
theorem rightP_paint {m n s q : Nat} {ps : List (Int × Int)} {es : List Int} (hp : ∀ p ∈ ps, 0 ≤ p.1 ∧ p.1 < p.2 ∧ p.2 < (n : Int)) (hq : q ∈ subs n s) (he : es ∈ partC m n (s - q)) :
    rightP ps (paint m q es) = (apartM ps q && rightP ps es) := by
  obtain ⟨hl, hv⟩ := partC_mem he
  have key : ∀ p ∈ ps, (!(decide (cAt (paint m q es) p.1 = cAt (paint m q es) p.2) && decide (0 ≤ cAt (paint m q es) p.1))) = ((!(q.testBit p.1.toNat && q.testBit p.2.toNat)) && !(decide (cAt es p.1 = cAt es p.2) && decide (0 ≤ cAt es p.1))) := by
    intro p hm
    obtain ⟨a0, a1, a2⟩ := hp p hm
    have i1 : p.1.toNat < n := by omega
    have i2 : p.2.toNat < n := by omega
    have b1 := (subs_bits hq _ i1).2
    have b2 := (subs_bits hq _ i2).2
    obtain ⟨c1, d1⟩ := hv _ i1
    obtain ⟨c2, d2⟩ := hv _ i2
    have P1 : cAt (paint m q es) p.1 = if q.testBit p.1.toNat = true then (m : Int) else cAt es p.1 := paint_at _ _ _ _ (by omega)
    have P2 : cAt (paint m q es) p.2 = if q.testBit p.2.toNat = true then (m : Int) else cAt es p.2 := paint_at _ _ _ _ (by omega)
    change _ → 0 ≤ cAt es p.1 ∧ cAt es p.1 < m at c1
    change _ → 0 ≤ cAt es p.2 ∧ cAt es p.2 < m at c2
    change _ → cAt es p.1 = -1 at d1
    change _ → cAt es p.2 = -1 at d2
    rw [P1, P2]
    generalize cAt es p.1 = x at c1 d1
    generalize cAt es p.2 = y at c2 d2
    cases q1 : q.testBit p.1.toNat <;> cases q2 : q.testBit p.2.toNat
    · simp
    · rw [b2, q2, Bool.not_true, Bool.and_false] at d2
      have e2 := d2 rfl
      have hne : x ≠ (m : Int) := by
        cases s1 : (s - q).testBit p.1.toNat with
        | true => have := c1 s1; omega
        | false => have := d1 s1; omega
      subst e2
      simp [hne]; omega
    · rw [b1, q1, Bool.not_true, Bool.and_false] at d1
      have e1 := d1 rfl
      have hne : (m : Int) ≠ y := by
        cases s1 : (s - q).testBit p.2.toNat with
        | true => have := c2 s1; omega
        | false => have := d2 s1; omega
      subst e1
      simp [hne]
    · simp
  have k2 : rightP ps (paint m q es) = ps.all fun p => ((!(q.testBit p.1.toNat && q.testBit p.2.toNat)) && !(decide (cAt es p.1 = cAt es p.2) && decide (0 ≤ cAt es p.1))) := by
    rw [rightP, Bool.eq_iff_iff, List.all_eq_true, List.all_eq_true]
    exact ⟨fun h p hm => by rw [← key p hm]; exact h p hm, fun h p hm => by rw [key p hm]; exact h p hm⟩
  rw [k2, apartM, rightP, Bool.eq_iff_iff, Bool.and_eq_true, List.all_eq_true, List.all_eq_true, List.all_eq_true]
  exact ⟨fun h => ⟨fun p hm => ((Bool.and_eq_true _ _).mp (h p hm)).1, fun p hm => ((Bool.and_eq_true _ _).mp (h p hm)).2⟩, fun h p hm => (Bool.and_eq_true _ _).mpr ⟨h.1 p hm, h.2 p hm⟩⟩
/-- The number of right colourings of a set of lands. -/
def waysC (ps : List (Int × Int)) (n m s : Nat) : Nat := sumL (fun es => if rightP ps es = true then 1 else 0) (partC m n s)
theorem waysC_step {m n s : Nat} {ps : List (Int × Int)} (hp : ∀ p ∈ ps, 0 ≤ p.1 ∧ p.1 < p.2 ∧ p.2 < (n : Int)) :
    waysC ps n (m + 1) s = sumL (fun q => if apartM ps q = true then waysC ps n m (s - q) else 0) (subs n s) := by
  rw [waysC, paint_sum]
  refine sumL_congr fun q hq => ?_
  by_cases ha : apartM ps q = true
  · rw [if_pos ha, waysC]
    refine sumL_congr fun es he => ?_
    rw [rightP_paint hp hq he, ha, Bool.true_and]
  · rw [if_neg ha]
    refine (sumL_congr (g := fun _ => 0) fun es he => ?_).trans (sumL_zero _)
    rw [rightP_paint hp hq he]
    simp [ha]
theorem waysC_zero {n s : Nat} {ps : List (Int × Int)} (hp : ∀ p ∈ ps, 0 ≤ p.1 ∧ p.1 < p.2 ∧ p.2 < (n : Int)) (hs : s < 2 ^ n) : waysC ps n 0 s = if s = 0 then 1 else 0 := by
  rw [waysC, partC_none n s hs]
  by_cases h : s = 0
  · have : rightP ps (List.replicate n (-1)) = true := by
      simp only [rightP, List.all_eq_true]
      intro p hm
      obtain ⟨a0, a1, a2⟩ := hp p hm
      have i1 : p.1.toNat < n := by omega
      simp [cAt, List.getD_eq_getElem?_getD, i1]
    rw [if_pos h, if_pos h, sumL_cons, sumL_nil, if_pos this]
  · rw [if_neg h, if_neg h]; rfl
/-- The number of right colours of all lands. -/
def countC (n : Int) (ps : List (Int × Int)) (m : Int) : Nat := ((allC m.toNat n.toNat).filter (rightC ps)).length
theorem sumL_count {α : Type} (P : α → Bool) : ∀ l : List α, sumL (fun x => if P x = true then 1 else 0) l = (l.filter P).length
  | [] => rfl
  | x :: l => by
    rw [sumL_cons, sumL_count P l]
    by_cases h : P x = true
    · rw [if_pos h, List.filter_cons_of_pos h, List.length_cons]; omega
    · rw [if_neg h, List.filter_cons_of_neg h]; omega
theorem waysC_all {n : Int} {ps : List (Int × Int)} (hp : ∀ p ∈ ps, 0 ≤ p.1 ∧ p.1 < p.2 ∧ p.2 < n) (m : Int) : waysC ps n.toNat m.toNat (2 ^ n.toNat - 1) = countC n ps m := by
  rw [waysC, partC_full, countC, ← sumL_count]
  refine sumL_congr fun es he => ?_
  obtain ⟨h1, h2⟩ := allC_len he
  have : rightP ps es = rightC ps es := by
    rw [rightP, rightC, Bool.eq_iff_iff, List.all_eq_true, List.all_eq_true]
    have key : ∀ p ∈ ps, 0 ≤ cAt es p.1 := by
      intro p hm
      obtain ⟨a0, a1, a2⟩ := hp p hm
      have i1 : p.1.toNat < es.length := by omega
      have := h2 es[p.1.toNat] (List.getElem_mem _)
      simpa [cAt, List.getD_eq_getElem?_getD, i1] using this.1
    constructor
    · intro h p hm
      have a := key p hm
      have b := h p hm
      simpa [a] using b
    · intro h p hm
      have a := key p hm
      have b := h p hm
      simpa [a] using b
  rw [this]
/-- The set before a set p within s: the next one that the loop takes. -/
theorem subs_land {n : Nat} : ∀ {s p : Nat}, p ∈ subs n s → 0 < p → (p - 1) &&& s ∈ subs n s ∧ (p - 1) &&& s < p ∧ ∀ q ∈ subs n s, q < p → q ≤ (p - 1) &&& s := by
  induction n with
  | zero => intro s p h h0; simp only [subs, List.mem_singleton] at h; omega
  | succ n ih =>
    intro s p h h0
    simp only [subs, List.mem_flatMap] at h ⊢
    obtain ⟨p1, hp1, hp⟩ := h
    have hle := subs_le hp1
    have half : ∀ a b : Nat, (a &&& b) / 2 = a / 2 &&& b / 2 := fun a b => by
      apply Nat.eq_of_testBit_eq
      intro i
      rw [Nat.testBit_and, ← Nat.testBit_succ, ← Nat.testBit_succ, ← Nat.testBit_succ, Nat.testBit_and]
    have low : ∀ a b : Nat, (a &&& b) % 2 = if a % 2 = 1 ∧ b % 2 = 1 then 1 else 0 := fun a b => by
      have := Nat.testBit_and a b 0
      simp only [Nat.testBit_zero] at this
      rw [Bool.eq_iff_iff] at this
      simp only [Bool.and_eq_true, decide_eq_true_eq] at this
      generalize (a &&& b) = c at this ⊢
      split <;> omega
    by_cases hodd : p % 2 = 1
    · have hs : s % 2 = 1 := by
        by_cases hs : s % 2 = 1
        · exact hs
        · rw [if_neg hs] at hp; simp at hp; omega
      rw [if_pos hs] at hp
      have hp2 : p = 2 * p1 + 1 := by simp at hp; omega
      have e : (p - 1) &&& s = 2 * p1 := by
        have h1 := half (p - 1) s
        have h2 := low (p - 1) s
        rw [if_neg (by omega)] at h2
        have h3 : (p - 1) / 2 = p1 := by omega
        rw [h3] at h1
        have h4 : p1 &&& s / 2 = p1 := by
          apply Nat.eq_of_testBit_eq
          intro i
          rw [Nat.testBit_and]
          by_cases hi : i < n
          · have := (subs_bits hp1 i hi).1
            cases hb : p1.testBit i with
            | false => rfl
            | true => rw [this hb]; rfl
          · have : p1.testBit i = false := Nat.testBit_lt_two_pow (Nat.lt_of_lt_of_le (subs_small hp1) (Nat.pow_le_pow_right (by omega) (by omega)))
            rw [this]; rfl
        rw [h4] at h1; omega
      rw [e]
      refine ⟨⟨p1, hp1, by rw [if_pos hs]; simp⟩, by omega, ?_⟩
      rintro q ⟨q1, hq1, hq⟩ hlt
      rw [if_pos hs] at hq
      simp at hq; omega
    · have hp2 : p = 2 * p1 := by
        split at hp
        · simp at hp; omega
        · simpa using hp
      obtain ⟨i1, i2, i3⟩ := ih hp1 (by omega)
      have h1 := half (p - 1) s
      have h2 := low (p - 1) s
      rw [show (p - 1) / 2 = p1 - 1 by omega] at h1
      by_cases hs : s % 2 = 1
      · rw [if_pos (by omega)] at h2
        have e : (p - 1) &&& s = 2 * (p1 - 1 &&& s / 2) + 1 := by omega
        rw [e]
        refine ⟨⟨_, i1, by rw [if_pos hs]; simp⟩, by omega, ?_⟩
        rintro q ⟨q1, hq1, hq⟩ hlt
        rw [if_pos hs] at hq
        simp at hq
        have := i3 q1 hq1 (by omega)
        omega
      · rw [if_neg (by omega)] at h2
        have e : (p - 1) &&& s = 2 * (p1 - 1 &&& s / 2) := by omega
        rw [e]
        refine ⟨⟨_, i1, by rw [if_neg hs]; simp⟩, by omega, ?_⟩
        rintro q ⟨q1, hq1, hq⟩ hlt
        rw [if_neg hs] at hq
        simp at hq
        have := i3 q1 hq1 (by omega)
        omega
theorem subs_self : ∀ {n s : Nat}, s < 2 ^ n → s ∈ subs n s
  | 0, s, h => by simp [subs]; simpa using h
  | n + 1, s, h => by
    rw [Nat.pow_succ] at h
    simp only [subs, List.mem_flatMap]
    refine ⟨s / 2, subs_self (by omega), ?_⟩
    by_cases hs : s % 2 = 1
    · rw [if_pos hs]; simp; omega
    · rw [if_neg hs]; simp; omega
theorem subs_asc : ∀ n s : Nat, (subs n s).Pairwise (· < ·)
  | 0, s => by simp [subs]
  | n + 1, s => by
    rw [subs]
    have ih := subs_asc n (s / 2)
    generalize subs n (s / 2) = l at ih
    induction l with
    | nil => simp
    | cons x l il =>
      obtain ⟨h1, h2⟩ := List.pairwise_cons.1 ih
      rw [List.flatMap_cons, List.pairwise_append]
      refine ⟨?_, il h2, ?_⟩
      · by_cases hs : s % 2 = 1 <;> simp [hs]
      · intro a ha b hb
        obtain ⟨y, hy, hb⟩ := List.mem_flatMap.1 hb
        have := h1 y hy
        by_cases hs : s % 2 = 1
        · simp only [hs, if_true, List.mem_cons, List.not_mem_nil, or_false] at ha hb; omega
        · simp only [hs, if_false, List.mem_cons, List.not_mem_nil, or_false] at ha hb; omega
theorem subs_nodup (n s : Nat) : (subs n s).Nodup := (subs_asc n s).imp fun h => Nat.ne_of_lt h
/-- What the loop has added when it has taken the sets from p on. -/
def addedC (f : Nat → Nat) (n s p : Nat) : Nat := sumL f ((subs n s).filter fun q => decide (p ≤ q))
theorem addedC_first {f : Nat → Nat} {n s : Nat} (h : s < 2 ^ n) : addedC f n s s = f s := by
  have := sumL_filter_new f (P := fun _ => false) (Q := fun q => decide (s ≤ q)) (subs_nodup n s) (subs_self h) rfl (by simp) (fun y hy hne => by have := subs_le hy; simp; omega)
  rw [addedC, this, List.filter_eq_nil_iff.2 (by simp), sumL_nil, Nat.zero_add]
theorem addedC_next {f : Nat → Nat} {n s p : Nat} (h : p ∈ subs n s) (h0 : 0 < p) : addedC f n s ((p - 1) &&& s) = addedC f n s p + f ((p - 1) &&& s) := by
  obtain ⟨h1, h2, h3⟩ := subs_land h h0
  refine sumL_filter_new f (subs_nodup n s) h1 (by simpa using h2) (by simp) (fun y hy hne => ?_)
  by_cases hp : p ≤ y
  · have : (p - 1) &&& s ≤ y := by omega
    simp [hp, this]
  · have := h3 y hy (by omega)
    have h4 : ¬ (p - 1) &&& s ≤ y := by omega
    simp [hp, h4]
theorem addedC_all (f : Nat → Nat) (n s : Nat) : addedC f n s 0 = sumL f (subs n s) := by
  rw [addedC]; congr 1; simp
end Go.Proofs.YtemhmejjmhbfdaaDoor.sines
