/- Sets of texts as a map's keys, sorted. -/
import Derived.Test.YtpekchihdmhkkaaKeysS
import Derived.Test.YtpekchihdmhkkaaGridB2
import Derived.Maps.OwnSet
import Derived.Maps.OwnIn
namespace Go.Proofs.Ytpekchihdmhkkaa.stab
open Go.ChangeShapes Go.WideShapes Go.ChangeAt Go.RowKit Go.Maps Go.Sort Go.Shelf Go.Proofs.Ytpekchihdmhkkaa.split Go.Proofs.Ytpekchihdmhkkaa.sines Go.Proofs.Ytpekchihdmhkkaa.names
set_option linter.unusedSimpArgs false
set_option linter.unusedVariables false

def setS (ks : List (List UInt8)) : DataW Unit := setOf (.lit (.bool true)) (ks.map Lit.string)
theorem isKey_s (ks : List (List UInt8)) : ∀ x ∈ ks.map Lit.string, WideAt.IsKeyLit x := fun x hx => by
  obtain ⟨z, _, rfl⟩ := List.mem_map.1 hx
  trivial
theorem setS_snoc (ks : List (List UInt8)) (z : List UInt8) : setS (ks ++ [z]) = (setS ks).put (.string z) (.lit (.bool true)) := by
  unfold setS
  rw [List.map_append, List.map_cons, List.map_nil, setOf_snoc]
theorem setS_has (ks : List (List UInt8)) (z : List UInt8) : has (setS ks) (.string z) = true ↔ z ∈ ks := by
  unfold setS
  rw [has_setOf _ _ _ (isKey_s ks), List.any_map, List.any_eq_true]
  constructor
  · rintro ⟨y, hy, h⟩
    have : y = z := by simpa [Lit.sameKey] using h
    exact this ▸ hy
  · intro h
    exact ⟨z, h, by simp [Lit.sameKey]⟩
theorem fold_keysS (xs : List Lit) : ∀ (D : DataW Unit) (P : Lit → Prop), (∀ x ∈ xs, P x) → (∃ es, D = .map es ∧ ∀ p ∈ es, P p.1) → ∃ es, xs.foldl (fun m x => m.put x (.lit (.bool true))) D = .map es ∧ ∀ p ∈ es, P p.1 := by
  induction xs with
  | nil => intro D P _ h; exact h
  | cons x xs ih =>
    rintro D P hx ⟨es, rfl, he⟩
    refine ih _ P (fun y hy => hx y (by simp [hy])) ⟨_, rfl, fun p hp => ?_⟩
    rcases List.mem_cons.1 ((insert_perm _ _).mem_iff.1 hp) with rfl | hp
    · exact hx _ (by simp)
    · exact he p (List.mem_filter.1 hp).1
/-- Whatever order the keys come in, sorted they are the texts of the set. -/
theorem sorted_keysS {ks ts ss : List (List UInt8)} (hr : ts.Pairwise (· < ·)) (hm : ∀ z, z ∈ ts ↔ z ∈ ks) (hp : ss.Perm (strKeys (setS ks))) : ss.mergeSort leB = ts := by
  obtain ⟨es, e1, e2⟩ := tidy_setOf (H := Unit) (.lit (.bool true)) (ks.map Lit.string) (isKey_s ks)
  obtain ⟨es', e3, e4⟩ := fold_keysS (ks.map Lit.string) (.map []) (fun k => ∃ x, k = .string x) (fun x hx => by
    obtain ⟨z, _, rfl⟩ := List.mem_map.1 hx
    exact ⟨z, rfl⟩) ⟨[], rfl, by simp⟩
  have e5 : setS ks = .map es := e1
  have e6 : setS ks = .map es' := e3
  obtain rfl : es' = es := by rw [e5] at e6; cases e6; rfl
  have nd : ts.Nodup := hr.imp fun h e => by subst e; exact List.lt_irrefl _ h
  have h1 : ts.Perm (strKeys (.map es')) := perm_strKeys e2 e4 nd fun z => by rw [hm, ← e5, setS_has]
  rw [e5] at hp
  rw [mergeSort_of_perm (hp.trans h1.symm)]
  exact List.mergeSort_of_pairwise (hr.imp fun h => by simp only [leB, decide_eq_true_eq]; exact List.le_of_lt h)
theorem setS_size (ks : List (List UInt8)) : Maps.size (setS ks) ≤ ks.length := by
  have : ∀ (xs : List Lit) (D : DataW Unit), IsMap D → Maps.size (xs.foldl (fun m x => m.put x (.lit (.bool true))) D) ≤ Maps.size D + xs.length := by
    intro xs
    induction xs with
    | nil => intro D _; simp
    | cons x xs ih =>
      rintro D ⟨es, rfl⟩
      have h1 := ih ((DataW.map es).put x (.lit (.bool true))) ⟨_, rfl⟩
      have h2 : Maps.size ((DataW.map es).put x (.lit (.bool true))) ≤ es.length + 1 := by
        show (DataW.insert _ (es.filter _)).length ≤ _
        rw [length_insert]
        have := List.length_filter_le (fun p : Lit × DataW Unit => !p.1.sameKey x) es
        omega
      simp only [List.foldl_cons, List.length_cons]
      have h3 : Maps.size (DataW.map es) = es.length := rfl
      omega
  have h := this (ks.map Lit.string) (.map []) isMap_empty
  simpa [setS, setOf, Maps.size] using h
theorem srow_keys {w : World} {B : Nat} {v : Value} {qs : List ByteArray} {ss : List (List UInt8)} (hl : ss.length = qs.length) (h : w.ownsRow B 9 1 v ss.length ((qs.map lst).map encStr)) : SRow w B v qs := by
  have e : (qs.map lst).map encStr = split.strs qs := by
    rw [List.map_map]
    unfold split.strs
    apply List.map_congr_left
    intro s _
    simp [lst, encStr]
  rw [e, hl] at h
  exact h

theorem sortsS (m : Nat) : AnyZ.SortsIn Try.prog Try.sortedS_ren Fence.wide m :=
  ⟨fun blk off cap ss W hH hblk hsz => callsIn_wide.2 (AnyM.slices_Sort_string Try.sortS blk off cap ss W hH hblk hsz),
   fun p cap W => callsIn_wide.2 (AnyM.slices_Sort_string_none Try.sortS p cap W)⟩
theorem keysS_any (mb : Option Nat) (W : World) :
    Calls Try.prog 54 #[.map mb] W fun e w' => e = .returned (.func (.func 86) #[] #[.pointer (some ⟨W.heap.size, 0, none⟩)]) ∧ w' = W.alloc (.cells #[.map mb] 53) :=
  (callsIn_wide (n := 5)).1 (AnyZ.keys_in Try.keysS Fence.wide 5 trivial rfl mb W)
theorem sortedS_any (b nn : Nat) (ks : List (List UInt8)) (qs : List ByteArray) (w : World) (hown : w.ownsMap Try.prog 9 (plainElem Try.prog 4) b nn (setS ks)) (hk : ks.length ≤ 1000000) (hr : (qs.map lst).Pairwise (· < ·)) (hm : ∀ z, z ∈ qs.map lst ↔ z ∈ ks) :
    Calls Try.prog 53 #[.func (.func 86) #[] #[.pointer (some ⟨w.heap.size, 0, none⟩)]] (w.alloc (.cells #[.map (some b)] 53)) fun e w' => ∃ v, e = .returned v ∧ SRow w' w.heap.size v qs ∧ Below w.heap.size w w' := by
  have hmax : Maps.size (setS ks) ≤ 1000000 := Nat.le_trans (setS_size ks) hk
  have hbl := hown.lt
  have hseq : SeqGives Fence.wide 2 Try.prog 86 #[.pointer (some ⟨w.heap.size, 0, none⟩)] encStr (fun ss => ss.Perm (strKeys (setS ks))) (Maps.size (setS ks)) (w.alloc (.cells #[.map (some b)] 53)) :=
    AnyZ.keys_gives (ρ := Try.keysS_ren) { Try.keysS with } Fence.wide _ trivial rfl (by omega) w.heap.size b nn (setS ks) _ (by simp) (by simp) (by
      obtain ⟨es, clock, hb, Ft, hs, hD⟩ := hown
      exact ⟨es, clock, (Below.heap_alloc _ _ b hbl).trans hb, Ft, hs, hD⟩)
  have cS := AnyZ.sorted_in Try.sortedS Fence.wide 5 trivial trivial trivial trivial rfl (by omega) (sortsS _) (enters_of Try.func85 (by kernel_rfl) rfl) 86 #[.pointer (some ⟨w.heap.size, 0, none⟩)] trivial (enters_of Try.func86 (by kernel_rfl) rfl) _ _ (show Maps.size (setS ks) ≤ maxLen by unfold maxLen; omega) (show Maps.size (setS ks) * 16 ≤ 140737488355328 by omega) _ hseq
  change CallsIn _ _ Try.prog 53 _ _ _ at cS
  refine ((callsIn_wide (n := 5)).1 cS).mono ?_
  rintro e w' ⟨v, ss, rfl, hS, hrow, hnil, hb⟩
  have ES := sorted_keysS hr hm hS
  have hlen : ss.length = qs.length := by
    have h1 := congrArg List.length ES
    rw [List.length_mergeSort, List.length_map] at h1
    exact h1
  refine ⟨v, rfl, ?_, ((Below.refl _ w).alloc (Nat.le_refl _) _).trans (hb.mono (by simp))⟩
  have h2 : SRow w' (w.alloc (.cells #[.map (some b)] 53)).heap.size v qs := by
    rw [show (ss.mergeSort fun x y => decide (x ≤ y)) = qs.map lst from ES] at hrow
    exact srow_keys hlen hrow
  exact srow_up h2 (by simp)
end Go.Proofs.Ytpekchihdmhkkaa.stab
