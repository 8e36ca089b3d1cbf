/- The model's search for colours: the walk. -/
import Derived.Test.YtemhmejjmhbfdaaDoorColsW
import Derived.Test.YtemhmejjmhbfdaaDoorColsN
import Derived.Lib.BufferOwn
namespace Go.Proofs.YtemhmejjmhbfdaaDoor.sines
open Go.ChangeShapes Go.WideShapes Go.ChangeAt Go.RowKit Go.Proofs.YtemhmejjmhbfdaaDoor.spots Go.Proofs.YtemhmejjmhbfdaaDoor.irows Go.Proofs.YtemhmejjmhbfdaaDoor.pairsBorder
set_option linter.unusedSimpArgs false
set_option linter.unusedVariables false

section
variable {P : Program} (w : World)
/-- An append to a row of the call's own leaves what the elder slice holds as it was. -/
theorem append_old (base : Nat) (t ty e : TypeId) (i : TypeInfo) (z : Value) (ht : P.underlying t = some (.slice e)) (hi : P.info? e = some i) (hz : i.zero = some z)
    (v : Value) (n : Nat) (xs : List Value) (hown : w.ownsRow base e i.size v n xs)
    (a : Addr) (m c : Nat) (news : List Value) (hl : news.length = m * i.size) (hnews : ∀ j u, news[j]? = some u → w.cell? (a.add j) = some u) (h1 : ∀ u ∈ news, u.oneCell' = true)
    (h63 : n + m ≤ maxLen) (hbytes : (n + m) * i.bytes ≤ 140737488355328)
    (v' : Value) (w' : World) (hr : (Builtin.append_ #[t, t] ty #[v, .slice (some a) m c]).run P w = .ok v' w') : w'.ownsRow base e i.size v n xs := by
  refine ⟨hown.1, ?_⟩
  rcases hown.2 with ⟨rfl, rfl⟩ | ⟨g, cap, cur, rfl, hbg, hg, hnc, hcm, hcs, htake⟩
  · exact .inl ⟨rfl, rfl⟩
  · have h63' : n + m ≤ 9223372036854775807 := by simp only [maxLen] at h63; omega
    by_cases hroom : n + m ≤ cap
    · have hfit : n * i.size + news.length ≤ cur.size := by rw [hl, hcs, ← Nat.add_mul]; exact Nat.mul_le_mul_right _ hroom
      rw [run_append_room (P := P) w t ty e i ht hi g n cap cur hg a m c news hl hnews h1 hroom hfit] at hr
      simp only [Result.ok.injEq] at hr
      obtain ⟨_, rfl⟩ := hr
      refine .inr ⟨g, cap, _, rfl, hbg, setRow_heap w g cur _ e _ hg, hnc, hcm, ?_, ?_⟩
      · simp only [List.size_toArray, List.length_append, List.length_take, List.length_drop, Array.length_toList]; omega
      · have hx : (cur.toList.take (n * i.size)).length = n * i.size := by rw [htake]; exact hown.1
        simp only [List.append_assoc]
        rw [List.take_append_of_le_length (by omega), List.take_of_length_le (by omega), htake]
    · have holds : ∀ j u, xs[j]? = some u → w.cell? ((⟨g, 0, none⟩ : Addr).add j) = some u := hown.cells (g := g) rfl
      rw [run_append_grow (P := P) w t ty e i z ht hi hz ⟨g, 0, none⟩ n cap xs hown.1 holds a m c news hl hnews (by omega) (by omega) (growslice_fits (by omega) hbytes)] at hr
      simp only [Result.ok.injEq] at hr
      obtain ⟨_, rfl⟩ := hr
      refine .inr ⟨g, cap, cur, rfl, hbg, ?_, hnc, hcm, hcs, htake⟩
      rw [heap_alloc_old w.drew _ (Array.getElem?_eq_some_iff.1 hg).1]
      exact hg
/-- At the operation: the new value's row, the elder one's, and where the new one lies. -/
theorem wpList_append_keep {ops : Array Oper} {rest : List Oper} {o : Oper} {a : Act} {Q : Exit → Act → World → Prop} (hgd : o.guard = none) (s x : Operand) (t : TypeId)
    (ho : o.op = .call { callee := .builtin .append, args := #[s, x], argTypes := #[t, t] })
    (base : Nat) (e : TypeId) (i : TypeInfo) (z : Value) (ht : P.underlying t = some (.slice e)) (hi : P.info? e = some i) (hz : i.zero = some z) (hzs : z.cells.size = i.size) (hsz : 0 < i.size)
    (v : Value) (n : Nat) (xs : List Value) (hs : a.eval s = v) (hown : w.ownsRow base e i.size v n xs)
    (ad : Addr) (m c : Nat) (news : List Value) (hx : a.eval x = .slice (some ad) m c) (hl : news.length = m * i.size) (hnews : ∀ j u, news[j]? = some u → w.cell? (ad.add j) = some u) (h1 : ∀ u ∈ news, u.oneCell' = true)
    (h63 : n + m ≤ maxLen) (hbytes : (n + m) * i.bytes ≤ 140737488355328) (hbase : base ≤ w.heap.size)
    (h : ∀ v' w', w'.ownsRow base e i.size v' (n + m) (xs ++ news) → w'.ownsRow base e i.size v n xs → w.grownBy w' v.ownBlock → (v'.ownBlock = v.ownBlock ∨ v'.ownBlock = some w.heap.size) → wpList P ops Q rest (a.put o.dst v') w') :
    wpList P ops Q (o :: rest) a w := by
  refine wpList_plain hgd fun K hK => ?_
  obtain ⟨v', w', hr, h2, h3, _, h5⟩ := run_append_own_at (P := P) w base t o.type e i z i.size i.bytes ht hi hz rfl rfl hzs hsz v n xs hown ad m c news hl hnews h1 h63 hbytes hbase
  have h6 := append_old (P := P) w base t o.type e i z ht hi hz v n xs hown ad m c news hl hnews h1 h63 hbytes v' w' hr
  unfold Oper.wp execOp
  simp only [ho, resolve, invoke, builtin, Sem.run_bind, Sem.run_pure, Result.andThen_ok, List.map_toArray, List.map_cons, List.map_nil, hs, hx, hr]
  exact hK _ _ (h v' w' h2 h6 h3 h5)
end

theorem irow_atC {w : World} {B : Nat} {v : Value} {zs : List Int} (h : IRow w B v zs) : ∃ a c, v = .slice a zs.length c ∧ ∀ k, (hk : k < zs.length) → ∃ g, a = some ⟨g, 0, none⟩ ∧ B ≤ g ∧ g < w.heap.size ∧ w.cell? ⟨g, k, none⟩ = some (.int .i64 zs[k]) := by
  have h0 := h
  rcases h.2 with ⟨hv, h0⟩ | ⟨g, cap, cur, hv, hB, hc, _⟩
  · exact ⟨none, 0, by rw [hv, h0], fun k hk => by omega⟩
  · subst hv
    refine ⟨_, _, rfl, fun k hk => ⟨g, rfl, hB, (Array.getElem?_eq_some_iff.1 hc).1, ?_⟩⟩
    have := World.ownsRow.cellAt h0 (0 + k) (by simpa [ints] using hk)
    simpa [ints, hk] using this
theorem iat_of_row {w : World} {B : Nat} {v : Value} {zs : List Int} (h : IRow w B v zs) : IAt w w.heap.size v zs := by
  obtain ⟨a, c, e, hc⟩ := irow_atC h
  refine ⟨a, c, e, fun k hk => ?_⟩
  obtain ⟨g, e1, _, e3, e4⟩ := hc k hk
  exact ⟨g, 0, e1, e3, by rw [zAt_eq hk, Nat.zero_add]; exact e4⟩

/-- But for the block g, the row in the block o, and new blocks all is as it was. -/
def Off (w w' : World) (g : Nat) (o : Option Nat) : Prop := w'.os = w.os ∧ w'.tape = w.tape ∧ w'.output = w.output ∧ w.heap.size ≤ w'.heap.size ∧ ∀ b, b < w.heap.size → b ≠ g → some b ≠ o → w'.heap[b]? = w.heap[b]?
theorem off_refl (w : World) (g : Nat) (o : Option Nat) : Off w w g o := ⟨rfl, rfl, rfl, Nat.le_refl _, fun _ _ _ _ => rfl⟩
theorem off_trans {w w1 w2 : World} {g : Nat} {o o' : Option Nat} (h : Off w w1 g o) (k : Off w1 w2 g o') (ho : o' = o ∨ ∃ b, o' = some b ∧ w.heap.size ≤ b) : Off w w2 g o := by
  obtain ⟨h1, h2, h3, h4, h5⟩ := h
  obtain ⟨k1, k2, k3, k4, k5⟩ := k
  refine ⟨k1.trans h1, k2.trans h2, k3.trans h3, Nat.le_trans h4 k4, fun b hb hg hne => ?_⟩
  rw [k5 b (by omega) hg (by
    rcases ho with rfl | ⟨c, rfl, hc⟩
    · exact hne
    · intro e; cases e; omega), h5 b hb hg hne]
theorem off_grown {w w' : World} {g : Nat} {o : Option Nat} (h : w.grownBy w' o) : Off w w' g o := ⟨h.os, h.tape, h.output, h.size, fun b hb _ hne => h.block b hb hne⟩
theorem off_own {w w' : World} {g : Nat} {o : Option Nat} (h : w.grownBy w' (some g)) : Off w w' g o := ⟨h.os, h.tape, h.output, h.size, fun b hb hg _ => h.block b hb (fun e => hg (Option.some.inj e))⟩
theorem off_new {w w' : World} {g : Nat} {o : Option Nat} (h : Below w.heap.size w w') : Off w w' g o := ⟨h.os, h.tape, h.output, h.size, fun b hb _ _ => h.block b hb⟩
theorem off_below {w w' : World} {g : Nat} {o : Option Nat} (h : Off w w' g o) (hg : g ≤ w.heap.size) (ho : ∀ b, o = some b → g ≤ b) : Below g w w' := by
  obtain ⟨h1, h2, h3, h4, h5⟩ := h
  exact ⟨h1, h2, h3, h4, fun b hb => h5 b (by omega) (by omega) (fun e => by have := ho b e.symm; omega)⟩
theorem row_far {w w' : World} {g : Nat} {o : Option Nat} {v : Value} {zs : List Int} (h : IRow w (g + 1) v zs) (k : Off w w' g o) (ho : v.ownBlock = none ∨ v.ownBlock ≠ o) : IRow w' (g + 1) v zs := by
  obtain ⟨h1, h2, h3, h4, h5⟩ := k
  have hlt := World.ownsRow.lt h
  rcases h.2 with ⟨e1, e2⟩ | ⟨b, cap, cur, rfl, hB, hc, hr⟩
  · exact ⟨h.1, .inl ⟨e1, e2⟩⟩
  · refine ⟨h.1, .inr ⟨b, cap, cur, rfl, hB, ?_, hr⟩⟩
    rw [h5 b (Array.getElem?_eq_some_iff.1 hc).1 (by omega) (by rcases ho with e | e; cases e; exact e)]
    exact hc
theorem row_own {w w' : World} {g : Nat} {v : Value} {zs : List Int} (h : IRow w (g + 1) v zs) (hg : w.grownBy w' (some g)) : IRow w' (g + 1) v zs := World.ownsRow.kept h hg (by
  cases hb : v.ownBlock with
  | none => exact .inl rfl
  | some b => exact .inr fun e => by have := (World.ownsRow.lt h b hb).1; cases e; omega)

end Go.Proofs.YtemhmejjmhbfdaaDoor.sines
