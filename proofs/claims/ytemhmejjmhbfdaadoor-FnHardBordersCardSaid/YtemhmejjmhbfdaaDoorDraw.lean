/- Drawn spots: contracts of the model's functions. -/
import Derived.Test.YtemhmejjmhbfdaaDoorSrc
namespace Go.Proofs.YtemhmejjmhbfdaaDoor.src
open Go.ChangeShapes Go.WideShapes Go.ChangeAt Go.RowKit

/-- A source under way since the world W0. -/
def St (W0 w : World) (B : Nat) (a : Option Addr) (len cap : Nat) (m : Int) : Prop := Src w B a len cap m ∧ W0.grownBy w (some B) ∧ Bytes w a len B ∧ B < W0.heap.size
theorem st_le {W0 w : World} {B : Nat} {a : Option Addr} {len cap : Nat} {m m' : Int} (h : St W0 w B a len cap m) (hm : m ≤ m') : St W0 w B a len cap m' := by
  obtain ⟨⟨x, y, k1, k2, k3, k4⟩, h2⟩ := h
  exact ⟨⟨x, y, k1, k2, by omega, k4⟩, h2⟩
theorem st_alloc {W0 w : World} {B : Nat} {a : Option Addr} {len cap : Nat} {m : Int} (h : St W0 w B a len cap m) (o : Obj) : St W0 (w.alloc o) B a len cap m := by
  obtain ⟨⟨x, y, k1, k2⟩, h2, h3, h4⟩ := h
  have hB : B < w.heap.size := Nat.lt_of_lt_of_le h4 h2.size
  refine ⟨⟨x, y, by rw [Below.heap_alloc w o B hB]; exact k1, k2⟩, ?_, bytes_grown h3 (World.grownBy_alloc w o (some B)) (Nat.le_refl _), h4⟩
  exact Lib.grownBy_trans h2 (World.grownBy_alloc w o (some B))
theorem pick_st {W0 w : World} {B : Nat} {a : Option Addr} {len cap : Nat} {m : Int} (n : Int) (h : St W0 w B a len cap m) (hm : m ≤ 4611686018427387000) (hn0 : 1 ≤ n) (hn1 : n ≤ 65536) :
    Calls Tryd.prog 12 #[.pointer (some ⟨B, 0, none⟩), .int .i64 n] w fun e w' => ∃ v, e = .returned (.int .i64 v) ∧ 0 ≤ v ∧ v < n ∧ St W0 w' B a len cap (m + 2) := by
  refine (pick_any w B a len cap m n h.1 hm h.2.2.1 hn0 hn1).mono ?_
  rintro e w' ⟨v, h1, h2, h3, h4, h5⟩
  exact ⟨v, h1, h2, h3, h4, Lib.grownBy_trans h.2.1 h5, bytes_grown h.2.2.1 h5 (Nat.le_refl _), h.2.2.2⟩
theorem one_st {W0 w : World} {B : Nat} {a : Option Addr} {len cap : Nat} {m : Int} (n : Int) (h : St W0 w B a len cap m) (hm : m ≤ 4611686018427387000) (hn0 : 1 ≤ n) (hn1 : n ≤ 65536) :
    Calls Tryd.prog 22 #[.pointer (some ⟨B, 0, none⟩), .int .i64 n] w fun e w' => ∃ b, e = .returned (.bool b) ∧ St W0 w' B a len cap (m + 2) := by
  have H := Lib.hid h
  clear h
  go_enter Tryd.func22, Tryd.ntmps22
  go_wp2_with fail
  refine (pick_st n H.out hm hn0 hn1).mono ?_
  rintro e w1 ⟨v, rfl, _, _, h2⟩
  have H2 := Lib.hid h2
  clear h2
  go_wp2_with fail
  go_ret
  exact ⟨_, rfl, H2.out⟩
/-- A list of numbers that the call has made. -/
def ListAt (w : World) (L n : Nat) (P : Int → Prop) : Prop := ∀ i, i < n → ∃ z, w.cell? ⟨L, i, none⟩ = some (.int .i64 z) ∧ P z
theorem frozen_plain {w : World} {B : Nat} {cs : Array Value} {t : TypeId} (h : w.heap[B]? = some (.cells cs t (0, 0))) (i : Nat) : w.frozen? ⟨B, i, none⟩ = false := by simp [World.frozen?, h]
theorem list_of {w w' : World} {cs : Array Value} {t : TypeId} {n : Nat} {P : Int → Prop} (hw : w' = w.alloc (.cells cs t)) (h : ∀ i, i < n → ∃ z, cs[i]? = some (.int .i64 z) ∧ P z) : ListAt w' w.heap.size n P := by
  subst hw
  intro i hi
  obtain ⟨z, hz, hp⟩ := h i hi
  exact ⟨z, by rw [cell_of_block (heap_alloc_new w _)]; exact hz, hp⟩
theorem result_cells {w0 w : World} {B : Nat} {a : Option Addr} {len cap : Nat} {m : Int} {cs : Array Value} {t : TypeId} (h : St (w0.alloc (.cells cs t)) w B a len cap m) (hB : B < w0.heap.size) :
    w.heap[w0.heap.size]? = some (.cells cs t (0, 0)) := by
  rw [h.2.1.block w0.heap.size (by simp) (by simp; omega)]
  exact heap_alloc_new w0 _
theorem draw_end {w w6 w' : World} {B : Nat} {a : Option Addr} {len cap : Nat} {m : Int} {o : Obj} {x y : Value} (h : St (w.alloc o) w6 B a len cap m) (hB : B < w.heap.size)
    (hw : w' = (w6.setCell ⟨w.heap.size, 0, none⟩ x).setCell ⟨w.heap.size, 1, none⟩ y) : Src w' B a len cap m ∧ w.grownBy w' (some B) := by
  subst hw
  obtain ⟨⟨p, q, k1, k2⟩, hg, _, _⟩ := h
  have e : ∀ k, k < w.heap.size → ((w6.setCell ⟨w.heap.size, 0, none⟩ x).setCell ⟨w.heap.size, 1, none⟩ y).heap[k]? = w6.heap[k]? := fun k hk => by
    rw [Below.heap_setCell _ _ _ _ (by simp; omega), Below.heap_setCell _ _ _ _ (by simp; omega)]
  have hs := hg.size
  simp at hs
  refine ⟨⟨p, q, by rw [e B hB]; exact k1, k2⟩, hg.os, hg.tape, hg.output, by simp [World.setCell]; omega, fun k hk hne => ?_⟩
  rw [e k hk, hg.block k (by simp; omega) hne, Below.heap_alloc _ _ _ hk]
/-- What a drawn spot is. -/
def Drawn (x y : Int) : Prop := -324000 ≤ x ∧ x ≤ 324000 ∧ -648000 ≤ y ∧ y ≤ 647999
end Go.Proofs.YtemhmejjmhbfdaaDoor.src
