/- The model's losses of maps: contracts. -/
import Derived.Test.YtemhmejjmhbfdabPlatesC
import Derived.BigQuiet
namespace Go.Proofs.Ytemhmejjmhbfdab.sines
open Go.ChangeShapes Go.WideShapes Go.ChangeAt Go.RowKit Go.Proofs.Ytemhmejjmhbfdab.spots
set_option linter.unusedSimpArgs false
set_option linter.unusedVariables false

/-- Two boxes of a call, with what lies in them. -/
def Two (w W : World) (m : Nat) (a b u v : Int) (T : TypeId) : Prop := W.heap[w.heap.size]? = some (.cells #[.int .i64 a, .int .i64 b] T (0, 0)) ∧ W.heap[m]? = some (.cells #[.int .i64 u, .int .i64 v] T (0, 0)) ∧ w.heap.size < m ∧ Below w.heap.size w W
theorem two_keep {w W W' : World} {m : Nat} {a b u v : Int} {T : TypeId} (h : Two w W m a b u v T) (hb : Below W.heap.size W W') : Two w W' m a b u v T := by
  obtain ⟨h1, h2, h3, h4⟩ := h
  have z1 := (Array.getElem?_eq_some_iff.1 h1).1
  have z2 := (Array.getElem?_eq_some_iff.1 h2).1
  exact ⟨by rw [hb.block _ z1]; exact h1, by rw [hb.block _ z2]; exact h2, h3, h4.trans (hb.mono h4.size)⟩
theorem two_cells {w W : World} {m : Nat} {a b u v : Int} {T : TypeId} (h : Two w W m a b u v T) :
    W.cell? ⟨w.heap.size, 0, none⟩ = some (.int .i64 a) ∧ W.cell? ⟨w.heap.size, 1, none⟩ = some (.int .i64 b) ∧ W.cell? ⟨m, 0, none⟩ = some (.int .i64 u) ∧ W.cell? ⟨m, 1, none⟩ = some (.int .i64 v) ∧ W.frozen? ⟨m, 0, none⟩ = false ∧ W.frozen? ⟨m, 1, none⟩ = false := by
  obtain ⟨h1, h2, h3, h4⟩ := h
  exact ⟨by simp [World.cell?, h1], by simp [World.cell?, h1], by simp [World.cell?, h2], by simp [World.cell?, h2], by simp [World.frozen?, h2], by simp [World.frozen?, h2]⟩
theorem two_store {w W : World} {m : Nat} {a b u v : Int} {T : TypeId} (h : Two w W m a b u v T) (x y : Int) : Two w ((W.setCell ⟨m, 0, none⟩ (.int .i64 x)).setCell ⟨m, 1, none⟩ (.int .i64 y)) m a b x y T := by
  obtain ⟨h1, h2, h3, h4⟩ := h
  have e1 := heap_setCell_same W m 0 _ _ (.int .i64 x) h2
  have e2 := heap_setCell_same _ m 1 _ _ (.int .i64 y) e1
  refine ⟨?_, ?_, h3, ((h4.setCell (show w.heap.size ≤ m by omega) _).setCell (show w.heap.size ≤ m by omega) _)⟩
  · rw [heap_setCell_other _ _ _ _ (show w.heap.size ≠ m by omega), heap_setCell_other _ _ _ _ (show w.heap.size ≠ m by omega)]; exact h1
  · simpa using e2
theorem two_start {w W : World} {a b u v : Int} {T : TypeId} (h : W.heap[w.heap.size]? = some (.cells #[.int .i64 a, .int .i64 b] T (0, 0))) (hB : Below w.heap.size w W) : Two w (W.alloc (.cells #[.int .i64 u, .int .i64 v] T)) W.heap.size a b u v T := by
  have z := (Array.getElem?_eq_some_iff.1 h).1
  exact ⟨by rw [Below.heap_alloc _ _ _ z]; exact h, heap_alloc_new _ _, z, hB.alloc hB.size _⟩
theorem box1h {w w1 : World} {a b : Value} {T : TypeId} (hb : Below (w.alloc (.cells #[a, b] T)).heap.size (w.alloc (.cells #[a, b] T)) w1) : w1.heap[w.heap.size]? = some (.cells #[a, b] T (0, 0)) := by
  have h1 : w.heap.size < (w.alloc (.cells #[a, b] T)).heap.size := by simp
  rw [hb.block _ h1]; exact heap_alloc_new _ _
theorem wb_bounds {x y s : Int} (h1 : -700000 ≤ x * s) (h2 : x * s ≤ 700000) : -324000 ≤ wbLat y s ∧ wbLat y s ≤ 324000 ∧ -700000000000 ≤ wbLon x y s ∧ wbLon x y s ≤ 700000000000 := by
  unfold wbLat wbLon
  split
  · rename_i g
    obtain ⟨l0, l1⟩ := inB_of g
    obtain ⟨c0, c1⟩ := cosL_lat l0 l1
    refine ⟨l0, l1, ?_⟩
    split
    · omega
    · exact near_size _ (by omega) (by omega) (by omega) (by omega)
  · omega
theorem retL {a b c d : Int} {e f : Bool} (h : a = b) (g : c = d) (k : e = f) : Ending.returned (.tuple #[.int .i64 a, .int .i64 c, .bool e]) = .returned (.tuple #[.int .i64 b, .int .i64 d, .bool f]) := by rw [h, g, k]
def lossNV (lat lon s : Int) (wave : Bool) : Int := if codeL8 lat lon s wave = 0 then lossN lat s wave else 0
def lossEV (lat lon s : Int) (wave : Bool) : Int := if codeL8 lat lon s wave = 0 then lossE lat lon s wave else 0
end Go.Proofs.Ytemhmejjmhbfdab.sines
