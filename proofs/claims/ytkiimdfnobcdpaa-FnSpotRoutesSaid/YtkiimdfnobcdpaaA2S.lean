/- Drawn places: contracts of the model. -/
import Derived.Test.YtkiimdfnobcdpaaDraw
import Derived.Test.YtkiimdfnobcdpaaSpots
import Derived.Test.YtkiimdfnobcdpaaA2
namespace Go.Proofs.Ytkiimdfnobcdpaa.a2s
open Go.ChangeShapes Go.WideShapes Go.ChangeAt Go.RowKit Go.Proofs.Ytkiimdfnobcdpaa.spots Go.Proofs.Ytkiimdfnobcdpaa.src
set_option maxRecDepth 100000 in
set_option maxHeartbeats 1000000 in
theorem A2Spot_any (w : World) (a : Option Addr) (len cap : Nat) (hb : Bytes w a len w.heap.size) :
    Calls Try.prog 10 #[.slice a len cap] w fun e w' => ∃ x y, e = .returned (.agg #[.int .i64 x, .int .i64 y]) ∧ Drawn x y ∧ Below w.heap.size w w' := by
  have HB := Lib.hid hb
  clear hb
  go_enter Try.func10, Try.ntmps10
  go_wp2_with fail
  refine (l00From_any _ a len cap).mono ?_
  rintro e w' ⟨rfl, rfl⟩
  go_wp2_with fail
  have hb2 : Bytes (w.alloc (.cells #[.int .i64 0, .int .i64 0] 35)) a len (w.heap.size + 1) := by
    obtain ⟨h1, h2, h3⟩ := HB.out
    refine ⟨h1, by simp, fun i hi => ?_⟩
    obtain ⟨b, off, z, e, hlt, hz, h4⟩ := h3 i hi
    exact ⟨b, off, z, e, by omega, by rw [World.cell?_alloc_past _ _ _ hlt]; exact hz, h4⟩
  refine (l02Draw_any _ (w.heap.size + 1) a len cap 0 (by simpa using src_start (w.alloc (.cells #[.int .i64 0, .int .i64 0] 35)) a len cap) (by decide) (bytes_below hb2 ((Below.refl _ _).alloc (by simp) _)) (by simp)).mono ?_
  rintro e w1 ⟨x, y, rfl, hd, _, hg⟩
  have R : w1.heap[w.heap.size]? = some (.cells #[.int .i64 0, .int .i64 0] 35 (0, 0)) := by
    rw [hg.block w.heap.size (by simp; omega) (by simp), Below.heap_alloc _ _ _ (by simp)]
    exact heap_alloc_new w _
  have r0 := cell_of_block R 0
  have r1 := cell_of_block R 1
  have f0 := frozen_plain R 0
  have f1 := frozen_plain R 1
  simp only [List.getElem?_toArray, List.getElem?_cons_zero, List.getElem?_cons_succ] at r0 r1
  have HG := Lib.hid hg
  have HD := Lib.hid hd
  clear R hg hb2 hd
  go_wp2
  exact bodyPost_ret (v := .agg #[.int .i64 x, .int .i64 y]) (by simp [results, Try.results10, go_sem, r0, r1]) rfl ⟨_, _, rfl, HD.out, ((((((Below.refl _ _).alloc (Nat.le_refl _) _).alloc (by simp) _).grown HG.out (by simp; omega) (fun k hk => by obtain rfl := Option.some.inj hk; omega))).setCell (Nat.le_refl _) _).setCell (Nat.le_refl _) _⟩
end Go.Proofs.Ytkiimdfnobcdpaa.a2s
