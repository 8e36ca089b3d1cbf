/- The words of a text: contracts of the program's function and of the model's. -/
import Derived.Test.YtdbjfadnfbpoeaaHeld
import Derived.Test.YtdbjfadnfbpoeaaShelf
namespace Go.Proofs.Ytdbjfadnfbpoeaa.split
open Go.ChangeShapes Go.WideShapes Go.ChangeAt Go.RowKit Go.Shelf

theorem isBlank_any (x : Nat) (w : World) :
    Calls Try.prog 45 #[.int .i32 (x : Int)] w fun e w' => e = .returned (.bool (isSp x)) ∧ Below w.heap.size w w' := by
  by_cases h : x = 32
  · subst h
    go_enter Try.func45, Try.ntmps45
    go_wp2
    go_ret
    exact ⟨rfl, Below.refl _ _⟩
  · have h1 : ((x : Int) == 32) = false := by simp; omega
    have e : isSp x = false := by simp [isSp, h]
    have E := Lib.hid e
    clear e h
    go_enter Try.func45, Try.ntmps45
    go_wp2
    go_ret
    exact ⟨by rw [E.out]; rfl, Below.refl _ _⟩
theorem implSplit_any (s : ByteArray) (w : World) (hs : s.size ≤ 1048576) :
    Calls Try.prog 22 #[.string s] w fun e w' => ∃ v ps, e = .returned v ∧ lists ps = wordsL s.data.toList ∧ SRow w' w.heap.size v ps ∧ Below w.heap.size w w' := by
  have HS := Lib.hid hs
  clear hs
  go_enter Try.func22, Try.ntmps22
  go_wp2_with fail
  refine (Try.strings_FieldsFunc_grows 45 #[] (enters_of Try.func45 (by kernel_rfl) rfl) isSp s _ (by have := HS.out; omega) (fun W x _ _ => isBlank_any x W)).mono ?_
  rintro e w1 ⟨A, rfl, hA, hown, hb⟩
  have H1 := Lib.hid hown
  have H2 := Lib.hid hb
  clear hown hb
  go_wp2
  go_ret
  exact ⟨_, Lib.goFieldsP isSp s, rfl, fields_words s, H1.out, H2.out⟩
def full (ps : List ByteArray) : List ByteArray := ps.filter fun p => p.size != 0
theorem full_lists (ps : List ByteArray) : lists (full ps) = (lists ps).filter fun p => !p.isEmpty := by
  induction ps with
  | nil => rfl
  | cons p ps ih =>
    by_cases h : p.size = 0
    · have h2 : p.data.toList.isEmpty = true := by
        have h3 : p.data.toList.length = 0 := h
        rw [List.isEmpty_iff]; exact List.length_eq_zero_iff.1 h3
      have e1 : full (p :: ps) = full ps := by unfold full; rw [List.filter_cons_of_neg (by simp [h])]
      have e2 : lists (p :: ps) = p.data.toList :: lists ps := rfl
      rw [e1, e2, List.filter_cons_of_neg (by simp only [h2]; decide), ih]
    · have h2 : p.data.toList.isEmpty = false := by
        cases h4 : p.data.toList with
        | nil => exact absurd (show p.data.toList.length = 0 by rw [h4]; rfl) h
        | cons _ _ => rfl
      have e1 : full (p :: ps) = p :: full ps := by unfold full; rw [List.filter_cons_of_pos (by simp [h])]
      have e2 : lists (p :: ps) = p.data.toList :: lists ps := rfl
      rw [e1, e2, List.filter_cons_of_pos (by simp only [h2]; decide), ← ih]
      rfl
theorem full_snoc (ps : List ByteArray) (k : Nat) (h : k < ps.length) : full (ps.take (k + 1)) = full (ps.take k) ++ (if ps[k].size = 0 then [] else [ps[k]]) := by
  rw [List.take_succ_eq_append_getElem h]
  simp only [full, List.filter_append, List.filter_cons, List.filter_nil]
  by_cases e : ps[k].size = 0 <;> simp [e]
theorem full_len (ps : List ByteArray) : (full ps).length ≤ ps.length := List.length_filter_le _ _
theorem toList_len (p : ByteArray) : p.toList.length = p.size := by rw [ByteArray.toList_eq]; rfl
set_option maxRecDepth 100000 in
set_option maxHeartbeats 1000000 in
theorem specSplit_any (s : ByteArray) (w : World) (hs : s.size ≤ 1048576) :
    Calls Try.prog 21 #[.string s] w fun e w' => ∃ v ps, e = .returned v ∧ lists ps = wordsL s.data.toList ∧ ps.length ≤ s.size + 1 ∧ SRow w' w.heap.size v ps ∧ Below w.heap.size w w' := by
  obtain ⟨i0, hi, hz0, hz1, hz2⟩ := info_parts info_str
  have HS := Lib.hid hs
  clear hs
  go_enter Try.func21, Try.ntmps21
  go_wp2_with fail
  refine (l01Split_any s 32 32 rfl _ (by have := HS.out; omega)).mono ?_
  rintro e w1 ⟨v, ps, rfl, hl, hn, hr, hb1⟩
  have hsh := srow_shape hr
  obtain ⟨aa, ca, rfl⟩ := hsh.1
  have HL := Lib.hid hl
  have HB1 := Lib.hid hb1
  have HC := Lib.hid (show ∀ wr, Below w1.heap.size w1 wr → ∀ k (hk : k < ps.length), ∃ g, aa = some ⟨g, 0, none⟩ ∧ wr.cell? ⟨g, k, none⟩ = some (.string ps[k]) from fun wr hb k hk => by
    obtain ⟨g, c, e, _⟩ := hsh.2 (by omega)
    simp at e
    obtain ⟨rfl, rfl⟩ := e
    exact ⟨g, rfl, srow_cell (srow_keep hr hb) k hk⟩)
  have hs1 := hb1.size
  have hn2 : ps.length ≤ 1048577 := by have := HS.out; omega
  clear hl hb1 hr hsh
  go_wp2
  go_loopw [4, 5] (fun o i wr => ∃ k : Nat, k ≤ ps.length ∧ i = .int .i64 (k : Int) ∧ SRow wr w1.heap.size o (full (ps.take k)) ∧ Below w1.heap.size w1 wr) (fun _ i _ => ps.length - (intOf i).toNat)
  case atStart => exact ⟨0, Nat.zero_le _, rfl, by simpa [full, SRow, strs] using World.ownsRow_made w1 #[] 0 (Nat.le_refl _) (by decide) rfl, (Below.refl _ _).alloc (Nat.le_refl _) _⟩
  case round =>
    obtain ⟨k, hk, rfl, hr, hb⟩ := hrel
    by_cases hlt : k < ps.length
    · obtain ⟨g, rfl, hc⟩ := HC.out wr hb k hlt
      have hk0 : 0 ≤ (k : Int) := by omega
      have hk1 : (k : Int) < (ps.length : Int) := by omega
      have hsn := full_snoc ps k hlt
      have hfl : (full (ps.take k)).length ≤ 1048577 := Nat.le_trans (full_len _) (by simp; omega)
      have hsz := hb.size
      have HR := Lib.hid hr
      have HB := Lib.hid hb
      clear hr hb
      generalize ps[k] = x at hc hsn
      by_cases hx : x.size = 0
      · have e0 : x.toList = [] := List.length_eq_zero_iff.1 (by rw [toList_len]; exact hx)
        have e1 : x.toList.isEmpty = true := by rw [e0]; rfl
        rw [if_pos hx, List.append_nil] at hsn
        have HF := Lib.hid hsn
        clear hsn hx
        go_wp2
        go_roundw
        case rel => exact ⟨k + 1, by omega, by go_num, by rw [HF.out]; exact HR.out, HB.out⟩
        case measure => simp [intOf]; omega
      · have e1 : x.toList.isEmpty = false := by
          cases h : x.toList with
          | nil => have := toList_len x; rw [h] at this; simp at this; omega
          | cons _ _ => rfl
        have e0 : ¬ x.toList = [] := by simpa using e1
        rw [if_neg hx] at hsn
        have HF := Lib.hid hsn
        clear hsn hx
        have K2 := Lib.hid (show ∀ j u, ([.string x] : List Value)[j]? = some u → (wr.alloc (.cells #[.string x] 9)).cell? ((⟨wr.heap.size, 0, none⟩ : Addr).add j) = some u from fun j u hj => by
          match j, hj with
          | 0, hj => simp at hj; subst hj; simp [Addr.add])
        have K22 := Lib.hid (show ∀ u ∈ ([.string x] : List Value), u.oneCell' = true from fun u hu => by simp at hu; subst hu; rfl)
        have K3 := Lib.hid (show (full (ps.take k)).length + 1 ≤ maxLen by unfold maxLen; omega)
        have K4 := Lib.hid (show ((full (ps.take k)).length + 1) * 16 ≤ 140737488355328 by omega)
        have K5 := Lib.hid (show w1.heap.size ≤ (wr.alloc (.cells #[.string x] 9)).heap.size from by simp; omega)
        go_wp2_with (at_builtin; refine wpList_append_own _ rfl _ _ 36 rfl w1.heap.size 9 i0 (.string ByteArray.empty) 1 16 Try.underlying36 hi hz0 hz1 hz2 rfl (by decide) _ _ _ rfl (World.ownsRow.alloc HR.out _) ⟨wr.heap.size, 0, none⟩ 1 1 [.string x] rfl rfl K2.out K22.out K3.out K4.out K5.out ?_; intro v1 w2 hown1 hg1 _)
        go_roundw
        case rel => exact ⟨k + 1, by omega, by go_num, by rw [HF.out]; simpa [SRow, strs] using hown1, (HB.out.alloc hsz _).grown hg1 K5.out (fun j hj => (World.ownsRow.lt HR.out j hj).1)⟩
        case measure => simp [intOf]; omega
    · obtain rfl : k = ps.length := by omega
      have HR := Lib.hid hr
      have HB := Lib.hid hb
      clear hr hb
      rw [List.take_length] at HR
      go_wp2
      go_ret
      refine ⟨_, full ps, rfl, by rw [full_lists, HL.out]; rfl, Nat.le_trans (full_len _) hn, ?_, HB1.out.trans (HB.out.mono hs1)⟩
      refine ⟨HR.out.1, ?_⟩
      rcases HR.out.2 with hnil | ⟨g, cap, cur, hv, hg1, hrest⟩
      · exact .inl hnil
      · exact .inr ⟨g, cap, cur, hv, Nat.le_trans hs1 hg1, hrest⟩

end Go.Proofs.Ytdbjfadnfbpoeaa.split
