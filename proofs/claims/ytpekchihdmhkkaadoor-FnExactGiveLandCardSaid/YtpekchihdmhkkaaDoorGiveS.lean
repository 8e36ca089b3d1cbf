/- The model's GiveLand: contract. -/
import Derived.Test.YtpekchihdmhkkaaDoorGiveM
import Derived.Deep.DeepCutAuto
import Derived.Deep.CutRange
import Derived.Deep.Cut
import Derived.Deep.LoopGhost
namespace Go.Proofs.YtpekchihdmhkkaaDoor.stab
open Go.ChangeShapes Go.WideShapes Go.ChangeAt Go.RowKit Go.Proofs.YtpekchihdmhkkaaDoor.split Go.Proofs.YtpekchihdmhkkaaDoor.sines Go.Proofs.YtpekchihdmhkkaaDoor.names
set_option linter.unusedSimpArgs false
set_option linter.unusedVariables false

/-- A row of bytes in the block g, which may be written. -/
def RowB (w : World) (g : Nat) (l : List UInt8) : Prop := ∀ k, k < l.length → w.cell? ⟨g, k, none⟩ = some (.int .u8 ((l.getD k 0).toNat : Int)) ∧ w.frozen? ⟨g, k, none⟩ = false
theorem conv_row (w1 : World) (s : ByteArray) : ∃ cap w2, (convert 9 22 (.string s)).run Tryd.prog w1 = .ok (.slice (some ⟨w1.heap.size, 0, none⟩) s.size cap) w2 ∧ Below w1.heap.size w1 w2 ∧ RowB w2 w1.heap.size s.data.toList := by
  have h := run_bytes_of_string (P := Tryd.prog) w1 9 22 5 s Tryd.underlying9 Tryd.underlying22 Tryd.underlying5
  refine ⟨_, _, h, (Below.refl _ _).drew.alloc (Nat.le_refl _) _, fun k hk => ⟨?_, ?_⟩⟩
  · have e : s = ⟨s.data.toList.toArray⟩ := by cases s; simp
    have := bytes_laid w1.drew s.data.toList (grownCap w1 s.size 0 5) ((bytesRow s (grownCap w1 s.size 0 5)).size, (bytesRow s (grownCap w1 s.size 0 5)).size + 1) w1.heap.size rfl k hk
    rw [← e] at this
    exact this
  · have hb : (w1.drew.alloc (.cells (bytesRow s (grownCap w1 s.size 0 5)) 5 ((bytesRow s (grownCap w1 s.size 0 5)).size, (bytesRow s (grownCap w1 s.size 0 5)).size + 1))).heap[w1.heap.size]? = some (.cells (bytesRow s (grownCap w1 s.size 0 5)) 5 ((bytesRow s (grownCap w1 s.size 0 5)).size, (bytesRow s (grownCap w1 s.size 0 5)).size + 1)) := Array.getElem?_push_size
    unfold World.frozen?
    rw [hb]
    have hks : k < (bytesRow s (grownCap w1 s.size 0 5)).size := by
      unfold bytesRow
      rw [size_list] at hk
      simp
      have : s.data.size = s.size := rfl
      omega
    simp
    omega
theorem rowB_store {w : World} {g k : Nat} {l : List UInt8} (h : RowB w g l) (hk : k < l.length) (x : UInt8) : RowB (w.setCell ⟨g, k, none⟩ (.int .u8 (x.toNat : Int))) g (l.set k x) := by
  intro j hj
  rw [List.length_set] at hj
  obtain ⟨c1, f1⟩ := h j hj
  refine ⟨?_, by simpa using f1⟩
  by_cases e : j = k
  · subst e
    rw [World.cell?_setCell_same _ _ _ c1]
    simp [hj]
  · have hne : (⟨g, k, none⟩ : Addr) ≠ ⟨g, j, none⟩ := by
      simp only [ne_eq, Addr.mk.injEq, true_and, and_true]
      exact fun h => e h.symm
    rw [World.cell?_setCell_other (h := hne), c1]
    simp [List.getElem?_set, show ¬ k = j from fun h => e h.symm]
theorem rowB_keep {w w' : World} {B g : Nat} {l : List UInt8} (h : RowB w g l) (hb : Below B w w') (hg : g < B) : RowB w' g l := fun k hk =>
  ⟨(hb.cell (p := ⟨g, k, none⟩) hg).trans (h k hk).1, (hb.frozen (p := ⟨g, k, none⟩) hg).trans (h k hk).2⟩
theorem rowB_drawn {w : World} {g : Nat} {l : List UInt8} (h : RowB w g l) (q : Nat) : RowB (w.drewN q) g l := h
theorem newS' (w : World) (s : ByteArray) (n : Nat) (h : w.heap.size = n) : ∀ j u, ([.string s] : List Value)[j]? = some u → (w.alloc (.cells #[.string s] 9)).cell? ((⟨n, 0, none⟩ : Addr).add j) = some u := by
  subst h
  intro j u hj
  match j, hj with
  | 0, hj => simp at hj; subst hj; simp [Addr.add]
theorem cellS' (s : ByteArray) : ∀ u ∈ ([.string s] : List Value), u.oneCell' = true := fun u hu => by simp at hu; subst hu; rfl
theorem snocS' {w : World} {B : Nat} {v : Value} {o : List ByteArray} {x : ByteArray} (h : w.ownsRow B 9 1 v (o.length + 1) (split.strs o ++ [.string x])) : SRow w B v (o ++ [x]) := by
  unfold SRow
  rw [List.length_append, show [x].length = 1 from rfl, show split.strs (o ++ [x]) = split.strs o ++ [.string x] by simp [split.strs]]
  exact h
def mixG (f t : UInt8) (l : List UInt8) (k : Nat) : List UInt8 := giveL f t (l.take k) ++ l.drop k
theorem mixG_len (f t : UInt8) (l : List UInt8) (k : Nat) : (mixG f t l k).length = l.length := by
  unfold mixG
  rw [List.length_append, giveL_len, ← List.length_append, List.take_append_drop]
theorem mixG_zero (f t : UInt8) (l : List UInt8) : mixG f t l 0 = l := by simp [mixG, giveL]
theorem mixG_end (f t : UInt8) (l : List UInt8) : mixG f t l l.length = giveL f t l := by simp [mixG]
theorem mixG_at (f t : UInt8) (l : List UInt8) (k : Nat) (hk : k < l.length) : (mixG f t l k).getD k 0 = l.getD k 0 := by
  unfold mixG
  have hl : (giveL f t (l.take k)).length = k := by rw [giveL_len, List.length_take]; omega
  simp only [List.getD_eq_getElem?_getD]
  rw [List.getElem?_append_right (by omega), hl, Nat.sub_self, List.getElem?_drop, Nat.add_zero]
theorem mixG_succ (f t : UInt8) (l : List UInt8) (k : Nat) (hk : k < l.length) : mixG f t l (k + 1) = (mixG f t l k).set k (giveB f t (l.getD k 0)) := by
  have hl : (giveL f t (l.take k)).length = k := by rw [giveL_len, List.length_take]; omega
  unfold mixG
  rw [List.take_succ_eq_append_getElem hk, List.set_append_right _ _ (by omega), hl, Nat.sub_self, List.drop_eq_getElem_cons hk, List.set_cons_zero]
  have : l.getD k 0 = l[k] := by simp [hk]
  rw [this]
  show (l.take k ++ [l[k]]).map (giveB f t) ++ l.drop (k + 1) = _
  rw [List.map_append]
  simp only [List.map_cons, List.map_nil, List.append_assoc, List.cons_append, List.nil_append, giveL]
theorem mixG_same (f t : UInt8) (l : List UInt8) (k : Nat) (hk : k < l.length) (h : l.getD k 0 ≠ f) : mixG f t l (k + 1) = mixG f t l k := by
  rw [mixG_succ f t l k hk]
  unfold giveB
  rw [if_neg h, ← mixG_at f t l k hk]
  apply List.ext_getElem?
  intro j
  rw [List.getElem?_set]
  by_cases e : k = j
  · subst e
    have h2 : k < (mixG f t l k).length := by rw [mixG_len]; exact hk
    simp [h2]
  · simp [e]
set_option maxRecDepth 100000 in
set_option maxHeartbeats 8000000 in
theorem specGiveLand_any (v : Value) (ps : List ByteArray) (f t : ByteArray) (w : World) (hv : SAt w w.heap.size v ps) (hl : ps.length ≤ 1048576) (hr : ∀ i, i < ps.length → (sAt ps i).size ≤ 1048576) (hf : f.size ≤ 1048576) (ht : t.size ≤ 1048576) :
    Calls Tryd.prog 8 #[v, .string f, .string t] w fun e w' => ∃ r, e = .returned (.tuple #[r, .int .i64 (codeGL ps f t)]) ∧ SRow w' w.heap.size r (valGL ps f t) ∧ Below w.heap.size w w' := by
  have CD := Lib.hid (l12Code_any v ps f w hv hl hr hf)
  have HV := Lib.hid hv
  obtain ⟨ar, c, rfl, _, hcl⟩ := hv
  have HCL := Lib.hid hcl
  have hf2 : (f.size : Int) ≤ 1048576 := by omega
  have ht2 : (t.size : Int) ≤ 1048576 := by omega
  clear hl hr hcl
  have EV := Lib.hid (show codeGL ps f t = (if okG ps = false then 1 else if isTo t = false then 2 else codeG ps f) from rfl)
  have EW := Lib.hid (show valGL ps f t = if codeGL ps f t = 0 then ps.map (giveT f t) else [] from rfl)
  have ZC := Lib.hid (fun h => codeG_zero (ps := ps) (land := f) h)
  have ONE := Lib.hid (show codeG ps f = 1 ↔ okG ps = false from by
    unfold codeG
    cases okG ps <;> simp
    split <;> (try split) <;> simp)
  obtain ⟨cg, hcg⟩ : ∃ c, Hid (codeG ps f = c) := ⟨_, Lib.hid rfl⟩
  rw [hcg.out] at CD EV ONE
  obtain ⟨cz, hcz⟩ : ∃ c, Hid (codeGL ps f t = c) := ⟨_, Lib.hid rfl⟩
  obtain ⟨vz, hvz⟩ : ∃ c, Hid (valGL ps f t = c) := ⟨_, Lib.hid rfl⟩
  obtain ⟨bt, hbt⟩ : ∃ c, Hid (isTo t = c) := ⟨_, Lib.hid rfl⟩
  rw [hcz.out, hvz.out]
  go_enter Tryd.func8, Tryd.ntmps8
  go_wp2_with fail
  refine CD.out.mono ?_
  rintro e w1 ⟨rfl, q, hw⟩
  have HB1 := Lib.hid (show Below w.heap.size w w1 by rw [hw]; exact below_drawn _ q)
  clear hw
  by_cases h1 : cg = 1
  · have E1 : codeGL ps f t = 1 := by rw [EV.out, if_pos (ONE.out.1 h1)]
    have E2 : valGL ps f t = [] := by rw [EW.out, E1]; rfl
    obtain rfl : 1 = cz := by rw [← hcz.out]; exact E1.symm
    obtain rfl : [] = vz := by rw [← hvz.out]; exact E2.symm
    subst h1
    clear E1 E2
    go_wp2
    exact bodyPost_ret (v := .tuple #[.slice none 0 0, .int .i64 1]) (by simp [results, Tryd.results8, go_sem]) rfl ⟨_, rfl, ⟨rfl, .inl ⟨rfl, rfl⟩⟩, HB1.out⟩
  · have hok : okG ps = true := by
      cases h : okG ps
      · exact absurd (ONE.out.2 h) h1
      · rfl
    have h1b : (cg == 1) = false := by simpa using h1
    rw [hok] at EV
    simp only [Bool.true_eq_false, if_false] at EV
    go_upto_region 4 with fail
    go_cut [32] (fun x wx => x = .bool (!bt) ∧ w1 = wx)
    case first =>
      by_cases hz : t.size = 1
      · have hp : 0 < t.size := by omega
        have hp2 : (0 : Int) < (t.size : Int) := by omega
        have hz2 : ((t.size : Int) != 1) = false := by simp [hz]
        obtain rfl : cellB t[0] = bt := by rw [← hbt.out, isTo_cell hz, bAt_eq hp]
        have HZ := Lib.hid hz
        clear hz
        by_cases h46 : (t[0].toNat : Int) = 46
        · have h46b : ((t[0].toNat : Int) != 46) = false := by simpa using h46
          have CB := Lib.hid (cellB_sea (b := t[0]) (by omega))
          clear h46
          go_wp2
          go_meet
          case rel => exact ⟨by rw [CB.out]; rfl, rfl⟩
        · have h46b : ((t[0].toNat : Int) != 46) = true := by simpa using h46
          have CB := Lib.hid (show cellB t[0] = smB (t[0].toNat : Int) from by
            cases h : smB (t[0].toNat : Int)
            · exact cellB_no (by omega) h
            · exact cellB_small h)
          clear h46
          go_wp2_with fail
          refine (l01Small_any _ _).mono ?_
          rintro e w' ⟨rfl, rfl⟩
          go_wp2
          go_meet
          case rel => exact ⟨by rw [CB.out], rfl⟩
      · have hz2 : ((t.size : Int) != 1) = true := by simp; omega
        obtain rfl : false = bt := by rw [← hbt.out]; exact (isTo_size hz).symm
        clear hz
        go_wp2
        go_meet
        case rel => exact ⟨rfl, rfl⟩
    case rest =>
      obtain ⟨e32, ew⟩ := hcut
      subst e32
      subst ew
      cases bt with
      | false =>
        have hto := hbt.out
        rw [hto, if_pos rfl] at EV
        have E2 : valGL ps f t = [] := by rw [EW.out, EV.out]; rfl
        obtain rfl : 2 = cz := by rw [← hcz.out]; exact EV.out.symm
        obtain rfl : [] = vz := by rw [← hvz.out]; exact E2.symm
        clear E2 hto
        go_wp2
        exact bodyPost_ret (v := .tuple #[.slice none 0 0, .int .i64 2]) (by simp [results, Tryd.results8, go_sem]) rfl ⟨_, rfl, ⟨rfl, .inl ⟨rfl, rfl⟩⟩, HB1.out⟩
      | true =>
        have hto := hbt.out
        rw [hto] at EV
        simp only [Bool.true_eq_false, if_false] at EV
        rw [EV.out] at EW
        obtain rfl : cg = cz := by rw [← hcz.out]; exact EV.out.symm
        by_cases h0 : cg = 0
        · rw [if_pos h0] at EW
          obtain rfl : (rowS ps.length fun i => giveT f t (sAt ps i)) = vz := by rw [← hvz.out, EW.out, valGL_row]
          have g := grid_of hok
          have hfo := (isL_of (ZC.out (hcg.out.trans h0)).2.1).1
          have htn := isTo_one hto
          have hm2 := g.m2
          have HS := Lib.hid (show ∀ i, i < ps.length → (sAt ps i).size ≤ 32 from fun i hi => by have := g.size i hi; have := g.n2; omega)
          subst h0
          clear g h1 hok hto
          have hml : (ps.length : Int) ≤ 16 := by omega
          have hpf : 0 < f.size := by omega
          have hpf2 : (0 : Int) < (f.size : Int) := by omega
          have hpt : 0 < t.size := by omega
          have hpt2 : (0 : Int) < (t.size : Int) := by omega
          have GT := Lib.hid (show ∀ s, giveT f t s = ⟨(giveL f[0] t[0] s.data.toList).toArray⟩ from fun s => by unfold giveT; rw [bAt_eq hpf, bAt_eq hpt])
          have HFO := Lib.hid hfo
          have HTN := Lib.hid htn
          clear hfo htn
          obtain ⟨i0, hi, hz0, hz1, hz2⟩ := info_partsT info_str
          have hs1 := HB1.out.size
          go_wp2
          go_loopw [9, 10] (fun u i wr => ∃ r : Nat, r ≤ ps.length ∧ i = .int .i64 (r : Int) ∧ SRow wr w1.heap.size u (rowS r fun i => giveT f t (sAt ps i)) ∧ Below w1.heap.size w1 wr) (fun _ i _ => ps.length - (intOf i).toNat)
          case atStart => exact ⟨0, Nat.zero_le _, rfl, World.ownsRow_made w1 #[] 0 (Nat.le_refl _) (by decide) rfl, (Below.refl _ _).alloc (Nat.le_refl _) _⟩
          case round =>
            obtain ⟨r, hk, rfl, hr, hb⟩ := hrel
            have HR := Lib.hid hr
            have HB := Lib.hid hb
            have hszr := hb.size
            by_cases hlt : r < ps.length
            · obtain ⟨bb, off, rfl, hbs, c1⟩ := HCL.out r hlt
              have u1 := (hb.cell (p := ⟨bb, off + r, none⟩) (Nat.lt_of_lt_of_le hbs hs1)).trans ((HB1.out.cell (p := ⟨bb, off + r, none⟩) hbs).trans c1)
              have hk0 : 0 ≤ (r : Int) := by omega
              have hk1 : (r : Int) < (ps.length : Int) := by omega
              have hsl := HS.out r hlt
              have SN := Lib.hid (show (rowS (r + 1) fun i => giveT f t (sAt ps i)) = (rowS r fun i => giveT f t (sAt ps i)) ++ [giveT f t (sAt ps r)] from by simp [rowS, List.range_succ])
              have GTR := Lib.hid (GT.out (sAt ps r))
              generalize sAt ps r = s at u1 hsl SN GTR
              obtain ⟨cap, w2, hcv, hb2, hrow⟩ := conv_row wr s
              have HROW := Lib.hid hrow
              have HB2 := Lib.hid hb2
              have SL := Lib.hid (size_list s)
              obtain ⟨l, hl⟩ : ∃ l, Hid (s.data.toList = l) := ⟨_, Lib.hid rfl⟩
              rw [hl.out] at HROW SL GTR
              have hll : l.length = s.size := SL.out
              obtain ⟨N, hN⟩ : ∃ N, Hid (s.size = N) := ⟨_, Lib.hid rfl⟩
              rw [hN.out] at hcv hll hsl
              have hNi : (N : Int) ≤ 32 := by omega
              have HLL := Lib.hid hll
              clear hr hb c1 hrow hb2 hll
              obtain ⟨W1, rfl⟩ : ∃ x, x = wr := ⟨wr, rfl⟩
              go_wp2
              clear hcv u1
              go_loopw [12] (fun j wq => ∃ k : Nat, k ≤ N ∧ j = .int .i64 (k : Int) ∧ RowB wq W1.heap.size (mixG f[0] t[0] l k) ∧ Below W1.heap.size W1 wq) (fun j _ => N - (intOf j).toNat)
              case atStart => exact ⟨0, Nat.zero_le _, rfl, by rw [mixG_zero]; exact HROW.out, HB2.out⟩
              case round =>
                obtain ⟨k, hk, rfl, hrow, hbq⟩ := hrel
                have HROW3 := Lib.hid hrow
                have HBQ := Lib.hid hbq
                have hszq := hbq.size
                by_cases hkl : k < N
                · have hkl2 : k < l.length := by have := HLL.out; omega
                  have hj0 : 0 ≤ (k : Int) := by omega
                  have hj1 : (k : Int) < (N : Int) := by omega
                  obtain ⟨cb, fb⟩ := hrow k (by rw [mixG_len]; exact hkl2)
                  rw [mixG_at _ _ _ _ hkl2] at cb
                  have cbd : wr.drew.cell? ⟨W1.heap.size, k, none⟩ = some (.int .u8 ((l.getD k 0).toNat : Int)) := cb
                  have SUC := Lib.hid (mixG_succ f[0] t[0] l k hkl2)
                  have SAM := Lib.hid (mixG_same f[0] t[0] l k hkl2)
                  have STO := Lib.hid (fun W (hW : RowB W W1.heap.size (mixG f[0] t[0] l k)) x => rowB_store hW (by rw [mixG_len]; exact hkl2) x)
                  obtain ⟨x, hx⟩ : ∃ x, Hid (l.getD k 0 = x) := ⟨_, Lib.hid rfl⟩
                  rw [hx.out] at cb cbd SUC SAM
                  obtain ⟨fx, hfx⟩ : ∃ x, Hid (f[0] = x) := ⟨_, Lib.hid rfl⟩
                  obtain ⟨tx, htx⟩ : ∃ x, Hid (t[0] = x) := ⟨_, Lib.hid rfl⟩
                  rw [hfx.out] at SUC SAM
                  rw [htx.out] at SUC SAM
                  rw [hfx.out, htx.out] at STO HROW3
                  by_cases he : x = fx
                  · have he2 : ((x.toNat : Int) == (f[0].toNat : Int)) = true := by rw [hfx.out]; simp [he]
                    have SU2 := Lib.hid (show mixG fx tx l (k + 1) = (mixG fx tx l k).set k tx by rw [SUC.out]; unfold giveB; rw [if_pos he])
                    clear he hrow hbq
                    go_wp2
                    go_quiet (fail)
                    go_wp2
                    go_roundw
                    case rel => exact ⟨k + 1, by omega, by go_num, by rw [hfx.out, htx.out, SU2.out]; exact STO.out _ (rowB_drawn HROW3.out _) tx, (bdr HBQ.out _).setCell (p := ⟨W1.heap.size, k, none⟩) (Nat.le_refl _) _⟩
                    case measure => simp [intOf]; omega
                  · have he2 : ((x.toNat : Int) == (f[0].toNat : Int)) = false := by
                      rw [hfx.out]
                      simp only [beq_eq_false_iff_ne]
                      exact fun e => he (UInt8.toNat_inj.1 (by omega))
                    have SA2 := Lib.hid (SAM.out he)
                    clear he hrow hbq
                    go_wp2
                    go_quiet (fail)
                    go_wp2
                    go_roundw
                    case rel => exact ⟨k + 1, by omega, by go_num, by rw [hfx.out, htx.out, SA2.out]; exact rowB_drawn HROW3.out _, bdr HBQ.out _⟩
                    case measure => simp [intOf]; omega
                · obtain rfl : k = N := by omega
                  have MG := Lib.hid (show mixG f[0] t[0] l k = giveL f[0] t[0] l by have h := mixG_end f[0] t[0] l; rw [HLL.out] at h; rw [← HLL.out] at h ⊢; first | exact h | (rw [HLL.out]; exact h))
                  have HR3 := Lib.hid (srow_keep HR.out hbq)
                  have HW := Lib.hid (HB.out.trans (hbq.mono HB.out.size))
                  have hcv2 := run_convert_bytes_back (P := Tryd.prog) wr 22 9 5 ⟨W1.heap.size, 0, none⟩ cap (giveL f[0] t[0] l) Tryd.underlying22 Tryd.underlying5 Tryd.underlying9 (fun j hj => by
                    obtain ⟨c1, _⟩ := hrow j (by rw [mixG_len]; rw [giveL_len] at hj; exact hj)
                    rw [MG.out] at c1
                    rw [add_plain', Nat.zero_add, c1]
                    simp [hj])
                  rw [giveL_len, HLL.out] at hcv2
                  rw [← GTR.out] at hcv2
                  obtain ⟨x, hx⟩ : ∃ x, Hid (giveT f t s = x) := ⟨_, Lib.hid rfl⟩
                  rw [hx.out] at hcv2 SN
                  obtain ⟨ns, hns⟩ : ∃ ns, Hid ((rowS r fun i => giveT f t (sAt ps i)) = ns) := ⟨_, Lib.hid rfl⟩
                  have hnl : ns.length = r := by rw [← hns.out, rowS_len]
                  rw [hns.out] at HR3 SN
                  have nm1 : ns.length + 1 ≤ maxLen := by rw [hnl]; unfold maxLen; omega
                  have nm2 : (ns.length + 1) * 16 ≤ 140737488355328 := by rw [hnl]; omega
                  have HNL := Lib.hid hnl
                  obtain ⟨⟨a8, c8, rfl⟩, _⟩ := srow_shape HR3.out
                  clear hrow hbq hnl
                  go_wp2_with (at_builtin; refine wpList_append_own _ rfl _ _ 24 rfl w1.heap.size 9 i0 (.string ByteArray.empty) 1 16 Tryd.underlying24 hi hz0 hz1 hz2 rfl (by decide) _ ns.length _ rfl (World.ownsRow.alloc HR3.out _) ⟨wr.heap.size, 0, none⟩ 1 1 [.string x] rfl rfl (newS' wr _ _ rfl) (cellS' _) nm1 nm2 (by simp; omega) ?_; intro v4 w4 hown4 hg4 _)
                  go_roundw
                  case rel => (repeat apply Exists.intro); exact ⟨⟨r + 1, by omega, by go_num, by rw [SN.out]; exact snocS' hown4, (HW.out.alloc HW.out.size _).grown hg4 (by simp; omega) (fun j hj => (HR3.out.lt j hj).1)⟩, rfl⟩
                  case measure => simp [intOf]; omega
            · obtain rfl : r = ps.length := by omega
              obtain ⟨⟨a8, c8, rfl⟩, _⟩ := srow_shape HR.out
              clear hr hb
              go_wp2
              exact bodyPost_ret (v := .tuple #[.slice a8 (rowS ps.length fun i => giveT f t (sAt ps i)).length c8, .int .i64 0]) (by simp [results, Tryd.results8, go_sem]) rfl ⟨_, rfl, srow_up HR.out hs1, HB1.out.trans (HB.out.mono hs1)⟩
        · rw [if_neg h0] at EW
          obtain rfl : [] = vz := by rw [← hvz.out]; exact EW.out.symm
          have h0b : (cg != 0) = true := by simpa using h0
          clear h0 h1
          go_wp2
          exact bodyPost_ret (v := .tuple #[.slice none 0 0, .int .i64 cg]) (by simp [results, Tryd.results8, go_sem]) rfl ⟨_, rfl, ⟨rfl, .inl ⟨rfl, rfl⟩⟩, HB1.out⟩
end Go.Proofs.YtpekchihdmhkkaaDoor.stab
