/- The model's coasts: contracts. -/
import Derived.Test.YtpekchihdmhkkaaGridS2
import Derived.Test.YtpekchihdmhkkaaGridC
import Derived.Deep.LoopGhost
namespace Go.Proofs.Ytpekchihdmhkkaa.stab
open Go.ChangeShapes Go.WideShapes Go.ChangeAt Go.RowKit Go.Proofs.Ytpekchihdmhkkaa.split Go.Proofs.Ytpekchihdmhkkaa.sines Go.Proofs.Ytpekchihdmhkkaa.names
set_option linter.unusedSimpArgs false
set_option linter.unusedVariables false

set_option maxHeartbeats 1000000 in
theorem l12East_any (ar : Option Addr) (c : Nat) (ps : List ByteArray) (n i k : Nat) (w : World) (B : Nat) (hv : SAt w B (.slice ar ps.length c) ps) (hG : Grid ps n) (hi : i < ps.length) (hk : k < n) :
    Calls Try.prog 80 #[.slice ar ps.length c, .int .i64 (i : Int), .int .i64 (k : Int)] w fun e w' => e = .returned (.int .u8 ((bAt (sAt ps i) ((k + 1) % n)).toNat : Int)) ∧ ∃ q, w' = w.drewN q := by
  obtain ⟨ar', c', e1, _, hcl⟩ := hv
  obtain ⟨b, off, e2, _, c1⟩ := hcl i hi
  obtain ⟨rfl, _⟩ : ar = ar' ∧ c = c' := by cases e1; exact ⟨rfl, rfl⟩
  subst e2
  have hz := hG.size i hi
  have hn1 := hG.n1
  have hn2 := hG.n2
  have hm2 := hG.m2
  have hml := Nat.mod_lt (k + 1) hn1
  have hi0 : 0 ≤ (i : Int) := by omega
  have hi1 : (i : Int) < (ps.length : Int) := by omega
  have htm1 : ((k : Int) + 1).tmod (n : Int) = (((k + 1) % n : Nat) : Int) := by
    rw [Int.tmod_eq_emod_of_nonneg (by omega)]
    push_cast
    rfl
  obtain ⟨m, hm⟩ : ∃ m, (k + 1) % n = m := ⟨_, rfl⟩
  rw [hm] at htm1 hml ⊢
  generalize sAt ps i = s at c1 hz
  have hms : m < s.size := by omega
  rw [bAt_eq hms]
  have hzi : (s.size : Int) = (n : Int) := by omega
  have hlim : s.size ≤ 32 := by omega
  have hnz : ((n : Int) == 0) = false := by simp; omega
  have q1 : IntKind.i64.wrap ((k : Int) + 1) = (k : Int) + 1 := IntWalk.i64_in _ (by omega)
  have q2 : IntKind.i64.wrap (m : Int) = (m : Int) := IntWalk.i64_in _ (by omega)
  have hm0 : 0 ≤ (m : Int) := by omega
  have hm1 : (m : Int) < (n : Int) := by omega
  have HZ := Lib.hid hz
  clear hz hcl e1 hm
  go_enter Try.func80, Try.ntmps80
  go_wp2_with fail
  go_quiet (fail)
  go_wp2
  go_ret
  exact ⟨rfl, _, rfl⟩
end Go.Proofs.Ytpekchihdmhkkaa.stab
