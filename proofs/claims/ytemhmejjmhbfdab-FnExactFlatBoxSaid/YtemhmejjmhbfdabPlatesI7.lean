/- The program's way back from its maps, and what is lost: contracts. -/
import Derived.Test.YtemhmejjmhbfdabPlatesI6
namespace Go.Proofs.Ytemhmejjmhbfdab.sines
open Go.ChangeShapes Go.WideShapes Go.ChangeAt Go.RowKit Go.Proofs.Ytemhmejjmhbfdab.spots Go.Proofs.Ytemhmejjmhbfdab.pairs
set_option linter.unusedSimpArgs false
set_option linter.unusedVariables false


/-- The code of a place that is read. -/
def codeR (x y s : Int) (wave : Bool) : Int := if codeF8 x y s = 0 then (if rdOk x y s wave = true then 0 else 3) else codeF8 x y s
theorem codeR_plate (x y s : Int) : codeR x y s false = codeB8 x y s := rfl
theorem codeR_wave {x y s : Int} : codeR x y s true = codeW8 x y s := by
  unfold codeR codeW8
  by_cases hc : codeF8 x y s = 0
  · rw [if_pos hc, if_pos hc]
    obtain ⟨s0, _⟩ := codeF8_of hc
    have e1 : rdOk x y s true = wbOk x y s := rfl
    rw [e1]
    cases hw : wbOk x y s with
    | true => rw [wave_in s0 hw]; rfl
    | false => simp
  · rw [if_neg hc, if_neg hc]
end Go.Proofs.Ytemhmejjmhbfdab.sines
