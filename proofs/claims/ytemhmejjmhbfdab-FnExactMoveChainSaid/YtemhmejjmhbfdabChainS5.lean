/- The model's longest steps, least bounds, sides and picked points: contracts. -/
import Derived.Test.YtemhmejjmhbfdabChainS4
import Derived.Test.YtemhmejjmhbfdabChain3
namespace Go.Proofs.Ytemhmejjmhbfdab.sines
open Go.ChangeShapes Go.WideShapes Go.ChangeAt Go.RowKit Go.Proofs.Ytemhmejjmhbfdab.spots Go.Proofs.Ytemhmejjmhbfdab.irows Go.Proofs.Ytemhmejjmhbfdab.pairsPlace
set_option linter.unusedSimpArgs false
set_option linter.unusedVariables false

def longV (ps : List Pl) (d : Int) : List Int := if codeC ps d = 0 then nzL (stepsL ps d) else []
theorem longV_len (ps : List Pl) (d : Int) : (longV ps d).length ≤ 24 := by
  unfold longV
  split
  · rename_i h
    obtain ⟨h1, _, _⟩ := codeC_of h
    obtain ⟨h2, h3, _⟩ := okC_of h1
    have := stepsL_len (ps := ps) (d := d) (by omega)
    simp [nzL]; omega
  · simp
def codeB (ps : List Pl) (many : Int) : Int := if okC ps = true then (if inB many 2 24 = true then 0 else 2) else 1
def leastV (ps : List Pl) (many : Int) : Int := if codeB ps many = 0 then leastD ps many else 0
theorem ret2i {a b c d : Int} (h : a = b) (g : c = d) : Ending.returned (.tuple #[.int .i64 a, .int .i64 c]) = .returned (.tuple #[.int .i64 b, .int .i64 d]) := by rw [h, g]
end Go.Proofs.Ytemhmejjmhbfdab.sines
