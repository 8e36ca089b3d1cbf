/-
  DERIVED. GIVEN WITH THE SEED: THE CARDS: each row of YtemhmejjmhbfdaaDoorRows.lean that lists a variable, with what it lists TIED to the program's text (the seventh form; the later family's looks); each row that meets fmt, with fmt's text TOLD by the authors' own Lean function (tested against real Go, not proved from fmt's source: count such statements apart). THE CARD IS WHAT COUNTS. Prove the row's statement (the work); the ties are given (YtemhmejjmhbfdaaDoorTie.lean); close each card by the builder's one call (the guide's Derived/Test/ToyasCard.lean, 'card_holds'). Laid BY PROGRAM, IN A SANDBOX (cutbox-door.mjs). By AI agents, Wed Nov 11 2026. No macro, syntax, notation, axiom, sorry.
-/
import Derived.Test.YtemhmejjmhbfdaaDoorRows
import GoSem.ClaimSeven
namespace Go.Proofs.YtemhmejjmhbfdaaDoor
namespace Rows

/-- THE TIED CARD OF 'laws.FnHardBorders'. -/
def fnHardBordersCard : Claim7 := { stood := { row := fnHardBordersRow, standIns := [], harness := (true, "9d068759b0545824ad5c7fb6a859bc6bd809cf3e2fcdc50eee547e6fd75fe4fa"), looks := false }, kinds := [], alts := [], laidByText := true, laidKinds := [.data, .data], laidTests := true, laidLooks := .later }
def FnHardBordersCardSaid : Prop := Claim7.holds Tryd.pinned (.plain (OpenSpec.ofChange fnHardBordersSpec)) fnHardBordersCard

/-- THE SECOND FORM's CARD OF 'laws.FnHardBorders'. -/
def fnHardBordersUptoCard : Claim7 := { stood := { row := fnHardBordersUptoRow, standIns := [], harness := (true, "9d068759b0545824ad5c7fb6a859bc6bd809cf3e2fcdc50eee547e6fd75fe4fa"), looks := false }, kinds := [], alts := [], laidByText := true, laidKinds := [.data, .data], laidTests := true, laidLooks := .later }
def FnHardBordersUptoCardSaid : Prop := Claim7.holds Tryd.pinned (.plain (OpenSpec.upto fnHardBordersSpec)) fnHardBordersUptoCard
end Rows
end Go.Proofs.YtemhmejjmhbfdaaDoor
