/-
  DERIVED. GIVEN WITH THE SEED: THE CARDS: each row of YtkgjncgfdoifbaaDoorRows.lean that lists a variable, with what it lists TIED to the program's text (the seventh form; the later family's looks); each row that meets fmt, with fmt's text TOLD by the authors' own Lean function (tested against real Go, not proved from fmt's source: count such statements apart). THE CARD IS WHAT COUNTS. Prove the row's statement (the work); the ties are given (YtkgjncgfdoifbaaDoorTie.lean); close each card by the builder's one call (the guide's Derived/Test/ToyasCard.lean, 'card_holds'). Laid BY PROGRAM, IN A SANDBOX (cutbox-door.mjs). By AI agents, Wed Nov 11 2026. No macro, syntax, notation, axiom, sorry.
-/
import Derived.Test.YtkgjncgfdoifbaaDoorRows
import GoSem.ClaimSeven
namespace Go.Proofs.YtkgjncgfdoifbaaDoor
namespace Rows

/-- THE TIED CARD OF 'laws.FnAngleTexts'. -/
def fnAngleTextsCard : Claim7 := { stood := { row := fnAngleTextsRow, standIns := [], harness := (true, "90981a8678864dca5a222a03e766be1ad900ad372ebd91334014be7265e82a50"), looks := true }, kinds := [], alts := [], laidByText := true, laidKinds := [.data, .data, .data, .sentinel, .sentinel], laidTests := true, laidLooks := .later }
def FnAngleTextsCardSaid : Prop := Claim7.holds Tryd.pinned (.plain (OpenSpec.ofChange fnAngleTextsSpec)) fnAngleTextsCard

/-- THE TIED CARD OF 'laws.FnExactReadSpot'. -/
def fnExactReadSpotCard : Claim7 := { stood := { row := fnExactReadSpotRow, standIns := [], harness := (true, "90981a8678864dca5a222a03e766be1ad900ad372ebd91334014be7265e82a50"), looks := true }, kinds := [], alts := [], laidByText := true, laidKinds := [.data, .data, .data, .sentinel, .sentinel], laidTests := true, laidLooks := .later }
def FnExactReadSpotCardSaid : Prop := Claim7.holds Tryd.pinned (.plain (OpenSpec.ofChange fnExactReadSpotSpec)) fnExactReadSpotCard

/-- THE SECOND FORM's CARD OF 'laws.FnAngleTexts'. -/
def fnAngleTextsUptoCard : Claim7 := { stood := { row := fnAngleTextsUptoRow, standIns := [], harness := (true, "90981a8678864dca5a222a03e766be1ad900ad372ebd91334014be7265e82a50"), looks := true }, kinds := [], alts := [], laidByText := true, laidKinds := [.data, .data, .data, .sentinel, .sentinel], laidTests := true, laidLooks := .later }
def FnAngleTextsUptoCardSaid : Prop := Claim7.holds Tryd.pinned (.plain (OpenSpec.upto fnAngleTextsSpec)) fnAngleTextsUptoCard

/-- THE SECOND FORM's CARD OF 'laws.FnExactReadSpot'. -/
def fnExactReadSpotUptoCard : Claim7 := { stood := { row := fnExactReadSpotUptoRow, standIns := [], harness := (true, "90981a8678864dca5a222a03e766be1ad900ad372ebd91334014be7265e82a50"), looks := true }, kinds := [], alts := [], laidByText := true, laidKinds := [.data, .data, .data, .sentinel, .sentinel], laidTests := true, laidLooks := .later }
def FnExactReadSpotUptoCardSaid : Prop := Claim7.holds Tryd.pinned (.plain (OpenSpec.upto fnExactReadSpotSpec)) fnExactReadSpotUptoCard
end Rows
end Go.Proofs.YtkgjncgfdoifbaaDoor
