/-
  DERIVED. GIVEN WITH THE SEED: THE CARDS: each row of YtbnihalbepffoaaDoorRows.lean that lists a variable, with what it lists TIED to the program's text (the seventh form; the later family's looks); each row that meets fmt, with fmt's text TOLD by the authors' own Lean function (tested against real Go, not proved from fmt's source: count such statements apart). THE CARD IS WHAT COUNTS. Prove the row's statement (the work); the ties are given (YtbnihalbepffoaaDoorTie.lean); close each card by the builder's one call (the guide's Derived/Test/ToyasCard.lean, 'card_holds'). Laid BY PROGRAM, IN A SANDBOX (cutbox-door.mjs). By AI agents, Wed Nov 11 2026. No macro, syntax, notation, axiom, sorry.
-/
import Derived.Test.YtbnihalbepffoaaDoorRows
import GoSem.ClaimSeven
namespace Go.Proofs.YtbnihalbepffoaaDoor
namespace Rows

/-- THE TIED CARD OF 'laws.FnAngleTexts'. -/
def fnAngleTextsCard : Claim7 := { stood := { row := fnAngleTextsRow, standIns := [], harness := (true, "5690eae4dcb4ca8957f21cbbcfe003cb00f55c7935ce38c41d98be2e8b4f99ff"), looks := true }, kinds := [], alts := [], laidByText := true, laidKinds := [.data, .data, .data, .sentinel, .sentinel], laidTests := true, laidLooks := .later }
def FnAngleTextsCardSaid : Prop := Claim7.holds Tryd.pinned (.plain (OpenSpec.ofChange fnAngleTextsSpec)) fnAngleTextsCard

/-- THE TIED CARD OF 'laws.FnGores'. -/
def fnGoresCard : Claim7 := { stood := { row := fnGoresRow, standIns := [], harness := (true, "5690eae4dcb4ca8957f21cbbcfe003cb00f55c7935ce38c41d98be2e8b4f99ff"), looks := true }, kinds := [], alts := [], laidByText := true, laidKinds := [.data], laidTests := true, laidLooks := .later }
def FnGoresCardSaid : Prop := Claim7.holds Tryd.pinned (.plain (OpenSpec.ofChange fnGoresSpec)) fnGoresCard

/-- THE TIED CARD OF 'laws.FnExactSpotText'. -/
def fnExactSpotTextCard : Claim7 := { stood := { row := fnExactSpotTextRow, standIns := [], harness := (true, "5690eae4dcb4ca8957f21cbbcfe003cb00f55c7935ce38c41d98be2e8b4f99ff"), looks := true }, kinds := [], alts := [], laidByText := true, laidKinds := [.data, .data, .data], laidTests := true, laidLooks := .later }
def FnExactSpotTextCardSaid : Prop := Claim7.holds Tryd.pinned (.plain (OpenSpec.ofChange fnExactSpotTextSpec)) fnExactSpotTextCard

/-- THE TIED CARD OF 'laws.FnExactReadSpot'. -/
def fnExactReadSpotCard : Claim7 := { stood := { row := fnExactReadSpotRow, standIns := [], harness := (true, "5690eae4dcb4ca8957f21cbbcfe003cb00f55c7935ce38c41d98be2e8b4f99ff"), looks := true }, kinds := [], alts := [], laidByText := true, laidKinds := [.data, .data, .data, .sentinel, .sentinel], laidTests := true, laidLooks := .later }
def FnExactReadSpotCardSaid : Prop := Claim7.holds Tryd.pinned (.plain (OpenSpec.ofChange fnExactReadSpotSpec)) fnExactReadSpotCard

/-- THE TIED CARD OF 'laws.FnExactGoresTouched'. -/
def fnExactGoresTouchedCard : Claim7 := { stood := { row := fnExactGoresTouchedRow, standIns := [], harness := (true, "5690eae4dcb4ca8957f21cbbcfe003cb00f55c7935ce38c41d98be2e8b4f99ff"), looks := true }, kinds := [], alts := [], laidByText := true, laidKinds := [.data], laidTests := true, laidLooks := .later }
def FnExactGoresTouchedCardSaid : Prop := Claim7.holds Tryd.pinned (.plain (OpenSpec.ofChange fnExactGoresTouchedSpec)) fnExactGoresTouchedCard

/-- THE SECOND FORM's CARD OF 'laws.FnAngleTexts'. -/
def fnAngleTextsUptoCard : Claim7 := { stood := { row := fnAngleTextsUptoRow, standIns := [], harness := (true, "5690eae4dcb4ca8957f21cbbcfe003cb00f55c7935ce38c41d98be2e8b4f99ff"), looks := true }, kinds := [], alts := [], laidByText := true, laidKinds := [.data, .data, .data, .sentinel, .sentinel], laidTests := true, laidLooks := .later }
def FnAngleTextsUptoCardSaid : Prop := Claim7.holds Tryd.pinned (.plain (OpenSpec.upto fnAngleTextsSpec)) fnAngleTextsUptoCard

/-- THE SECOND FORM's CARD OF 'laws.FnGores'. -/
def fnGoresUptoCard : Claim7 := { stood := { row := fnGoresUptoRow, standIns := [], harness := (true, "5690eae4dcb4ca8957f21cbbcfe003cb00f55c7935ce38c41d98be2e8b4f99ff"), looks := true }, kinds := [], alts := [], laidByText := true, laidKinds := [.data], laidTests := true, laidLooks := .later }
def FnGoresUptoCardSaid : Prop := Claim7.holds Tryd.pinned (.plain (OpenSpec.upto fnGoresSpec)) fnGoresUptoCard

/-- THE SECOND FORM's CARD OF 'laws.FnExactSpotText'. -/
def fnExactSpotTextUptoCard : Claim7 := { stood := { row := fnExactSpotTextUptoRow, standIns := [], harness := (true, "5690eae4dcb4ca8957f21cbbcfe003cb00f55c7935ce38c41d98be2e8b4f99ff"), looks := true }, kinds := [], alts := [], laidByText := true, laidKinds := [.data, .data, .data], laidTests := true, laidLooks := .later }
def FnExactSpotTextUptoCardSaid : Prop := Claim7.holds Tryd.pinned (.plain (OpenSpec.upto fnExactSpotTextSpec)) fnExactSpotTextUptoCard

/-- THE SECOND FORM's CARD OF 'laws.FnExactReadSpot'. -/
def fnExactReadSpotUptoCard : Claim7 := { stood := { row := fnExactReadSpotUptoRow, standIns := [], harness := (true, "5690eae4dcb4ca8957f21cbbcfe003cb00f55c7935ce38c41d98be2e8b4f99ff"), looks := true }, kinds := [], alts := [], laidByText := true, laidKinds := [.data, .data, .data, .sentinel, .sentinel], laidTests := true, laidLooks := .later }
def FnExactReadSpotUptoCardSaid : Prop := Claim7.holds Tryd.pinned (.plain (OpenSpec.upto fnExactReadSpotSpec)) fnExactReadSpotUptoCard

/-- THE SECOND FORM's CARD OF 'laws.FnExactGoresTouched'. -/
def fnExactGoresTouchedUptoCard : Claim7 := { stood := { row := fnExactGoresTouchedUptoRow, standIns := [], harness := (true, "5690eae4dcb4ca8957f21cbbcfe003cb00f55c7935ce38c41d98be2e8b4f99ff"), looks := true }, kinds := [], alts := [], laidByText := true, laidKinds := [.data], laidTests := true, laidLooks := .later }
def FnExactGoresTouchedUptoCardSaid : Prop := Claim7.holds Tryd.pinned (.plain (OpenSpec.upto fnExactGoresTouchedSpec)) fnExactGoresTouchedUptoCard
end Rows
end Go.Proofs.YtbnihalbepffoaaDoor
