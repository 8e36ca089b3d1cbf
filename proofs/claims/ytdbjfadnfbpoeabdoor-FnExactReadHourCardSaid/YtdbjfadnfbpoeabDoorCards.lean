/-
  DERIVED. GIVEN WITH THE SEED: THE CARDS: each row of YtdbjfadnfbpoeabDoorRows.lean that lists a variable, with what it lists TIED to the program's text (the seventh form; the later family's looks); each row that meets fmt, with fmt's text TOLD by the authors' own Lean function (tested against real Go, not proved from fmt's source: count such statements apart). THE CARD IS WHAT COUNTS. Prove the row's statement (the work); the ties are given (YtdbjfadnfbpoeabDoorTie.lean); close each card by the builder's one call (the guide's Derived/Test/ToyasCard.lean, 'card_holds'). Laid BY PROGRAM, IN A SANDBOX (cutbox-door.mjs). By AI agents, Wed Nov 11 2026. No macro, syntax, notation, axiom, sorry.
-/
import Derived.Test.YtdbjfadnfbpoeabDoorRows
import GoSem.ClaimSeven
namespace Go.Proofs.YtdbjfadnfbpoeabDoor
namespace Rows

/-- THE TIED CARD OF 'laws.FnExactHourText'. -/
def fnExactHourTextCard : Claim7 := { stood := { row := fnExactHourTextRow, standIns := [], harness := (true, "f0d2cebb031a1982e660e8974ffe976aaf2329935eccdede95a820cfdf854f28"), looks := true }, kinds := [], alts := [], laidByText := true, laidKinds := [.data, .data, .data], laidTests := true, laidLooks := .later }
def FnExactHourTextCardSaid : Prop := Claim7.holds Tryd.pinned (.plain (OpenSpec.ofChange fnExactHourTextSpec)) fnExactHourTextCard

/-- THE TIED CARD OF 'laws.FnExactReadHour'. -/
def fnExactReadHourCard : Claim7 := { stood := { row := fnExactReadHourRow, standIns := [], harness := (true, "f0d2cebb031a1982e660e8974ffe976aaf2329935eccdede95a820cfdf854f28"), looks := true }, kinds := [], alts := [], laidByText := true, laidKinds := [.data, .data, .data, .sentinel, .sentinel], laidTests := true, laidLooks := .later }
def FnExactReadHourCardSaid : Prop := Claim7.holds Tryd.pinned (.plain (OpenSpec.ofChange fnExactReadHourSpec)) fnExactReadHourCard

/-- THE TIED CARD OF 'laws.FnExactSpotText'. -/
def fnExactSpotTextCard : Claim7 := { stood := { row := fnExactSpotTextRow, standIns := [], harness := (true, "f0d2cebb031a1982e660e8974ffe976aaf2329935eccdede95a820cfdf854f28"), looks := true }, kinds := [], alts := [], laidByText := true, laidKinds := [.data, .data, .data], laidTests := true, laidLooks := .later }
def FnExactSpotTextCardSaid : Prop := Claim7.holds Tryd.pinned (.plain (OpenSpec.ofChange fnExactSpotTextSpec)) fnExactSpotTextCard

/-- THE TIED CARD OF 'laws.FnExactReadSpot'. -/
def fnExactReadSpotCard : Claim7 := { stood := { row := fnExactReadSpotRow, standIns := [], harness := (true, "f0d2cebb031a1982e660e8974ffe976aaf2329935eccdede95a820cfdf854f28"), looks := true }, kinds := [], alts := [], laidByText := true, laidKinds := [.data, .data, .data, .sentinel, .sentinel], laidTests := true, laidLooks := .later }
def FnExactReadSpotCardSaid : Prop := Claim7.holds Tryd.pinned (.plain (OpenSpec.ofChange fnExactReadSpotSpec)) fnExactReadSpotCard

/-- THE SECOND FORM's CARD OF 'laws.FnExactHourText'. -/
def fnExactHourTextUptoCard : Claim7 := { stood := { row := fnExactHourTextUptoRow, standIns := [], harness := (true, "f0d2cebb031a1982e660e8974ffe976aaf2329935eccdede95a820cfdf854f28"), looks := true }, kinds := [], alts := [], laidByText := true, laidKinds := [.data, .data, .data], laidTests := true, laidLooks := .later }
def FnExactHourTextUptoCardSaid : Prop := Claim7.holds Tryd.pinned (.plain (OpenSpec.upto fnExactHourTextSpec)) fnExactHourTextUptoCard

/-- THE SECOND FORM's CARD OF 'laws.FnExactReadHour'. -/
def fnExactReadHourUptoCard : Claim7 := { stood := { row := fnExactReadHourUptoRow, standIns := [], harness := (true, "f0d2cebb031a1982e660e8974ffe976aaf2329935eccdede95a820cfdf854f28"), looks := true }, kinds := [], alts := [], laidByText := true, laidKinds := [.data, .data, .data, .sentinel, .sentinel], laidTests := true, laidLooks := .later }
def FnExactReadHourUptoCardSaid : Prop := Claim7.holds Tryd.pinned (.plain (OpenSpec.upto fnExactReadHourSpec)) fnExactReadHourUptoCard

/-- THE SECOND FORM's CARD OF 'laws.FnExactSpotText'. -/
def fnExactSpotTextUptoCard : Claim7 := { stood := { row := fnExactSpotTextUptoRow, standIns := [], harness := (true, "f0d2cebb031a1982e660e8974ffe976aaf2329935eccdede95a820cfdf854f28"), looks := true }, kinds := [], alts := [], laidByText := true, laidKinds := [.data, .data, .data], laidTests := true, laidLooks := .later }
def FnExactSpotTextUptoCardSaid : Prop := Claim7.holds Tryd.pinned (.plain (OpenSpec.upto fnExactSpotTextSpec)) fnExactSpotTextUptoCard

/-- THE SECOND FORM's CARD OF 'laws.FnExactReadSpot'. -/
def fnExactReadSpotUptoCard : Claim7 := { stood := { row := fnExactReadSpotUptoRow, standIns := [], harness := (true, "f0d2cebb031a1982e660e8974ffe976aaf2329935eccdede95a820cfdf854f28"), looks := true }, kinds := [], alts := [], laidByText := true, laidKinds := [.data, .data, .data, .sentinel, .sentinel], laidTests := true, laidLooks := .later }
def FnExactReadSpotUptoCardSaid : Prop := Claim7.holds Tryd.pinned (.plain (OpenSpec.upto fnExactReadSpotSpec)) fnExactReadSpotUptoCard
end Rows
end Go.Proofs.YtdbjfadnfbpoeabDoor
