/-
  DERIVED. GIVEN WITH THE SEED: THE CARDS: each row of YteeikkakibifpaaDoorRows.lean that lists a variable, with what it lists TIED to the program's text (the seventh form; the later family's looks); each row that meets fmt, with fmt's text TOLD by the authors' own Lean function (tested against real Go, not proved from fmt's source: count such statements apart). THE CARD IS WHAT COUNTS. Prove the row's statement (the work); the ties are given (YteeikkakibifpaaDoorTie.lean); close each card by the builder's one call (the guide's Derived/Test/ToyasCard.lean, 'card_holds'). Laid BY PROGRAM, IN A SANDBOX (cutbox-door.mjs). By AI agents, Wed Nov 11 2026. No macro, syntax, notation, axiom, sorry.
-/
import Derived.Test.YteeikkakibifpaaDoorRows
import GoSem.ClaimSeven
namespace Go.Proofs.YteeikkakibifpaaDoor
namespace Rows

/-- THE TIED CARD OF 'laws.FnGores'. -/
def fnGoresCard : Claim7 := { stood := { row := fnGoresRow, standIns := [], harness := (true, "85accfea9f218aa215c9035b918e39a9abf569f0cd006f75148fcf4cbbbf0700"), looks := false }, kinds := [], alts := [], laidByText := true, laidKinds := [.data], laidTests := true, laidLooks := .later }
def FnGoresCardSaid : Prop := Claim7.holds Tryd.pinned (.plain (OpenSpec.ofChange fnGoresSpec)) fnGoresCard

/-- THE TIED CARD OF 'laws.FnClosing'. -/
def fnClosingCard : Claim7 := { stood := { row := fnClosingRow, standIns := [], harness := (true, "85accfea9f218aa215c9035b918e39a9abf569f0cd006f75148fcf4cbbbf0700"), looks := false }, kinds := [], alts := [], laidByText := true, laidKinds := [.data], laidTests := true, laidLooks := .later }
def FnClosingCardSaid : Prop := Claim7.holds Tryd.pinned (.plain (OpenSpec.ofChange fnClosingSpec)) fnClosingCard

/-- THE TIED CARD OF 'laws.FnExactValidGores'. -/
def fnExactValidGoresCard : Claim7 := { stood := { row := fnExactValidGoresRow, standIns := [], harness := (true, "85accfea9f218aa215c9035b918e39a9abf569f0cd006f75148fcf4cbbbf0700"), looks := false }, kinds := [], alts := [], laidByText := true, laidKinds := [.data], laidTests := true, laidLooks := .later }
def FnExactValidGoresCardSaid : Prop := Claim7.holds Tryd.pinned (.plain (OpenSpec.ofChange fnExactValidGoresSpec)) fnExactValidGoresCard

/-- THE TIED CARD OF 'laws.FnExactGoreSpan'. -/
def fnExactGoreSpanCard : Claim7 := { stood := { row := fnExactGoreSpanRow, standIns := [], harness := (true, "85accfea9f218aa215c9035b918e39a9abf569f0cd006f75148fcf4cbbbf0700"), looks := false }, kinds := [], alts := [], laidByText := true, laidKinds := [.data], laidTests := true, laidLooks := .later }
def FnExactGoreSpanCardSaid : Prop := Claim7.holds Tryd.pinned (.plain (OpenSpec.ofChange fnExactGoreSpanSpec)) fnExactGoreSpanCard

/-- THE TIED CARD OF 'laws.FnExactGoreOf'. -/
def fnExactGoreOfCard : Claim7 := { stood := { row := fnExactGoreOfRow, standIns := [], harness := (true, "85accfea9f218aa215c9035b918e39a9abf569f0cd006f75148fcf4cbbbf0700"), looks := false }, kinds := [], alts := [], laidByText := true, laidKinds := [.data], laidTests := true, laidLooks := .later }
def FnExactGoreOfCardSaid : Prop := Claim7.holds Tryd.pinned (.plain (OpenSpec.ofChange fnExactGoreOfSpec)) fnExactGoreOfCard

/-- THE TIED CARD OF 'laws.FnExactGoreMiddle'. -/
def fnExactGoreMiddleCard : Claim7 := { stood := { row := fnExactGoreMiddleRow, standIns := [], harness := (true, "85accfea9f218aa215c9035b918e39a9abf569f0cd006f75148fcf4cbbbf0700"), looks := false }, kinds := [], alts := [], laidByText := true, laidKinds := [.data], laidTests := true, laidLooks := .later }
def FnExactGoreMiddleCardSaid : Prop := Claim7.holds Tryd.pinned (.plain (OpenSpec.ofChange fnExactGoreMiddleSpec)) fnExactGoreMiddleCard

/-- THE TIED CARD OF 'laws.FnExactGoreWidth'. -/
def fnExactGoreWidthCard : Claim7 := { stood := { row := fnExactGoreWidthRow, standIns := [], harness := (true, "85accfea9f218aa215c9035b918e39a9abf569f0cd006f75148fcf4cbbbf0700"), looks := false }, kinds := [], alts := [], laidByText := true, laidKinds := [.data], laidTests := true, laidLooks := .later }
def FnExactGoreWidthCardSaid : Prop := Claim7.holds Tryd.pinned (.plain (OpenSpec.ofChange fnExactGoreWidthSpec)) fnExactGoreWidthCard

/-- THE TIED CARD OF 'laws.FnExactGoreWidths'. -/
def fnExactGoreWidthsCard : Claim7 := { stood := { row := fnExactGoreWidthsRow, standIns := [], harness := (true, "85accfea9f218aa215c9035b918e39a9abf569f0cd006f75148fcf4cbbbf0700"), looks := false }, kinds := [], alts := [], laidByText := true, laidKinds := [.data], laidTests := true, laidLooks := .later }
def FnExactGoreWidthsCardSaid : Prop := Claim7.holds Tryd.pinned (.plain (OpenSpec.ofChange fnExactGoreWidthsSpec)) fnExactGoreWidthsCard

/-- THE TIED CARD OF 'laws.FnExactClosingAt'. -/
def fnExactClosingAtCard : Claim7 := { stood := { row := fnExactClosingAtRow, standIns := [], harness := (true, "85accfea9f218aa215c9035b918e39a9abf569f0cd006f75148fcf4cbbbf0700"), looks := false }, kinds := [], alts := [], laidByText := true, laidKinds := [.data], laidTests := true, laidLooks := .later }
def FnExactClosingAtCardSaid : Prop := Claim7.holds Tryd.pinned (.plain (OpenSpec.ofChange fnExactClosingAtSpec)) fnExactClosingAtCard

/-- THE TIED CARD OF 'laws.FnExactWorstClosing'. -/
def fnExactWorstClosingCard : Claim7 := { stood := { row := fnExactWorstClosingRow, standIns := [], harness := (true, "85accfea9f218aa215c9035b918e39a9abf569f0cd006f75148fcf4cbbbf0700"), looks := false }, kinds := [], alts := [], laidByText := true, laidKinds := [.data], laidTests := true, laidLooks := .later }
def FnExactWorstClosingCardSaid : Prop := Claim7.holds Tryd.pinned (.plain (OpenSpec.ofChange fnExactWorstClosingSpec)) fnExactWorstClosingCard

/-- THE TIED CARD OF 'laws.FnExactFewestGores'. -/
def fnExactFewestGoresCard : Claim7 := { stood := { row := fnExactFewestGoresRow, standIns := [], harness := (true, "85accfea9f218aa215c9035b918e39a9abf569f0cd006f75148fcf4cbbbf0700"), looks := false }, kinds := [], alts := [], laidByText := true, laidKinds := [.data], laidTests := true, laidLooks := .later }
def FnExactFewestGoresCardSaid : Prop := Claim7.holds Tryd.pinned (.plain (OpenSpec.ofChange fnExactFewestGoresSpec)) fnExactFewestGoresCard

/-- THE TIED CARD OF 'laws.FnExactSheetsForGores'. -/
def fnExactSheetsForGoresCard : Claim7 := { stood := { row := fnExactSheetsForGoresRow, standIns := [], harness := (true, "85accfea9f218aa215c9035b918e39a9abf569f0cd006f75148fcf4cbbbf0700"), looks := false }, kinds := [], alts := [], laidByText := true, laidKinds := [.data], laidTests := true, laidLooks := .later }
def FnExactSheetsForGoresCardSaid : Prop := Claim7.holds Tryd.pinned (.plain (OpenSpec.ofChange fnExactSheetsForGoresSpec)) fnExactSheetsForGoresCard

/-- THE TIED CARD OF 'laws.FnExactGoresTouched'. -/
def fnExactGoresTouchedCard : Claim7 := { stood := { row := fnExactGoresTouchedRow, standIns := [], harness := (true, "85accfea9f218aa215c9035b918e39a9abf569f0cd006f75148fcf4cbbbf0700"), looks := false }, kinds := [], alts := [], laidByText := true, laidKinds := [.data], laidTests := true, laidLooks := .later }
def FnExactGoresTouchedCardSaid : Prop := Claim7.holds Tryd.pinned (.plain (OpenSpec.ofChange fnExactGoresTouchedSpec)) fnExactGoresTouchedCard

/-- THE SECOND FORM's CARD OF 'laws.FnGores'. -/
def fnGoresUptoCard : Claim7 := { stood := { row := fnGoresUptoRow, standIns := [], harness := (true, "85accfea9f218aa215c9035b918e39a9abf569f0cd006f75148fcf4cbbbf0700"), looks := false }, kinds := [], alts := [], laidByText := true, laidKinds := [.data], laidTests := true, laidLooks := .later }
def FnGoresUptoCardSaid : Prop := Claim7.holds Tryd.pinned (.plain (OpenSpec.upto fnGoresSpec)) fnGoresUptoCard

/-- THE SECOND FORM's CARD OF 'laws.FnClosing'. -/
def fnClosingUptoCard : Claim7 := { stood := { row := fnClosingUptoRow, standIns := [], harness := (true, "85accfea9f218aa215c9035b918e39a9abf569f0cd006f75148fcf4cbbbf0700"), looks := false }, kinds := [], alts := [], laidByText := true, laidKinds := [.data], laidTests := true, laidLooks := .later }
def FnClosingUptoCardSaid : Prop := Claim7.holds Tryd.pinned (.plain (OpenSpec.upto fnClosingSpec)) fnClosingUptoCard

/-- THE SECOND FORM's CARD OF 'laws.FnExactValidGores'. -/
def fnExactValidGoresUptoCard : Claim7 := { stood := { row := fnExactValidGoresUptoRow, standIns := [], harness := (true, "85accfea9f218aa215c9035b918e39a9abf569f0cd006f75148fcf4cbbbf0700"), looks := false }, kinds := [], alts := [], laidByText := true, laidKinds := [.data], laidTests := true, laidLooks := .later }
def FnExactValidGoresUptoCardSaid : Prop := Claim7.holds Tryd.pinned (.plain (OpenSpec.upto fnExactValidGoresSpec)) fnExactValidGoresUptoCard

/-- THE SECOND FORM's CARD OF 'laws.FnExactGoreSpan'. -/
def fnExactGoreSpanUptoCard : Claim7 := { stood := { row := fnExactGoreSpanUptoRow, standIns := [], harness := (true, "85accfea9f218aa215c9035b918e39a9abf569f0cd006f75148fcf4cbbbf0700"), looks := false }, kinds := [], alts := [], laidByText := true, laidKinds := [.data], laidTests := true, laidLooks := .later }
def FnExactGoreSpanUptoCardSaid : Prop := Claim7.holds Tryd.pinned (.plain (OpenSpec.upto fnExactGoreSpanSpec)) fnExactGoreSpanUptoCard

/-- THE SECOND FORM's CARD OF 'laws.FnExactGoreOf'. -/
def fnExactGoreOfUptoCard : Claim7 := { stood := { row := fnExactGoreOfUptoRow, standIns := [], harness := (true, "85accfea9f218aa215c9035b918e39a9abf569f0cd006f75148fcf4cbbbf0700"), looks := false }, kinds := [], alts := [], laidByText := true, laidKinds := [.data], laidTests := true, laidLooks := .later }
def FnExactGoreOfUptoCardSaid : Prop := Claim7.holds Tryd.pinned (.plain (OpenSpec.upto fnExactGoreOfSpec)) fnExactGoreOfUptoCard

/-- THE SECOND FORM's CARD OF 'laws.FnExactGoreMiddle'. -/
def fnExactGoreMiddleUptoCard : Claim7 := { stood := { row := fnExactGoreMiddleUptoRow, standIns := [], harness := (true, "85accfea9f218aa215c9035b918e39a9abf569f0cd006f75148fcf4cbbbf0700"), looks := false }, kinds := [], alts := [], laidByText := true, laidKinds := [.data], laidTests := true, laidLooks := .later }
def FnExactGoreMiddleUptoCardSaid : Prop := Claim7.holds Tryd.pinned (.plain (OpenSpec.upto fnExactGoreMiddleSpec)) fnExactGoreMiddleUptoCard

/-- THE SECOND FORM's CARD OF 'laws.FnExactGoreWidth'. -/
def fnExactGoreWidthUptoCard : Claim7 := { stood := { row := fnExactGoreWidthUptoRow, standIns := [], harness := (true, "85accfea9f218aa215c9035b918e39a9abf569f0cd006f75148fcf4cbbbf0700"), looks := false }, kinds := [], alts := [], laidByText := true, laidKinds := [.data], laidTests := true, laidLooks := .later }
def FnExactGoreWidthUptoCardSaid : Prop := Claim7.holds Tryd.pinned (.plain (OpenSpec.upto fnExactGoreWidthSpec)) fnExactGoreWidthUptoCard

/-- THE SECOND FORM's CARD OF 'laws.FnExactGoreWidths'. -/
def fnExactGoreWidthsUptoCard : Claim7 := { stood := { row := fnExactGoreWidthsUptoRow, standIns := [], harness := (true, "85accfea9f218aa215c9035b918e39a9abf569f0cd006f75148fcf4cbbbf0700"), looks := false }, kinds := [], alts := [], laidByText := true, laidKinds := [.data], laidTests := true, laidLooks := .later }
def FnExactGoreWidthsUptoCardSaid : Prop := Claim7.holds Tryd.pinned (.plain (OpenSpec.upto fnExactGoreWidthsSpec)) fnExactGoreWidthsUptoCard

/-- THE SECOND FORM's CARD OF 'laws.FnExactClosingAt'. -/
def fnExactClosingAtUptoCard : Claim7 := { stood := { row := fnExactClosingAtUptoRow, standIns := [], harness := (true, "85accfea9f218aa215c9035b918e39a9abf569f0cd006f75148fcf4cbbbf0700"), looks := false }, kinds := [], alts := [], laidByText := true, laidKinds := [.data], laidTests := true, laidLooks := .later }
def FnExactClosingAtUptoCardSaid : Prop := Claim7.holds Tryd.pinned (.plain (OpenSpec.upto fnExactClosingAtSpec)) fnExactClosingAtUptoCard

/-- THE SECOND FORM's CARD OF 'laws.FnExactWorstClosing'. -/
def fnExactWorstClosingUptoCard : Claim7 := { stood := { row := fnExactWorstClosingUptoRow, standIns := [], harness := (true, "85accfea9f218aa215c9035b918e39a9abf569f0cd006f75148fcf4cbbbf0700"), looks := false }, kinds := [], alts := [], laidByText := true, laidKinds := [.data], laidTests := true, laidLooks := .later }
def FnExactWorstClosingUptoCardSaid : Prop := Claim7.holds Tryd.pinned (.plain (OpenSpec.upto fnExactWorstClosingSpec)) fnExactWorstClosingUptoCard

/-- THE SECOND FORM's CARD OF 'laws.FnExactFewestGores'. -/
def fnExactFewestGoresUptoCard : Claim7 := { stood := { row := fnExactFewestGoresUptoRow, standIns := [], harness := (true, "85accfea9f218aa215c9035b918e39a9abf569f0cd006f75148fcf4cbbbf0700"), looks := false }, kinds := [], alts := [], laidByText := true, laidKinds := [.data], laidTests := true, laidLooks := .later }
def FnExactFewestGoresUptoCardSaid : Prop := Claim7.holds Tryd.pinned (.plain (OpenSpec.upto fnExactFewestGoresSpec)) fnExactFewestGoresUptoCard

/-- THE SECOND FORM's CARD OF 'laws.FnExactSheetsForGores'. -/
def fnExactSheetsForGoresUptoCard : Claim7 := { stood := { row := fnExactSheetsForGoresUptoRow, standIns := [], harness := (true, "85accfea9f218aa215c9035b918e39a9abf569f0cd006f75148fcf4cbbbf0700"), looks := false }, kinds := [], alts := [], laidByText := true, laidKinds := [.data], laidTests := true, laidLooks := .later }
def FnExactSheetsForGoresUptoCardSaid : Prop := Claim7.holds Tryd.pinned (.plain (OpenSpec.upto fnExactSheetsForGoresSpec)) fnExactSheetsForGoresUptoCard

/-- THE SECOND FORM's CARD OF 'laws.FnExactGoresTouched'. -/
def fnExactGoresTouchedUptoCard : Claim7 := { stood := { row := fnExactGoresTouchedUptoRow, standIns := [], harness := (true, "85accfea9f218aa215c9035b918e39a9abf569f0cd006f75148fcf4cbbbf0700"), looks := false }, kinds := [], alts := [], laidByText := true, laidKinds := [.data], laidTests := true, laidLooks := .later }
def FnExactGoresTouchedUptoCardSaid : Prop := Claim7.holds Tryd.pinned (.plain (OpenSpec.upto fnExactGoresTouchedSpec)) fnExactGoresTouchedUptoCard
end Rows
end Go.Proofs.YteeikkakibifpaaDoor
