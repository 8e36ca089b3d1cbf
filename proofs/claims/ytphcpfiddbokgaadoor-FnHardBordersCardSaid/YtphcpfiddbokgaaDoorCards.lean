/-
  DERIVED. GIVEN WITH THE SEED: THE CARDS: each row of YtphcpfiddbokgaaDoorRows.lean that lists a variable, with what it lists TIED to the program's text (the seventh form; the later family's looks); each row that meets fmt, with fmt's text TOLD by the authors' own Lean function (tested against real Go, not proved from fmt's source: count such statements apart). THE CARD IS WHAT COUNTS. Prove the row's statement (the work); the ties are given (YtphcpfiddbokgaaDoorTie.lean); close each card by the builder's one call (the guide's Derived/Test/ToyasCard.lean, 'card_holds'). Laid BY PROGRAM, IN A SANDBOX (cutbox-door.mjs). By AI agents, Wed Nov 11 2026. No macro, syntax, notation, axiom, sorry.
-/
import Derived.Test.YtphcpfiddbokgaaDoorRows
import GoSem.ClaimSeven
namespace Go.Proofs.YtphcpfiddbokgaaDoor
namespace Rows

/-- THE TIED CARD OF 'laws.FnHardBorders'. -/
def fnHardBordersCard : Claim7 := { stood := { row := fnHardBordersRow, standIns := [], harness := (true, "fbd2e1cf13f42ec218de6db8dc7701fa2aaa70cfd52cddf1edad98b31d268f86"), looks := false }, kinds := [], alts := [], laidByText := true, laidKinds := [.data, .data], laidTests := true, laidLooks := .later }
def FnHardBordersCardSaid : Prop := Claim7.holds Tryd.pinned (.plain (OpenSpec.ofChange fnHardBordersSpec)) fnHardBordersCard

/-- THE TIED CARD OF 'laws.FnExactNeighboursOf'. -/
def fnExactNeighboursOfCard : Claim7 := { stood := { row := fnExactNeighboursOfRow, standIns := [], harness := (true, "fbd2e1cf13f42ec218de6db8dc7701fa2aaa70cfd52cddf1edad98b31d268f86"), looks := false }, kinds := [], alts := [], laidByText := true, laidKinds := [.data, .data], laidTests := true, laidLooks := .later }
def FnExactNeighboursOfCardSaid : Prop := Claim7.holds Tryd.pinned (.plain (OpenSpec.ofChange fnExactNeighboursOfSpec)) fnExactNeighboursOfCard

/-- THE TIED CARD OF 'laws.FnExactGreedyColours'. -/
def fnExactGreedyColoursCard : Claim7 := { stood := { row := fnExactGreedyColoursRow, standIns := [], harness := (true, "fbd2e1cf13f42ec218de6db8dc7701fa2aaa70cfd52cddf1edad98b31d268f86"), looks := false }, kinds := [], alts := [], laidByText := true, laidKinds := [.data, .data], laidTests := true, laidLooks := .later }
def FnExactGreedyColoursCardSaid : Prop := Claim7.holds Tryd.pinned (.plain (OpenSpec.ofChange fnExactGreedyColoursSpec)) fnExactGreedyColoursCard

/-- THE TIED CARD OF 'laws.FnExactSwapColours'. -/
def fnExactSwapColoursCard : Claim7 := { stood := { row := fnExactSwapColoursRow, standIns := [], harness := (true, "fbd2e1cf13f42ec218de6db8dc7701fa2aaa70cfd52cddf1edad98b31d268f86"), looks := false }, kinds := [], alts := [], laidByText := true, laidKinds := [.data, .data], laidTests := true, laidLooks := .later }
def FnExactSwapColoursCardSaid : Prop := Claim7.holds Tryd.pinned (.plain (OpenSpec.ofChange fnExactSwapColoursSpec)) fnExactSwapColoursCard

/-- THE SECOND FORM's CARD OF 'laws.FnHardBorders'. -/
def fnHardBordersUptoCard : Claim7 := { stood := { row := fnHardBordersUptoRow, standIns := [], harness := (true, "fbd2e1cf13f42ec218de6db8dc7701fa2aaa70cfd52cddf1edad98b31d268f86"), looks := false }, kinds := [], alts := [], laidByText := true, laidKinds := [.data, .data], laidTests := true, laidLooks := .later }
def FnHardBordersUptoCardSaid : Prop := Claim7.holds Tryd.pinned (.plain (OpenSpec.upto fnHardBordersSpec)) fnHardBordersUptoCard

/-- THE SECOND FORM's CARD OF 'laws.FnExactNeighboursOf'. -/
def fnExactNeighboursOfUptoCard : Claim7 := { stood := { row := fnExactNeighboursOfUptoRow, standIns := [], harness := (true, "fbd2e1cf13f42ec218de6db8dc7701fa2aaa70cfd52cddf1edad98b31d268f86"), looks := false }, kinds := [], alts := [], laidByText := true, laidKinds := [.data, .data], laidTests := true, laidLooks := .later }
def FnExactNeighboursOfUptoCardSaid : Prop := Claim7.holds Tryd.pinned (.plain (OpenSpec.upto fnExactNeighboursOfSpec)) fnExactNeighboursOfUptoCard

/-- THE SECOND FORM's CARD OF 'laws.FnExactGreedyColours'. -/
def fnExactGreedyColoursUptoCard : Claim7 := { stood := { row := fnExactGreedyColoursUptoRow, standIns := [], harness := (true, "fbd2e1cf13f42ec218de6db8dc7701fa2aaa70cfd52cddf1edad98b31d268f86"), looks := false }, kinds := [], alts := [], laidByText := true, laidKinds := [.data, .data], laidTests := true, laidLooks := .later }
def FnExactGreedyColoursUptoCardSaid : Prop := Claim7.holds Tryd.pinned (.plain (OpenSpec.upto fnExactGreedyColoursSpec)) fnExactGreedyColoursUptoCard

/-- THE SECOND FORM's CARD OF 'laws.FnExactSwapColours'. -/
def fnExactSwapColoursUptoCard : Claim7 := { stood := { row := fnExactSwapColoursUptoRow, standIns := [], harness := (true, "fbd2e1cf13f42ec218de6db8dc7701fa2aaa70cfd52cddf1edad98b31d268f86"), looks := false }, kinds := [], alts := [], laidByText := true, laidKinds := [.data, .data], laidTests := true, laidLooks := .later }
def FnExactSwapColoursUptoCardSaid : Prop := Claim7.holds Tryd.pinned (.plain (OpenSpec.upto fnExactSwapColoursSpec)) fnExactSwapColoursUptoCard
end Rows
end Go.Proofs.YtphcpfiddbokgaaDoor
