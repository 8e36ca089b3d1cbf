/-
  DERIVED. GIVEN WITH THE SEED: THE CARDS: each row of YtemhmejjmhbfdabDoorRows.lean that lists a variable, with what it lists TIED to the program's text (the seventh form; the later family's looks); each row that meets fmt, with fmt's text TOLD by the authors' own Lean function (tested against real Go, not proved from fmt's source: count such statements apart). THE CARD IS WHAT COUNTS. Prove the row's statement (the work); the ties are given (YtemhmejjmhbfdabDoorTie.lean); close each card by the builder's one call (the guide's Derived/Test/ToyasCard.lean, 'card_holds'). Laid BY PROGRAM, IN A SANDBOX (cutbox-door.mjs). By AI agents, Wed Nov 11 2026. No macro, syntax, notation, axiom, sorry.
-/
import Derived.Test.YtemhmejjmhbfdabDoorRows
import GoSem.ClaimSeven
namespace Go.Proofs.YtemhmejjmhbfdabDoor
namespace Rows

/-- THE TIED CARD OF 'laws.FnExactNeighboursOf'. -/
def fnExactNeighboursOfCard : Claim7 := { stood := { row := fnExactNeighboursOfRow, standIns := [], harness := (true, "05ebefab6f34995677c43c0b55e52ff2310ec9ae87a7d78b7c0f93ac9126dc77"), looks := false }, kinds := [], alts := [], laidByText := true, laidKinds := [.data, .data], laidTests := true, laidLooks := .later }
def FnExactNeighboursOfCardSaid : Prop := Claim7.holds Tryd.pinned (.plain (OpenSpec.ofChange fnExactNeighboursOfSpec)) fnExactNeighboursOfCard

/-- THE TIED CARD OF 'laws.FnExactGreedyColours'. -/
def fnExactGreedyColoursCard : Claim7 := { stood := { row := fnExactGreedyColoursRow, standIns := [], harness := (true, "05ebefab6f34995677c43c0b55e52ff2310ec9ae87a7d78b7c0f93ac9126dc77"), looks := false }, kinds := [], alts := [], laidByText := true, laidKinds := [.data, .data], laidTests := true, laidLooks := .later }
def FnExactGreedyColoursCardSaid : Prop := Claim7.holds Tryd.pinned (.plain (OpenSpec.ofChange fnExactGreedyColoursSpec)) fnExactGreedyColoursCard

/-- THE TIED CARD OF 'laws.FnExactSwapColours'. -/
def fnExactSwapColoursCard : Claim7 := { stood := { row := fnExactSwapColoursRow, standIns := [], harness := (true, "05ebefab6f34995677c43c0b55e52ff2310ec9ae87a7d78b7c0f93ac9126dc77"), looks := false }, kinds := [], alts := [], laidByText := true, laidKinds := [.data, .data], laidTests := true, laidLooks := .later }
def FnExactSwapColoursCardSaid : Prop := Claim7.holds Tryd.pinned (.plain (OpenSpec.ofChange fnExactSwapColoursSpec)) fnExactSwapColoursCard

/-- THE SECOND FORM's CARD OF 'laws.FnExactNeighboursOf'. -/
def fnExactNeighboursOfUptoCard : Claim7 := { stood := { row := fnExactNeighboursOfUptoRow, standIns := [], harness := (true, "05ebefab6f34995677c43c0b55e52ff2310ec9ae87a7d78b7c0f93ac9126dc77"), looks := false }, kinds := [], alts := [], laidByText := true, laidKinds := [.data, .data], laidTests := true, laidLooks := .later }
def FnExactNeighboursOfUptoCardSaid : Prop := Claim7.holds Tryd.pinned (.plain (OpenSpec.upto fnExactNeighboursOfSpec)) fnExactNeighboursOfUptoCard

/-- THE SECOND FORM's CARD OF 'laws.FnExactGreedyColours'. -/
def fnExactGreedyColoursUptoCard : Claim7 := { stood := { row := fnExactGreedyColoursUptoRow, standIns := [], harness := (true, "05ebefab6f34995677c43c0b55e52ff2310ec9ae87a7d78b7c0f93ac9126dc77"), looks := false }, kinds := [], alts := [], laidByText := true, laidKinds := [.data, .data], laidTests := true, laidLooks := .later }
def FnExactGreedyColoursUptoCardSaid : Prop := Claim7.holds Tryd.pinned (.plain (OpenSpec.upto fnExactGreedyColoursSpec)) fnExactGreedyColoursUptoCard

/-- THE SECOND FORM's CARD OF 'laws.FnExactSwapColours'. -/
def fnExactSwapColoursUptoCard : Claim7 := { stood := { row := fnExactSwapColoursUptoRow, standIns := [], harness := (true, "05ebefab6f34995677c43c0b55e52ff2310ec9ae87a7d78b7c0f93ac9126dc77"), looks := false }, kinds := [], alts := [], laidByText := true, laidKinds := [.data, .data], laidTests := true, laidLooks := .later }
def FnExactSwapColoursUptoCardSaid : Prop := Claim7.holds Tryd.pinned (.plain (OpenSpec.upto fnExactSwapColoursSpec)) fnExactSwapColoursUptoCard
end Rows
end Go.Proofs.YtemhmejjmhbfdabDoor
