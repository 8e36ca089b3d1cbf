/-
  DERIVED. GIVEN WITH THE SEED: THE CARDS: each row of YtpekchihdmhkkaaDoorRows.lean that lists a variable, with what it lists TIED to the program's text (the seventh form; the later family's looks); each row that meets fmt, with fmt's text TOLD by the authors' own Lean function (tested against real Go, not proved from fmt's source: count such statements apart). THE CARD IS WHAT COUNTS. Prove the row's statement (the work); the ties are given (YtpekchihdmhkkaaDoorTie.lean); close each card by the builder's one call (the guide's Derived/Test/ToyasCard.lean, 'card_holds'). Laid BY PROGRAM, IN A SANDBOX (cutbox-door.mjs). By AI agents, Wed Nov 11 2026. No macro, syntax, notation, axiom, sorry.
-/
import Derived.Test.YtpekchihdmhkkaaDoorRows
import GoSem.ClaimSeven
namespace Go.Proofs.YtpekchihdmhkkaaDoor
namespace Rows

/-- THE TIED CARD OF 'laws.FnIslands'. -/
def fnIslandsCard : Claim7 := { stood := { row := fnIslandsRow, standIns := [], harness := (true, "68e5e79f83cc638ac6adf959ae2deb3a4b1fded48e198f1567540b2e9880c390"), looks := false }, kinds := [], alts := [], laidByText := true, laidKinds := [.data, .pinned], laidTests := true, laidLooks := .later }
def FnIslandsCardSaid : Prop := Claim7.holds Tryd.pinned (.plain (OpenSpec.ofChange fnIslandsSpec)) fnIslandsCard

/-- THE TIED CARD OF 'laws.FnExactGiveLand'. -/
def fnExactGiveLandCard : Claim7 := { stood := { row := fnExactGiveLandRow, standIns := [], harness := (true, "68e5e79f83cc638ac6adf959ae2deb3a4b1fded48e198f1567540b2e9880c390"), looks := false }, kinds := [], alts := [], laidByText := true, laidKinds := [.data, .pinned], laidTests := true, laidLooks := .later }
def FnExactGiveLandCardSaid : Prop := Claim7.holds Tryd.pinned (.plain (OpenSpec.ofChange fnExactGiveLandSpec)) fnExactGiveLandCard

/-- THE SECOND FORM's CARD OF 'laws.FnIslands'. -/
def fnIslandsUptoCard : Claim7 := { stood := { row := fnIslandsUptoRow, standIns := [], harness := (true, "68e5e79f83cc638ac6adf959ae2deb3a4b1fded48e198f1567540b2e9880c390"), looks := false }, kinds := [], alts := [], laidByText := true, laidKinds := [.data, .pinned], laidTests := true, laidLooks := .later }
def FnIslandsUptoCardSaid : Prop := Claim7.holds Tryd.pinned (.plain (OpenSpec.upto fnIslandsSpec)) fnIslandsUptoCard

/-- THE SECOND FORM's CARD OF 'laws.FnExactGiveLand'. -/
def fnExactGiveLandUptoCard : Claim7 := { stood := { row := fnExactGiveLandUptoRow, standIns := [], harness := (true, "68e5e79f83cc638ac6adf959ae2deb3a4b1fded48e198f1567540b2e9880c390"), looks := false }, kinds := [], alts := [], laidByText := true, laidKinds := [.data, .pinned], laidTests := true, laidLooks := .later }
def FnExactGiveLandUptoCardSaid : Prop := Claim7.holds Tryd.pinned (.plain (OpenSpec.upto fnExactGiveLandSpec)) fnExactGiveLandUptoCard
end Rows
end Go.Proofs.YtpekchihdmhkkaaDoor
