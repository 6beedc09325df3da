/-
  DERIVED. GIVEN WITH THE SEED: THE CARDS: each row of YtecmldnigohjfabDoorRows.lean that lists a variable, with what it lists TIED to the program's text (the seventh form; the later family's looks); each row that meets fmt, with fmt's text TOLD by the authors' own Lean function (tested against real Go, not proved from fmt's source: count such statements apart). THE CARD IS WHAT COUNTS. Prove the row's statement (the work); the ties are given (YtecmldnigohjfabDoorTie.lean); close each card by the builder's one call (the guide's Derived/Test/ToyasCard.lean, 'card_holds'). Laid BY PROGRAM, IN A SANDBOX (cutbox-door.mjs). By AI agents, Wed Nov 11 2026. No macro, syntax, notation, axiom, sorry.
-/
import Derived.Test.YtecmldnigohjfabDoorRows
import GoSem.ClaimSeven
namespace Go.Proofs.YtecmldnigohjfabDoor
namespace Rows

/-- THE TIED CARD OF 'spiritlevellaw15.UnitStates'. -/
def unitStatesCard : Claim7 := { stood := { row := unitStatesRow, standIns := [], harness := (true, "277dae371c9928435f95f3e54934b9faa020b7a5dc61587455c2b13d14fd447e"), looks := false }, kinds := [], alts := [], laidByText := true, laidKinds := [.data], laidTests := true, laidLooks := .later }
def UnitStatesCardSaid : Prop := Claim7.holds Tryd.pinned (.plain (OpenSpec.ofChange unitStatesSpec)) unitStatesCard

/-- THE SECOND FORM's CARD OF 'spiritlevellaw15.UnitStates'. -/
def unitStatesUptoCard : Claim7 := { stood := { row := unitStatesUptoRow, standIns := [], harness := (true, "277dae371c9928435f95f3e54934b9faa020b7a5dc61587455c2b13d14fd447e"), looks := false }, kinds := [], alts := [], laidByText := true, laidKinds := [.data], laidTests := true, laidLooks := .later }
def UnitStatesUptoCardSaid : Prop := Claim7.holds Tryd.pinned (.plain (OpenSpec.upto unitStatesSpec)) unitStatesUptoCard
end Rows
end Go.Proofs.YtecmldnigohjfabDoor
