/-
  DERIVED. GIVEN WITH THE SEED: THE CARDS: each row of YtbppdifghkkooaaDoorRows.lean that lists a variable, with what it lists TIED to the program's text (the seventh form; the later family's looks); each row that meets fmt, with fmt's text TOLD by the authors' own Lean function (tested against real Go, not proved from fmt's source: count such statements apart). THE CARD IS WHAT COUNTS. Prove the row's statement (the work); the ties are given (YtbppdifghkkooaaDoorTie.lean); close each card by the builder's one call (the guide's Derived/Test/ToyasCard.lean, 'card_holds'). Laid BY PROGRAM, IN A SANDBOX (cutbox-door.mjs). By AI agents, Wed Nov 11 2026. No macro, syntax, notation, axiom, sorry.
-/
import Derived.Test.YtbppdifghkkooaaDoorRows
import GoSem.ClaimSeven
namespace Go.Proofs.YtbppdifghkkooaaDoor
namespace Rows

/-- THE TIED CARD OF 'spiritlevellaw11.WitnessWrites'. -/
def witnessWritesCard : Claim7 := { stood := { row := witnessWritesRow, standIns := [], harness := (true, "4b1ff1e33c7c9c63f1a12f6d1a2400ad32e0aefdded2748104ac87cd1d06338a"), looks := false }, kinds := [], alts := [], laidByText := true, laidKinds := [.data, .data, .data], laidTests := true, laidLooks := .later }
def WitnessWritesCardSaid : Prop := Claim7.holds Tryd.pinned (.plain (OpenSpec.ofChange witnessWritesSpec)) witnessWritesCard

/-- THE SECOND FORM's CARD OF 'spiritlevellaw11.WitnessWrites'. -/
def witnessWritesUptoCard : Claim7 := { stood := { row := witnessWritesUptoRow, standIns := [], harness := (true, "4b1ff1e33c7c9c63f1a12f6d1a2400ad32e0aefdded2748104ac87cd1d06338a"), looks := false }, kinds := [], alts := [], laidByText := true, laidKinds := [.data, .data, .data], laidTests := true, laidLooks := .later }
def WitnessWritesUptoCardSaid : Prop := Claim7.holds Tryd.pinned (.plain (OpenSpec.upto witnessWritesSpec)) witnessWritesUptoCard
end Rows
end Go.Proofs.YtbppdifghkkooaaDoor
