/-
  DERIVED. GIVEN WITH THE SEED: THE CARDS: each row of YtkpjpokeonppbaaGreatDoorRows.lean that lists a variable, with what it lists TIED to the program's text (the seventh form; the later family's looks); each row that meets fmt, with fmt's text TOLD by the authors' own Lean function (tested against real Go, not proved from fmt's source: count such statements apart). THE CARD IS WHAT COUNTS. Prove the row's statement (the work); the ties are given (YtkpjpokeonppbaaGreatDoorTie.lean); close each card by the builder's one call (the guide's Derived/Test/ToyasCard.lean, 'card_holds'). Laid BY PROGRAM, IN A SANDBOX (cutbox-door.mjs). By AI agents, Wed Nov 11 2026. No macro, syntax, notation, axiom, sorry.
-/
import Derived.Test.YtkpjpokeonppbaaGreatDoorRows
import GoSem.ClaimSeven
namespace Go.Proofs.YtkpjpokeonppbaaGreatDoor
namespace Rows

/-- THE TIED CARD OF 'spiritlevellaw08.ReaderNames'. -/
def readerNamesCard : Claim7 := { stood := { row := readerNamesRow, standIns := [], harness := (true, "259c78bbd5281aa13cc561a07d399c60a3bf8b4dbb365beb5f15c0eee6034e63"), looks := true }, kinds := [], alts := [], laidByText := true, laidKinds := [.data, .data, .data, .data, .sentinel, .sentinel, .pinned], laidTests := true, laidLooks := .later }
def ReaderNamesCardSaid : Prop := Claim7.holds Tryz.pinned (.plain (OpenSpec.ofChange readerNamesSpec)) readerNamesCard

/-- THE TIED CARD OF 'spiritlevellaw08.ReaderReads'. -/
def readerReadsCard : Claim7 := { stood := { row := readerReadsRow, standIns := [], harness := (true, "259c78bbd5281aa13cc561a07d399c60a3bf8b4dbb365beb5f15c0eee6034e63"), looks := true }, kinds := [], alts := [], laidByText := true, laidKinds := [.data, .data, .data, .data, .sentinel, .sentinel, .pinned], laidTests := true, laidLooks := .later }
def ReaderReadsCardSaid : Prop := Claim7.holds Tryz.pinned (.plain (OpenSpec.ofChange readerReadsSpec)) readerReadsCard

/-- THE TIED CARD OF 'spiritlevellaw08.ReaderBack'. -/
def readerBackCard : Claim7 := { stood := { row := readerBackRow, standIns := [], harness := (true, "259c78bbd5281aa13cc561a07d399c60a3bf8b4dbb365beb5f15c0eee6034e63"), looks := true }, kinds := [], alts := [], laidByText := true, laidKinds := [.data, .data, .data, .data, .sentinel, .sentinel, .pinned], laidTests := true, laidLooks := .later }
def ReaderBackCardSaid : Prop := Claim7.holds Tryz.pinned (.plain (OpenSpec.ofChange readerBackSpec)) readerBackCard

/-- THE TIED CARD OF 'spiritlevellaw08.ReaderCircuits'. -/
def readerCircuitsCard : Claim7 := { stood := { row := readerCircuitsRow, standIns := [], harness := (true, "259c78bbd5281aa13cc561a07d399c60a3bf8b4dbb365beb5f15c0eee6034e63"), looks := true }, kinds := [], alts := [], laidByText := true, laidKinds := [.data, .data, .data, .data, .sentinel, .sentinel, .pinned], laidTests := true, laidLooks := .later }
def ReaderCircuitsCardSaid : Prop := Claim7.holds Tryz.pinned (.plain (OpenSpec.ofChange readerCircuitsSpec)) readerCircuitsCard

/-- THE TIED CARD OF 'spiritlevellaw08.ReaderAgain'. -/
def readerAgainCard : Claim7 := { stood := { row := readerAgainRow, standIns := [], harness := (true, "259c78bbd5281aa13cc561a07d399c60a3bf8b4dbb365beb5f15c0eee6034e63"), looks := true }, kinds := [], alts := [], laidByText := true, laidKinds := [.data, .data, .data, .data, .sentinel, .sentinel, .pinned], laidTests := true, laidLooks := .later }
def ReaderAgainCardSaid : Prop := Claim7.holds Tryz.pinned (.plain (OpenSpec.ofChange readerAgainSpec)) readerAgainCard

/-- THE TIED CARD OF 'spiritlevellaw08.ReaderTail'. -/
def readerTailCard : Claim7 := { stood := { row := readerTailRow, standIns := [], harness := (true, "259c78bbd5281aa13cc561a07d399c60a3bf8b4dbb365beb5f15c0eee6034e63"), looks := true }, kinds := [], alts := [], laidByText := true, laidKinds := [.data, .data, .data, .data, .sentinel, .sentinel, .pinned], laidTests := true, laidLooks := .later }
def ReaderTailCardSaid : Prop := Claim7.holds Tryz.pinned (.plain (OpenSpec.ofChange readerTailSpec)) readerTailCard

/-- THE TIED CARD OF 'spiritlevellaw08.ReaderFewer'. -/
def readerFewerCard : Claim7 := { stood := { row := readerFewerRow, standIns := [], harness := (true, "259c78bbd5281aa13cc561a07d399c60a3bf8b4dbb365beb5f15c0eee6034e63"), looks := true }, kinds := [], alts := [], laidByText := true, laidKinds := [.data, .data, .data, .data, .sentinel, .sentinel, .pinned], laidTests := true, laidLooks := .later }
def ReaderFewerCardSaid : Prop := Claim7.holds Tryz.pinned (.plain (OpenSpec.ofChange readerFewerSpec)) readerFewerCard

/-- THE SECOND FORM's CARD OF 'spiritlevellaw08.ReaderNames'. -/
def readerNamesUptoCard : Claim7 := { stood := { row := readerNamesUptoRow, standIns := [], harness := (true, "259c78bbd5281aa13cc561a07d399c60a3bf8b4dbb365beb5f15c0eee6034e63"), looks := true }, kinds := [], alts := [], laidByText := true, laidKinds := [.data, .data, .data, .data, .sentinel, .sentinel, .pinned], laidTests := true, laidLooks := .later }
def ReaderNamesUptoCardSaid : Prop := Claim7.holds Tryz.pinned (.plain (OpenSpec.upto readerNamesSpec)) readerNamesUptoCard

/-- THE SECOND FORM's CARD OF 'spiritlevellaw08.ReaderReads'. -/
def readerReadsUptoCard : Claim7 := { stood := { row := readerReadsUptoRow, standIns := [], harness := (true, "259c78bbd5281aa13cc561a07d399c60a3bf8b4dbb365beb5f15c0eee6034e63"), looks := true }, kinds := [], alts := [], laidByText := true, laidKinds := [.data, .data, .data, .data, .sentinel, .sentinel, .pinned], laidTests := true, laidLooks := .later }
def ReaderReadsUptoCardSaid : Prop := Claim7.holds Tryz.pinned (.plain (OpenSpec.upto readerReadsSpec)) readerReadsUptoCard

/-- THE SECOND FORM's CARD OF 'spiritlevellaw08.ReaderBack'. -/
def readerBackUptoCard : Claim7 := { stood := { row := readerBackUptoRow, standIns := [], harness := (true, "259c78bbd5281aa13cc561a07d399c60a3bf8b4dbb365beb5f15c0eee6034e63"), looks := true }, kinds := [], alts := [], laidByText := true, laidKinds := [.data, .data, .data, .data, .sentinel, .sentinel, .pinned], laidTests := true, laidLooks := .later }
def ReaderBackUptoCardSaid : Prop := Claim7.holds Tryz.pinned (.plain (OpenSpec.upto readerBackSpec)) readerBackUptoCard

/-- THE SECOND FORM's CARD OF 'spiritlevellaw08.ReaderCircuits'. -/
def readerCircuitsUptoCard : Claim7 := { stood := { row := readerCircuitsUptoRow, standIns := [], harness := (true, "259c78bbd5281aa13cc561a07d399c60a3bf8b4dbb365beb5f15c0eee6034e63"), looks := true }, kinds := [], alts := [], laidByText := true, laidKinds := [.data, .data, .data, .data, .sentinel, .sentinel, .pinned], laidTests := true, laidLooks := .later }
def ReaderCircuitsUptoCardSaid : Prop := Claim7.holds Tryz.pinned (.plain (OpenSpec.upto readerCircuitsSpec)) readerCircuitsUptoCard

/-- THE SECOND FORM's CARD OF 'spiritlevellaw08.ReaderAgain'. -/
def readerAgainUptoCard : Claim7 := { stood := { row := readerAgainUptoRow, standIns := [], harness := (true, "259c78bbd5281aa13cc561a07d399c60a3bf8b4dbb365beb5f15c0eee6034e63"), looks := true }, kinds := [], alts := [], laidByText := true, laidKinds := [.data, .data, .data, .data, .sentinel, .sentinel, .pinned], laidTests := true, laidLooks := .later }
def ReaderAgainUptoCardSaid : Prop := Claim7.holds Tryz.pinned (.plain (OpenSpec.upto readerAgainSpec)) readerAgainUptoCard

/-- THE SECOND FORM's CARD OF 'spiritlevellaw08.ReaderTail'. -/
def readerTailUptoCard : Claim7 := { stood := { row := readerTailUptoRow, standIns := [], harness := (true, "259c78bbd5281aa13cc561a07d399c60a3bf8b4dbb365beb5f15c0eee6034e63"), looks := true }, kinds := [], alts := [], laidByText := true, laidKinds := [.data, .data, .data, .data, .sentinel, .sentinel, .pinned], laidTests := true, laidLooks := .later }
def ReaderTailUptoCardSaid : Prop := Claim7.holds Tryz.pinned (.plain (OpenSpec.upto readerTailSpec)) readerTailUptoCard

/-- THE SECOND FORM's CARD OF 'spiritlevellaw08.ReaderFewer'. -/
def readerFewerUptoCard : Claim7 := { stood := { row := readerFewerUptoRow, standIns := [], harness := (true, "259c78bbd5281aa13cc561a07d399c60a3bf8b4dbb365beb5f15c0eee6034e63"), looks := true }, kinds := [], alts := [], laidByText := true, laidKinds := [.data, .data, .data, .data, .sentinel, .sentinel, .pinned], laidTests := true, laidLooks := .later }
def ReaderFewerUptoCardSaid : Prop := Claim7.holds Tryz.pinned (.plain (OpenSpec.upto readerFewerSpec)) readerFewerUptoCard
end Rows
end Go.Proofs.YtkpjpokeonppbaaGreatDoor
