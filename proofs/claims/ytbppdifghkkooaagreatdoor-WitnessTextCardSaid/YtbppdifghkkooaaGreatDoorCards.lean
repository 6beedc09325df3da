/-
  DERIVED. GIVEN WITH THE SEED: THE CARDS: each row of YtbppdifghkkooaaGreatDoorRows.lean that lists a variable, with what it lists TIED to the program's text (the seventh form; the later family's looks); each row that meets fmt, with fmt's text TOLD by the authors' own Lean function (tested against real Go, not proved from fmt's source: count such statements apart). THE CARD IS WHAT COUNTS. Prove the row's statement (the work); the ties are given (YtbppdifghkkooaaGreatDoorTie.lean); close each card by the builder's one call (the guide's Derived/Test/ToyasCard.lean, 'card_holds'). Laid BY PROGRAM, IN A SANDBOX (cutbox-door.mjs). By AI agents, Wed Nov 11 2026. No macro, syntax, notation, axiom, sorry.
-/
import Derived.Test.YtbppdifghkkooaaGreatDoorRows
import GoSem.ClaimSeven
namespace Go.Proofs.YtbppdifghkkooaaGreatDoor
namespace Rows

/-- THE TIED CARD OF 'spiritlevellaw08.ReaderReads'. -/
def readerReadsCard : Claim7 := { stood := { row := readerReadsRow, standIns := [], harness := (true, "449b419fda91c1cefcd6c8f930a2ac5e4396d766cf774387fe2bd609ec243cd9"), looks := true }, kinds := [], alts := [], laidByText := true, laidKinds := [.data, .data, .data, .data, .sentinel, .sentinel, .pinned], laidTests := true, laidLooks := .later }
def ReaderReadsCardSaid : Prop := Claim7.holds Tryz.pinned (.plain (OpenSpec.ofChange readerReadsSpec)) readerReadsCard

/-- THE TIED CARD OF 'spiritlevellaw11.WitnessNames'. -/
def witnessNamesCard : Claim7 := { stood := { row := witnessNamesRow, standIns := [], harness := (true, "449b419fda91c1cefcd6c8f930a2ac5e4396d766cf774387fe2bd609ec243cd9"), looks := true }, kinds := [], alts := [], laidByText := true, laidKinds := [.data, .data, .data, .data, .sentinel, .sentinel, .pinned], laidTests := true, laidLooks := .later }
def WitnessNamesCardSaid : Prop := Claim7.holds Tryz.pinned (.plain (OpenSpec.ofChange witnessNamesSpec)) witnessNamesCard

/-- THE TIED CARD OF 'spiritlevellaw11.WitnessReads'. -/
def witnessReadsCard : Claim7 := { stood := { row := witnessReadsRow, standIns := [], harness := (true, "449b419fda91c1cefcd6c8f930a2ac5e4396d766cf774387fe2bd609ec243cd9"), looks := true }, kinds := [], alts := [], laidByText := true, laidKinds := [.data, .data, .data, .data, .sentinel, .sentinel, .pinned], laidTests := true, laidLooks := .later }
def WitnessReadsCardSaid : Prop := Claim7.holds Tryz.pinned (.plain (OpenSpec.ofChange witnessReadsSpec)) witnessReadsCard

/-- THE TIED CARD OF 'spiritlevellaw11.WitnessBack'. -/
def witnessBackCard : Claim7 := { stood := { row := witnessBackRow, standIns := [], harness := (true, "449b419fda91c1cefcd6c8f930a2ac5e4396d766cf774387fe2bd609ec243cd9"), looks := true }, kinds := [], alts := [], laidByText := true, laidKinds := [.data, .data, .data, .data, .sentinel, .sentinel, .pinned], laidTests := true, laidLooks := .later }
def WitnessBackCardSaid : Prop := Claim7.holds Tryz.pinned (.plain (OpenSpec.ofChange witnessBackSpec)) witnessBackCard

/-- THE TIED CARD OF 'spiritlevellaw11.WitnessText'. -/
def witnessTextCard : Claim7 := { stood := { row := witnessTextRow, standIns := [], harness := (true, "449b419fda91c1cefcd6c8f930a2ac5e4396d766cf774387fe2bd609ec243cd9"), looks := true }, kinds := [], alts := [], laidByText := true, laidKinds := [.data, .data, .data, .data, .sentinel, .sentinel, .pinned], laidTests := true, laidLooks := .later }
def WitnessTextCardSaid : Prop := Claim7.holds Tryz.pinned (.plain (OpenSpec.ofChange witnessTextSpec)) witnessTextCard

/-- THE TIED CARD OF 'spiritlevellaw11.WitnessFirst'. -/
def witnessFirstCard : Claim7 := { stood := { row := witnessFirstRow, standIns := [], harness := (true, "449b419fda91c1cefcd6c8f930a2ac5e4396d766cf774387fe2bd609ec243cd9"), looks := true }, kinds := [], alts := [], laidByText := true, laidKinds := [.data, .data, .data, .data, .sentinel, .sentinel, .pinned], laidTests := true, laidLooks := .later }
def WitnessFirstCardSaid : Prop := Claim7.holds Tryz.pinned (.plain (OpenSpec.ofChange witnessFirstSpec)) witnessFirstCard

/-- THE TIED CARD OF 'spiritlevellaw11.WitnessOnce'. -/
def witnessOnceCard : Claim7 := { stood := { row := witnessOnceRow, standIns := [], harness := (true, "449b419fda91c1cefcd6c8f930a2ac5e4396d766cf774387fe2bd609ec243cd9"), looks := true }, kinds := [], alts := [], laidByText := true, laidKinds := [.data, .data, .data, .data, .sentinel, .sentinel, .pinned], laidTests := true, laidLooks := .later }
def WitnessOnceCardSaid : Prop := Claim7.holds Tryz.pinned (.plain (OpenSpec.ofChange witnessOnceSpec)) witnessOnceCard

/-- THE SECOND FORM's CARD OF 'spiritlevellaw08.ReaderReads'. -/
def readerReadsUptoCard : Claim7 := { stood := { row := readerReadsUptoRow, standIns := [], harness := (true, "449b419fda91c1cefcd6c8f930a2ac5e4396d766cf774387fe2bd609ec243cd9"), looks := true }, kinds := [], alts := [], laidByText := true, laidKinds := [.data, .data, .data, .data, .sentinel, .sentinel, .pinned], laidTests := true, laidLooks := .later }
def ReaderReadsUptoCardSaid : Prop := Claim7.holds Tryz.pinned (.plain (OpenSpec.upto readerReadsSpec)) readerReadsUptoCard

/-- THE SECOND FORM's CARD OF 'spiritlevellaw11.WitnessNames'. -/
def witnessNamesUptoCard : Claim7 := { stood := { row := witnessNamesUptoRow, standIns := [], harness := (true, "449b419fda91c1cefcd6c8f930a2ac5e4396d766cf774387fe2bd609ec243cd9"), looks := true }, kinds := [], alts := [], laidByText := true, laidKinds := [.data, .data, .data, .data, .sentinel, .sentinel, .pinned], laidTests := true, laidLooks := .later }
def WitnessNamesUptoCardSaid : Prop := Claim7.holds Tryz.pinned (.plain (OpenSpec.upto witnessNamesSpec)) witnessNamesUptoCard

/-- THE SECOND FORM's CARD OF 'spiritlevellaw11.WitnessReads'. -/
def witnessReadsUptoCard : Claim7 := { stood := { row := witnessReadsUptoRow, standIns := [], harness := (true, "449b419fda91c1cefcd6c8f930a2ac5e4396d766cf774387fe2bd609ec243cd9"), looks := true }, kinds := [], alts := [], laidByText := true, laidKinds := [.data, .data, .data, .data, .sentinel, .sentinel, .pinned], laidTests := true, laidLooks := .later }
def WitnessReadsUptoCardSaid : Prop := Claim7.holds Tryz.pinned (.plain (OpenSpec.upto witnessReadsSpec)) witnessReadsUptoCard

/-- THE SECOND FORM's CARD OF 'spiritlevellaw11.WitnessBack'. -/
def witnessBackUptoCard : Claim7 := { stood := { row := witnessBackUptoRow, standIns := [], harness := (true, "449b419fda91c1cefcd6c8f930a2ac5e4396d766cf774387fe2bd609ec243cd9"), looks := true }, kinds := [], alts := [], laidByText := true, laidKinds := [.data, .data, .data, .data, .sentinel, .sentinel, .pinned], laidTests := true, laidLooks := .later }
def WitnessBackUptoCardSaid : Prop := Claim7.holds Tryz.pinned (.plain (OpenSpec.upto witnessBackSpec)) witnessBackUptoCard

/-- THE SECOND FORM's CARD OF 'spiritlevellaw11.WitnessText'. -/
def witnessTextUptoCard : Claim7 := { stood := { row := witnessTextUptoRow, standIns := [], harness := (true, "449b419fda91c1cefcd6c8f930a2ac5e4396d766cf774387fe2bd609ec243cd9"), looks := true }, kinds := [], alts := [], laidByText := true, laidKinds := [.data, .data, .data, .data, .sentinel, .sentinel, .pinned], laidTests := true, laidLooks := .later }
def WitnessTextUptoCardSaid : Prop := Claim7.holds Tryz.pinned (.plain (OpenSpec.upto witnessTextSpec)) witnessTextUptoCard

/-- THE SECOND FORM's CARD OF 'spiritlevellaw11.WitnessFirst'. -/
def witnessFirstUptoCard : Claim7 := { stood := { row := witnessFirstUptoRow, standIns := [], harness := (true, "449b419fda91c1cefcd6c8f930a2ac5e4396d766cf774387fe2bd609ec243cd9"), looks := true }, kinds := [], alts := [], laidByText := true, laidKinds := [.data, .data, .data, .data, .sentinel, .sentinel, .pinned], laidTests := true, laidLooks := .later }
def WitnessFirstUptoCardSaid : Prop := Claim7.holds Tryz.pinned (.plain (OpenSpec.upto witnessFirstSpec)) witnessFirstUptoCard

/-- THE SECOND FORM's CARD OF 'spiritlevellaw11.WitnessOnce'. -/
def witnessOnceUptoCard : Claim7 := { stood := { row := witnessOnceUptoRow, standIns := [], harness := (true, "449b419fda91c1cefcd6c8f930a2ac5e4396d766cf774387fe2bd609ec243cd9"), looks := true }, kinds := [], alts := [], laidByText := true, laidKinds := [.data, .data, .data, .data, .sentinel, .sentinel, .pinned], laidTests := true, laidLooks := .later }
def WitnessOnceUptoCardSaid : Prop := Claim7.holds Tryz.pinned (.plain (OpenSpec.upto witnessOnceSpec)) witnessOnceUptoCard
end Rows
end Go.Proofs.YtbppdifghkkooaaGreatDoor
