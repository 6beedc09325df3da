/-
  DERIVED. GIVEN WITH THE SEED: THE CARDS: each row of YtecmldnigohjfaaDoorRows.lean that lists a variable, with what it lists TIED to the program's text (the seventh form; the later family's looks); each row that meets fmt, with fmt's text TOLD by the authors' own Lean function (tested against real Go, not proved from fmt's source: count such statements apart). THE CARD IS WHAT COUNTS. Prove the row's statement (the work); the ties are given (YtecmldnigohjfaaDoorTie.lean); close each card by the builder's one call (the guide's Derived/Test/ToyasCard.lean, 'card_holds'). Laid BY PROGRAM, IN A SANDBOX (cutbox-door.mjs). By AI agents, Wed Nov 11 2026. No macro, syntax, notation, axiom, sorry.
-/
import Derived.Test.YtecmldnigohjfaaDoorRows
import GoSem.ClaimSeven
namespace Go.Proofs.YtecmldnigohjfaaDoor
namespace Rows

/-- THE TIED CARD OF 'spiritlevellaw15.UnitTells'. -/
def unitTellsCard : Claim7 := { stood := { row := unitTellsRow, standIns := [], harness := (true, "d6f6663baf535891f965b273e4d5496ac4a776bd2a78e066659078c8fbf2efb2"), looks := false }, kinds := [], alts := [], laidByText := true, laidKinds := [.data], laidTests := true, laidLooks := .later }
def UnitTellsCardSaid : Prop := Claim7.holds Tryd.pinned (.plain (OpenSpec.ofChange unitTellsSpec)) unitTellsCard

/-- THE TIED CARD OF 'spiritlevellaw15.UnitNames'. -/
def unitNamesCard : Claim7 := { stood := { row := unitNamesRow, standIns := [], harness := (true, "d6f6663baf535891f965b273e4d5496ac4a776bd2a78e066659078c8fbf2efb2"), looks := false }, kinds := [], alts := [], laidByText := true, laidKinds := [.data], laidTests := true, laidLooks := .later }
def UnitNamesCardSaid : Prop := Claim7.holds Tryd.pinned (.plain (OpenSpec.ofChange unitNamesSpec)) unitNamesCard

/-- THE TIED CARD OF 'spiritlevellaw15.UnitOrder'. -/
def unitOrderCard : Claim7 := { stood := { row := unitOrderRow, standIns := [], harness := (true, "d6f6663baf535891f965b273e4d5496ac4a776bd2a78e066659078c8fbf2efb2"), looks := false }, kinds := [], alts := [], laidByText := true, laidKinds := [.data], laidTests := true, laidLooks := .later }
def UnitOrderCardSaid : Prop := Claim7.holds Tryd.pinned (.plain (OpenSpec.ofChange unitOrderSpec)) unitOrderCard

/-- THE TIED CARD OF 'spiritlevellaw15.UnitFollows'. -/
def unitFollowsCard : Claim7 := { stood := { row := unitFollowsRow, standIns := [], harness := (true, "d6f6663baf535891f965b273e4d5496ac4a776bd2a78e066659078c8fbf2efb2"), looks := false }, kinds := [], alts := [], laidByText := true, laidKinds := [.data], laidTests := true, laidLooks := .later }
def UnitFollowsCardSaid : Prop := Claim7.holds Tryd.pinned (.plain (OpenSpec.ofChange unitFollowsSpec)) unitFollowsCard

/-- THE TIED CARD OF 'spiritlevellaw15.UnitEnd'. -/
def unitEndCard : Claim7 := { stood := { row := unitEndRow, standIns := [], harness := (true, "d6f6663baf535891f965b273e4d5496ac4a776bd2a78e066659078c8fbf2efb2"), looks := false }, kinds := [], alts := [], laidByText := true, laidKinds := [.data], laidTests := true, laidLooks := .later }
def UnitEndCardSaid : Prop := Claim7.holds Tryd.pinned (.plain (OpenSpec.ofChange unitEndSpec)) unitEndCard

/-- THE TIED CARD OF 'spiritlevellaw15.UnitMore'. -/
def unitMoreCard : Claim7 := { stood := { row := unitMoreRow, standIns := [], harness := (true, "d6f6663baf535891f965b273e4d5496ac4a776bd2a78e066659078c8fbf2efb2"), looks := false }, kinds := [], alts := [], laidByText := true, laidKinds := [.data], laidTests := true, laidLooks := .later }
def UnitMoreCardSaid : Prop := Claim7.holds Tryd.pinned (.plain (OpenSpec.ofChange unitMoreSpec)) unitMoreCard

/-- THE SECOND FORM's CARD OF 'spiritlevellaw15.UnitTells'. -/
def unitTellsUptoCard : Claim7 := { stood := { row := unitTellsUptoRow, standIns := [], harness := (true, "d6f6663baf535891f965b273e4d5496ac4a776bd2a78e066659078c8fbf2efb2"), looks := false }, kinds := [], alts := [], laidByText := true, laidKinds := [.data], laidTests := true, laidLooks := .later }
def UnitTellsUptoCardSaid : Prop := Claim7.holds Tryd.pinned (.plain (OpenSpec.upto unitTellsSpec)) unitTellsUptoCard

/-- THE SECOND FORM's CARD OF 'spiritlevellaw15.UnitNames'. -/
def unitNamesUptoCard : Claim7 := { stood := { row := unitNamesUptoRow, standIns := [], harness := (true, "d6f6663baf535891f965b273e4d5496ac4a776bd2a78e066659078c8fbf2efb2"), looks := false }, kinds := [], alts := [], laidByText := true, laidKinds := [.data], laidTests := true, laidLooks := .later }
def UnitNamesUptoCardSaid : Prop := Claim7.holds Tryd.pinned (.plain (OpenSpec.upto unitNamesSpec)) unitNamesUptoCard

/-- THE SECOND FORM's CARD OF 'spiritlevellaw15.UnitOrder'. -/
def unitOrderUptoCard : Claim7 := { stood := { row := unitOrderUptoRow, standIns := [], harness := (true, "d6f6663baf535891f965b273e4d5496ac4a776bd2a78e066659078c8fbf2efb2"), looks := false }, kinds := [], alts := [], laidByText := true, laidKinds := [.data], laidTests := true, laidLooks := .later }
def UnitOrderUptoCardSaid : Prop := Claim7.holds Tryd.pinned (.plain (OpenSpec.upto unitOrderSpec)) unitOrderUptoCard

/-- THE SECOND FORM's CARD OF 'spiritlevellaw15.UnitFollows'. -/
def unitFollowsUptoCard : Claim7 := { stood := { row := unitFollowsUptoRow, standIns := [], harness := (true, "d6f6663baf535891f965b273e4d5496ac4a776bd2a78e066659078c8fbf2efb2"), looks := false }, kinds := [], alts := [], laidByText := true, laidKinds := [.data], laidTests := true, laidLooks := .later }
def UnitFollowsUptoCardSaid : Prop := Claim7.holds Tryd.pinned (.plain (OpenSpec.upto unitFollowsSpec)) unitFollowsUptoCard

/-- THE SECOND FORM's CARD OF 'spiritlevellaw15.UnitEnd'. -/
def unitEndUptoCard : Claim7 := { stood := { row := unitEndUptoRow, standIns := [], harness := (true, "d6f6663baf535891f965b273e4d5496ac4a776bd2a78e066659078c8fbf2efb2"), looks := false }, kinds := [], alts := [], laidByText := true, laidKinds := [.data], laidTests := true, laidLooks := .later }
def UnitEndUptoCardSaid : Prop := Claim7.holds Tryd.pinned (.plain (OpenSpec.upto unitEndSpec)) unitEndUptoCard

/-- THE SECOND FORM's CARD OF 'spiritlevellaw15.UnitMore'. -/
def unitMoreUptoCard : Claim7 := { stood := { row := unitMoreUptoRow, standIns := [], harness := (true, "d6f6663baf535891f965b273e4d5496ac4a776bd2a78e066659078c8fbf2efb2"), looks := false }, kinds := [], alts := [], laidByText := true, laidKinds := [.data], laidTests := true, laidLooks := .later }
def UnitMoreUptoCardSaid : Prop := Claim7.holds Tryd.pinned (.plain (OpenSpec.upto unitMoreSpec)) unitMoreUptoCard
end Rows
end Go.Proofs.YtecmldnigohjfaaDoor
