/-
  No cell of these rows narrows 'for every input' (looked for: loops, veiled, ifaces, maps, wideKeys, modest, calm, conditions, laid).
  DERIVED. THE GIVEN ROWS OF THIS SEAT. 12 by the template 'for every input the law returns true; each argument reads behind the call as it read before'; 0 by the template 'total and deterministic' (their statements: YtoocghecmpnjeaaTotals.lean).
  GIVEN WITH THE SEED: the statements are not yours to turn. If you find one false, say at which input.
  Laid BY PROGRAM, IN A SANDBOX (cutbox-rows.mjs): the forced cells as the released guide's own fill.sh prints them over the translation 2d9ac03fa88aa634… (all of the seat's roots in one cut). By AI agents, Wed Nov 11 2026. No macro, syntax, notation, axiom, sorry.
-/
import Derived.Test.YtoocghecmpnjeaaChecked
import GoSem.Claim
import GoSem.ClaimJoined
import GoSem.ClaimMapViews
import Derived.JoinedTies
import Derived.KernelRfl
namespace Go.Proofs.Ytoocghecmpnjeaa
/- THE CELL 'sum', in the pinned program and in every row, IS THE sha256 OF THE DUMP (.gsa) THAT YtoocghecmpnjeaaProg.lean LOADS. Nothing in Lean hashes anything: it is a label: what it is worth is what the hold of that sum in a sandbox is worth. -/
noncomputable def Try.pinned : Pinned := { name := "ytoocghecmpnjeaa", sum := "2d9ac03fa88aa63418556dbbe32c39ae37a7b19cdbc4c3324402ab4a86f95b1d", checked := Try.checked }
namespace Rows
def none {H : Type} : Left H := { results := [], args := [] }

/-- 'spiritlevellaw03.OrderNames': WHATEVER THE INPUT: true; the input reads as it did. -/
def orderNamesSpec : ChangeSpec := { name := "orderNames", fn := fun _ => fun
  | [] => { results := [.lit (.bool true)], args := [] }
  | _ => none }
def orderNamesRow : OpenClaim := { program := "ytoocghecmpnjeaa", sum := "2d9ac03fa88aa63418556dbbe32c39ae37a7b19cdbc4c3324402ab4a86f95b1d", func := "spiritlevel/spiritlevellaw03.OrderNames", spec := "orderNames", unfollowed := true, recurses := true, apart := false }
def OrderNamesSaid : Prop := orderNamesRow.holds Try.pinned (OpenSpec.ofChange orderNamesSpec)

/-- ITS FALSE NEIGHBOUR: 'it returns false'. Refute it at one input. -/
def orderNamesWrong : ChangeSpec := { name := "orderNames", fn := fun _ => fun
  | [] => { results := [.lit (.bool false)], args := [] }
  | _ => none }
def OrderNamesWrongFalsely : Prop := orderNamesRow.holds Try.pinned (OpenSpec.ofChange orderNamesWrong)

/-- 'spiritlevellaw03.OrderTells': WHATEVER THE INPUT: true; the input reads as it did. -/
def orderTellsSpec : ChangeSpec := { name := "orderTells", fn := fun _ => fun
  | [d] => { results := [.lit (.bool true)], args := [d] }
  | _ => none }
def orderTellsRow : OpenClaim := { program := "ytoocghecmpnjeaa", sum := "2d9ac03fa88aa63418556dbbe32c39ae37a7b19cdbc4c3324402ab4a86f95b1d", func := "spiritlevel/spiritlevellaw03.OrderTells", spec := "orderTells", unfollowed := true, recurses := true, apart := false }
def OrderTellsSaid : Prop := orderTellsRow.holds Try.pinned (OpenSpec.ofChange orderTellsSpec)

/-- ITS FALSE NEIGHBOUR: 'it returns false'. Refute it at one input. -/
def orderTellsWrong : ChangeSpec := { name := "orderTells", fn := fun _ => fun
  | [d] => { results := [.lit (.bool false)], args := [d] }
  | _ => none }
def OrderTellsWrongFalsely : Prop := orderTellsRow.holds Try.pinned (OpenSpec.ofChange orderTellsWrong)

/-- 'spiritlevellaw03.OrderBefore': WHATEVER THE INPUT: true; the input reads as it did. -/
def orderBeforeSpec : ChangeSpec := { name := "orderBefore", fn := fun _ => fun
  | [d] => { results := [.lit (.bool true)], args := [d] }
  | _ => none }
def orderBeforeRow : OpenClaim := { program := "ytoocghecmpnjeaa", sum := "2d9ac03fa88aa63418556dbbe32c39ae37a7b19cdbc4c3324402ab4a86f95b1d", func := "spiritlevel/spiritlevellaw03.OrderBefore", spec := "orderBefore", unfollowed := true, recurses := true, apart := false }
def OrderBeforeSaid : Prop := orderBeforeRow.holds Try.pinned (OpenSpec.ofChange orderBeforeSpec)

/-- ITS FALSE NEIGHBOUR: 'it returns false'. Refute it at one input. -/
def orderBeforeWrong : ChangeSpec := { name := "orderBefore", fn := fun _ => fun
  | [d] => { results := [.lit (.bool false)], args := [d] }
  | _ => none }
def OrderBeforeWrongFalsely : Prop := orderBeforeRow.holds Try.pinned (OpenSpec.ofChange orderBeforeWrong)

/-- 'spiritlevellaw03.OrderSame': WHATEVER THE INPUT: true; the input reads as it did. -/
def orderSameSpec : ChangeSpec := { name := "orderSame", fn := fun _ => fun
  | [d] => { results := [.lit (.bool true)], args := [d] }
  | _ => none }
def orderSameRow : OpenClaim := { program := "ytoocghecmpnjeaa", sum := "2d9ac03fa88aa63418556dbbe32c39ae37a7b19cdbc4c3324402ab4a86f95b1d", func := "spiritlevel/spiritlevellaw03.OrderSame", spec := "orderSame", unfollowed := true, recurses := true, apart := false }
def OrderSameSaid : Prop := orderSameRow.holds Try.pinned (OpenSpec.ofChange orderSameSpec)

/-- ITS FALSE NEIGHBOUR: 'it returns false'. Refute it at one input. -/
def orderSameWrong : ChangeSpec := { name := "orderSame", fn := fun _ => fun
  | [d] => { results := [.lit (.bool false)], args := [d] }
  | _ => none }
def OrderSameWrongFalsely : Prop := orderSameRow.holds Try.pinned (OpenSpec.ofChange orderSameWrong)

/-- 'spiritlevellaw03.OrderMoved': WHATEVER THE INPUT: true; the input reads as it did. -/
def orderMovedSpec : ChangeSpec := { name := "orderMoved", fn := fun _ => fun
  | [d1, d2] => { results := [.lit (.bool true)], args := [d1, d2] }
  | _ => none }
def orderMovedRow : OpenClaim := { program := "ytoocghecmpnjeaa", sum := "2d9ac03fa88aa63418556dbbe32c39ae37a7b19cdbc4c3324402ab4a86f95b1d", func := "spiritlevel/spiritlevellaw03.OrderMoved", spec := "orderMoved", unfollowed := true, recurses := true, apart := false }
def OrderMovedSaid : Prop := orderMovedRow.holds Try.pinned (OpenSpec.ofChange orderMovedSpec)

/-- ITS FALSE NEIGHBOUR: 'it returns false'. Refute it at one input. -/
def orderMovedWrong : ChangeSpec := { name := "orderMoved", fn := fun _ => fun
  | [d1, d2] => { results := [.lit (.bool false)], args := [d1, d2] }
  | _ => none }
def OrderMovedWrongFalsely : Prop := orderMovedRow.holds Try.pinned (OpenSpec.ofChange orderMovedWrong)

/-- 'spiritlevellaw03.OrderTurned': WHATEVER THE INPUT: true; the input reads as it did. -/
def orderTurnedSpec : ChangeSpec := { name := "orderTurned", fn := fun _ => fun
  | [d1, d2] => { results := [.lit (.bool true)], args := [d1, d2] }
  | _ => none }
def orderTurnedRow : OpenClaim := { program := "ytoocghecmpnjeaa", sum := "2d9ac03fa88aa63418556dbbe32c39ae37a7b19cdbc4c3324402ab4a86f95b1d", func := "spiritlevel/spiritlevellaw03.OrderTurned", spec := "orderTurned", unfollowed := true, recurses := true, apart := false }
def OrderTurnedSaid : Prop := orderTurnedRow.holds Try.pinned (OpenSpec.ofChange orderTurnedSpec)

/-- ITS FALSE NEIGHBOUR: 'it returns false'. Refute it at one input. -/
def orderTurnedWrong : ChangeSpec := { name := "orderTurned", fn := fun _ => fun
  | [d1, d2] => { results := [.lit (.bool false)], args := [d1, d2] }
  | _ => none }
def OrderTurnedWrongFalsely : Prop := orderTurnedRow.holds Try.pinned (OpenSpec.ofChange orderTurnedWrong)

/-- 'spiritlevellaw04.ValuesNames': WHATEVER THE INPUT: true; the input reads as it did. -/
def valuesNamesSpec : ChangeSpec := { name := "valuesNames", fn := fun _ => fun
  | [] => { results := [.lit (.bool true)], args := [] }
  | _ => none }
def valuesNamesRow : OpenClaim := { program := "ytoocghecmpnjeaa", sum := "2d9ac03fa88aa63418556dbbe32c39ae37a7b19cdbc4c3324402ab4a86f95b1d", func := "spiritlevel/spiritlevellaw04.ValuesNames", spec := "valuesNames", unfollowed := true, recurses := true, apart := false }
def ValuesNamesSaid : Prop := valuesNamesRow.holds Try.pinned (OpenSpec.ofChange valuesNamesSpec)

/-- ITS FALSE NEIGHBOUR: 'it returns false'. Refute it at one input. -/
def valuesNamesWrong : ChangeSpec := { name := "valuesNames", fn := fun _ => fun
  | [] => { results := [.lit (.bool false)], args := [] }
  | _ => none }
def ValuesNamesWrongFalsely : Prop := valuesNamesRow.holds Try.pinned (OpenSpec.ofChange valuesNamesWrong)

/-- 'spiritlevellaw04.ValuesFrames': WHATEVER THE INPUT: true; the input reads as it did. -/
def valuesFramesSpec : ChangeSpec := { name := "valuesFrames", fn := fun _ => fun
  | [d1, d2, d3] => { results := [.lit (.bool true)], args := [d1, d2, d3] }
  | _ => none }
def valuesFramesRow : OpenClaim := { program := "ytoocghecmpnjeaa", sum := "2d9ac03fa88aa63418556dbbe32c39ae37a7b19cdbc4c3324402ab4a86f95b1d", func := "spiritlevel/spiritlevellaw04.ValuesFrames", spec := "valuesFrames", unfollowed := true, recurses := true, apart := false }
def ValuesFramesSaid : Prop := valuesFramesRow.holds Try.pinned (OpenSpec.ofChange valuesFramesSpec)

/-- ITS FALSE NEIGHBOUR: 'it returns false'. Refute it at one input. -/
def valuesFramesWrong : ChangeSpec := { name := "valuesFrames", fn := fun _ => fun
  | [d1, d2, d3] => { results := [.lit (.bool false)], args := [d1, d2, d3] }
  | _ => none }
def ValuesFramesWrongFalsely : Prop := valuesFramesRow.holds Try.pinned (OpenSpec.ofChange valuesFramesWrong)

/-- 'spiritlevellaw04.ValuesGates': WHATEVER THE INPUT: true; the input reads as it did. -/
def valuesGatesSpec : ChangeSpec := { name := "valuesGates", fn := fun _ => fun
  | [d1, d2, d3] => { results := [.lit (.bool true)], args := [d1, d2, d3] }
  | _ => none }
def valuesGatesRow : OpenClaim := { program := "ytoocghecmpnjeaa", sum := "2d9ac03fa88aa63418556dbbe32c39ae37a7b19cdbc4c3324402ab4a86f95b1d", func := "spiritlevel/spiritlevellaw04.ValuesGates", spec := "valuesGates", unfollowed := true, recurses := true, apart := false }
def ValuesGatesSaid : Prop := valuesGatesRow.holds Try.pinned (OpenSpec.ofChange valuesGatesSpec)

/-- ITS FALSE NEIGHBOUR: 'it returns false'. Refute it at one input. -/
def valuesGatesWrong : ChangeSpec := { name := "valuesGates", fn := fun _ => fun
  | [d1, d2, d3] => { results := [.lit (.bool false)], args := [d1, d2, d3] }
  | _ => none }
def ValuesGatesWrongFalsely : Prop := valuesGatesRow.holds Try.pinned (OpenSpec.ofChange valuesGatesWrong)

/-- 'spiritlevellaw04.ValuesCone': WHATEVER THE INPUT: true; the input reads as it did. -/
def valuesConeSpec : ChangeSpec := { name := "valuesCone", fn := fun _ => fun
  | [d1, d2, d3, d4, d5] => { results := [.lit (.bool true)], args := [d1, d2, d3, d4, d5] }
  | _ => none }
def valuesConeRow : OpenClaim := { program := "ytoocghecmpnjeaa", sum := "2d9ac03fa88aa63418556dbbe32c39ae37a7b19cdbc4c3324402ab4a86f95b1d", func := "spiritlevel/spiritlevellaw04.ValuesCone", spec := "valuesCone", unfollowed := true, recurses := true, apart := false }
def ValuesConeSaid : Prop := valuesConeRow.holds Try.pinned (OpenSpec.ofChange valuesConeSpec)

/-- ITS FALSE NEIGHBOUR: 'it returns false'. Refute it at one input. -/
def valuesConeWrong : ChangeSpec := { name := "valuesCone", fn := fun _ => fun
  | [d1, d2, d3, d4, d5] => { results := [.lit (.bool false)], args := [d1, d2, d3, d4, d5] }
  | _ => none }
def ValuesConeWrongFalsely : Prop := valuesConeRow.holds Try.pinned (OpenSpec.ofChange valuesConeWrong)

/-- 'spiritlevellaw04.ValuesNot': WHATEVER THE INPUT: true; the input reads as it did. -/
def valuesNotSpec : ChangeSpec := { name := "valuesNot", fn := fun _ => fun
  | [d1, d2, d3, d4] => { results := [.lit (.bool true)], args := [d1, d2, d3, d4] }
  | _ => none }
def valuesNotRow : OpenClaim := { program := "ytoocghecmpnjeaa", sum := "2d9ac03fa88aa63418556dbbe32c39ae37a7b19cdbc4c3324402ab4a86f95b1d", func := "spiritlevel/spiritlevellaw04.ValuesNot", spec := "valuesNot", unfollowed := true, recurses := true, apart := false }
def ValuesNotSaid : Prop := valuesNotRow.holds Try.pinned (OpenSpec.ofChange valuesNotSpec)

/-- ITS FALSE NEIGHBOUR: 'it returns false'. Refute it at one input. -/
def valuesNotWrong : ChangeSpec := { name := "valuesNot", fn := fun _ => fun
  | [d1, d2, d3, d4] => { results := [.lit (.bool false)], args := [d1, d2, d3, d4] }
  | _ => none }
def ValuesNotWrongFalsely : Prop := valuesNotRow.holds Try.pinned (OpenSpec.ofChange valuesNotWrong)

/-- 'spiritlevellaw04.ValuesMore': WHATEVER THE INPUT: true; the input reads as it did. -/
def valuesMoreSpec : ChangeSpec := { name := "valuesMore", fn := fun _ => fun
  | [d1, d2, d3, d4, d5] => { results := [.lit (.bool true)], args := [d1, d2, d3, d4, d5] }
  | _ => none }
def valuesMoreRow : OpenClaim := { program := "ytoocghecmpnjeaa", sum := "2d9ac03fa88aa63418556dbbe32c39ae37a7b19cdbc4c3324402ab4a86f95b1d", func := "spiritlevel/spiritlevellaw04.ValuesMore", spec := "valuesMore", unfollowed := true, recurses := true, apart := false }
def ValuesMoreSaid : Prop := valuesMoreRow.holds Try.pinned (OpenSpec.ofChange valuesMoreSpec)

/-- ITS FALSE NEIGHBOUR: 'it returns false'. Refute it at one input. -/
def valuesMoreWrong : ChangeSpec := { name := "valuesMore", fn := fun _ => fun
  | [d1, d2, d3, d4, d5] => { results := [.lit (.bool false)], args := [d1, d2, d3, d4, d5] }
  | _ => none }
def ValuesMoreWrongFalsely : Prop := valuesMoreRow.holds Try.pinned (OpenSpec.ofChange valuesMoreWrong)

/- THE SECOND FORM. 'bulk': how many values and letters a reading holds, each counted each time it is reached (what is shared counts as often as it is met; a slice's spare places count too). A statement '..UptoSaid' is the law's where the arguments, and the package variables that the reading takes, are together of bulk at most 1048576: NARROWER than '..Said'. Prove '..Said' where nothing that the law and all that it calls make is longer than what came in: it says more and counts as full. Else prove '..UptoSaid'. A law counts once. -/
mutual
def uptoBulk {H : Type} : DataW H → Nat
  | .lit (.string bytes) => bytes.length + 1
  | .lit _ => 1
  | .nil => 1
  | .ptr d => uptoBulk d + 1
  | .slice elems spare => uptoBulkAll elems + uptoBulkAll spare + 1
  | .agg parts => uptoBulkAll parts + 1
  | .iface _ d => uptoBulk d + 1
  | .map entries => uptoBulkEntries entries + 1
  | .held _ => 1
def uptoBulkAll {H : Type} : List (DataW H) → Nat
  | [] => 0
  | d :: r => uptoBulk d + uptoBulkAll r
def uptoBulkEntries {H : Type} : List (Lit × DataW H) → Nat
  | [] => 0
  | x :: r => uptoBulkEntry x + uptoBulkEntries r
def uptoBulkEntry {H : Type} : Lit × DataW H → Nat
  | (.string bytes, d) => bytes.length + uptoBulk d + 1
  | (_, d) => uptoBulk d + 1
 end
def uptoSmall : (H : Type) → List (DataW H) → Bool := fun _ ds => decide (uptoBulkAll ds ≤ 1048576)
def OpenSpec.upto (s : _root_.Go.ChangeSpec) : _root_.Go.OpenSpec := { _root_.Go.OpenSpec.ofChange s with cond := some uptoSmall }

/-- 'spiritlevellaw03.OrderNames', WHERE WHAT IT READS IS OF BULK AT MOST 1048576: true; the input reads as it did. -/
def orderNamesUptoRow : OpenClaim := { program := "ytoocghecmpnjeaa", sum := "2d9ac03fa88aa63418556dbbe32c39ae37a7b19cdbc4c3324402ab4a86f95b1d", func := "spiritlevel/spiritlevellaw03.OrderNames", spec := "orderNames", unfollowed := true, recurses := true, apart := false, narrowed := true }
def OrderNamesUptoSaid : Prop := orderNamesUptoRow.holds Try.pinned (OpenSpec.upto orderNamesSpec)

/-- 'spiritlevellaw03.OrderTells', WHERE WHAT IT READS IS OF BULK AT MOST 1048576: true; the input reads as it did. -/
def orderTellsUptoRow : OpenClaim := { program := "ytoocghecmpnjeaa", sum := "2d9ac03fa88aa63418556dbbe32c39ae37a7b19cdbc4c3324402ab4a86f95b1d", func := "spiritlevel/spiritlevellaw03.OrderTells", spec := "orderTells", unfollowed := true, recurses := true, apart := false, narrowed := true }
def OrderTellsUptoSaid : Prop := orderTellsUptoRow.holds Try.pinned (OpenSpec.upto orderTellsSpec)

/-- 'spiritlevellaw03.OrderBefore', WHERE WHAT IT READS IS OF BULK AT MOST 1048576: true; the input reads as it did. -/
def orderBeforeUptoRow : OpenClaim := { program := "ytoocghecmpnjeaa", sum := "2d9ac03fa88aa63418556dbbe32c39ae37a7b19cdbc4c3324402ab4a86f95b1d", func := "spiritlevel/spiritlevellaw03.OrderBefore", spec := "orderBefore", unfollowed := true, recurses := true, apart := false, narrowed := true }
def OrderBeforeUptoSaid : Prop := orderBeforeUptoRow.holds Try.pinned (OpenSpec.upto orderBeforeSpec)

/-- 'spiritlevellaw03.OrderSame', WHERE WHAT IT READS IS OF BULK AT MOST 1048576: true; the input reads as it did. -/
def orderSameUptoRow : OpenClaim := { program := "ytoocghecmpnjeaa", sum := "2d9ac03fa88aa63418556dbbe32c39ae37a7b19cdbc4c3324402ab4a86f95b1d", func := "spiritlevel/spiritlevellaw03.OrderSame", spec := "orderSame", unfollowed := true, recurses := true, apart := false, narrowed := true }
def OrderSameUptoSaid : Prop := orderSameUptoRow.holds Try.pinned (OpenSpec.upto orderSameSpec)

/-- 'spiritlevellaw03.OrderMoved', WHERE WHAT IT READS IS OF BULK AT MOST 1048576: true; the input reads as it did. -/
def orderMovedUptoRow : OpenClaim := { program := "ytoocghecmpnjeaa", sum := "2d9ac03fa88aa63418556dbbe32c39ae37a7b19cdbc4c3324402ab4a86f95b1d", func := "spiritlevel/spiritlevellaw03.OrderMoved", spec := "orderMoved", unfollowed := true, recurses := true, apart := false, narrowed := true }
def OrderMovedUptoSaid : Prop := orderMovedUptoRow.holds Try.pinned (OpenSpec.upto orderMovedSpec)

/-- 'spiritlevellaw03.OrderTurned', WHERE WHAT IT READS IS OF BULK AT MOST 1048576: true; the input reads as it did. -/
def orderTurnedUptoRow : OpenClaim := { program := "ytoocghecmpnjeaa", sum := "2d9ac03fa88aa63418556dbbe32c39ae37a7b19cdbc4c3324402ab4a86f95b1d", func := "spiritlevel/spiritlevellaw03.OrderTurned", spec := "orderTurned", unfollowed := true, recurses := true, apart := false, narrowed := true }
def OrderTurnedUptoSaid : Prop := orderTurnedUptoRow.holds Try.pinned (OpenSpec.upto orderTurnedSpec)

/-- 'spiritlevellaw04.ValuesNames', WHERE WHAT IT READS IS OF BULK AT MOST 1048576: true; the input reads as it did. -/
def valuesNamesUptoRow : OpenClaim := { program := "ytoocghecmpnjeaa", sum := "2d9ac03fa88aa63418556dbbe32c39ae37a7b19cdbc4c3324402ab4a86f95b1d", func := "spiritlevel/spiritlevellaw04.ValuesNames", spec := "valuesNames", unfollowed := true, recurses := true, apart := false, narrowed := true }
def ValuesNamesUptoSaid : Prop := valuesNamesUptoRow.holds Try.pinned (OpenSpec.upto valuesNamesSpec)

/-- 'spiritlevellaw04.ValuesFrames', WHERE WHAT IT READS IS OF BULK AT MOST 1048576: true; the input reads as it did. -/
def valuesFramesUptoRow : OpenClaim := { program := "ytoocghecmpnjeaa", sum := "2d9ac03fa88aa63418556dbbe32c39ae37a7b19cdbc4c3324402ab4a86f95b1d", func := "spiritlevel/spiritlevellaw04.ValuesFrames", spec := "valuesFrames", unfollowed := true, recurses := true, apart := false, narrowed := true }
def ValuesFramesUptoSaid : Prop := valuesFramesUptoRow.holds Try.pinned (OpenSpec.upto valuesFramesSpec)

/-- 'spiritlevellaw04.ValuesGates', WHERE WHAT IT READS IS OF BULK AT MOST 1048576: true; the input reads as it did. -/
def valuesGatesUptoRow : OpenClaim := { program := "ytoocghecmpnjeaa", sum := "2d9ac03fa88aa63418556dbbe32c39ae37a7b19cdbc4c3324402ab4a86f95b1d", func := "spiritlevel/spiritlevellaw04.ValuesGates", spec := "valuesGates", unfollowed := true, recurses := true, apart := false, narrowed := true }
def ValuesGatesUptoSaid : Prop := valuesGatesUptoRow.holds Try.pinned (OpenSpec.upto valuesGatesSpec)

/-- 'spiritlevellaw04.ValuesCone', WHERE WHAT IT READS IS OF BULK AT MOST 1048576: true; the input reads as it did. -/
def valuesConeUptoRow : OpenClaim := { program := "ytoocghecmpnjeaa", sum := "2d9ac03fa88aa63418556dbbe32c39ae37a7b19cdbc4c3324402ab4a86f95b1d", func := "spiritlevel/spiritlevellaw04.ValuesCone", spec := "valuesCone", unfollowed := true, recurses := true, apart := false, narrowed := true }
def ValuesConeUptoSaid : Prop := valuesConeUptoRow.holds Try.pinned (OpenSpec.upto valuesConeSpec)

/-- 'spiritlevellaw04.ValuesNot', WHERE WHAT IT READS IS OF BULK AT MOST 1048576: true; the input reads as it did. -/
def valuesNotUptoRow : OpenClaim := { program := "ytoocghecmpnjeaa", sum := "2d9ac03fa88aa63418556dbbe32c39ae37a7b19cdbc4c3324402ab4a86f95b1d", func := "spiritlevel/spiritlevellaw04.ValuesNot", spec := "valuesNot", unfollowed := true, recurses := true, apart := false, narrowed := true }
def ValuesNotUptoSaid : Prop := valuesNotUptoRow.holds Try.pinned (OpenSpec.upto valuesNotSpec)

/-- 'spiritlevellaw04.ValuesMore', WHERE WHAT IT READS IS OF BULK AT MOST 1048576: true; the input reads as it did. -/
def valuesMoreUptoRow : OpenClaim := { program := "ytoocghecmpnjeaa", sum := "2d9ac03fa88aa63418556dbbe32c39ae37a7b19cdbc4c3324402ab4a86f95b1d", func := "spiritlevel/spiritlevellaw04.ValuesMore", spec := "valuesMore", unfollowed := true, recurses := true, apart := false, narrowed := true }
def ValuesMoreUptoSaid : Prop := valuesMoreUptoRow.holds Try.pinned (OpenSpec.upto valuesMoreSpec)

end Rows
end Go.Proofs.Ytoocghecmpnjeaa
