/-
  NARROWER THAN 'FOR EVERY INPUT', by the rows' own cells (each row's printed sentence says how): UnitTells: laid · UnitNames: laid · UnitOrder: laid · UnitFollows: laid · UnitEnd: laid · UnitMore: laid.
  DERIVED. THE GIVEN ROWS OF THIS SEAT. 6 by the template 'for every input the law returns true; each argument reads behind the call as it read before'; 0 by the template 'total and deterministic' (their statements: YtecmldnigohjfaaDoorTotals.lean).
  GIVEN WITH THE SEED: the statements are not yours to turn. If you find one false, say at which input.
  Laid BY PROGRAM, IN A SANDBOX (cutbox-rows.mjs): the forced cells as the released guide's own fill.sh prints them over the translation 482d35b9ce15560f… (all of the seat's roots in one cut). By AI agents, Wed Nov 11 2026. No macro, syntax, notation, axiom, sorry.
-/
import Derived.Test.YtecmldnigohjfaaDoorChecked
import GoSem.Claim
import GoSem.ClaimJoined
import GoSem.ClaimMapViews
import Derived.JoinedTies
import Derived.KernelRfl
namespace Go.Proofs.YtecmldnigohjfaaDoor
/- THE CELL 'sum', in the pinned program and in every row, IS THE sha256 OF THE DUMP (.gsa) THAT YtecmldnigohjfaaDoorProg.lean LOADS. Nothing in Lean hashes anything: it is a label: what it is worth is what the hold of that sum in a sandbox is worth. -/
noncomputable def Tryd.pinned : Pinned := { name := "ytecmldnigohjfaadoor", sum := "482d35b9ce15560fca9f6949e51a89238f2fea8ffd3dcbb772c05b5931063c3b", checked := Tryd.checked }
namespace Rows
def none {H : Type} : Left H := { results := [], args := [] }

/- WHAT THE LISTED PACKAGE-LEVEL VARIABLES READ AS WHEN THE CALL BEGINS. Each datum BY PROGRAM (the guide's laid-datum.mjs) off the statement by which the dump's own 'gosem.cut.vars' lays the variable. In a bare row this is a premise. The card (YtecmldnigohjfaaDoorCards.lean) ties it to the program's text. -/
def laid_math_bits_deBruijn64tab {H : Type} : DataW H := .agg [.lit (.int .u8 0), .lit (.int .u8 1), .lit (.int .u8 56), .lit (.int .u8 2), .lit (.int .u8 57), .lit (.int .u8 49), .lit (.int .u8 28), .lit (.int .u8 3), .lit (.int .u8 61), .lit (.int .u8 58), .lit (.int .u8 42), .lit (.int .u8 50), .lit (.int .u8 38), .lit (.int .u8 29), .lit (.int .u8 17), .lit (.int .u8 4), .lit (.int .u8 62), .lit (.int .u8 47), .lit (.int .u8 59), .lit (.int .u8 36), .lit (.int .u8 45), .lit (.int .u8 43), .lit (.int .u8 51), .lit (.int .u8 22), .lit (.int .u8 53), .lit (.int .u8 39), .lit (.int .u8 33), .lit (.int .u8 30), .lit (.int .u8 24), .lit (.int .u8 18), .lit (.int .u8 12), .lit (.int .u8 5), .lit (.int .u8 63), .lit (.int .u8 55), .lit (.int .u8 48), .lit (.int .u8 27), .lit (.int .u8 60), .lit (.int .u8 41), .lit (.int .u8 37), .lit (.int .u8 16), .lit (.int .u8 46), .lit (.int .u8 35), .lit (.int .u8 44), .lit (.int .u8 21), .lit (.int .u8 52), .lit (.int .u8 32), .lit (.int .u8 23), .lit (.int .u8 11), .lit (.int .u8 54), .lit (.int .u8 26), .lit (.int .u8 40), .lit (.int .u8 15), .lit (.int .u8 34), .lit (.int .u8 20), .lit (.int .u8 31), .lit (.int .u8 10), .lit (.int .u8 25), .lit (.int .u8 14), .lit (.int .u8 19), .lit (.int .u8 9), .lit (.int .u8 13), .lit (.int .u8 8), .lit (.int .u8 7), .lit (.int .u8 6)]

/-- 'spiritlevellaw15.UnitTells': WHATEVER THE INPUT: true; the input reads as it did. -/
def unitTellsSpec : ChangeSpec := { name := "unitTells", fn := fun _ => fun
  | [d1, d2, d3] => { results := [.lit (.bool true)], args := [d1, d2, d3] }
  | _ => none }
def unitTellsRow : OpenClaim := { program := "ytecmldnigohjfaadoor", sum := "482d35b9ce15560fca9f6949e51a89238f2fea8ffd3dcbb772c05b5931063c3b", func := "spiritlevel/spiritlevellaw15.UnitTells", spec := "unitTells", unfollowed := true, recurses := true, named := ["math/bits.deBruijn64tab"], apart := false, laid := [("math/bits.deBruijn64tab", laid_math_bits_deBruijn64tab)] }
def UnitTellsSaid : Prop := unitTellsRow.holds Tryd.pinned (OpenSpec.ofChange unitTellsSpec)

/-- ITS FALSE NEIGHBOUR: 'it returns false'. Refute it at one input. -/
def unitTellsWrong : ChangeSpec := { name := "unitTells", fn := fun _ => fun
  | [d1, d2, d3] => { results := [.lit (.bool false)], args := [d1, d2, d3] }
  | _ => none }
def UnitTellsWrongFalsely : Prop := unitTellsRow.holds Tryd.pinned (OpenSpec.ofChange unitTellsWrong)

/-- 'spiritlevellaw15.UnitNames': WHATEVER THE INPUT: true; the input reads as it did. -/
def unitNamesSpec : ChangeSpec := { name := "unitNames", fn := fun _ => fun
  | [] => { results := [.lit (.bool true)], args := [] }
  | _ => none }
def unitNamesRow : OpenClaim := { program := "ytecmldnigohjfaadoor", sum := "482d35b9ce15560fca9f6949e51a89238f2fea8ffd3dcbb772c05b5931063c3b", func := "spiritlevel/spiritlevellaw15.UnitNames", spec := "unitNames", unfollowed := true, recurses := true, named := ["math/bits.deBruijn64tab"], apart := false, laid := [("math/bits.deBruijn64tab", laid_math_bits_deBruijn64tab)] }
def UnitNamesSaid : Prop := unitNamesRow.holds Tryd.pinned (OpenSpec.ofChange unitNamesSpec)

/-- ITS FALSE NEIGHBOUR: 'it returns false'. Refute it at one input. -/
def unitNamesWrong : ChangeSpec := { name := "unitNames", fn := fun _ => fun
  | [] => { results := [.lit (.bool false)], args := [] }
  | _ => none }
def UnitNamesWrongFalsely : Prop := unitNamesRow.holds Tryd.pinned (OpenSpec.ofChange unitNamesWrong)

/-- 'spiritlevellaw15.UnitOrder': WHATEVER THE INPUT: true; the input reads as it did. -/
def unitOrderSpec : ChangeSpec := { name := "unitOrder", fn := fun _ => fun
  | [d1, d2, d3] => { results := [.lit (.bool true)], args := [d1, d2, d3] }
  | _ => none }
def unitOrderRow : OpenClaim := { program := "ytecmldnigohjfaadoor", sum := "482d35b9ce15560fca9f6949e51a89238f2fea8ffd3dcbb772c05b5931063c3b", func := "spiritlevel/spiritlevellaw15.UnitOrder", spec := "unitOrder", unfollowed := true, recurses := true, named := ["math/bits.deBruijn64tab"], apart := false, laid := [("math/bits.deBruijn64tab", laid_math_bits_deBruijn64tab)] }
def UnitOrderSaid : Prop := unitOrderRow.holds Tryd.pinned (OpenSpec.ofChange unitOrderSpec)

/-- ITS FALSE NEIGHBOUR: 'it returns false'. Refute it at one input. -/
def unitOrderWrong : ChangeSpec := { name := "unitOrder", fn := fun _ => fun
  | [d1, d2, d3] => { results := [.lit (.bool false)], args := [d1, d2, d3] }
  | _ => none }
def UnitOrderWrongFalsely : Prop := unitOrderRow.holds Tryd.pinned (OpenSpec.ofChange unitOrderWrong)

/-- 'spiritlevellaw15.UnitFollows': WHATEVER THE INPUT: true; the input reads as it did. -/
def unitFollowsSpec : ChangeSpec := { name := "unitFollows", fn := fun _ => fun
  | [d1, d2] => { results := [.lit (.bool true)], args := [d1, d2] }
  | _ => none }
def unitFollowsRow : OpenClaim := { program := "ytecmldnigohjfaadoor", sum := "482d35b9ce15560fca9f6949e51a89238f2fea8ffd3dcbb772c05b5931063c3b", func := "spiritlevel/spiritlevellaw15.UnitFollows", spec := "unitFollows", unfollowed := true, recurses := true, named := ["math/bits.deBruijn64tab"], apart := false, laid := [("math/bits.deBruijn64tab", laid_math_bits_deBruijn64tab)] }
def UnitFollowsSaid : Prop := unitFollowsRow.holds Tryd.pinned (OpenSpec.ofChange unitFollowsSpec)

/-- ITS FALSE NEIGHBOUR: 'it returns false'. Refute it at one input. -/
def unitFollowsWrong : ChangeSpec := { name := "unitFollows", fn := fun _ => fun
  | [d1, d2] => { results := [.lit (.bool false)], args := [d1, d2] }
  | _ => none }
def UnitFollowsWrongFalsely : Prop := unitFollowsRow.holds Tryd.pinned (OpenSpec.ofChange unitFollowsWrong)

/-- 'spiritlevellaw15.UnitEnd': WHATEVER THE INPUT: true; the input reads as it did. -/
def unitEndSpec : ChangeSpec := { name := "unitEnd", fn := fun _ => fun
  | [d1, d2] => { results := [.lit (.bool true)], args := [d1, d2] }
  | _ => none }
def unitEndRow : OpenClaim := { program := "ytecmldnigohjfaadoor", sum := "482d35b9ce15560fca9f6949e51a89238f2fea8ffd3dcbb772c05b5931063c3b", func := "spiritlevel/spiritlevellaw15.UnitEnd", spec := "unitEnd", unfollowed := true, recurses := true, named := ["math/bits.deBruijn64tab"], apart := false, laid := [("math/bits.deBruijn64tab", laid_math_bits_deBruijn64tab)] }
def UnitEndSaid : Prop := unitEndRow.holds Tryd.pinned (OpenSpec.ofChange unitEndSpec)

/-- ITS FALSE NEIGHBOUR: 'it returns false'. Refute it at one input. -/
def unitEndWrong : ChangeSpec := { name := "unitEnd", fn := fun _ => fun
  | [d1, d2] => { results := [.lit (.bool false)], args := [d1, d2] }
  | _ => none }
def UnitEndWrongFalsely : Prop := unitEndRow.holds Tryd.pinned (OpenSpec.ofChange unitEndWrong)

/-- 'spiritlevellaw15.UnitMore': WHATEVER THE INPUT: true; the input reads as it did. -/
def unitMoreSpec : ChangeSpec := { name := "unitMore", fn := fun _ => fun
  | [d1, d2, d3, d4] => { results := [.lit (.bool true)], args := [d1, d2, d3, d4] }
  | _ => none }
def unitMoreRow : OpenClaim := { program := "ytecmldnigohjfaadoor", sum := "482d35b9ce15560fca9f6949e51a89238f2fea8ffd3dcbb772c05b5931063c3b", func := "spiritlevel/spiritlevellaw15.UnitMore", spec := "unitMore", unfollowed := true, recurses := true, named := ["math/bits.deBruijn64tab"], apart := false, laid := [("math/bits.deBruijn64tab", laid_math_bits_deBruijn64tab)] }
def UnitMoreSaid : Prop := unitMoreRow.holds Tryd.pinned (OpenSpec.ofChange unitMoreSpec)

/-- ITS FALSE NEIGHBOUR: 'it returns false'. Refute it at one input. -/
def unitMoreWrong : ChangeSpec := { name := "unitMore", fn := fun _ => fun
  | [d1, d2, d3, d4] => { results := [.lit (.bool false)], args := [d1, d2, d3, d4] }
  | _ => none }
def UnitMoreWrongFalsely : Prop := unitMoreRow.holds Tryd.pinned (OpenSpec.ofChange unitMoreWrong)

/- THE SECOND FORM. 'bulk': how many values and letters a reading holds, each counted each time it is reached (what is shared counts as often as it is met; a slice's spare places count too). A statement '..UptoSaid' is the law's where the arguments, and the package variables that the reading takes, are together of bulk at most 1048576: NARROWER than '..Said'. Prove '..Said' where nothing that the law and all that it calls make is longer than what came in: it says more and counts as full. Else prove '..UptoSaid'. A law counts once. -/
mutual
def uptoBulk {H : Type} : DataW H → Nat
  | .lit (.string bytes) => bytes.length + 1
  | .lit _ => 1
  | .nil => 1
  | .ptr d => uptoBulk d + 1
  | .slice elems spare => uptoBulkAll elems + uptoBulkAll spare + 1
  | .agg parts => uptoBulkAll parts + 1
  | .iface _ d => uptoBulk d + 1
  | .map entries => uptoBulkEntries entries + 1
  | .held _ => 1
def uptoBulkAll {H : Type} : List (DataW H) → Nat
  | [] => 0
  | d :: r => uptoBulk d + uptoBulkAll r
def uptoBulkEntries {H : Type} : List (Lit × DataW H) → Nat
  | [] => 0
  | x :: r => uptoBulkEntry x + uptoBulkEntries r
def uptoBulkEntry {H : Type} : Lit × DataW H → Nat
  | (.string bytes, d) => bytes.length + uptoBulk d + 1
  | (_, d) => uptoBulk d + 1
 end
def uptoSmall : (H : Type) → List (DataW H) → Bool := fun _ ds => decide (uptoBulkAll ds ≤ 1048576)
def OpenSpec.upto (s : _root_.Go.ChangeSpec) : _root_.Go.OpenSpec := { _root_.Go.OpenSpec.ofChange s with cond := some uptoSmall }

/-- 'spiritlevellaw15.UnitTells', WHERE WHAT IT READS IS OF BULK AT MOST 1048576: true; the input reads as it did. -/
def unitTellsUptoRow : OpenClaim := { program := "ytecmldnigohjfaadoor", sum := "482d35b9ce15560fca9f6949e51a89238f2fea8ffd3dcbb772c05b5931063c3b", func := "spiritlevel/spiritlevellaw15.UnitTells", spec := "unitTells", unfollowed := true, recurses := true, named := ["math/bits.deBruijn64tab"], apart := false, laid := [("math/bits.deBruijn64tab", laid_math_bits_deBruijn64tab)], narrowed := true }
def UnitTellsUptoSaid : Prop := unitTellsUptoRow.holds Tryd.pinned (OpenSpec.upto unitTellsSpec)

/-- 'spiritlevellaw15.UnitNames', WHERE WHAT IT READS IS OF BULK AT MOST 1048576: true; the input reads as it did. -/
def unitNamesUptoRow : OpenClaim := { program := "ytecmldnigohjfaadoor", sum := "482d35b9ce15560fca9f6949e51a89238f2fea8ffd3dcbb772c05b5931063c3b", func := "spiritlevel/spiritlevellaw15.UnitNames", spec := "unitNames", unfollowed := true, recurses := true, named := ["math/bits.deBruijn64tab"], apart := false, laid := [("math/bits.deBruijn64tab", laid_math_bits_deBruijn64tab)], narrowed := true }
def UnitNamesUptoSaid : Prop := unitNamesUptoRow.holds Tryd.pinned (OpenSpec.upto unitNamesSpec)

/-- 'spiritlevellaw15.UnitOrder', WHERE WHAT IT READS IS OF BULK AT MOST 1048576: true; the input reads as it did. -/
def unitOrderUptoRow : OpenClaim := { program := "ytecmldnigohjfaadoor", sum := "482d35b9ce15560fca9f6949e51a89238f2fea8ffd3dcbb772c05b5931063c3b", func := "spiritlevel/spiritlevellaw15.UnitOrder", spec := "unitOrder", unfollowed := true, recurses := true, named := ["math/bits.deBruijn64tab"], apart := false, laid := [("math/bits.deBruijn64tab", laid_math_bits_deBruijn64tab)], narrowed := true }
def UnitOrderUptoSaid : Prop := unitOrderUptoRow.holds Tryd.pinned (OpenSpec.upto unitOrderSpec)

/-- 'spiritlevellaw15.UnitFollows', WHERE WHAT IT READS IS OF BULK AT MOST 1048576: true; the input reads as it did. -/
def unitFollowsUptoRow : OpenClaim := { program := "ytecmldnigohjfaadoor", sum := "482d35b9ce15560fca9f6949e51a89238f2fea8ffd3dcbb772c05b5931063c3b", func := "spiritlevel/spiritlevellaw15.UnitFollows", spec := "unitFollows", unfollowed := true, recurses := true, named := ["math/bits.deBruijn64tab"], apart := false, laid := [("math/bits.deBruijn64tab", laid_math_bits_deBruijn64tab)], narrowed := true }
def UnitFollowsUptoSaid : Prop := unitFollowsUptoRow.holds Tryd.pinned (OpenSpec.upto unitFollowsSpec)

/-- 'spiritlevellaw15.UnitEnd', WHERE WHAT IT READS IS OF BULK AT MOST 1048576: true; the input reads as it did. -/
def unitEndUptoRow : OpenClaim := { program := "ytecmldnigohjfaadoor", sum := "482d35b9ce15560fca9f6949e51a89238f2fea8ffd3dcbb772c05b5931063c3b", func := "spiritlevel/spiritlevellaw15.UnitEnd", spec := "unitEnd", unfollowed := true, recurses := true, named := ["math/bits.deBruijn64tab"], apart := false, laid := [("math/bits.deBruijn64tab", laid_math_bits_deBruijn64tab)], narrowed := true }
def UnitEndUptoSaid : Prop := unitEndUptoRow.holds Tryd.pinned (OpenSpec.upto unitEndSpec)

/-- 'spiritlevellaw15.UnitMore', WHERE WHAT IT READS IS OF BULK AT MOST 1048576: true; the input reads as it did. -/
def unitMoreUptoRow : OpenClaim := { program := "ytecmldnigohjfaadoor", sum := "482d35b9ce15560fca9f6949e51a89238f2fea8ffd3dcbb772c05b5931063c3b", func := "spiritlevel/spiritlevellaw15.UnitMore", spec := "unitMore", unfollowed := true, recurses := true, named := ["math/bits.deBruijn64tab"], apart := false, laid := [("math/bits.deBruijn64tab", laid_math_bits_deBruijn64tab)], narrowed := true }
def UnitMoreUptoSaid : Prop := unitMoreUptoRow.holds Tryd.pinned (OpenSpec.upto unitMoreSpec)

end Rows
end Go.Proofs.YtecmldnigohjfaaDoor
