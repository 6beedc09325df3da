/- The reference of layer 4: Props; what both return. -/
import Derived.Test.YtpobkemgbbgolaaValuesRef2
import Derived.Test.YtpobkemgbbgolaaValuesNext
import Derived.Test.YtpobkemgbbgolaaValuesProps
namespace Go.Proofs.Ytpobkemgbbgolaa
open Go.RowKit
set_option linter.unusedVariables false
set_option linter.unusedSimpArgs false

section
variable {c : Cr} {p : Pl} {As At : Option Addr} {ns ks ni ki : Nat} {s t : Nat → Bool}

theorem next_any (w : World) (h : Arg w w.heap.size c p As ns ks s At ni ki t) :
    Calls Try.prog 16 #[cv c p, .slice As ns ks, .slice At ni ki] w (BoolsErr (c.nn ns ni) (c.nv s t) (c.ask ns ni) w) := by
  by_cases hk : c.ask ns ni = 0
  · rw [show c.nn ns ni = c.nl from if_pos hk, hk]; exact next_yes hk w h
  · exact next_no hk w h
theorem props_any (w : World) (h : Arg w w.heap.size c p As ns ks s At ni ki t) :
    Calls Try.prog 28 #[cv c p, .slice As ns ks, .slice At ni ki] w (PropsIs (c.hd s t ns ni) (c.bn ns ni) (c.bv s t) (c.ask ns ni) w) := by
  by_cases hk : c.ask ns ni = 0
  · rw [show c.bn ns ni = c.nb from if_pos hk, show c.hd s t ns ni = c.hol s t from if_pos hk, hk]; exact props_yes hk w h
  · exact props_no hk w h
end
