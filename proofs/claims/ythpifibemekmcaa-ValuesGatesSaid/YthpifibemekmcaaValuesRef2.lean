/- The reference of layer 4: All, Next, Props. -/
import Derived.Test.YthpifibemekmcaaValuesAll
namespace Go.Proofs.Ythpifibemekmcaa
open Go.RowKit
set_option linter.unusedVariables false
set_option linter.unusedSimpArgs false

section
variable {c : Cr} {p : Pl} {As At : Option Addr} {ns ks ni ki : Nat} {s t : Nat → Bool}

theorem rAsked_at (w : World) (h : Arg w w.heap.size c p As ns ks s At ni ki t) :
    Calls Try.prog 31 #[cv c p, .slice As ns ks, .slice At ni ki] w fun e w' => e = .returned (.int .i64 (c.ask ns ni)) ∧ Below w.heap.size w w' := rAsked_any c p As At ns ks ni ki w h.hm h.hs h.n1 h.n2
theorem rAsked_ok (hk : c.ask ns ni = 0) (w : World) (h : Arg w w.heap.size c p As ns ks s At ni ki t) :
    Calls Try.prog 31 #[cv c p, .slice As ns ks, .slice At ni ki] w fun e w' => e = .returned (.int .i64 0) ∧ Below w.heap.size w w' := by
  have := rAsked_at w h
  rwa [hk] at this