/- The reference of layer 3: a literal by its new variable. -/
import Derived.Test.YtpdfdbnmohippaaOrderRef6
namespace Go.Proofs.Ytpdfdbnmohippaa
open Go.RowKit
set_option linter.unusedVariables false
set_option linter.unusedSimpArgs false

set_option maxRecDepth 100000 in
set_option maxHeartbeats 1000000 in
theorem oTold_any (A : Option Addr) (n k : Nat) (f : Nat → Int) (x : Int) (B : Nat) (w : World) (hA0 : IntsAt w B A n f) (h0 : 0 ≤ x) (h1 : x / 2 < n) (hn : n ≤ 2000) (hb : ∀ j, j < n → -1 ≤ f j ∧ f j ≤ 2000) :
    Calls Try.prog 23 #[.slice A n k, .int .i64 x] w fun e w' => e = .returned (.int .i64 (2 * f (x / 2).toNat + x % 2)) ∧ Below w.heap.size w w' := by
  obtain ⟨a, hA, hab, hcs⟩ := hA0 (by omega)
  subst hA
  have y0 := hcs (x / 2).toNat (by omega)
  have hb0 := hb (x / 2).toNat (by omega)
  have m1 : 0 ≤ x / 2 := by omega
  have w1 : IntKind.i64.wrap (2 * f (x / 2).toNat) = 2 * f (x / 2).toNat := IntWalk.i64_in _ (by omega)
  have w2 : IntKind.i64.wrap (2 * f (x / 2).toNat + x % 2) = 2 * f (x / 2).toNat + x % 2 := IntWalk.i64_in _ (by omega)
  clear hcs
  go_enter Try.func23, Try.ntmps23
  go_wp2
  go_ret
  exact ⟨rfl, Below.refl _ _⟩
end Go.Proofs.Ytpdfdbnmohippaa
