/- The reference's Raw: a circuit as a raw one. -/
import Derived.Test.YtbppdifghkkooaaDoorOrderRaw
namespace Go.Proofs.YtbppdifghkkooaaDoor
open Go.RowKit
set_option linter.unusedVariables false
set_option linter.unusedSimpArgs false

end Go.Proofs.YtbppdifghkkooaaDoor

namespace Go.Proofs.YtbppdifghkkooaaDoor
open Go.RowKit
set_option linter.unusedVariables false
set_option linter.unusedSimpArgs false

/-- the empty raw circuit -/
def nulR : Rw := ⟨0, 0, 0, 0, 0, 0, fun _ => 0, fun _ => 0, fun _ => 0, fun _ => 0, fun _ => 0, fun _ => 0, fun _ => 0, fun _ => 0, fun _ => 0⟩
abbrev nulRp : Rp := ⟨none, none, none, none, none, 0, 0, 0, 0, 0⟩
theorem nulR_mem (w : World) : RMem w w.heap.size nulR nulRp := ⟨fun h => absurd h (Nat.not_lt_zero _), fun h => absurd h (Nat.not_lt_zero _), fun h => absurd h (Nat.not_lt_zero _), fun h => absurd h (Nat.not_lt_zero _), fun h => absurd h (Nat.not_lt_zero _)⟩
theorem nulR_sm : RSm nulR := by
  have z : I64 0 := by unfold I64; omega
  exact ⟨z, by decide, by decide, by decide, by decide, by decide, fun _ _ => z, fun _ _ => z, fun _ _ => z, fun _ _ => z, fun _ _ => z, fun _ _ => z, fun _ _ => z, fun _ _ => z, fun _ _ => z⟩
theorem raw_sm {c : Cr} (hs : Sm c) (h : (c.chk == 0) = true) : RSm c.raw := by
  have hb := Cr.chk_i h hs
  have g1 := hs.nl
  have g2 := hs.na
  have hz : c.sz = c.i + c.nl + c.na := rfl
  refine ⟨by show I64 c.sz; unfold I64; omega, by show c.i.toNat ≤ 2000; omega, hs.nl, hs.na, hs.nb, hs.nc, ?_, ?_, fun j _ => hs.nx j, fun j _ => hs.rs j, ?_, fun j _ => hs.ga j, fun j _ => hs.gb j, fun j _ => hs.bd j, fun j _ => hs.cn j⟩
  · intro j hj
    have hj' : j < c.i.toNat := hj
    show I64 (2 * (1 + (j : Int)))
    unfold I64; omega
  · intro j hj
    have hj' : j < c.nl := hj
    show I64 (2 * (1 + c.i + (j : Int)))
    unfold I64; omega
  · intro j hj
    have hj' : j < c.na := hj
    show I64 (2 * (1 + c.i + c.nl + (j : Int)))
    unfold I64; omega

end Go.Proofs.YtbppdifghkkooaaDoor
