/- The contracts of the package order: the closure of takenGates, and IndexFunc at it. -/
import Derived.Test.YtbppdifghkkooaaDoorOrderProg6
import Derived.Test.YtbppdifghkkooaaDoorHeadTail
namespace Go.Proofs.YtbppdifghkkooaaDoor
open Go.RowKit
set_option linter.unusedVariables false
set_option linter.unusedSimpArgs false

/-- the gate is left, and its parts are not -/
def nxB (I : Nat → Bool) (l a b : Int) : Bool := I (l / 2).toNat && !I (a / 2).toNat && !I (b / 2).toNat
/-- an index that was found, or -1 -/
def fxI (m n : Nat) : Int := if m < n then (m : Int) else -1

end Go.Proofs.YtbppdifghkkooaaDoor

namespace Go.Proofs.YtbppdifghkkooaaDoor
open Go.RowKit
set_option linter.unusedVariables false
set_option linter.unusedSimpArgs false

theorem own_call {w w' : World} {base : Nat} {e : TypeId} {size n : Nat} {v : Value} {xs : List Value} (h : w.ownsRow base e size v n xs) (hb : Below w.heap.size w w') : w'.ownsRow base e size v n xs := by
  refine ⟨h.1, ?_⟩
  rcases h.2 with h2 | ⟨g, cap, cur, hv, hg, hh, r⟩
  · exact Or.inl h2
  · exact Or.inr ⟨g, cap, cur, hv, hg, (hb.block g (Has.lt (t := e) (cs := cur) hh)).trans hh, r⟩
theorem own_setv {w : World} {b j base : Nat} {x : Value} {e : TypeId} {size n : Nat} {v : Value} {xs : List Value} (h : w.ownsRow base e size v n xs) (hb : b < base) : (w.setCell ⟨b, j, none⟩ x).ownsRow base e size v n xs := by
  refine ⟨h.1, ?_⟩
  rcases h.2 with h2 | ⟨g, cap, cur, hv, hg, hh, r⟩
  · exact Or.inl h2
  · exact Or.inr ⟨g, cap, cur, hv, hg, (Below.heap_setCell w ⟨b, j, none⟩ x g (by show g ≠ b; omega)).trans hh, r⟩
theorem fxI_yes {m n : Nat} (h : m < n) : fxI m n = (m : Int) := if_pos h
theorem fxI_no {m n : Nat} (h : m = n) : fxI m n = -1 := if_neg (by omega)
theorem nL_st (r : Rw) {k : Nat} (h : r.fnd (r.st k).1 < r.na) : il (nL (r.st (k + 1)).2) = il (nL (r.st k).2) ++ [.int .i64 (r.fnd (r.st k).1)] := by
  rw [Rw.st_go h, nL_app, il_app]; rfl
theorem st_row (r : Rw) {k : Nat} (h : r.fnd (r.st k).1 < r.na) (h0 : 0 ≤ r.gl (r.fnd (r.st k).1)) (v : Nat) : (if v = (r.gl (r.fnd (r.st k).1) / 2).toNat then false else !(r.st k).1 (v : Int)) = !(r.st (k + 1)).1 (v : Int) := by
  rw [Rw.st_go h]
  show _ = !(Rw.upd (r.st k).1 (r.gl (r.fnd (r.st k).1) / 2) true (v : Int))
  unfold Rw.upd
  by_cases e : v = (r.gl (r.fnd (r.st k).1) / 2).toNat
  · rw [if_pos e, if_pos (by omega)]; rfl
  · rw [if_neg e, if_neg (by omega)]

end Go.Proofs.YtbppdifghkkooaaDoor
