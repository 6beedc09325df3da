/- The library's slices.Backward over a list of gates: its iterator's contract; what a variable's reach is. -/
import Derived.Test.YtkpjpokeonppbaaGreatDoorGatesDep
import Derived.RangeFuncNested
import Derived.RangeFuncBound
import Derived.RangeFuncCalls
import Derived.RangeFuncLeaves
import Derived.Shelf.Abstract
import Derived.Shelf.RegionOpen
import Derived.OwnWalkIn
import Derived.TacticsInMore
import Derived.LoopNIn
import Derived.LoopIn
namespace Go.Proofs.YtkpjpokeonppbaaGreatDoor
open Go.RowKit Go.Shelf
set_option linter.unusedVariables false
attribute [local go_sem] Oper.semAt_some

/-- the indices that have come when k rounds from the end are over -/
def dn (m : Nat) (hm : 0 < m) (k : Nat) : List { j : Nat // j < m } := (List.range k).map fun t => ⟨m - 1 - t, by omega⟩
theorem dn_succ (m : Nat) (hm : 0 < m) (k : Nat) : dn m hm (k + 1) = dn m hm k ++ [⟨m - 1 - k, by omega⟩] := by simp [dn, List.range_succ]
theorem dn_len (m : Nat) (hm : 0 < m) (k : Nat) : (dn m hm k).length = k := by simp [dn]

/-- nothing below block n has turned, nor has the block b -/
def KB (n b : Nat) (W W' : World) : Prop := Below n W W' ∧ W'.heap[b]? = W.heap[b]?
theorem KB.refl (n b : Nat) (W : World) : KB n b W W := ⟨Below.refl _ _, rfl⟩
theorem KB.trans {n b : Nat} {A B C : World} (h : KB n b A B) (k : KB n b B C) : KB n b A C := ⟨h.1.trans k.1, k.2.trans h.2⟩
theorem KB.put {n b : Nat} {w : World} (hn : n ≤ w.heap.size) (hb : b < w.heap.size) : ∀ (W : World) (l : Nat) (o o' : Obj), w.heap.size ≤ l → W.heap[l]? = some o → o.isCells = false → o.isWalk = false → KB n b W (W.putObj l o') := fun W l o o' hl ho hc hw =>
  ⟨belowK_b (w := w) hn W l o o' hl ho hc hw, World.putObj_heap_other (by omega)⟩

/-- the indices of a list from its end -/
def down (m : Nat) : List Nat := (List.range m).map fun t => m - 1 - t

/-- what a block of cells holds abides the turns of blocks that are no cells -/
theorem kept_block {W W' : World} {row : Option Nat} {b : Nat} {cs : Array Value} {t : TypeId} {fr : Nat × Nat} (h : W.heap[b]? = some (.cells cs t fr)) (hg : W.grownBy W' row) (hr : ∀ r, row = some r → ∃ o : Obj, W.heap[r]? = some o ∧ o.isCells = false) : W'.heap[b]? = W.heap[b]? :=
  hg.block b (Array.getElem?_eq_some_iff.1 h).1 fun e => by
    obtain ⟨o, ho, hc⟩ := hr b e.symm
    rw [h] at ho
    cases ho
    cases hc
theorem has_own {β : Type} (b : Nat) (t : TypeId) (cs : Array Value) : Own (fun (_ : β) W => Has W b t cs) := fun s X Y row hs hg hr => (kept_block hs hg hr).trans hs
theorem row_own {β : Type} (b : Nat) (t : TypeId) (n : Nat) (f : β → Nat → Value) : Own (fun s W => W.rowIs b t n (f s)) := fun s X Y row hs hg hr => by
  obtain ⟨c, hc, _⟩ := id hs
  exact hs.of_block (kept_block hc hg hr)
theorem keepsFrom_below {B : Nat} {W W' : World} (h : Below W.heap.size W W') : KeepsFrom B W W' := ⟨h.size, fun k o _ hk _ => (h.block k (Array.getElem?_eq_some_iff.1 hk).1).trans hk⟩

namespace Cr
/-- a gate that has been reached reaches its parts -/
def stp (c : Cr) (R : Nat → Bool) (j : Nat) : Nat → Bool := if R (c.fg + j) = true then fun v => v == (c.gb j / 2).toNat || (v == (c.ga j / 2).toNat || R v) else R
def fld (c : Cr) (R : Nat → Bool) (js : List Nat) : Nat → Bool := js.foldl c.stp R
theorem fld_snoc (c : Cr) (R : Nat → Bool) (js : List Nat) (j : Nat) : c.fld R (js ++ [j]) = c.stp (c.fld R js) j := by simp [fld]
/-- what a literal reaches -/
def rch (c : Cr) (l : Int) : Nat → Bool := c.fld (fun v => v == (l / 2).toNat) (down c.na)
/-- the variables up to k, other than 0, that are reached -/
def cnL (R : Nat → Bool) : Nat → List Int
  | 0 => []
  | k + 1 => cnL R k ++ if 0 < k ∧ R k = true then [(k : Int)] else []
end Cr