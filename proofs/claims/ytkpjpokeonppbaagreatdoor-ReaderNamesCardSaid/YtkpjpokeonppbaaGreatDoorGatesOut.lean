/- What Cone hands back, as a list in memory. -/
import Derived.Test.YtkpjpokeonppbaaGreatDoorGatesRCone
namespace Go.Proofs.YtkpjpokeonppbaaGreatDoor
open Go.RowKit
set_option linter.unusedVariables false

theorem il_at (xs : List Int) (j : Nat) (h : j < xs.length) : (il xs)[j]? = some (.int .i64 (xs.getD j 0)) := by
  unfold il
  rw [List.getElem?_map, List.getElem?_eq_getElem h, List.getD_eq_getElem?_getD, List.getElem?_eq_getElem h]
  rfl
theorem own_list {w : World} {base : Nat} {e : TypeId} {v : Value} {xs : List Int} (h : w.ownsRow base e 1 v xs.length (il xs)) : ∃ A k, v = .slice A xs.length k ∧ IntsAt w w.heap.size A xs.length (fun j => xs.getD j 0) ∧ ∀ g, v.ownBlock = some g → base ≤ g := by
  refine (?_ : ∃ A k, v = .slice A xs.length k ∧ IntsAt w w.heap.size A xs.length (fun j => xs.getD j 0)).imp fun A ⟨k, h1, h2⟩ => ⟨k, h1, h2, own_block h⟩
  rcases h.2 with ⟨rfl, hn⟩ | ⟨g, cap, cur, rfl, hg, hh, r⟩
  · exact ⟨none, 0, by rw [hn], fun h => by omega⟩
  · exact ⟨_, cap, rfl, fun hn => ⟨_, rfl, Has.lt (t := e) (cs := cur) hh, fun j hj => h.cells (g := g) rfl _ _ (il_at xs j hj)⟩⟩

theorem Cr.cone_len (c : Cr) (l : Int) (hs : Sm c) : (c.cL l).length ≤ 10000 := by
  unfold cL
  split
  · rename_i h
    have h1 := Cr.cnL_len (c.rch l) (c.sz.toNat + 1)
    have h2 := Cr.chk_zero h.1
    unfold cone
    omega
  · simp
