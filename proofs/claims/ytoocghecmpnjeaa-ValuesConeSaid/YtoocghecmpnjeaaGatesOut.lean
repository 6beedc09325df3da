/- What Cone hands back, as a list in memory. -/
import Derived.Test.YtoocghecmpnjeaaGatesRCone
namespace Go.Proofs.Ytoocghecmpnjeaa
open Go.RowKit
set_option linter.unusedVariables false

theorem il_at (xs : List Int) (j : Nat) (h : j < xs.length) : (il xs)[j]? = some (.int .i64 (xs.getD j 0)) := by
  unfold il
  rw [List.getElem?_map, List.getElem?_eq_getElem h, List.getD_eq_getElem?_getD, List.getElem?_eq_getElem h]
  rfl
theorem own_list {w : World} {base : Nat} {e : TypeId} {v : Value} {xs : List Int} (h : w.ownsRow base e 1 v xs.length (il xs)) : ∃ A k, v = .slice A xs.length k ∧ IntsAt w w.heap.size A xs.length (fun j => xs.getD j 0) ∧ ∀ g, v.ownBlock = some g → base ≤ g := by
  refine (?_ : ∃ A k, v = .slice A xs.length k ∧ IntsAt w w.heap.size A xs.length (fun j => xs.getD j 0)).imp fun A ⟨k, h1, h2⟩ => ⟨k, h1, h2, own_block h⟩
  rcases h.2 with ⟨rfl, hn⟩ | ⟨g, cap, cur, rfl, hg, hh, r⟩
  · exact ⟨none, 0, by rw [hn], fun h => by omega⟩
  · exact ⟨_, cap, rfl, fun hn => ⟨_, rfl, Has.lt (t := e) (cs := cur) hh, fun j hj => h.cells (g := g) rfl _ _ (il_at xs j hj)⟩⟩

/-- what Cone hands back -/
def ConeOut (c : Cr) (l : Int) (w : World) (e : Ending) (w' : World) : Prop :=
  ∃ A k, e = .returned (.tuple #[.slice A (c.cL l).length k, .int .i64 (c.cE l)]) ∧ IntsAt w' w'.heap.size A (c.cL l).length (fun j => (c.cL l).getD j 0) ∧ Below w.heap.size w w'
theorem ConeSays.out {c : Cr} {l : Int} {w w' : World} {e : Ending} (h : ConeSays c l w e w') : ConeOut c l w e w' := by
  obtain ⟨v, rfl, ho, hb⟩ := h
  obtain ⟨A, k, rfl, hi, _⟩ := own_list ho
  exact ⟨A, k, rfl, hi, hb⟩
theorem gCone_out (c : Cr) (p : Pl) (l : Int) (w : World) (hm : Mem w w.heap.size c p) (hs : Sm c) : Calls Try.prog 49 #[cv c p, .int .i64 l] w (ConeOut c l w) := (gCone_any c p l w hm hs).mono fun _ _ h => h.out

theorem Cr.cone_len (c : Cr) (l : Int) (hs : Sm c) : (c.cL l).length ≤ 10000 := by
  unfold cL
  split
  · rename_i h
    have h1 := Cr.cnL_len (c.rch l) (c.sz.toNat + 1)
    have h2 := Cr.chk_zero h.1
    unfold cone
    omega
  · simp
