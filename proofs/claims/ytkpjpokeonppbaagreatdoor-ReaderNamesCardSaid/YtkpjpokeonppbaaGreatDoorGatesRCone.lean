/- The contracts of the reference's In and Cone, and of both Cones where there is an error. -/
import Derived.Test.YtkpjpokeonppbaaGreatDoorGatesCone
import Derived.Test.YtkpjpokeonppbaaGreatDoorGatesKind
namespace Go.Proofs.YtkpjpokeonppbaaGreatDoor
open Go.RowKit
set_option linter.unusedVariables false

namespace Cr
/-- what is reached when k gates have been looked at, from the last one on -/
def rk (c : Cr) (l : Int) (k : Nat) : Nat → Bool := c.fld (fun v => v == (l / 2).toNat) ((List.range k).map fun t => c.na - 1 - t)
theorem rk_succ (c : Cr) (l : Int) (k : Nat) : c.rk l (k + 1) = c.stp (c.rk l k) (c.na - 1 - k) := by
  unfold rk
  rw [List.range_succ, List.map_append]
  exact fld_snoc _ _ _ _
theorem rk_all (c : Cr) (l : Int) : c.rk l c.na = c.rch l := rfl
theorem stp_no {c : Cr} {R : Nat → Bool} {j : Nat} (h : R (c.fg + j) = false) : c.stp R j = R := by unfold stp; rw [if_neg (by rw [h]; simp)]
theorem stp_yes {c : Cr} {R : Nat → Bool} {j : Nat} (h : R (c.fg + j) = true) : c.stp R j = fun v => v == (c.gb j / 2).toNat || (v == (c.ga j / 2).toNat || R v) := by unfold stp; rw [if_pos h]
end Cr

/-- what In returns -/
def InIs (c : Cr) (l : Int) (n : Nat) (w : World) (e : Ending) (w' : World) : Prop :=
  ∃ g, e = .returned (.slice (some ⟨g, 0, none⟩) (n + 1) (n + 1)) ∧ w.heap.size ≤ g ∧ w'.rowIs g 4 (n + 1) (fun v => .bool (if v = 0 then false else c.rch l v)) ∧ Below w.heap.size w w'
theorem info_bool : (Tryz.prog.info? 4).map (fun i => (i.zero, i.size, i.bytes)) = some (some (.bool false), 1, 1) := by kernel_rfl

theorem row_true {w : World} {b : Nat} {t : TypeId} {n : Nat} {R : Nat → Bool} (h : w.rowIs b t n (fun v => .bool (R v))) (i : Nat) : (w.setCell ⟨b, i, none⟩ (.bool true)).rowIs b t n (fun v => .bool (v == i || R v)) :=
  (h.set i (.bool true)).congr fun j _ => by
    by_cases e : j = i
    · simp [e]
    · simp [e]

theorem row_made_set (w : World) (t : TypeId) (n i : Nat) : (w.alloc (.cells ((madeCells #[.bool false] n).setIfInBounds i (.bool true)) t)).rowIs w.heap.size t n (fun v => .bool (v == i)) :=
  ⟨_, heap_alloc_new w _, by rw [Array.size_setIfInBounds]; simp [size_madeCells], fun j hj => by
    rw [Array.getElem?_setIfInBounds]
    by_cases e : i = j
    · subst e; simp [size_madeCells, hj]
    · have e' : ¬ j = i := fun h => e h.symm
      rw [if_neg e]; simp [madeCells, hj, Nat.mod_one, e']⟩

namespace Cr
/-- Cone's error, and its list -/
def cE (c : Cr) (l : Int) : Int := if c.chk ≠ 0 then c.chk else if litB c.sz l = true then 0 else 2
def cL (c : Cr) (l : Int) : List Int := if c.chk = 0 ∧ litB c.sz l = true then c.cone l else []
theorem cnL_zero (R : Nat → Bool) : ∀ q, cnL (fun v => if v = 0 then false else R v) q = cnL R q
  | 0 => rfl
  | q + 1 => by
    have h := cnL_zero R q
    unfold cnL
    rw [h]
    by_cases hq : 0 < q
    · have : ¬ q = 0 := by omega
      simp [this]
    · simp [hq]
end Cr

/-- what Cone says, of any circuit and literal: a list in memory of the call's own, and the error -/
def ConeSays (c : Cr) (l : Int) (w : World) (e : Ending) (w' : World) : Prop :=
  ∃ v, e = .returned (.tuple #[v, .int .i64 (c.cE l)]) ∧ w'.ownsRow w.heap.size 3 1 v (c.cL l).length (il (c.cL l)) ∧ Below w.heap.size w w'
theorem ConeSays.nil {c : Cr} {l : Int} {w w' : World} {n : Int} (h : c.cE l = n) (h' : c.cL l = []) (hb : Below w.heap.size w w') : ConeSays c l w (.returned (.tuple #[.slice none 0 0, .int .i64 n])) w' :=
  ⟨_, by rw [h], by rw [h']; exact World.ownsRow_nil _ _ _ _, hb⟩
theorem ConeSays.ok {c : Cr} {l : Int} {w w' : World} {e : Ending} (h : c.chk = 0) (h' : Cr.litB c.sz l = true) (hc : ConeIs c l w e w') : ConeSays c l w e w' := by
  obtain ⟨v, he, ho, hb⟩ := hc
  have h1 : c.cE l = 0 := by unfold Cr.cE; rw [if_neg (by omega), if_pos h']
  have h2 : c.cL l = c.cone l := if_pos ⟨h, h'⟩
  exact ⟨v, by rw [h1]; exact he, by rw [h2]; exact ho, hb⟩