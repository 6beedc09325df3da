/- The contracts of gates.Depth and of the reference's Depth. -/
import Derived.Test.YtecmldnigohjfabDoorGatesProg2
import Derived.Test.YtecmldnigohjfabDoorGatesFrame
import Derived.Deep.OwnRows
import Derived.RangeFuncNested
import Derived.RangeFuncBound
import Derived.RangeFuncCalls
import Derived.RangeFuncLeaves
import Derived.Shelf.Abstract
import Derived.Shelf.RegionOpen
import Derived.OwnWalkIn
import Derived.TacticsInMore
import Derived.LoopNIn
import Derived.LoopIn
namespace Go.Proofs.YtecmldnigohjfabDoor
open Go.RowKit

set_option linter.unusedVariables false

namespace Cr
/-- the variable of the first gate -/
def fg (c : Cr) : Nat := 1 + c.i.toNat + c.nl
/-- the depths of the variables when k gates have been looked at, and the greatest one -/
def dpA (c : Cr) : Nat → Nat → Int
  | 0, _ => 0
  | k + 1, v => if v = c.fg + k then 1 + (if dpA c k (c.ga k / 2).toNat < dpA c k (c.gb k / 2).toNat then dpA c k (c.gb k / 2).toNat else dpA c k (c.ga k / 2).toNat) else dpA c k v
/-- the depth of gate k -/
def dpN (c : Cr) (k : Nat) : Int := 1 + (if c.dpA k (c.ga k / 2).toNat < c.dpA k (c.gb k / 2).toNat then c.dpA k (c.gb k / 2).toNat else c.dpA k (c.ga k / 2).toNat)
/-- what Depth says -/
def dpM (c : Cr) : Nat → Int
  | 0 => 0
  | k + 1 => if dpM c k < c.dpN k then c.dpN k else dpM c k
theorem dpA_bd (c : Cr) : ∀ k v, 0 ≤ c.dpA k v ∧ c.dpA k v ≤ k
  | 0, _ => ⟨Int.le_refl _, Int.le_refl _⟩
  | k + 1, v => by
    have h1 := dpA_bd c k (c.ga k / 2).toNat
    have h2 := dpA_bd c k (c.gb k / 2).toNat
    have h3 := dpA_bd c k v
    unfold dpA
    split
    · split <;> omega
    · omega
theorem dpA_step (c : Cr) (q j : Nat) (h0 : 0 ≤ c.i) : (if j = (1 + c.i + c.nl + q).toNat then Value.int .i64 (c.dpN q) else Value.int .i64 (c.dpA q j)) = Value.int .i64 (c.dpA (q + 1) j) := by
  have e : (1 + c.i + c.nl + q).toNat = c.fg + q := by unfold fg; omega
  rw [e]
  conv => rhs; unfold dpA
  split
  · rfl
  · rfl
theorem dpA_step' (c : Cr) (q j : Nat) (h0 : 0 ≤ c.i) : (if j = (c.i + c.nl + 1 + q).toNat then Value.int .i64 (c.dpN q) else Value.int .i64 (c.dpA q j)) = Value.int .i64 (c.dpA (q + 1) j) := by
  have e : (c.i + c.nl + 1 + q).toNat = (1 + c.i + c.nl + q).toNat := by omega
  rw [e]
  exact dpA_step c q j h0
theorem dpN_bd (c : Cr) (k : Nat) : 1 ≤ c.dpN k ∧ c.dpN k ≤ k + 1 := by
  have h1 := dpA_bd c k (c.ga k / 2).toNat
  have h2 := dpA_bd c k (c.gb k / 2).toNat
  unfold dpN
  split <;> omega
def dpt (c : Cr) : Int := if c.chk = 0 then c.dpM c.na else 0
theorem dpM_bd (c : Cr) : ∀ k, 0 ≤ c.dpM k ∧ c.dpM k ≤ k
  | 0 => ⟨Int.le_refl _, Int.le_refl _⟩
  | k + 1 => by
    have h1 := dpM_bd c k
    have h2 := dpN_bd c k
    unfold dpM
    split <;> omega
/-- what is known of the gate k of a valid circuit -/
theorem gate_ok {c : Cr} (h : c.chk = 0) {k : Nat} (hk : k < c.na) : 0 ≤ c.gb k ∧ c.gb k ≤ c.ga k ∧ c.ga k / 2 ≤ c.i + c.nl + k ∧ c.i + c.nl + k < 1000 ∧ 0 ≤ c.i := by
  have h1 := Cr.chk_zero h
  have h2 : c.sz = c.i + c.nl + c.na := rfl
  have h3 := (of_decide_eq_true h1.2.2.2.2.2.2.2 : ∀ j, j < c.na → _) k hk
  exact ⟨h3.1, h3.2.1, h3.2.2, by omega, h1.1⟩

end Cr

/-- the cells of an array of 1001 numbers, and of 1001 bools, as it is made -/
def zi : Array Value := Array.replicate 1001 (.int .i64 0)
def zb : Array Value := Array.replicate 1001 (.bool false)

end Go.Proofs.YtecmldnigohjfabDoor

namespace Go.Proofs.YtecmldnigohjfabDoor
open Go.RowKit Go.Shelf
set_option linter.unusedVariables false

attribute [local go_sem] Oper.semAt_some

/-- the indices that have come when k rounds from the end are over -/
def dn (m : Nat) (hm : 0 < m) (k : Nat) : List { j : Nat // j < m } := (List.range k).map fun t => ⟨m - 1 - t, by omega⟩
theorem dn_succ (m : Nat) (hm : 0 < m) (k : Nat) : dn m hm (k + 1) = dn m hm k ++ [⟨m - 1 - k, by omega⟩] := by simp [dn, List.range_succ]
theorem dn_len (m : Nat) (hm : 0 < m) (k : Nat) : (dn m hm k).length = k := by simp [dn]

/-- nothing below block n has turned, nor has the block b -/
def KB (n b : Nat) (W W' : World) : Prop := Below n W W' ∧ W'.heap[b]? = W.heap[b]?
theorem KB.refl (n b : Nat) (W : World) : KB n b W W := ⟨Below.refl _ _, rfl⟩
theorem KB.trans {n b : Nat} {A B C : World} (h : KB n b A B) (k : KB n b B C) : KB n b A C := ⟨h.1.trans k.1, k.2.trans h.2⟩
theorem KB.put {n b : Nat} {w : World} (hn : n ≤ w.heap.size) (hb : b < w.heap.size) : ∀ (W : World) (l : Nat) (o o' : Obj), w.heap.size ≤ l → W.heap[l]? = some o → o.isCells = false → o.isWalk = false → KB n b W (W.putObj l o') := fun W l o o' hl ho hc hw =>
  ⟨belowK_b (w := w) hn W l o o' hl ho hc hw, World.putObj_heap_other (by omega)⟩

/-- the indices of a list from its end -/
def down (m : Nat) : List Nat := (List.range m).map fun t => m - 1 - t

/-- what a block of cells holds abides the turns of blocks that are no cells -/
theorem kept_block {W W' : World} {row : Option Nat} {b : Nat} {cs : Array Value} {t : TypeId} {fr : Nat × Nat} (h : W.heap[b]? = some (.cells cs t fr)) (hg : W.grownBy W' row) (hr : ∀ r, row = some r → ∃ o : Obj, W.heap[r]? = some o ∧ o.isCells = false) : W'.heap[b]? = W.heap[b]? :=
  hg.block b (Array.getElem?_eq_some_iff.1 h).1 fun e => by
    obtain ⟨o, ho, hc⟩ := hr b e.symm
    rw [h] at ho
    cases ho
    cases hc
theorem has_own {β : Type} (b : Nat) (t : TypeId) (cs : Array Value) : Own (fun (_ : β) W => Has W b t cs) := fun s X Y row hs hg hr => (kept_block hs hg hr).trans hs
theorem row_own {β : Type} (b : Nat) (t : TypeId) (n : Nat) (f : β → Nat → Value) : Own (fun s W => W.rowIs b t n (f s)) := fun s X Y row hs hg hr => by
  obtain ⟨c, hc, _⟩ := id hs
  exact hs.of_block (kept_block hc hg hr)
theorem keepsFrom_below {B : Nat} {W W' : World} (h : Below W.heap.size W W') : KeepsFrom B W W' := ⟨h.size, fun k o _ hk _ => (h.block k (Array.getElem?_eq_some_iff.1 hk).1).trans hk⟩

namespace Cr
/-- a gate that has been reached reaches its parts -/
def stp (c : Cr) (R : Nat → Bool) (j : Nat) : Nat → Bool := if R (c.fg + j) = true then fun v => v == (c.gb j / 2).toNat || (v == (c.ga j / 2).toNat || R v) else R
def fld (c : Cr) (R : Nat → Bool) (js : List Nat) : Nat → Bool := js.foldl c.stp R
theorem fld_snoc (c : Cr) (R : Nat → Bool) (js : List Nat) (j : Nat) : c.fld R (js ++ [j]) = c.stp (c.fld R js) j := by simp [fld]
/-- what a literal reaches -/
def rch (c : Cr) (l : Int) : Nat → Bool := c.fld (fun v => v == (l / 2).toNat) (down c.na)
/-- the variables up to k, other than 0, that are reached -/
def cnL (R : Nat → Bool) : Nat → List Int
  | 0 => []
  | k + 1 => cnL R k ++ if 0 < k ∧ R k = true then [(k : Int)] else []

end Cr

end Go.Proofs.YtecmldnigohjfabDoor

namespace Go.Proofs.YtecmldnigohjfabDoor
open Go.RowKit Go.Shelf
set_option linter.unusedVariables false

attribute [local go_sem] Oper.semAt_some

namespace Cr
theorem cnL_len (R : Nat → Bool) : ∀ q, (cnL R q).length ≤ q
  | 0 => Nat.le_refl _
  | q + 1 => by
    have := cnL_len R q
    unfold cnL
    split <;> simp <;> omega
theorem cnL_no {R : Nat → Bool} {q : Nat} (h : ¬ (0 < q ∧ R q = true)) : cnL R (q + 1) = cnL R q := by
  conv => lhs; unfold cnL
  rw [if_neg h, List.append_nil]
theorem cnL_yes {R : Nat → Bool} {q : Nat} (h : 0 < q ∧ R q = true) : cnL R (q + 1) = cnL R q ++ [(q : Int)] := by
  conv => lhs; unfold cnL
  rw [if_pos h]
/-- the cone of a literal -/
def cone (c : Cr) (l : Int) : List Int := cnL (c.rch l) (c.sz.toNat + 1)

end Cr

/-- the cells of a list of numbers -/
def il (xs : List Int) : List Value := xs.map (.int .i64)
/-- a list of numbers in memory of the call's own, and OK -/
def ConeIs (c : Cr) (l : Int) (w : World) (e : Ending) (w' : World) : Prop :=
  ∃ v, e = .returned (.tuple #[v, .int .i64 0]) ∧ w'.ownsRow w.heap.size 3 1 v (c.cone l).length (il (c.cone l)) ∧ Below w.heap.size w w'
theorem own_base {w : World} {base base' : Nat} {e : TypeId} {size n : Nat} {v : Value} {xs : List Value} (h : w.ownsRow base e size v n xs) (hb : base' ≤ base) : w.ownsRow base' e size v n xs := by
  refine ⟨h.1, ?_⟩
  rcases h.2 with h2 | ⟨g, cap, cur, hv, hg, r⟩
  · exact Or.inl h2
  · exact Or.inr ⟨g, cap, cur, hv, by omega, r⟩
theorem own_block {w : World} {base : Nat} {e : TypeId} {size n : Nat} {v : Value} {xs : List Value} (h : w.ownsRow base e size v n xs) : ∀ k, v.ownBlock = some k → base ≤ k := by
  rcases h.2 with ⟨rfl, _⟩ | ⟨g, cap, cur, rfl, hg, r⟩
  · intro k hk; cases hk
  · intro k hk; cases hk; exact hg

theorem marks_keeps {B b : Nat} {w w' : World} (hk : ∀ g, g ≠ b → w'.heap[g]? = w.heap[g]?) (hs : w'.heap.size = w.heap.size) (hb : b < B) : KeepsFrom B w w' := ⟨by omega, fun k o hB h _ => (hk k (by omega)).trans h⟩

end Go.Proofs.YtecmldnigohjfabDoor

namespace Go.Proofs.YtecmldnigohjfabDoor
open Go.RowKit

set_option linter.unusedVariables false

/-- what Kind says: the kind, the index, the error -/
def Cr.kd (c : Cr) (v : Int) : Int × Int × Int :=
  if c.chk ≠ 0 then (0, 0, c.chk) else if v < 0 ∨ c.sz < v then (0, 0, 2) else if v = 0 then (0, 0, 0)
  else if v ≤ c.i then (1, v - 1, 0) else if v ≤ c.i + c.nl then (2, v - 1 - c.i, 0) else (3, v - 1 - c.i - c.nl, 0)

theorem Cr.ret_kd {x : Int × Int × Int} {a b d : Int} (h : x = (a, b, d)) : Ending.returned (.tuple #[.int .i64 a, .int .i64 b, .int .i64 d]) = .returned (.tuple #[.int .i64 x.1, .int .i64 x.2.1, .int .i64 x.2.2]) := by rw [h]

theorem Cr.kd_bad {c : Cr} (v : Int) (h : c.chk ≠ 0) : c.kd v = (0, 0, c.chk) := by unfold Cr.kd; rw [if_pos h]
theorem Cr.kd_arg {c : Cr} {v : Int} (h : c.chk = 0) (h1 : v < 0 ∨ c.sz < v) : c.kd v = (0, 0, 2) := by unfold Cr.kd; rw [if_neg (by omega), if_pos h1]
theorem Cr.kd_0 {c : Cr} {v : Int} (h : c.chk = 0) (h1 : ¬ (v < 0 ∨ c.sz < v)) (h2 : v = 0) : c.kd v = (0, 0, 0) := by unfold Cr.kd; rw [if_neg (by omega), if_neg h1, if_pos h2]
theorem Cr.kd_1 {c : Cr} {v : Int} (h : c.chk = 0) (h1 : ¬ (v < 0 ∨ c.sz < v)) (h2 : ¬ v = 0) (h3 : v ≤ c.i) : c.kd v = (1, v - 1, 0) := by unfold Cr.kd; rw [if_neg (by omega), if_neg h1, if_neg h2, if_pos h3]
theorem Cr.kd_2 {c : Cr} {v : Int} (h : c.chk = 0) (h1 : ¬ (v < 0 ∨ c.sz < v)) (h2 : ¬ v = 0) (h3 : ¬ v ≤ c.i) (h4 : v ≤ c.i + c.nl) : c.kd v = (2, v - 1 - c.i, 0) := by unfold Cr.kd; rw [if_neg (by omega), if_neg h1, if_neg h2, if_neg h3, if_pos h4]
theorem Cr.kd_3 {c : Cr} {v : Int} (h : c.chk = 0) (h1 : ¬ (v < 0 ∨ c.sz < v)) (h2 : ¬ v = 0) (h3 : ¬ v ≤ c.i) (h4 : ¬ v ≤ c.i + c.nl) : c.kd v = (3, v - 1 - c.i - c.nl, 0) := by unfold Cr.kd; rw [if_neg (by omega), if_neg h1, if_neg h2, if_neg h3, if_neg h4]

end Go.Proofs.YtecmldnigohjfabDoor

namespace Go.Proofs.YtecmldnigohjfabDoor
open Go.RowKit

set_option linter.unusedVariables false

namespace Cr
/-- what is reached when k gates have been looked at, from the last one on -/
def rk (c : Cr) (l : Int) (k : Nat) : Nat → Bool := c.fld (fun v => v == (l / 2).toNat) ((List.range k).map fun t => c.na - 1 - t)
theorem rk_succ (c : Cr) (l : Int) (k : Nat) : c.rk l (k + 1) = c.stp (c.rk l k) (c.na - 1 - k) := by
  unfold rk
  rw [List.range_succ, List.map_append]
  exact fld_snoc _ _ _ _
theorem rk_all (c : Cr) (l : Int) : c.rk l c.na = c.rch l := rfl
theorem stp_no {c : Cr} {R : Nat → Bool} {j : Nat} (h : R (c.fg + j) = false) : c.stp R j = R := by unfold stp; rw [if_neg (by rw [h]; simp)]
theorem stp_yes {c : Cr} {R : Nat → Bool} {j : Nat} (h : R (c.fg + j) = true) : c.stp R j = fun v => v == (c.gb j / 2).toNat || (v == (c.ga j / 2).toNat || R v) := by unfold stp; rw [if_pos h]

end Cr

/-- what In returns -/
def InIs (c : Cr) (l : Int) (n : Nat) (w : World) (e : Ending) (w' : World) : Prop :=
  ∃ g, e = .returned (.slice (some ⟨g, 0, none⟩) (n + 1) (n + 1)) ∧ w.heap.size ≤ g ∧ w'.rowIs g 4 (n + 1) (fun v => .bool (if v = 0 then false else c.rch l v)) ∧ Below w.heap.size w w'
theorem info_bool : (Tryd.prog.info? 4).map (fun i => (i.zero, i.size, i.bytes)) = some (some (.bool false), 1, 1) := by kernel_rfl

theorem row_true {w : World} {b : Nat} {t : TypeId} {n : Nat} {R : Nat → Bool} (h : w.rowIs b t n (fun v => .bool (R v))) (i : Nat) : (w.setCell ⟨b, i, none⟩ (.bool true)).rowIs b t n (fun v => .bool (v == i || R v)) :=
  (h.set i (.bool true)).congr fun j _ => by
    by_cases e : j = i
    · simp [e]
    · simp [e]

theorem row_made_set (w : World) (t : TypeId) (n i : Nat) : (w.alloc (.cells ((madeCells #[.bool false] n).setIfInBounds i (.bool true)) t)).rowIs w.heap.size t n (fun v => .bool (v == i)) :=
  ⟨_, heap_alloc_new w _, by rw [Array.size_setIfInBounds]; simp [size_madeCells], fun j hj => by
    rw [Array.getElem?_setIfInBounds]
    by_cases e : i = j
    · subst e; simp [size_madeCells, hj]
    · have e' : ¬ j = i := fun h => e h.symm
      rw [if_neg e]; simp [madeCells, hj, Nat.mod_one, e']⟩

namespace Cr
/-- Cone's error, and its list -/
def cE (c : Cr) (l : Int) : Int := if c.chk ≠ 0 then c.chk else if litB c.sz l = true then 0 else 2
def cL (c : Cr) (l : Int) : List Int := if c.chk = 0 ∧ litB c.sz l = true then c.cone l else []
theorem cnL_zero (R : Nat → Bool) : ∀ q, cnL (fun v => if v = 0 then false else R v) q = cnL R q
  | 0 => rfl
  | q + 1 => by
    have h := cnL_zero R q
    unfold cnL
    rw [h]
    by_cases hq : 0 < q
    · have : ¬ q = 0 := by omega
      simp [this]
    · simp [hq]

end Cr

/-- what Cone says, of any circuit and literal: a list in memory of the call's own, and the error -/
def ConeSays (c : Cr) (l : Int) (w : World) (e : Ending) (w' : World) : Prop :=
  ∃ v, e = .returned (.tuple #[v, .int .i64 (c.cE l)]) ∧ w'.ownsRow w.heap.size 3 1 v (c.cL l).length (il (c.cL l)) ∧ Below w.heap.size w w'
theorem ConeSays.nil {c : Cr} {l : Int} {w w' : World} {n : Int} (h : c.cE l = n) (h' : c.cL l = []) (hb : Below w.heap.size w w') : ConeSays c l w (.returned (.tuple #[.slice none 0 0, .int .i64 n])) w' :=
  ⟨_, by rw [h], by rw [h']; exact World.ownsRow_nil _ _ _ _, hb⟩
theorem ConeSays.ok {c : Cr} {l : Int} {w w' : World} {e : Ending} (h : c.chk = 0) (h' : Cr.litB c.sz l = true) (hc : ConeIs c l w e w') : ConeSays c l w e w' := by
  obtain ⟨v, he, ho, hb⟩ := hc
  have h1 : c.cE l = 0 := by unfold Cr.cE; rw [if_neg (by omega), if_pos h']
  have h2 : c.cL l = c.cone l := if_pos ⟨h, h'⟩
  exact ⟨v, by rw [h1]; exact he, by rw [h2]; exact ho, hb⟩

end Go.Proofs.YtecmldnigohjfabDoor

namespace Go.Proofs.YtecmldnigohjfabDoor
open Go.RowKit

set_option linter.unusedVariables false

theorem il_at (xs : List Int) (j : Nat) (h : j < xs.length) : (il xs)[j]? = some (.int .i64 (xs.getD j 0)) := by
  unfold il
  rw [List.getElem?_map, List.getElem?_eq_getElem h, List.getD_eq_getElem?_getD, List.getElem?_eq_getElem h]
  rfl
theorem own_list {w : World} {base : Nat} {e : TypeId} {v : Value} {xs : List Int} (h : w.ownsRow base e 1 v xs.length (il xs)) : ∃ A k, v = .slice A xs.length k ∧ IntsAt w w.heap.size A xs.length (fun j => xs.getD j 0) ∧ ∀ g, v.ownBlock = some g → base ≤ g := by
  refine (?_ : ∃ A k, v = .slice A xs.length k ∧ IntsAt w w.heap.size A xs.length (fun j => xs.getD j 0)).imp fun A ⟨k, h1, h2⟩ => ⟨k, h1, h2, own_block h⟩
  rcases h.2 with ⟨rfl, hn⟩ | ⟨g, cap, cur, rfl, hg, hh, r⟩
  · exact ⟨none, 0, by rw [hn], fun h => by omega⟩
  · exact ⟨_, cap, rfl, fun hn => ⟨_, rfl, Has.lt (t := e) (cs := cur) hh, fun j hj => h.cells (g := g) rfl _ _ (il_at xs j hj)⟩⟩

theorem Cr.cone_len (c : Cr) (l : Int) (hs : Sm c) : (c.cL l).length ≤ 10000 := by
  unfold cL
  split
  · rename_i h
    have h1 := Cr.cnL_len (c.rch l) (c.sz.toNat + 1)
    have h2 := Cr.chk_zero h.1
    unfold cone
    omega
  · simp

end Go.Proofs.YtecmldnigohjfabDoor

namespace Go.Proofs.YtecmldnigohjfabDoor
open Go.RowKit

set_option linter.unusedVariables false

namespace Cr
/-- reached from the variable r: r itself, and the parts of the gates that are reached -/
inductive Rc (c : Cr) (r : Nat) : Nat → Prop
  | base : Rc c r r
  | left {j : Nat} (hj : j < c.na) (h : Rc c r (c.fg + j)) : Rc c r (c.ga j / 2).toNat
  | right {j : Nat} (hj : j < c.na) (h : Rc c r (c.fg + j)) : Rc c r (c.gb j / 2).toNat

theorem Rc.trans {c : Cr} {r s v : Nat} (h : Rc c r s) (k : Rc c s v) : Rc c r v := by
  induction k with
  | base => exact h
  | left hj _ ih => exact .left hj ih
  | right hj _ ih => exact .right hj ih

theorem part_lt {c : Cr} (h : c.chk = 0) {j : Nat} (hj : j < c.na) : (c.ga j / 2).toNat < c.fg + j ∧ (c.gb j / 2).toNat < c.fg + j := by
  obtain ⟨k1, k2, k3, k4, k5⟩ := gate_ok h hj
  unfold fg
  omega
theorem Rc.le {c : Cr} (h : c.chk = 0) {r v : Nat} (k : Rc c r v) : v ≤ r := by
  induction k with
  | base => exact Nat.le_refl _
  | left hj _ ih => have := (part_lt h hj).1; omega
  | right hj _ ih => have := (part_lt h hj).2; omega

theorem rk_mono (c : Cr) (l : Int) (k v : Nat) (h : c.rk l k v = true) : c.rk l (k + 1) v = true := by
  rw [rk_succ]
  cases hq : c.rk l k (c.fg + (c.na - 1 - k))
  · rw [stp_no hq]; exact h
  · rw [stp_yes hq]; simp [h]
theorem rk_mono' (c : Cr) (l : Int) (v k : Nat) : ∀ d, c.rk l k v = true → c.rk l (k + d) v = true
  | 0, h => h
  | d + 1, h => rk_mono c l (k + d) v (rk_mono' c l v k d h)
theorem rk_stay {c : Cr} (hc : c.chk = 0) (l : Int) (k v : Nat) (hk : k < c.na) (hv : c.fg + (c.na - 1 - k) ≤ v) : c.rk l (k + 1) v = c.rk l k v := by
  obtain ⟨p1, p2⟩ := part_lt hc (j := c.na - 1 - k) (by omega)
  rw [rk_succ]
  cases hq : c.rk l k (c.fg + (c.na - 1 - k))
  · rw [stp_no hq]
  · rw [stp_yes hq]
    have e1 : (v == (c.gb (c.na - 1 - k) / 2).toNat) = false := by simp; omega
    have e2 : (v == (c.ga (c.na - 1 - k) / 2).toNat) = false := by simp; omega
    simp [e1, e2]
theorem rk_stay' {c : Cr} (hc : c.chk = 0) (l : Int) (k v : Nat) (hv : c.fg + (c.na - 1 - k) ≤ v) : ∀ d, k + d ≤ c.na → c.rk l (k + d) v = c.rk l k v
  | 0, _ => rfl
  | d + 1, h => by
    have := rk_stay hc l (k + d) v (by omega) (by omega)
    rw [← Nat.add_assoc, this]
    exact rk_stay' hc l k v hv d (by omega)

/-- what the rounds reach is reached -/
theorem rk_rc {c : Cr} (hc : c.chk = 0) (l : Int) : ∀ k, k ≤ c.na → ∀ v, c.rk l k v = true → Rc c (l / 2).toNat v
  | 0, _, v, h => by
    have : v = (l / 2).toNat := by simpa [rk, fld] using h
    rw [this]
    exact .base
  | k + 1, hk, v, h => by
    have ih := rk_rc hc l k (by omega)
    rw [rk_succ] at h
    cases hq : c.rk l k (c.fg + (c.na - 1 - k))
    · rw [stp_no hq] at h; exact ih v h
    · rw [stp_yes hq] at h
      have hg := ih _ hq
      simp only [Bool.or_eq_true, beq_iff_eq] at h
      rcases h with h | h | h
      · rw [h]; exact .right (by omega) hg
      · rw [h]; exact .left (by omega) hg
      · exact ih v h
/-- what is reached the rounds reach -/
theorem rc_rch {c : Cr} (hc : c.chk = 0) (l : Int) {v : Nat} (h : Rc c (l / 2).toNat v) : c.rch l v = true := by
  have part : ∀ j, j < c.na → c.rch l (c.fg + j) = true → c.rch l (c.ga j / 2).toNat = true ∧ c.rch l (c.gb j / 2).toNat = true := fun j hj hr => by
    obtain ⟨k, hk⟩ : ∃ k, k = c.na - 1 - j := ⟨_, rfl⟩
    have hjk : c.na - 1 - k = j := by omega
    have h1 := rk_stay' hc l k (c.fg + j) (by rw [hjk]; omega) (c.na - k) (by omega)
    have e : k + (c.na - k) = c.na := by omega
    rw [e, rk_all, hr] at h1
    have h2 := rk_succ c l k
    rw [hjk, stp_yes h1.symm] at h2
    have e' : k + 1 + (c.na - k - 1) = c.na := by omega
    have m1 := rk_mono' c l (c.ga j / 2).toNat (k + 1) (c.na - k - 1) (by rw [h2]; simp)
    have m2 := rk_mono' c l (c.gb j / 2).toNat (k + 1) (c.na - k - 1) (by rw [h2]; simp)
    rw [e', rk_all] at m1 m2
    exact ⟨m1, m2⟩
  induction h with
  | base =>
    have := rk_mono' c l (l / 2).toNat 0 c.na (by simp [rk, fld])
    rwa [Nat.zero_add, rk_all] at this
  | left hj _ ih => exact (part _ hj ih).1
  | right hj _ ih => exact (part _ hj ih).2
theorem rch_iff {c : Cr} (hc : c.chk = 0) (l : Int) (v : Nat) : c.rch l v = true ↔ Rc c (l / 2).toNat v := ⟨fun h => rk_rc hc l c.na (Nat.le_refl _) v h, rc_rch hc l⟩

/-- the list's numbers -/
theorem mem_cnL {R : Nat → Bool} : ∀ {q : Nat} {x : Int}, x ∈ cnL R q ↔ ∃ v : Nat, x = v ∧ 0 < v ∧ v < q ∧ R v = true
  | 0, x => by simp [cnL]
  | q + 1, x => by
    have ih := mem_cnL (R := R) (q := q) (x := x)
    by_cases h : 0 < q ∧ R q = true
    · rw [cnL_yes h, List.mem_append, ih, List.mem_singleton]
      constructor
      · rintro (⟨v, h1, h2, h3, h4⟩ | h')
        · exact ⟨v, h1, h2, by omega, h4⟩
        · exact ⟨q, h', h.1, by omega, h.2⟩
      · rintro ⟨v, h1, h2, h3, h4⟩
        rcases Nat.lt_succ_iff_lt_or_eq.1 h3 with h5 | h5
        · exact Or.inl ⟨v, h1, h2, h5, h4⟩
        · subst h5; exact Or.inr h1
    · rw [cnL_no h, ih]
      constructor
      · rintro ⟨v, h1, h2, h3, h4⟩; exact ⟨v, h1, h2, by omega, h4⟩
      · rintro ⟨v, h1, h2, h3, h4⟩
        rcases Nat.lt_succ_iff_lt_or_eq.1 h3 with h5 | h5
        · exact ⟨v, h1, h2, h5, h4⟩
        · subst h5; exact absurd ⟨h2, h4⟩ h
theorem cnL_inc (R : Nat → Bool) : ∀ q, (cnL R q).Pairwise (· < ·)
  | 0 => List.Pairwise.nil
  | q + 1 => by
    by_cases h : 0 < q ∧ R q = true
    · rw [cnL_yes h, List.pairwise_append]
      refine ⟨cnL_inc R q, List.pairwise_singleton _ _, fun a ha b hb => ?_⟩
      obtain ⟨v, h1, h2, h3, _⟩ := mem_cnL.1 ha
      rw [List.mem_singleton.1 hb, h1]
      omega
    · rw [cnL_no h]; exact cnL_inc R q
theorem cnL_last {R : Nat → Bool} {m : Nat} (h0 : 0 < m) (hm : R m = true) (hg : ∀ v, m < v → R v = false) : ∀ q, m < q → cnL R q = cnL R m ++ [(m : Int)]
  | 0, h => by omega
  | q + 1, h => by
    rcases Nat.lt_succ_iff_lt_or_eq.1 h with h5 | h5
    · rw [cnL_no (fun h' => by rw [hg q h5] at h'; cases h'.2)]
      exact cnL_last h0 hm hg q h5
    · subst h5; exact cnL_yes ⟨h0, hm⟩

end Cr

/-- a list in increasing order, by its numbers -/
theorem inc_getD {xs : List Int} (h : xs.Pairwise (· < ·)) {i j : Nat} (hij : i < j) (hj : j < xs.length) : xs.getD i 0 < xs.getD j 0 := by
  rw [List.getD_eq_getElem?_getD, List.getD_eq_getElem?_getD, List.getElem?_eq_getElem hj, List.getElem?_eq_getElem (by omega)]
  exact List.pairwise_iff_getElem.1 h i j (by omega) hj hij
theorem getD_mem {xs : List Int} {j : Nat} (hj : j < xs.length) : xs.getD j 0 ∈ xs := by
  rw [List.getD_eq_getElem?_getD, List.getElem?_eq_getElem hj]
  exact List.getElem_mem hj

/-- the cone of a literal of a variable of a valid circuit -/
structure ConeOk (c : Cr) (l : Int) : Prop where
  pos : 0 < (c.cL l).length
  last : (c.cL l).getD ((c.cL l).length - 1) 0 = l / 2
  inc : ∀ i j, i < j → j < (c.cL l).length → (c.cL l).getD i 0 < (c.cL l).getD j 0
  mem : ∀ j, j < (c.cL l).length → 1 ≤ (c.cL l).getD j 0 ∧ (c.cL l).getD j 0 ≤ c.sz ∧ Cr.Rc c (l / 2).toNat ((c.cL l).getD j 0).toNat
  err : c.cE l = 0
theorem cone_ok {c : Cr} {l : Int} (hc : c.chk = 0) (h2 : 2 ≤ l) (hl : l / 2 ≤ c.sz) : ConeOk c l := by
  have hb : Cr.litB c.sz l = true := decide_eq_true ⟨by omega, hl⟩
  have hL : c.cL l = Cr.cnL (c.rch l) (c.sz.toNat + 1) := if_pos ⟨hc, hb⟩
  have hE : c.cE l = 0 := by unfold Cr.cE; rw [if_neg (by omega), if_pos hb]
  have hm0 : 0 < (l / 2).toNat := by omega
  have hml : (l / 2).toNat < c.sz.toNat + 1 := by omega
  have hlast := Cr.cnL_last hm0 (Cr.rc_rch hc l .base) (fun v hv => by
    cases h : c.rch l v
    · rfl
    · have := ((Cr.rch_iff hc l v).1 h).le hc
      omega) _ hml
  refine ⟨by rw [hL, hlast]; simp, ?_, fun i j hij hj => ?_, fun j hj => ?_, hE⟩
  · rw [hL, hlast]
    simp
    omega
  · rw [hL] at hj ⊢
    exact inc_getD (Cr.cnL_inc _ _) hij hj
  · rw [hL] at hj ⊢
    obtain ⟨v, h1, h3, h4, h5⟩ := Cr.mem_cnL.1 (getD_mem hj)
    rw [h1]
    exact ⟨by omega, by omega, by rw [Int.toNat_natCast]; exact (Cr.rch_iff hc l v).1 h5⟩

end Go.Proofs.YtecmldnigohjfabDoor

namespace Go.Proofs.YtecmldnigohjfabDoor
open Go.RowKit

set_option linter.unusedVariables false

/-- how many numbers of m have been met when the first i of l have been looked at -/
def met (l m : List Int) : Nat → Nat
  | 0 => 0
  | i + 1 => if met l m i < m.length ∧ l.getD i 0 = m.getD (met l m i) 0 then met l m i + 1 else met l m i
theorem met_le (l m : List Int) : ∀ i, met l m i ≤ m.length
  | 0 => Nat.zero_le _
  | i + 1 => by
    have := met_le l m i
    unfold met
    split <;> omega
theorem met_stay (l m : List Int) (i : Nat) (h : met l m i = m.length) : ∀ d, met l m (i + d) = m.length
  | 0 => h
  | d + 1 => by
    have := met_stay l m i h d
    rw [← Nat.add_assoc]
    unfold met
    rw [if_neg (by omega), this]
theorem met_yes {l m : List Int} {i : Nat} (h : met l m i < m.length) (h' : l.getD i 0 = m.getD (met l m i) 0) : met l m (i + 1) = met l m i + 1 := by
  conv => lhs; unfold met
  rw [if_pos ⟨h, h'⟩]
theorem met_no {l m : List Int} {i : Nat} (h' : ¬ l.getD i 0 = m.getD (met l m i) 0) : met l m (i + 1) = met l m i := by
  conv => lhs; unfold met
  rw [if_neg (fun h => h' h.2)]
/-- the scan of l behind its first number -/
theorem met_cons (x : Int) (l : List Int) : ∀ (m : List Int) (i : Nat), met (x :: l) m (i + 1) = if 0 < m.length ∧ x = m.getD 0 0 then met l (m.drop 1) i + 1 else met l m i
  | m, 0 => by simp [met]
  | m, i + 1 => by
    have ih := met_cons x l m i
    conv => lhs; unfold met
    rw [ih]
    by_cases h : 0 < m.length ∧ x = m.getD 0 0
    · rw [if_pos h, if_pos h]
      have e1 : (m.drop 1).length = m.length - 1 := List.length_drop
      have e2 : (m.drop 1).getD (met l (m.drop 1) i) 0 = m.getD (met l (m.drop 1) i + 1) 0 := by
        rw [List.getD_eq_getElem?_getD, List.getD_eq_getElem?_getD, List.getElem?_drop, Nat.add_comm 1]
      have hle := met_le l (m.drop 1) i
      conv => rhs; unfold met
      rw [e1, e2]
      have e3 : (x :: l).getD (i + 1) 0 = l.getD i 0 := by simp
      rw [e3]
      by_cases h2 : met l (m.drop 1) i + 1 < m.length ∧ l.getD i 0 = m.getD (met l (m.drop 1) i + 1) 0
      · rw [if_pos h2, if_pos ⟨by omega, h2.2⟩]
      · rw [if_neg h2, if_neg (fun h3 => h2 ⟨by omega, h3.2⟩)]
    · rw [if_neg h, if_neg h]
      conv => rhs; unfold met
      have e3 : (x :: l).getD (i + 1) 0 = l.getD i 0 := by simp
      rw [e3]
theorem met_sub : ∀ {l m : List Int}, List.Sublist m l → met l m l.length = m.length
  | [], m, h => by cases h; rfl
  | x :: l, m, h => by
    rw [List.length_cons, met_cons]
    by_cases h2 : 0 < m.length ∧ x = m.getD 0 0
    · rw [if_pos h2]
      have hs : List.Sublist (m.drop 1) l := by
        cases h with
        | cons _ h => exact (List.drop_sublist 1 m).trans h
        | cons_cons _ h => simpa using h
      rw [met_sub hs, List.length_drop]; omega
    · rw [if_neg h2]
      cases h with
      | cons _ h => exact met_sub h
      | cons_cons _ h => exact absurd ⟨by simp, by simp⟩ h2
theorem cnL_sub {R R' : Nat → Bool} (h : ∀ v, R' v = true → R v = true) : ∀ q, List.Sublist (Cr.cnL R' q) (Cr.cnL R q)
  | 0 => List.Sublist.slnil
  | q + 1 => by
    have ih := cnL_sub h q
    by_cases h1 : 0 < q ∧ R' q = true
    · rw [Cr.cnL_yes h1, Cr.cnL_yes ⟨h1.1, h q h1.2⟩]
      exact ih.append (List.Sublist.refl _)
    · rw [Cr.cnL_no h1]
      by_cases h2 : 0 < q ∧ R q = true
      · rw [Cr.cnL_yes h2]; exact ih.trans (List.sublist_append_left _ _)
      · rw [Cr.cnL_no h2]; exact ih

end Go.Proofs.YtecmldnigohjfabDoor

namespace Go.Proofs.YtecmldnigohjfabDoor
open Go.RowKit

set_option linter.unusedVariables false

/-- the chapter's circuit, and the same with the parts of its first gate turned -/
def exC : Cr := ⟨2, 1, 2, 1, 0, fun _ => 10, fun _ => 2, fun j => if j = 0 then 4 else 8, fun j => if j = 0 then 2 else 7, fun _ => 11, fun _ => 0⟩
def exT : Cr := ⟨2, 1, 2, 1, 0, fun _ => 10, fun _ => 2, fun j => if j = 0 then 2 else 8, fun j => if j = 0 then 4 else 7, fun _ => 11, fun _ => 0⟩
theorem exC_chk : exC.chk = 0 := by decide +kernel
theorem exT_chk : exT.chk = 8 := by decide +kernel
theorem exC_vrs : exC.vrs = 5 := by decide +kernel
theorem exC_dpt : exC.dpt = 2 := by decide +kernel
theorem exC_cL : exC.cL 10 = [1, 2, 3, 4, 5] := by decide +kernel
theorem exC_cE : exC.cE 10 = 0 := by decide +kernel
theorem ite_bd {p : Prop} [Decidable p] {a b : Int} (ha : I64 a) (hb : I64 b) : I64 (if p then a else b) := by split <;> assumption
theorem i64_k (k : Int) (h : -100000 ≤ k) (h' : k ≤ 100000) : I64 k := by unfold I64; omega
theorem exC_sm : Sm exC := ⟨i64_k 2 (by decide) (by decide), by decide, by decide, by decide, by decide, fun _ => i64_k 10 (by decide) (by decide), fun _ => i64_k 2 (by decide) (by decide), fun _ => ite_bd (i64_k 4 (by decide) (by decide)) (i64_k 8 (by decide) (by decide)), fun _ => ite_bd (i64_k 2 (by decide) (by decide)) (i64_k 7 (by decide) (by decide)), fun _ => i64_k 11 (by decide) (by decide), fun _ => i64_k 0 (by decide) (by decide)⟩
theorem exT_sm : Sm exT := ⟨i64_k 2 (by decide) (by decide), by decide, by decide, by decide, by decide, fun _ => i64_k 10 (by decide) (by decide), fun _ => i64_k 2 (by decide) (by decide), fun _ => ite_bd (i64_k 2 (by decide) (by decide)) (i64_k 8 (by decide) (by decide)), fun _ => ite_bd (i64_k 4 (by decide) (by decide)) (i64_k 7 (by decide) (by decide)), fun _ => i64_k 11 (by decide) (by decide), fun _ => i64_k 0 (by decide) (by decide)⟩

theorem ints_of_has {w : World} {g : Nat} {t : TypeId} {cs : Array Value} {n : Nat} {f : Nat → Int} (h : Has w g t cs) (hc : ∀ j, j < n → cs[j]? = some (.int .i64 (f j))) : IntsAt w w.heap.size (some ⟨g, 0, none⟩) n f := fun _ =>
  ⟨_, rfl, h.lt, fun j hj => by
    have e : (⟨g, 0, none⟩ : Addr).add j = ⟨g, j, none⟩ := by unfold Addr.add; split <;> simp_all
    rw [e, h.cell j, hc j hj]⟩
theorem pairs_of_has {w : World} {g : Nat} {t : TypeId} {cs : Array Value} {n : Nat} {f h : Nat → Int} (hh : Has w g t cs) (hc : ∀ j, j < n → cs[j * 2]? = some (.int .i64 (f j)) ∧ cs[j * 2 + 1]? = some (.int .i64 (h j))) : PairsAt w w.heap.size (some ⟨g, 0, none⟩) n f h := fun _ =>
  ⟨_, rfl, hh.lt, fun j hj => by
    have e : ∀ i, (⟨g, 0, none⟩ : Addr).add i = ⟨g, i, none⟩ := fun i => by unfold Addr.add; split <;> simp_all
    rw [e, hh.cell, (hc j hj).1, hh.cell, (hc j hj).2]
    exact ⟨rfl, rfl⟩⟩

theorem Has.al {w : World} {g : Nat} {t : TypeId} {cs : Array Value} (h : Has w g t cs) (o : Obj) : Has (w.alloc o) g t cs := h.keep (Below.alloc (Below.refl w.heap.size w) (Nat.le_refl _) o) h.lt

end Go.Proofs.YtecmldnigohjfabDoor

namespace Go.Proofs.YtecmldnigohjfabDoor
open Go.RowKit

set_option linter.unusedVariables false

namespace Cr
/-- a gate more, of the literals a and b -/
def more (c : Cr) (a b : Int) : Cr := { c with na := c.na + 1, ga := fun j => if j = c.na then a else c.ga j, gb := fun j => if j = c.na then b else c.gb j }
variable {c : Cr} {a b : Int}

theorem more_sz : (c.more a b).sz = c.sz + 1 := by
  show c.i + c.nl + ((c.na + 1 : Nat) : Int) = c.i + c.nl + c.na + 1
  omega
theorem more_fg : (c.more a b).fg = c.fg := rfl
theorem allB_mono {m m' : Int} {f : Nat → Int} {n : Nat} (h : allB m f n = true) (hm : m ≤ m') : allB m' f n = true := decide_eq_true fun j hj => by
  have := (of_decide_eq_true h : ∀ j, j < n → _) j hj
  omega
theorem more_chk (h : c.chk = 0) (hs : c.sz < 1000) (h0 : 0 ≤ b) (h1 : b ≤ a) (h2 : a / 2 ≤ c.sz) : (c.more a b).chk = 0 := by
  obtain ⟨k1, k2, k3, k4, k5, k6, k7, k8⟩ := chk_zero h
  have e : (c.more a b).sz = c.sz + 1 := more_sz
  have hz : c.sz = c.i + c.nl + c.na := rfl
  refine chk_ok (c := c.more a b) (by show ¬ c.i < 0; omega) (by rw [e]; show ¬ (1000 < c.sz + 1 ∨ 100 < c.nb ∨ 100 < c.nc); omega) ⟨?_, ?_, ?_, ?_⟩
  · rw [e]; exact allB_mono (n := c.nb) (f := c.bd) k5 (by omega)
  · rw [e]; exact allB_mono (n := c.nc) (f := c.cn) k6 (by omega)
  · refine decide_eq_true fun j hj => ?_
    have := (of_decide_eq_true k7 : ∀ j, j < c.nl → _) j hj
    rw [e]
    show 0 ≤ c.nx j ∧ c.nx j / 2 ≤ c.sz + 1 ∧ 0 ≤ c.rs j ∧ c.rs j ≤ 2
    omega
  · refine decide_eq_true fun j hj => ?_
    show 0 ≤ (if j = c.na then b else c.gb j) ∧ (if j = c.na then b else c.gb j) ≤ (if j = c.na then a else c.ga j) ∧ (if j = c.na then a else c.ga j) / 2 ≤ c.i + c.nl + j
    have hj' : j < c.na + 1 := hj
    by_cases ej : j = c.na
    · subst ej; simp; omega
    · have := (of_decide_eq_true k8 : ∀ j, j < c.na → _) j (by omega)
      rw [if_neg ej, if_neg ej]; omega
theorem more_dpA : ∀ k, k ≤ c.na → ∀ v, (c.more a b).dpA k v = c.dpA k v
  | 0, _, v => rfl
  | k + 1, h, v => by
    have ih := more_dpA k (by omega)
    have e1 : (c.more a b).ga k = c.ga k := if_neg (by omega)
    have e2 : (c.more a b).gb k = c.gb k := if_neg (by omega)
    unfold dpA
    rw [e1, e2, more_fg, ih, ih, ih]
theorem more_dpM : ∀ k, k ≤ c.na → (c.more a b).dpM k = c.dpM k
  | 0, _ => rfl
  | k + 1, h => by
    have ih := more_dpM k (by omega)
    have e1 : (c.more a b).ga k = c.ga k := if_neg (by omega)
    have e2 : (c.more a b).gb k = c.gb k := if_neg (by omega)
    have e3 : (c.more a b).dpN k = c.dpN k := by
      unfold dpN
      rw [e1, e2, more_dpA k (by omega), more_dpA k (by omega)]
    unfold dpM
    rw [ih, e3]
theorem dpA_dpM (c : Cr) : ∀ k v, c.dpA k v ≤ c.dpM k
  | 0, v => Int.le_refl _
  | k + 1, v => by
    have ih := dpA_dpM c k v
    unfold dpA dpM
    split
    · show dpN c k ≤ _
      split <;> omega
    · split <;> omega
/-- the depth of the circuit with a gate more -/
theorem more_dpt (h : c.chk = 0) (h' : (c.more a b).chk = 0) : c.dpt ≤ (c.more a b).dpt ∧ (c.more a b).dpt ≤ c.dpt + 1 ∧ 1 ≤ (c.more a b).dpt ∧ 0 ≤ c.dpt ∧ c.dpt ≤ c.na := by
  have e1 : c.dpt = c.dpM c.na := if_pos h
  have e2 : (c.more a b).dpt = (c.more a b).dpM (c.na + 1) := if_pos h'
  have h1 := dpN_bd (c.more a b) c.na
  have h2 : (c.more a b).dpN c.na ≤ c.dpM c.na + 1 := by
    unfold dpN
    rw [more_dpA c.na (Nat.le_refl _), more_dpA c.na (Nat.le_refl _)]
    have q1 := dpA_dpM c c.na ((c.more a b).ga c.na / 2).toNat
    have q2 := dpA_dpM c c.na ((c.more a b).gb c.na / 2).toNat
    split <;> omega
  have h3 := dpM_bd c c.na
  have e3 : (c.more a b).dpM (c.na + 1) = if c.dpM c.na < (c.more a b).dpN c.na then (c.more a b).dpN c.na else c.dpM c.na := by
    conv => lhs; unfold dpM
    rw [more_dpM c.na (Nat.le_refl _)]
  rw [e1, e2, e3]
  split <;> omega
theorem cL_eq {c : Cr} {l : Int} (h : c.chk = 0) (h0 : 0 ≤ l) (hl : l / 2 ≤ c.sz) : c.cL l = cnL (c.rch l) (c.sz.toNat + 1) ∧ c.cE l = 0 := by
  have hb : litB c.sz l = true := decide_eq_true ⟨h0, hl⟩
  exact ⟨if_pos ⟨h, hb⟩, by unfold cE; rw [if_neg (by omega), if_pos hb]⟩
/-- the cone of the new gate has that of its part a in it, and more -/
theorem more_cone (h : c.chk = 0) (h' : (c.more a b).chk = 0) (h0 : 0 ≤ a) (h2 : a / 2 ≤ c.sz) :
    List.Sublist ((c.more a b).cL a) ((c.more a b).cL (2 * (c.sz + 1))) ∧ ((c.more a b).cL a).length < ((c.more a b).cL (2 * (c.sz + 1))).length ∧ (c.more a b).cE a = 0 ∧ (c.more a b).cE (2 * (c.sz + 1)) = 0 := by
  have hz := chk_zero h
  have hsz : 0 ≤ c.sz := by have : c.sz = c.i + c.nl + c.na := rfl; omega
  have e : (c.more a b).sz = c.sz + 1 := more_sz
  obtain ⟨l1, E1⟩ := cL_eq (l := a) h' h0 (by rw [e]; omega)
  obtain ⟨l2, E2⟩ := cL_eq (l := 2 * (c.sz + 1)) h' (by omega) (by rw [e]; omega)
  have er : (2 * (c.sz + 1) / 2).toNat = (c.more a b).fg + c.na := by
    have : c.sz = c.i + c.nl + c.na := rfl
    show _ = 1 + c.i.toNat + c.nl + c.na
    omega
  have eg : (c.more a b).ga c.na = a := if_pos rfl
  have sub : ∀ v, (c.more a b).rch a v = true → (c.more a b).rch (2 * (c.sz + 1)) v = true := fun v hv => by
    have k := (rch_iff h' a v).1 hv
    refine (rch_iff h' _ v).2 ?_
    have hl := Rc.left (c := c.more a b) (r := (2 * (c.sz + 1) / 2).toNat) (j := c.na) (Nat.lt_succ_self _) (er ▸ .base)
    rw [eg] at hl
    exact hl.trans k
  have eq : (c.more a b).sz.toNat + 1 = c.sz.toNat + 1 + 1 := by rw [e]; omega
  rw [l1, l2, E1, E2, eq]
  have hq : (c.more a b).rch (2 * (c.sz + 1)) (c.sz.toNat + 1) = true := by
    refine (rch_iff h' _ _).2 ?_
    have : c.sz.toNat + 1 = (2 * (c.sz + 1) / 2).toNat := by omega
    rw [this]
    exact .base
  have hq' : (c.more a b).rch a (c.sz.toNat + 1) = false := by
    cases hh : (c.more a b).rch a (c.sz.toNat + 1)
    · rfl
    · have := ((rch_iff h' a _).1 hh).le h'
      omega
  have hs := cnL_sub sub (c.sz.toNat + 1)
  rw [cnL_yes ⟨by omega, hq⟩, cnL_no (fun hh => by rw [hq'] at hh; cases hh.2)]
  exact ⟨hs.trans (List.sublist_append_left _ _), by have := hs.length_le; simp; omega, rfl, rfl⟩
theorem more_sm (hs : Sm c) (hn : c.na ≤ 900) (ha : I64 a) (hb : I64 b) : Sm (c.more a b) :=
  ⟨hs.i, hs.nl, by show c.na + 1 ≤ 1000; omega, hs.nb, hs.nc, hs.nx, hs.rs, fun j => by show I64 (if j = c.na then a else c.ga j); split; exact ha; exact hs.ga j, fun j => by show I64 (if j = c.na then b else c.gb j); split; exact hb; exact hs.gb j, hs.bd, hs.cn⟩

end Cr

theorem pairL_congr {f f' g g' : Nat → Int} : ∀ n, (∀ j, j < n → f j = f' j ∧ g j = g' j) → pairL f g n = pairL f' g' n
  | 0, _ => rfl
  | n + 1, h => by rw [pairL, pairL, pairL_congr n (fun j hj => h j (by omega)), (h n (by omega)).1, (h n (by omega)).2]
theorem pairL_more (c : Cr) (a b : Int) : pairL (c.more a b).ga (c.more a b).gb (c.na + 1) = pairL c.ga c.gb c.na ++ [.int .i64 a, .int .i64 b] := by
  rw [pairL, pairL_congr (f := (c.more a b).ga) (g := (c.more a b).gb) (f' := c.ga) (g' := c.gb) c.na (fun j hj => ⟨if_neg (by omega), if_neg (by omega)⟩)]
  have e1 : (c.more a b).ga c.na = a := if_pos rfl
  have e2 : (c.more a b).gb c.na = b := if_pos rfl
  rw [e1, e2]

theorem hat_of {g g' H H' : Nat} (h : some g = some g' ∨ some g = some H) (hH : H = H') : g = g' ∨ g = H' := by
  rcases h with h | h <;> cases h
  · exact Or.inl rfl
  · exact Or.inr hH

end Go.Proofs.YtecmldnigohjfabDoor
