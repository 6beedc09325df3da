/- The library's slices.Backward over a list of gates: its iterator's contract; what a variable's reach is. -/
import Derived.Test.YtoocghecmpnjeaaGatesDep
import Derived.RangeFuncNested
import Derived.RangeFuncBound
import Derived.RangeFuncCalls
import Derived.RangeFuncLeaves
import Derived.Shelf.Abstract
import Derived.Shelf.RegionOpen
import Derived.OwnWalkIn
import Derived.TacticsInMore
import Derived.LoopNIn
import Derived.LoopIn
namespace Go.Proofs.Ytoocghecmpnjeaa
open Go.RowKit Go.Shelf
set_option linter.unusedVariables false
attribute [local go_sem] Oper.semAt_some

/-- the indices that have come when k rounds from the end are over -/
def dn (m : Nat) (hm : 0 < m) (k : Nat) : List { j : Nat // j < m } := (List.range k).map fun t => ⟨m - 1 - t, by omega⟩
theorem dn_succ (m : Nat) (hm : 0 < m) (k : Nat) : dn m hm (k + 1) = dn m hm k ++ [⟨m - 1 - k, by omega⟩] := by simp [dn, List.range_succ]
theorem dn_len (m : Nat) (hm : 0 < m) (k : Nat) : (dn m hm k).length = k := by simp [dn]

/-- nothing below block n has turned, nor has the block b -/
def KB (n b : Nat) (W W' : World) : Prop := Below n W W' ∧ W'.heap[b]? = W.heap[b]?
theorem KB.refl (n b : Nat) (W : World) : KB n b W W := ⟨Below.refl _ _, rfl⟩
theorem KB.trans {n b : Nat} {A B C : World} (h : KB n b A B) (k : KB n b B C) : KB n b A C := ⟨h.1.trans k.1, k.2.trans h.2⟩
theorem KB.put {n b : Nat} {w : World} (hn : n ≤ w.heap.size) (hb : b < w.heap.size) : ∀ (W : World) (l : Nat) (o o' : Obj), w.heap.size ≤ l → W.heap[l]? = some o → o.isCells = false → o.isWalk = false → KB n b W (W.putObj l o') := fun W l o o' hl ho hc hw =>
  ⟨belowK_b (w := w) hn W l o o' hl ho hc hw, World.putObj_heap_other (by omega)⟩

set_option maxRecDepth 100000 in
set_option maxHeartbeats 2000000 in
theorem back1_in (n : Nat) (hn : 1 ≤ n) (l Bs n₀ m k : Nat) (hm : 0 < m) (hm2 : m ≤ 1000) (ad : Addr) (f g : Nat → Int) (hb : ad.block < n₀) (J Jx : List { j : Nat // j < m } → World → Prop)
    (hY : ∀ pre x W, J pre W → pre.length < m → YieldAt Fence.wide (n - 1) Try.prog l #[.int .i64 (x.1 : Int), .agg #[.int .i64 (f x.1), .int .i64 (g x.1)]] W fun e W' =>
      (e = .returned (.bool true) ∧ J (pre ++ [x]) W' ∧ KB n₀ Bs W W') ∨ (e = .returned (.bool false) ∧ Jx (pre ++ [x]) W'))
    (W : World) (hBs : W.cell? ⟨Bs, 0, none⟩ = some (.slice (some ad) m k)) (hc : ∀ j, j < m → W.cell? (ad.add (j * 2)) = some (.int .i64 (f j)) ∧ W.cell? ⟨(ad.add (j * 2)).block, (ad.add (j * 2)).off + 1, none⟩ = some (.int .i64 (g j))) (h0 : J [] W) :
    CallsIn Fence.wide n Try.prog 103 #[.func (.yield l) #[] #[], .pointer (some ⟨Bs, 0, none⟩)] W fun e W' => (∃ v, e = .returned v) ∧
      ((∃ ys, ys = dn m hm m ∧ J ys W') ∨ (∃ pre, True ∧ Jx pre W')) := by
  refine callsIn_of_wp Try.func103 rfl trivial ?_ rfl
  simp only [Try.ntmps103, List.size_toArray, List.length_cons, List.length_nil, Nat.reduceAdd, Nat.reduceSub, Array.replicate_succ, Array.replicate_zero, List.push_toArray, List.append_toArray, List.nil_append, List.cons_append]
  gi_wp2
  gi_loopw [3] (fun i wr => ∃ q : Nat, q ≤ m ∧ i = .int .i64 ((m : Int) - 1 - q) ∧ J (dn m hm q) wr ∧ KB n₀ Bs W wr)
    (fun i _ => (intOf i + 1).toNat)
  case atStart => exact ⟨0, Nat.zero_le _, by simp, h0, KB.refl _ _ _⟩
  case round =>
    obtain ⟨q, hq, rfl, hJs, hnx⟩ := hrel
    have x0 : wr.cell? ⟨Bs, 0, none⟩ = _ := (World.cell?_of_block (w := W) hnx.2).trans hBs
    by_cases hlt : q < m
    · obtain ⟨y0, y1⟩ := hc (m - 1 - q) (by omega)
      have y0 := (hnx.1.cell (p := ad.add ((m - 1 - q) * 2)) (by rw [add_block]; exact hb)).trans y0
      have y1 := (hnx.1.cell (p := ⟨(ad.add ((m - 1 - q) * 2)).block, (ad.add ((m - 1 - q) * 2)).off + 1, none⟩) (by simp only [add_block]; exact hb)).trans y1
      obtain ⟨fn, tmps, assign, body, hy, hR⟩ := hY _ ⟨m - 1 - q, by omega⟩ wr hJs (by rw [dn_len]; exact hlt)
      have e1 : (((m : Int) - 1 - q).toNat) = m - 1 - q := by omega
      have e2 : ((m - 1 - q : Nat) : Int) = (m : Int) - 1 - q := by omega
      dsimp only at hy
      rw [e2] at hy
      have E2 := Lib.hid e2
      clear e2
      gi_wp2
      refine hR.mono ?_
      rintro e W3 (⟨rfl, hJ3, hk3⟩ | ⟨rfl, hJx3⟩)
      · gi_wp2
        go_roundw
        case rel => exact ⟨q + 1, by omega, by congr 1; omega, by rw [dn_succ]; exact hJ3, hnx.trans hk3⟩
        case measure => simp [intOf]; omega
      · gi_wp2
        refine bodyPost_ret (results_none rfl _ _ _) rfl ?_
        exact ⟨⟨_, rfl⟩, .inr ⟨_, trivial, hJx3⟩⟩
    · obtain rfl : q = m := by omega
      have e3 : ((q : Int) - 1 - q) = -1 := by omega
      rw [e3]
      clear e3
      gi_wp2
      go_end0
      exact ⟨⟨_, rfl⟩, .inl ⟨_, rfl, hJs⟩⟩

set_option maxRecDepth 100000 in
set_option maxHeartbeats 2000000 in
theorem back0_in (n : Nat) (l Bs k : Nat) (A : Option Addr) {α : Type} (J : List α → World → Prop) (W : World) (hBs : W.cell? ⟨Bs, 0, none⟩ = some (.slice A 0 k)) (h0 : J [] W) :
    CallsIn Fence.wide n Try.prog 103 #[.func (.yield l) #[] #[], .pointer (some ⟨Bs, 0, none⟩)] W fun e W' => (∃ v, e = .returned v) ∧ J [] W' := by
  refine callsIn_of_wp Try.func103 rfl trivial ?_ rfl
  simp only [Try.ntmps103, List.size_toArray, List.length_cons, List.length_nil, Nat.reduceAdd, Nat.reduceSub, Array.replicate_succ, Array.replicate_zero, List.push_toArray, List.append_toArray, List.nil_append, List.cons_append]
  gi_wp2
  gi_loopw [3] (fun i wr => i = .int .i64 (-1) ∧ J [] wr) (fun _ _ => 0)
  case atStart => exact ⟨rfl, h0⟩
  case round =>
    obtain ⟨rfl, hJs⟩ := hrel
    gi_wp2
    go_end0
    exact ⟨⟨_, rfl⟩, hJs⟩

/-- the indices of a list from its end -/
def down (m : Nat) : List Nat := (List.range m).map fun t => m - 1 - t

/-- slices.Backward's value: all gates, from the last one on -/
theorem back_stops (n : Nat) (hn : 1 ≤ n) (Bs n₀ m k : Nat) (hm2 : m ≤ 1000) (A : Option Addr) (f g : Nat → Int) (w : World) (hBs : Bs < w.heap.size) (hn₀ : n₀ ≤ w.heap.size) (hc : w.cell? ⟨Bs, 0, none⟩ = some (.slice A m k)) (hI : PairsAt w n₀ A m f g) :
    SeqStopsK Fence.wide n Try.prog 103 #[.pointer (some ⟨Bs, 0, none⟩)] (fun x : { j : Nat // j < m } => #[Value.int .i64 (x.1 : Int), Value.agg #[.int .i64 (f x.1), .int .i64 (g x.1)]]) (KB n₀ Bs) (fun ys => ys.map (·.1) = down m) (fun _ => True) m w := fun l J Jx W hW _ _ hY h0 => by
  have hc' := (hW.cell (p := ⟨Bs, 0, none⟩) hBs).trans hc
  rcases Nat.eq_zero_or_pos m with rfl | hm
  · exact (back0_in n l Bs k A J W hc' h0).mono fun e W' ⟨he, hj⟩ => ⟨he, .inl ⟨[], rfl, hj⟩⟩
  · obtain ⟨ad, rfl, hb, hcs⟩ := (hI.keep (hW.mono hn₀)) hm
    refine (back1_in n hn l Bs n₀ m k hm hm2 ad f g hb J Jx hY W hc' hcs h0).mono ?_
    rintro e W' ⟨he, ⟨ys, rfl, hj⟩ | ⟨pre, _, hj⟩⟩
    · exact ⟨he, .inl ⟨_, by simp [dn, down], hj⟩⟩
    · exact ⟨he, .inr ⟨_, trivial, hj⟩⟩

set_option maxHeartbeats 1000000 in
theorem back_any (a : Option Addr) (len cap : Nat) (w : World) :
    Calls Try.prog 82 #[.slice a len cap] w fun e w' => e = .returned (.func (.func 103) #[] #[.pointer (some ⟨w.heap.size, 0, none⟩)]) ∧ w.alloc (.cells #[.slice a len cap] 23) = w' := by
  go_enter Try.func82, Try.ntmps82
  go_wp2
  go_ret
  exact ⟨rfl, rfl⟩

/-- what a block of cells holds abides the turns of blocks that are no cells -/
theorem kept_block {W W' : World} {row : Option Nat} {b : Nat} {cs : Array Value} {t : TypeId} {fr : Nat × Nat} (h : W.heap[b]? = some (.cells cs t fr)) (hg : W.grownBy W' row) (hr : ∀ r, row = some r → ∃ o : Obj, W.heap[r]? = some o ∧ o.isCells = false) : W'.heap[b]? = W.heap[b]? :=
  hg.block b (Array.getElem?_eq_some_iff.1 h).1 fun e => by
    obtain ⟨o, ho, hc⟩ := hr b e.symm
    rw [h] at ho
    cases ho
    cases hc
theorem has_own {β : Type} (b : Nat) (t : TypeId) (cs : Array Value) : Own (fun (_ : β) W => Has W b t cs) := fun s X Y row hs hg hr => (kept_block hs hg hr).trans hs
theorem row_own {β : Type} (b : Nat) (t : TypeId) (n : Nat) (f : β → Nat → Value) : Own (fun s W => W.rowIs b t n (f s)) := fun s X Y row hs hg hr => by
  obtain ⟨c, hc, _⟩ := id hs
  exact hs.of_block (kept_block hc hg hr)
theorem keepsFrom_below {B : Nat} {W W' : World} (h : Below W.heap.size W W') : KeepsFrom B W W' := ⟨h.size, fun k o _ hk _ => (h.block k (Array.getElem?_eq_some_iff.1 hk).1).trans hk⟩

namespace Cr
/-- a gate that has been reached reaches its parts -/
def stp (c : Cr) (R : Nat → Bool) (j : Nat) : Nat → Bool := if R (c.fg + j) = true then fun v => v == (c.gb j / 2).toNat || (v == (c.ga j / 2).toNat || R v) else R
def fld (c : Cr) (R : Nat → Bool) (js : List Nat) : Nat → Bool := js.foldl c.stp R
theorem fld_snoc (c : Cr) (R : Nat → Bool) (js : List Nat) (j : Nat) : c.fld R (js ++ [j]) = c.stp (c.fld R js) j := by simp [fld]
/-- what a literal reaches -/
def rch (c : Cr) (l : Int) : Nat → Bool := c.fld (fun v => v == (l / 2).toNat) (down c.na)
/-- the variables up to k, other than 0, that are reached -/
def cnL (R : Nat → Bool) : Nat → List Int
  | 0 => []
  | k + 1 => cnL R k ++ if 0 < k ∧ R k = true then [(k : Int)] else []
end Cr

/-- what the function reach does: it marks the literal's variable in the array, and nothing else -/
def Marks (b : Nat) (l : Int) (R : Nat → Bool) (w : World) (e : Ending) (w' : World) : Prop :=
  (∃ v, e = .returned v) ∧ w'.rowIs b 54 1001 (fun v => .bool (v == (l / 2).toNat || R v)) ∧ (∀ g, g ≠ b → w'.heap[g]? = w.heap[g]?) ∧ w'.heap.size = w.heap.size ∧ Below b w w'
theorem gReach_any (l : Int) (b : Nat) (R : Nat → Bool) (w : World) (h0 : 0 ≤ l) (h1 : l ≤ 2001) (hR : w.rowIs b 54 1001 (fun v => .bool (R v))) :
    Calls Try.prog 80 #[.int .i64 l, .pointer (some ⟨b, 0, none⟩)] w (Marks b l R w) := by
  have n1 : (l / 2).toNat < 1001 := by omega
  have n2 : 0 ≤ l / 2 := by omega
  have n3 : l / 2 < 1001 := by omega
  have x := hR.cell n1
  have y := hR.frozen (l / 2).toNat
  go_enter Try.func80, Try.ntmps80
  go_wp2_with (go_at_call 81; refine (varOf_any _ _ h0 h1).mono ?_; rintro e w1 ⟨rfl, rfl⟩)
  go_end0
  refine ⟨⟨_, rfl⟩, (hR.set _ _).congr fun j hj => ?_, fun g hg => Below.heap_setCell _ _ _ _ hg, by simp [World.setCell], (Below.refl b w).setCell (p := ⟨b, (l / 2).toNat, none⟩) (Nat.le_refl b) _⟩
  by_cases e : j = (l / 2).toNat
  · rw [if_pos e]; simp [e]
  · rw [if_neg e]; simp [e]
