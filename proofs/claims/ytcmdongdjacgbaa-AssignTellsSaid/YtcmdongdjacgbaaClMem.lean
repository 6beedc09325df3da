/- Lists of ints in memory, and what a call owns of them. -/
import Derived.Test.YtcmdongdjacgbaaClMath
import Derived.Test.YtcmdongdjacgbaaGatesFrame
import Derived.Test.YtcmdongdjacgbaaHeadTail
import Derived.Test.YtcmdongdjacgbaaOrderConcat
import Derived.Test.YtcmdongdjacgbaaShelf
import Derived.Lib.OwnBridge
namespace Go.Proofs.Ytcmdongdjacgbaa
open Go.RowKit Go.ChangeShapes Go.WideShapes Go.ChangeAt
set_option linter.unusedVariables false
set_option linter.unusedSimpArgs false

/-- the cells of a list -/
def iC (l : List Int) : List Value := l.map (Value.int .i64)
theorem iC_len (l : List Int) : (iC l).length = l.length * 1 := by simp [iC]
theorem iC_app (l m : List Int) : iC (l ++ m) = iC l ++ iC m := by simp [iC]
theorem iC_one (l : List Int) : ∀ u ∈ iC l, u.oneCell' = true := fun u h => by
  simp only [iC, List.mem_map] at h
  obtain ⟨b, _, rfl⟩ := h
  rfl
theorem iC_at (l : List Int) (j : Nat) (hj : j < l.length) : (iC l)[j]? = some (.int .i64 (l.getD j 0)) := by
  rw [getD_at hj]; simp [iC, hj]
/-- a list, as a call has it -/
structure Ia (w : World) (B : Nat) (A : Option Addr) (l : List Int) (k : Nat) : Prop where
  h : IntsAt w B A l.length (fun j => l.getD j 0)
  n : A = none → l = [] ∧ k = 0
  c : l.length ≤ k
section
variable {w w' W : World} {B B' k : Nat} {A : Option Addr} {l : List Int}
theorem Ia.keep (h : Ia w B A l k) (hb : Below B w w') : Ia w' B A l k := ⟨h.h.keep hb, h.n, h.c⟩
theorem Ia.more (h : Ia w B A l k) (hb : B ≤ B') : Ia w B' A l k := ⟨h.h.more hb, h.n, h.c⟩
theorem Ia.to (h : Ia w B A l k) (hb : Below B w W) (hB : B ≤ W.heap.size) : Ia W W.heap.size A l k := (h.keep hb).more hB
theorem Ia.on (h : Ia w w.heap.size A l k) (hb : Below w.heap.size w W) : Ia W W.heap.size A l k := h.to hb hb.size
theorem Ia.nil (w : World) (B : Nat) : Ia w B none [] 0 := ⟨fun h => absurd h (Nat.lt_irrefl 0), fun _ => ⟨rfl, rfl⟩, Nat.le_refl _⟩
theorem Ia.nn (h : Ia w B A l k) : A = none → l.length = 0 ∧ k = 0 := fun e => by obtain ⟨rfl, rfl⟩ := h.n e; exact ⟨rfl, rfl⟩
theorem add_spot {a : Addr} {v : Value} (h : w.cell? (a.add 0) = some v) (j : Nat) : a.add j = ⟨a.block, a.off + j, none⟩ := by
  have e : a.spot = none := by
    unfold World.cell? at h
    rw [show a.add 0 = a from rfl] at h
    split at h
    · split at h
      · cases h
      · next hs => simpa using hs
    · cases h
  unfold Addr.add
  split
  · next h0 => subst h0; cases a; simp only at e; subst e; rfl
  · rfl
/-- its cells, by block and place -/
theorem Ia.cells (h : Ia w B A l k) (hl : 0 < l.length) : ∃ b o, A = some ⟨b, o, none⟩ ∧ b < B ∧ ∀ j, j < l.length → w.cell? ⟨b, o + j, none⟩ = some (.int .i64 (l.getD j 0)) := by
  obtain ⟨a, e, hb, hc⟩ := h.h hl
  refine ⟨a.block, a.off, ?_, hb, fun j hj => ?_⟩
  · rw [e]; have := add_spot (hc 0 hl) 0; rw [show a.add 0 = a from rfl] at this; rw [this]
  · rw [← add_spot (hc 0 hl) j]; exact hc j hj
theorem intL_iC (l : List Int) (f : Nat → Int) : ∀ (m : Nat), m ≤ l.length → (∀ j, j < m → f j = l.getD j 0) → intL f m = iC (l.take m) := by
  intro m hm hf
  refine List.ext_getElem? fun j => ?_
  rcases Nat.lt_or_ge j m with hj | hj
  · rw [intL_at f m j hj, iC_at _ j (by rw [List.length_take]; omega), hf j hj, getD_at (show j < l.length by omega), getD_at (show j < (l.take m).length by rw [List.length_take]; omega)]
    simp
  · rw [List.getElem?_eq_none (by rw [intL_len]; omega), List.getElem?_eq_none (by rw [iC_len, List.length_take]; omega)]
theorem intL_all (l : List Int) : intL (fun j => l.getD j 0) l.length = iC l := by
  have := intL_iC l (fun j => l.getD j 0) l.length (Nat.le_refl _) (fun _ _ => rfl)
  rwa [List.take_length] at this
theorem Ia.src (h : Ia w B A l k) : Src w A l.length k (iC l) := by
  rw [← intL_all]; exact h.h.src h.nn
end
/-- what a call owns -/
def Io (B : Nat) (w : World) (v : Value) (l : List Int) : Prop := w.ownsRow B 3 1 v l.length (iC l)
section
variable {B B' : Nat} {w w' : World} {v : Value} {l : List Int}
theorem Io.nil (B : Nat) (w : World) : Io B w (.slice none 0 0) [] := World.ownsRow_nil _ _ _ _
theorem Io.mk {n : Nat} {xs : List Value} (h : w.ownsRow B 3 1 v n xs) (hn : n = l.length) (hx : xs = iC l) : Io B w v l := by subst hn hx; exact h
theorem Io.base (h : Io B w v l) (hb : B' ≤ B) : Io B' w v l := by
  refine ⟨h.1, ?_⟩
  rcases h.2 with h | ⟨g, cap, cur, hv, hg, r⟩
  · exact Or.inl h
  · exact Or.inr ⟨g, cap, cur, hv, Nat.le_trans hb hg, r⟩
theorem Io.keep (h : Io B w v l) (hb : Below w.heap.size w w') : Io B w' v l := by
  refine ⟨h.1, h.2.imp id fun ⟨g, cap, cur, h1, h2, h3, h4⟩ => ⟨g, cap, cur, h1, h2, ?_, h4⟩⟩
  exact (hb.block g (Has.lt (t := 3) (cs := cur) h3)).trans h3
/-- what a call owns, as a list that it has -/
theorem Io.at (h : Io B w v l) : ∃ A k, v = .slice A l.length k ∧ Ia w w.heap.size A l k := by
  rcases h.2 with ⟨rfl, hn⟩ | ⟨g, cap, cur, rfl, hg, hh, hk, r⟩
  · have e : l = [] := List.eq_nil_of_length_eq_zero hn
    subst e
    exact ⟨none, 0, rfl, Ia.nil _ _⟩
  · refine ⟨_, cap, rfl, fun hn => ⟨_, rfl, Has.lt (t := 3) (cs := cur) hh, fun j hj => ?_⟩, fun h => (by cases h), hk⟩
    exact World.ownsRow.cells h (g := g) rfl _ _ (iC_at l j hj)
theorem Io.blk (h : Io B w v l) : ∀ k, v.ownBlock = some k → B ≤ k := fun k hk => (World.ownsRow.lt h k hk).1
end
/-- what a function that makes a list returns: the list and what comes behind it -/
def LsIs (l : List Int) (r : List Value) (w : World) (e : Ending) (w' : World) : Prop := ∃ A k, e = .returned (.tuple (#[.slice A l.length k] ++ r.toArray)) ∧ Ia w' w'.heap.size A l k ∧ Below w.heap.size w w'
def Ls1 (l : List Int) (w : World) (e : Ending) (w' : World) : Prop := ∃ A k, e = .returned (.slice A l.length k) ∧ Ia w' w'.heap.size A l k ∧ Below w.heap.size w w'

section
variable {H : Type} {enc : TypeId × Value → H} {W : World} {base : Nat} {held : Bool}
set_option maxRecDepth 100000 in
/-- a list of ints, as it comes in -/
theorem open_is {v : Value} {d : DataW H} {ps : List MemPlace} {r : Reach} {b0 : Nat} (hv : Value.okWide Try.prog W r b0 22 v) (h : DataW.Trod enc Try.prog W base (fun _ => true) held 22 v d ps) :
    ∃ A l k, v = .slice A (List.length (α := Int) l) k ∧ Ia W W.heap.size A l k ∧ k ≤ maxLen ∧ ∀ x ∈ l, I64 x := by
  obtain ⟨a0, n0, k0, rfl⟩ := okWide_slice Try.underlying22 hv
  obtain ⟨fuel, hf⟩ := h
  rcases ChangeShapes.open_ints Try.underlying22 Try.underlying3 (by kernel_rfl) hf with ⟨hv, _⟩ | ⟨a, len, cap, zs, hv, _, hl, hml, hzl, _, hc, hw⟩
  · have hv' : [Value.slice a0 n0 k0] = [.slice none 0 0] := hv
    injection hv' with hv'
    exact ⟨none, [], 0, hv', Ia.nil _ _, Nat.zero_le _, fun x hx => by cases hx⟩
  · have hv' : [Value.slice a0 n0 k0] = [.slice (some a) len cap] := hv
    injection hv' with hv'
    have hz : zs.length = cap := hzl.trans (if_pos rfl)
    have hL : (zs.take len).length = len := by rw [List.length_take]; omega
    refine ⟨some a, zs.take len, cap, by rw [hL]; exact hv', ⟨?_, (fun h => by cases h), by rw [hL]; exact hl⟩, hml, fun x hx => i64_of (hw x (List.mem_of_mem_take hx))⟩
    rw [hL]
    intro hn
    refine ⟨a, rfl, ?_, fun j hj => ?_⟩
    · have := cell_lt (hc 0 (by omega))
      rwa [add_block] at this
    · rw [hc j (by omega)]
      show some (Value.int .i64 (zs.getD j 0)) = some (Value.int .i64 ((zs.take len).getD j 0))
      rw [List.getD_eq_getElem?_getD, List.getD_eq_getElem?_getD, List.getElem?_take, if_pos hj]
end

end Go.Proofs.Ytcmdongdjacgbaa
