/- The reference of layer 4: its check, the frame, All. -/
import Derived.Test.YtpobkemgbbgolaaValuesOf
import Derived.Test.YtpobkemgbbgolaaGatesDep
namespace Go.Proofs.Ytpobkemgbbgolaa
open Go.RowKit
set_option linter.unusedVariables false
set_option linter.unusedSimpArgs false

namespace Cr
/-- the error of a circuit, a state and inputs -/
def ask (c : Cr) (ns ni : Nat) : Int := if c.chk ≠ 0 then c.chk else if ns ≠ c.nl ∨ (ni : Int) ≠ c.i then 2 else 0
theorem ask_bad {c : Cr} {ns ni : Nat} (h : c.chk ≠ 0) : c.ask ns ni = c.chk := if_pos h
theorem ask_arg {c : Cr} {ns ni : Nat} (h : c.chk = 0) (h1 : ns ≠ c.nl ∨ (ni : Int) ≠ c.i) : c.ask ns ni = 2 := by unfold ask; rw [if_neg (by omega), if_pos h1]
theorem ask_ok {c : Cr} {ns ni : Nat} (h : c.chk = 0) (h1 : ns = c.nl) (h2 : (ni : Int) = c.i) : c.ask ns ni = 0 := by unfold ask; rw [if_neg (by omega), if_neg (by omega)]
theorem ask_zero {c : Cr} {ns ni : Nat} (h : c.ask ns ni = 0) : c.chk = 0 ∧ ns = c.nl ∧ (ni : Int) = c.i := by
  unfold ask at h
  split at h
  · omega
  · split at h
    · omega
    · omega
/-- the three ways of it -/
theorem ask_ways (c : Cr) (ns ni : Nat) : (c.chk ≠ 0 ∧ c.ask ns ni = c.chk) ∨ (c.chk = 0 ∧ ns ≠ c.nl ∧ c.ask ns ni = 2) ∨ (c.chk = 0 ∧ ns = c.nl ∧ (ni : Int) ≠ c.i ∧ c.ask ns ni = 2) ∨ (c.chk = 0 ∧ ns = c.nl ∧ (ni : Int) = c.i ∧ c.ask ns ni = 0) := by
  by_cases h : c.chk = 0
  · by_cases h1 : ns = c.nl
    · by_cases h2 : (ni : Int) = c.i
      · exact Or.inr (Or.inr (Or.inr ⟨h, h1, h2, ask_ok h h1 h2⟩))
      · exact Or.inr (Or.inr (Or.inl ⟨h, h1, h2, ask_arg h (Or.inr h2)⟩))
    · exact Or.inr (Or.inl ⟨h, h1, ask_arg h (Or.inl h1)⟩)
  · exact Or.inl ⟨h, ask_bad h⟩
theorem frA_first {c : Cr} {s t : Nat → Bool} {ni ns : Nat} (hi : (ni : Int) = c.i) (hs : ns = c.nl) : [Value.bool false] ++ bL t ni ++ bL s ns = bL (c.frA s t 0) (c.fg + 0) := by
  have e1 : [Value.bool false] = bL (fun _ => false) 1 := rfl
  have e2 : c.fg + 0 = 1 + ni + ns := by unfold fg; omega
  rw [e1, bL_app, bL_app, e2]
  refine bL_congr _ fun j hj => ?_
  have e3 : c.i.toNat = ni := by omega
  unfold frA
  rw [e3]
  by_cases h0 : j = 0
  · subst h0; simp
  · rw [if_neg h0]
    by_cases h1 : j < 1 + ni
    · rw [if_pos h1, if_pos h1, if_neg (by omega)]
    · rw [if_neg h1, if_neg h1, if_pos (by unfold fg; omega)]
theorem frA_next (c : Cr) (s t : Nat → Bool) (q : Nat) : bL (c.frA s t (q + 1)) (c.fg + (q + 1)) = bL (c.frA s t q) (c.fg + q) ++ [.bool (vlo (c.frA s t q) (c.ga q) && vlo (c.frA s t q) (c.gb q))] := by
  rw [← Nat.add_assoc, bL]
  congr 1
  · exact bL_congr _ fun j hj => by rw [frA_succ]; exact if_neg (by omega)
  · rw [frA_succ]; simp
end Cr

/-- a list of truth values in memory of the call's own -/
def BoolsIs (n : Nat) (f : Nat → Bool) (w : World) (e : Ending) (w' : World) : Prop :=
  ∃ v, e = .returned v ∧ w'.ownsRow w.heap.size 4 1 v n (bL f n) ∧ Below w.heap.size w w'
/-- a list of truth values somewhere -/
def BoolsAt (n : Nat) (f : Nat → Bool) (w : World) (e : Ending) (w' : World) : Prop :=
  ∃ A k, e = .returned (.slice A n k) ∧ BlsAt w' w'.heap.size A n f ∧ Below w.heap.size w w'
theorem BoolsIs.at {n : Nat} {f : Nat → Bool} {w w' : World} {e : Ending} (h : BoolsIs n f w e w') : BoolsAt n f w e w' := by
  obtain ⟨v, rfl, ho, hb⟩ := h
  obtain ⟨A, k, rfl, hi, _⟩ := own_bools ho
  exact ⟨A, k, rfl, hi, hb⟩
/-- the same with an error behind it -/
def BoolsErr (n : Nat) (f : Nat → Bool) (x : Int) (w : World) (e : Ending) (w' : World) : Prop :=
  ∃ A k, e = .returned (.tuple #[.slice A n k, .int .i64 x]) ∧ BlsAt w' w'.heap.size A n f ∧ Below w.heap.size w w'
/-- the same, in memory that was not there before -/
def BoolsNew (n : Nat) (f : Nat → Bool) (x : Int) (w : World) (e : Ending) (w' : World) : Prop :=
  ∃ A k, e = .returned (.tuple #[.slice A n k, .int .i64 x]) ∧ BlsAt w' w'.heap.size A n f ∧ Below w.heap.size w w' ∧ (A = none → n = 0 ∧ k = 0) ∧ ∀ a, A = some a → w.heap.size ≤ a.block
theorem BoolsNew.err {n : Nat} {f : Nat → Bool} {x : Int} {w w' : World} {e : Ending} (h : BoolsNew n f x w e w') : BoolsErr n f x w e w' := by
  obtain ⟨A, k, he, hi, hb, _⟩ := h
  exact ⟨A, k, he, hi, hb⟩
/-- a list of truth values in memory that was not there before -/
def BoolsIn (n : Nat) (f : Nat → Bool) (w : World) (e : Ending) (w' : World) : Prop :=
  ∃ A k, e = .returned (.slice A n k) ∧ BlsAt w' w'.heap.size A n f ∧ Below w.heap.size w w' ∧ (A = none → n = 0 ∧ k = 0) ∧ ∀ a, A = some a → w.heap.size ≤ a.block
theorem BoolsIn.at {n : Nat} {f : Nat → Bool} {w w' : World} {e : Ending} (h : BoolsIn n f w e w') : BoolsAt n f w e w' := by
  obtain ⟨A, k, he, hi, hb, _⟩ := h
  exact ⟨A, k, he, hi, hb⟩
theorem own_new1 (W : World) (x : Value) (t : TypeId) (base : Nat) (h : base ≤ W.heap.size) : (W.alloc (.cells #[x] t)).ownsRow base t 1 (.slice (some ⟨W.heap.size, 0, none⟩) 1 1) 1 [x] :=
  ⟨by simp, Or.inr ⟨W.heap.size, 1, #[x], rfl, h, heap_alloc_new W _, Nat.le_refl _, by simp [maxLen], by simp, by simp⟩⟩