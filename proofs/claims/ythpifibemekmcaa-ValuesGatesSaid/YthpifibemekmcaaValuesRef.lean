/- The reference of layer 4: its check, the frame, All. -/
import Derived.Test.YthpifibemekmcaaValuesOf
import Derived.Test.YthpifibemekmcaaGatesDep
namespace Go.Proofs.Ythpifibemekmcaa
open Go.RowKit
set_option linter.unusedVariables false
set_option linter.unusedSimpArgs false

namespace Cr
/-- the error of a circuit, a state and inputs -/
def ask (c : Cr) (ns ni : Nat) : Int := if c.chk ≠ 0 then c.chk else if ns ≠ c.nl ∨ (ni : Int) ≠ c.i then 2 else 0
theorem ask_bad {c : Cr} {ns ni : Nat} (h : c.chk ≠ 0) : c.ask ns ni = c.chk := if_pos h
theorem ask_arg {c : Cr} {ns ni : Nat} (h : c.chk = 0) (h1 : ns ≠ c.nl ∨ (ni : Int) ≠ c.i) : c.ask ns ni = 2 := by unfold ask; rw [if_neg (by omega), if_pos h1]
theorem ask_ok {c : Cr} {ns ni : Nat} (h : c.chk = 0) (h1 : ns = c.nl) (h2 : (ni : Int) = c.i) : c.ask ns ni = 0 := by unfold ask; rw [if_neg (by omega), if_neg (by omega)]
theorem ask_zero {c : Cr} {ns ni : Nat} (h : c.ask ns ni = 0) : c.chk = 0 ∧ ns = c.nl ∧ (ni : Int) = c.i := by
  unfold ask at h
  split at h
  · omega
  · split at h
    · omega
    · omega
/-- the three ways of it -/
theorem ask_ways (c : Cr) (ns ni : Nat) : (c.chk ≠ 0 ∧ c.ask ns ni = c.chk) ∨ (c.chk = 0 ∧ ns ≠ c.nl ∧ c.ask ns ni = 2) ∨ (c.chk = 0 ∧ ns = c.nl ∧ (ni : Int) ≠ c.i ∧ c.ask ns ni = 2) ∨ (c.chk = 0 ∧ ns = c.nl ∧ (ni : Int) = c.i ∧ c.ask ns ni = 0) := by
  by_cases h : c.chk = 0
  · by_cases h1 : ns = c.nl
    · by_cases h2 : (ni : Int) = c.i
      · exact Or.inr (Or.inr (Or.inr ⟨h, h1, h2, ask_ok h h1 h2⟩))
      · exact Or.inr (Or.inr (Or.inl ⟨h, h1, h2, ask_arg h (Or.inr h2)⟩))
    · exact Or.inr (Or.inl ⟨h, h1, ask_arg h (Or.inl h1)⟩)
  · exact Or.inl ⟨h, ask_bad h⟩
theorem frA_first {c : Cr} {s t : Nat → Bool} {ni ns : Nat} (hi : (ni : Int) = c.i) (hs : ns = c.nl) : [Value.bool false] ++ bL t ni ++ bL s ns = bL (c.frA s t 0) (c.fg + 0) := by
  have e1 : [Value.bool false] = bL (fun _ => false) 1 := rfl
  have e2 : c.fg + 0 = 1 + ni + ns := by unfold fg; omega
  rw [e1, bL_app, bL_app, e2]
  refine bL_congr _ fun j hj => ?_
  have e3 : c.i.toNat = ni := by omega
  unfold frA
  rw [e3]
  by_cases h0 : j = 0
  · subst h0; simp
  · rw [if_neg h0]
    by_cases h1 : j < 1 + ni
    · rw [if_pos h1, if_pos h1, if_neg (by omega)]
    · rw [if_neg h1, if_neg h1, if_pos (by unfold fg; omega)]
theorem frA_next (c : Cr) (s t : Nat → Bool) (q : Nat) : bL (c.frA s t (q + 1)) (c.fg + (q + 1)) = bL (c.frA s t q) (c.fg + q) ++ [.bool (vlo (c.frA s t q) (c.ga q) && vlo (c.frA s t q) (c.gb q))] := by
  rw [← Nat.add_assoc, bL]
  congr 1
  · exact bL_congr _ fun j hj => by rw [frA_succ]; exact if_neg (by omega)
  · rw [frA_succ]; simp
end Cr

/-- a list of truth values in memory of the call's own -/
def BoolsIs (n : Nat) (f : Nat → Bool) (w : World) (e : Ending) (w' : World) : Prop :=
  ∃ v, e = .returned v ∧ w'.ownsRow w.heap.size 4 1 v n (bL f n) ∧ Below w.heap.size w w'
/-- a list of truth values somewhere -/
def BoolsAt (n : Nat) (f : Nat → Bool) (w : World) (e : Ending) (w' : World) : Prop :=
  ∃ A k, e = .returned (.slice A n k) ∧ BlsAt w' w'.heap.size A n f ∧ Below w.heap.size w w'
theorem BoolsIs.at {n : Nat} {f : Nat → Bool} {w w' : World} {e : Ending} (h : BoolsIs n f w e w') : BoolsAt n f w e w' := by
  obtain ⟨v, rfl, ho, hb⟩ := h
  obtain ⟨A, k, rfl, hi, _⟩ := own_bools ho
  exact ⟨A, k, rfl, hi, hb⟩
/-- the same with an error behind it -/
def BoolsErr (n : Nat) (f : Nat → Bool) (x : Int) (w : World) (e : Ending) (w' : World) : Prop :=
  ∃ A k, e = .returned (.tuple #[.slice A n k, .int .i64 x]) ∧ BlsAt w' w'.heap.size A n f ∧ Below w.heap.size w w'
theorem own_new1 (W : World) (x : Value) (t : TypeId) (base : Nat) (h : base ≤ W.heap.size) : (W.alloc (.cells #[x] t)).ownsRow base t 1 (.slice (some ⟨W.heap.size, 0, none⟩) 1 1) 1 [x] :=
  ⟨by simp, Or.inr ⟨W.heap.size, 1, #[x], rfl, h, heap_alloc_new W _, Nat.le_refl _, by simp [maxLen], by simp, by simp⟩⟩

set_option maxRecDepth 100000 in
set_option maxHeartbeats 2000000 in
theorem rAsked_any (c : Cr) (p : Pl) (As At : Option Addr) (ns ks ni ki : Nat) (w : World) (hm : Mem w w.heap.size c p) (hs : Sm c) (h1 : ns ≤ 100000) (h2 : ni ≤ 100000) :
    Calls Try.prog 31 #[cv c p, .slice As ns ks, .slice At ni ki] w fun e w' => e = .returned (.int .i64 (c.ask ns ni)) ∧ Below w.heap.size w w' := by
  have hB0 : Below w.heap.size w w := Below.refl _ _
  have g1 := hs.nl
  have g5 := hs.i
  unfold I64 at g5
  rcases c.ask_ways ns ni with ⟨a, r⟩ | ⟨a, b, r⟩ | ⟨a, b, d, r⟩ | ⟨a, b, d, r⟩
  · have h : (c.chk != 0) = true := by simpa [bne] using a
    rw [r]
    clear a r
    go_enter Try.func31, Try.ntmps31
    go_wp2_with (first
      | (go_at_call 55; (with_reducible refine (rCheck_any c p (w.alloc _) (hm.to (by go_grown) (by go_size)) hs).mono ?_); rintro e w1 ⟨rfl, hb1⟩; obtain ⟨hc1, hf1⟩ := bcell hb1; have hz1 : w.heap.size < w1.heap.size := (by have := hb1.size; (try simp at this); omega); have hB1 : Below w.heap.size w w1 := Below.step (by go_grown) (by go_size) hb1)
      | (go_at_call 55; (with_reducible refine (rCheck_any c p w1 (hm.to hB1 hB1.size) hs).mono ?_); rintro e w2 ⟨rfl, hb2⟩; have hB2 : Below w.heap.size w w2 := Below.step hB1 hB1.size hb2))
    go_ret
    exact ⟨rfl, hB2⟩
  all_goals
    have h : (c.chk != 0) = false := by simp [bne, a]
    have hz := Cr.chk_i (c := c) (by simpa using a) hs
    rw [r]
    clear a r
    first
      | (have t1 : ((ns : Int) != (c.nl : Int)) = true := by simp; omega)
      | (have t1 : ((ns : Int) != (c.nl : Int)) = false := by simp; omega)
    try first
      | (have t2 : ((ni : Int) != c.i) = true := by simp; omega)
      | (have t2 : ((ni : Int) != c.i) = false := by simp; omega)
    clear b
    try clear d
    go_enter Try.func31, Try.ntmps31
    go_wp2_with (first
      | (go_at_call 55; (with_reducible refine (rCheck_any c p (w.alloc _) (hm.to (by go_grown) (by go_size)) hs).mono ?_); rintro e w1 ⟨rfl, hb1⟩; obtain ⟨hc1, hf1⟩ := bcell hb1; have hz1 : w.heap.size < w1.heap.size := (by have := hb1.size; (try simp at this); omega); have hB1 : Below w.heap.size w w1 := Below.step (by go_grown) (by go_size) hb1))
    go_ret
    exact ⟨rfl, hB1⟩