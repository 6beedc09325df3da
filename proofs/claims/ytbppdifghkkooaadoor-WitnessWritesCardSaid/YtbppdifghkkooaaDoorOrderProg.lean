/- Lists without doubles, element by element. -/
import Derived.Test.YtbppdifghkkooaaDoorOrderTm
import Derived.Test.YtbppdifghkkooaaDoorOrderConcat
import Derived.Test.YtbppdifghkkooaaDoorOrderRef6
import Derived.Test.YtbppdifghkkooaaDoorHeadTail
namespace Go.Proofs.YtbppdifghkkooaaDoor
open Go.RowKit
set_option linter.unusedVariables false

theorem take_at {l : List Int} {q : Nat} (hq : q < l.length) : l.take (q + 1) = l.take q ++ [l.getD q 0] := by
  rw [List.take_add_one, List.getD_eq_getElem?_getD, List.getElem?_eq_getElem hq]
  rfl
theorem nodup_at {l : List Int} (h : ∀ q, q < l.length → l.getD q 0 ∉ l.take q) : l.Nodup := by
  have H : ∀ q, q ≤ l.length → (l.take q).Nodup := fun q => by
    induction q with
    | zero => intro _; simp
    | succ q ih =>
      intro hq
      rw [take_at (by omega), List.nodup_append]
      refine ⟨ih (by omega), by simp, fun a ha b hb => ?_⟩
      simp only [List.mem_singleton] at hb
      subst hb
      intro e
      exact h q (by omega) (e ▸ ha)
  have := H l.length (Nat.le_refl _)
  rwa [List.take_length] at this
theorem not_nodup_at {l : List Int} {q : Nat} (hq : q < l.length) (h : l.getD q 0 ∈ l.take q) : ¬ l.Nodup := fun hn => by
  have h2 : (l.take (q + 1)).Nodup := hn.sublist (List.take_sublist _ _)
  rw [take_at hq, List.nodup_append] at h2
  exact h2.2.2 _ h _ (by simp) rfl
theorem map2_at (l : List Int) {q : Nat} (hq : q < l.length) : (l.map (· / 2)).getD q 0 = l.getD q 0 / 2 := by
  rw [List.getD_eq_getElem?_getD, List.getD_eq_getElem?_getD, List.getElem?_map, List.getElem?_eq_getElem hq]
  rfl
namespace Rw
/-- what is defined behind q literals -/
def dB (r : Rw) (q v : Nat) : Bool := decide ((v : Int) ∈ (r.dL.map (· / 2)).take q)
theorem dB_0 (r : Rw) (v : Nat) : r.dB 0 v = false := by simp [dB]
theorem dB_succ (r : Rw) {q : Nat} (hq : q < r.dL.length) (h0 : 0 ≤ r.dL.getD q 0) (v : Nat) : (if v = (r.dL.getD q 0 / 2).toNat then true else r.dB q v) = r.dB (q + 1) v := by
  have e : (r.dL.map (· / 2)).getD q 0 = r.dL.getD q 0 / 2 := map2_at _ hq
  have e2 : (r.dL.map (· / 2)).take (q + 1) = (r.dL.map (· / 2)).take q ++ [r.dL.getD q 0 / 2] := by rw [take_at (by simpa using hq), e]
  unfold dB
  rw [e2]
  by_cases h : v = (r.dL.getD q 0 / 2).toNat
  · rw [if_pos h]
    exact (decide_eq_true (List.mem_append.2 (Or.inr (List.mem_singleton.2 (by omega))))).symm
  · rw [if_neg h]
    have hne : (v : Int) ≠ r.dL.getD q 0 / 2 := by omega
    exact decide_eq_decide.2 ⟨fun h => List.mem_append.2 (Or.inl h), fun h => (List.mem_append.1 h).resolve_right (fun h => hne (List.mem_singleton.1 h))⟩
theorem twi_yes {r : Rw} {q : Nat} (hq : q < r.dL.length) (h0 : 0 ≤ r.dL.getD q 0) (h : r.dB q (r.dL.getD q 0 / 2).toNat = true) : r.twi = true := by
  refine decide_eq_true (not_nodup_at (q := q) (by simpa using hq) ?_)
  rw [map2_at _ hq]
  have := of_decide_eq_true h
  rwa [Int.toNat_of_nonneg (by omega)] at this
theorem twi_no {r : Rw} (h0 : ∀ q, q < r.dL.length → 0 ≤ r.dL.getD q 0) (h : ∀ q, q < r.dL.length → r.dB q (r.dL.getD q 0 / 2).toNat = false) : r.twi = false := by
  refine decide_eq_false (not_not_intro (nodup_at fun q hq => ?_))
  have hq' : q < r.dL.length := by simpa using hq
  rw [map2_at _ hq']
  have := of_decide_eq_false (h q hq')
  rwa [Int.toNat_of_nonneg (by have := h0 q hq'; omega)] at this
end Rw

end Go.Proofs.YtbppdifghkkooaaDoor

namespace Go.Proofs.YtbppdifghkkooaaDoor
open Go.RowKit
set_option linter.unusedVariables false
set_option linter.unusedSimpArgs false

end Go.Proofs.YtbppdifghkkooaaDoor

namespace Go.Proofs.YtbppdifghkkooaaDoor
open Go.RowKit
set_option linter.unusedVariables false
set_option linter.unusedSimpArgs false

/-- a list of ints; where it is nil it is empty -/
def IntsN (n : Nat) (f : Nat → Int) (w : World) (e : Ending) (w' : World) : Prop :=
  ∃ A k, e = .returned (.slice A n k) ∧ IntsAt w' w'.heap.size A n f ∧ (A = none → n = 0 ∧ k = 0) ∧ Below w.heap.size w w'
theorem own_nilI {w w' : World} {base : Nat} {v : Value} {n : Nat} {f : Nat → Int} (h : w'.ownsRow base 3 1 v n (intL f n)) (hb : Below w.heap.size w w') : IntsN n f w (.returned v) w' := by
  rcases h.2 with ⟨hv, hn⟩ | ⟨g, cap, cur, hv, hg, hh, _⟩
  · subst hv hn
    exact ⟨none, 0, rfl, fun h => absurd h (Nat.not_lt_zero _), fun _ => ⟨rfl, rfl⟩, hb⟩
  · subst hv
    exact ⟨_, cap, rfl, own_ints h (fun _ => Has.lt (t := 3) (cs := cur) hh), fun h => (by cases h), hb⟩

end Go.Proofs.YtbppdifghkkooaaDoor
