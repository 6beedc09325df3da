/- Drawn regions in which two operations may come up. -/
import Derived.Test.YtcmdongdjacgbaaAsBox
namespace Go.Proofs.Ytcmdongdjacgbaa
open Go Go.RowKit
set_option linter.unusedVariables false
set_option linter.unusedSimpArgs false

section
variable {P : Program} {ops : Array Oper} {Q : Exit → Act → World → Prop} {md : Region.Mode} {S : World → Prop} {n : Nat}
theorem ways2 (i j : Nat) {fuel : Nat} {listed : Array Bool} {a : Act} {w : World} (hr : Region.ready md ops listed = [i, j])
    (hi : wpOp P ops Q i (fun a' w' => (i < n → S w') ∧ WT P md ops Q S n fuel (listed.setIfInBounds i true) a' w') a w)
    (hj : wpOp P ops Q j (fun a' w' => (j < n → S w') ∧ WT P md ops Q S n fuel (listed.setIfInBounds j true) a' w') a w) : WT P md ops Q S n (fuel + 1) listed a w :=
  ⟨fun h0 => (by rw [hr] at h0; cases h0), fun x hx => by
    rw [hr] at hx
    rcases List.mem_cons.1 hx with rfl | hx
    · exact wpOp_mono (fun a' w' h' => ⟨h'.1, h'.2.h⟩) hi
    obtain rfl : x = j := by simpa using hx
    exact wpOp_mono (fun a' w' h' => ⟨h'.1, h'.2.h⟩) hj⟩
/-- one of several, that makes memory -/
theorem ways_val (i : Nat) {oi : Oper} {d : Nat} {v : Value} {fuel : Nat} {listed : Array Bool} {a : Act} {w w' : World} (hi : opAt ops.toList i = some oi) (hd : oi.dst = some d)
    (hw : Region.wanted oi (yielded ops a.tmps) = true) (he : ∀ ev : Operand → Value, (∀ x, ev (.const x) = x) → (execOp ev oi).run P w = .ok (.value v) w')
    (h : (i < n → S w') ∧ WT P md ops Q S n fuel (listed.setIfInBounds i true) (a.put (some d) v) w') : wpOp P ops Q i (fun a' w' => (i < n → S w') ∧ WT P md ops Q S n fuel (listed.setIfInBounds i true) a' w') a w := by
  refine wpOp_go (opAt_spec hi) hw fun K hK => ?_
  show oi.upon P a K Q _
  rw [he _ (fun _ => rfl), Oper.upon_value, hd]
  exact hK _ _ h
/-- one of several: append -/
theorem ways_append (i s x : Nat) {oi : Oper} {d : Nat} {t : TypeId} {u y : Value} {R : Value → World → Prop} {fuel : Nat} {listed : Array Bool} {a : Act} {w : World} (hi : opAt ops.toList i = some oi) (hd : oi.dst = some d)
    (hw : Region.wanted oi (yielded ops a.tmps) = true) (h1 : Slot a s u) (h2 : Slot a x y) (ho : oi.op = .call { callee := .builtin .append, args := #[.tmp s, .tmp x], argTypes := #[t, t] })
    (hrun : ∀ ty, ∃ v' w', (Builtin.append_ #[t, t] ty #[u, y]).run P w = .ok v' w' ∧ R v' w')
    (h : ∀ v' w', R v' w' → (i < n → S w') ∧ WT P md ops Q S n fuel (listed.setIfInBounds i true) (a.put (some d) v') w') : wpOp P ops Q i (fun a' w' => (i < n → S w') ∧ WT P md ops Q S n fuel (listed.setIfInBounds i true) a' w') a w := by
  refine wpOp_go (opAt_spec hi) hw fun K hK => ?_
  obtain ⟨v', w', hrn, hR⟩ := hrun oi.type
  have h3 := hK (a.put (some d) v') w' (h v' w' hR)
  show oi.upon P a K Q _
  unfold execOp
  simp only [ho, resolve, invoke, builtin, Sem.run_bind, Sem.run_pure, Result.andThen_ok, List.map_toArray, List.map_cons, List.map_nil, h1.eval, h2.eval, hrn, Oper.upon_value, hd]
  exact h3
/-- two that may come up, both make memory -/
theorem ways_vv (i j : Nat) {oi oj : Oper} {d e : Nat} {v u : Value} {fuel : Nat} {listed : Array Bool} {a : Act} {w wi wj : World} (hr : Region.ready md ops listed = [i, j]) (hi : opAt ops.toList i = some oi) (hd : oi.dst = some d) (hj : opAt ops.toList j = some oj) (he : oj.dst = some e)
    (hwi : Region.wanted oi (yielded ops a.tmps) = true) (hwj : Region.wanted oj (yielded ops a.tmps) = true)
    (hei : ∀ ev : Operand → Value, (∀ x, ev (.const x) = x) → (execOp ev oi).run P w = .ok (.value v) wi) (hej : ∀ ev : Operand → Value, (∀ x, ev (.const x) = x) → (execOp ev oj).run P w = .ok (.value u) wj)
    (hSi : i < n → S wi) (hSj : j < n → S wj)
    (h1 : WT P md ops Q S n fuel (listed.setIfInBounds i true) (a.put (some d) v) wi)
    (h2 : WT P md ops Q S n fuel (listed.setIfInBounds j true) (a.put (some e) u) wj) : WT P md ops Q S n (fuel + 1) listed a w :=
  ways2 i j hr (ways_val i hi hd hwi hei ⟨hSi, h1⟩) (ways_val j hj he hwj hej ⟨hSj, h2⟩)
/-- two that may come up: append, and one that makes memory -/
theorem ways_av (i s x j : Nat) {oi oj : Oper} {d e : Nat} {ty : TypeId} {y z u : Value} {R : Value → World → Prop} {fuel : Nat} {listed : Array Bool} {a : Act} {w wj : World} (hr : Region.ready md ops listed = [i, j]) (hi : opAt ops.toList i = some oi) (hd : oi.dst = some d) (hj : opAt ops.toList j = some oj) (he : oj.dst = some e)
    (hwi : Region.wanted oi (yielded ops a.tmps) = true) (hwj : Region.wanted oj (yielded ops a.tmps) = true)
    (h3 : Slot a s y) (h4 : Slot a x z) (ho : oi.op = .call { callee := .builtin .append, args := #[.tmp s, .tmp x], argTypes := #[ty, ty] })
    (hrun : ∀ t, ∃ v' w', (Builtin.append_ #[ty, ty] t #[y, z]).run P w = .ok v' w' ∧ R v' w')
    (hej : ∀ ev : Operand → Value, (∀ x, ev (.const x) = x) → (execOp ev oj).run P w = .ok (.value u) wj)
    (hSi : ∀ v' w', R v' w' → i < n → S w') (hSj : j < n → S wj)
    (h1 : ∀ v' w', R v' w' → WT P md ops Q S n fuel (listed.setIfInBounds i true) (a.put (some d) v') w')
    (h2 : WT P md ops Q S n fuel (listed.setIfInBounds j true) (a.put (some e) u) wj) : WT P md ops Q S n (fuel + 1) listed a w :=
  ways2 i j hr (ways_append i s x hi hd hwi h3 h4 ho hrun fun v' w' hR => ⟨hSi v' w' hR, h1 v' w' hR⟩) (ways_val j hj he hwj hej ⟨hSj, h2⟩)
end

end Go.Proofs.Ytcmdongdjacgbaa
