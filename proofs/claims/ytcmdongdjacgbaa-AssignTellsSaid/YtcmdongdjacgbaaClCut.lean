/- Lists of ints that are cut. -/
import Derived.Test.YtcmdongdjacgbaaClVals
import Derived.Test.YtcmdongdjacgbaaHeadTail
namespace Go.Proofs.Ytcmdongdjacgbaa
open Go Go.RowKit
set_option linter.unusedVariables false
set_option linter.unusedSimpArgs false

section
variable {P : Program} {ops : Array Oper} {Q : Exit → Act → World → Prop} {md : Region.Mode} {S : World → Prop} {n : Nat}
theorem wt_append13 (i s x : Nat) {oi : Oper} {d : Nat} {t : TypeId} {u y : Value} {R : Value → World → Prop} {fuel : Nat} {listed : Array Bool} {a : Act} {w : World} (hr : Region.ready md ops listed = [i]) (hi : opAt ops.toList i = some oi) (hd : oi.dst = some d)
    (hw : Region.wanted oi (yielded ops a.tmps) = true) (h1 : Slot a s u) (h2 : Slot a x y) (ho : oi.op = .call { callee := .builtin .append, args := #[.tmp s, .tmp x], argTypes := #[t, t] })
    (hrun : ∀ ty, ∃ v' w', (Builtin.append_ #[t, t] ty #[u, y]).run P w = .ok v' w' ∧ R v' w')
    (h : ∀ v' w', R v' w' → (i < n → S w') ∧ WT P md ops Q S n fuel (listed.setIfInBounds i true) (a.put (some d) v') w') : WT P md ops Q S n (fuel + 1) listed a w := by
  refine wt_one i hr ?_
  refine wpOp_go (opAt_spec hi) hw fun K hK => ?_
  obtain ⟨v', w', hrn, hR⟩ := hrun oi.type
  have h3 := hK (a.put (some d) v') w' (h v' w' hR)
  show oi.upon P a K Q _
  unfold execOp
  simp only [ho, resolve, invoke, builtin, Sem.run_bind, Sem.run_pure, Result.andThen_ok, List.map_toArray, List.map_cons, List.map_nil, h1.eval, h2.eval, hrn, Oper.upon_value, hd]
  exact h3
end

theorem add_add13 (a : Addr) (i j : Nat) : (a.add i).add j = a.add (i + j) := by
  unfold Addr.add
  by_cases h1 : i = 0
  · subst h1; simp
  · by_cases h2 : j = 0
    · subst h2; simp [h1]
    · simp [h1, h2]; omega
theorem sl_int (w : World) : ∀ W : World, (Go.sizeOf 3).run Try.prog W = .ok 1 W := fun W => by go_simp
/-- what stands from a place on -/
theorem Ia.from {w : World} {B k : Nat} {A : Option Addr} {l : List Int} (h : Ia w B A l k) (i : Nat) (hi : i ≤ l.length) : ∃ A' k', (∀ W, (Instr.sliceAt 22 (.slice A l.length k) (some (.int .i64 (i : Int))) none none).run Try.prog W = .ok (.slice A' (l.drop i).length k') W) ∧ Ia w B A' (l.drop i) k' := by
  have ht : Try.prog.underlying 22 = some (.slice (Try.prog.elem 22)) := by simp [Program.elem, Try.underlying22]
  have he : Try.prog.elem 22 = 3 := by simp [Program.elem, Try.underlying22]
  refine ⟨if k = i then A else A.map (·.add (i * 1)), k - i, fun W => ?_, ?_⟩
  · rw [run_sliceAt_slice _ _ _ _ _ _ ht, run_slice_l W _ _ _ _ ht .i64 _ (by omega) (by omega), he, sl_int w W]
    simp [Result.andThen, sliced, List.length_drop]
  · refine ⟨fun hn => ?_, fun hn => ?_, by rw [List.length_drop]; have := h.c; omega⟩
    · rw [List.length_drop] at hn
      obtain ⟨a, e, hl, hc⟩ := h.h (by omega)
      have hne : ¬ k = i := by have := h.c; omega
      refine ⟨a.add (i * 1), by rw [if_neg hne, e]; rfl, by rw [add_block]; exact hl, fun j hj => ?_⟩
      rw [List.length_drop] at hj
      rw [Nat.mul_one, add_add13, hc (i + j) (by omega)]
      show some (Value.int .i64 (l.getD (i + j) 0)) = some (Value.int .i64 ((l.drop i).getD j 0))
      rw [List.getD_eq_getElem?_getD, List.getD_eq_getElem?_getD, List.getElem?_drop]
    · by_cases hki : k = i
      · rw [if_pos hki] at hn
        obtain ⟨rfl, rfl⟩ := h.n hn
        exact ⟨by simp, by omega⟩
      · rw [if_neg hki] at hn
        have : A = none := by cases A with
          | none => rfl
          | some a => cases hn
        obtain ⟨rfl, rfl⟩ := h.n this
        exact ⟨by simp, by omega⟩
/-- what stands ahead of a place -/
theorem Ia.upto {w : World} {B k : Nat} {A : Option Addr} {l : List Int} (h : Ia w B A l k) (i : Nat) (hi : i ≤ l.length) : ∃ A', (∀ W, (Instr.sliceAt 22 (.slice A l.length k) none (some (.int .i64 (i : Int))) none).run Try.prog W = .ok (.slice A' (l.take i).length k) W) ∧ Ia w B A' (l.take i) k := by
  have ht : Try.prog.underlying 22 = some (.slice (Try.prog.elem 22)) := by simp [Program.elem, Try.underlying22]
  have he : Try.prog.elem 22 = 3 := by simp [Program.elem, Try.underlying22]
  have hk := h.c
  refine ⟨if k = 0 then A else A.map (·.add (0 * 1)), fun W => ?_, ?_⟩
  · rw [run_sliceAt_slice _ _ _ _ _ _ ht, run_slice_h W _ _ _ _ ht .i64 _ (by omega) (by omega), he, sl_int w W]
    simp [Result.andThen, sliced, List.length_take]
    omega
  · have hA : (if k = 0 then A else A.map (·.add (0 * 1))) = A := by
      by_cases hk0 : k = 0
      · rw [if_pos hk0]
      · rw [if_neg hk0]
        cases A with
        | none => rfl
        | some a => simp [Addr.add]
    rw [hA]
    refine ⟨fun hn => ?_, fun hn => ?_, by rw [List.length_take]; omega⟩
    · rw [List.length_take] at hn
      obtain ⟨a, e, hl, hc⟩ := h.h (by omega)
      refine ⟨a, e, hl, fun j hj => ?_⟩
      rw [List.length_take] at hj
      rw [hc j (by omega)]
      show some (Value.int .i64 (l.getD j 0)) = some (Value.int .i64 ((l.take i).getD j 0))
      rw [List.getD_eq_getElem?_getD, List.getD_eq_getElem?_getD, List.getElem?_take, if_pos (by omega)]
    · obtain ⟨rfl, rfl⟩ := h.n hn
      exact ⟨by simp, rfl⟩
theorem cut_mem (l : List Int) (i : Nat) (x : Int) : x ∈ l.drop i ++ l.take i ++ l.take i ↔ x ∈ l := by
  rw [List.mem_append, List.mem_append]
  constructor
  · rintro ((h | h) | h)
    · exact List.mem_of_mem_drop h
    · exact List.mem_of_mem_take h
    · exact List.mem_of_mem_take h
  · intro h
    rw [← List.take_append_drop i l, List.mem_append] at h
    rcases h with h | h
    · exact Or.inr h
    · exact Or.inl (Or.inl h)

end Go.Proofs.Ytcmdongdjacgbaa
