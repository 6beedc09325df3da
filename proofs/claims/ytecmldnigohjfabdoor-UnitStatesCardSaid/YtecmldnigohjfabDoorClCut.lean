/- The chapter's examples: alive. -/
import Derived.Test.YtecmldnigohjfabDoorClRef
import Derived.Test.YtecmldnigohjfabDoorHeadTail
namespace Go.Proofs.YtecmldnigohjfabDoor
open Go Go.RowKit
set_option linter.unusedVariables false
set_option linter.unusedSimpArgs false

/-- a list that has just been laid -/
theorem Ia.lit (W : World) {l : List Int} {cs : Array Value} (hcs : cs = (iC l).toArray) : Ia (W.alloc (.cells cs 3)) (W.alloc (.cells cs 3)).heap.size (some ⟨W.heap.size, 0, none⟩) l l.length := by
  have hN := Has.new W 3 cs
  refine ⟨fun hl => ⟨_, rfl, by simp, fun j hj => ?_⟩, (fun h => by cases h), Nat.le_refl _⟩
  rw [show (⟨W.heap.size, 0, none⟩ : Addr).add j = ⟨W.heap.size, j, none⟩ by unfold Addr.add; split <;> simp_all, hN.cell j, hcs]
  have := iC_at l j hj
  simpa using this
theorem Io.lit {B : Nat} {w : World} {l : List Int} {cs : Array Value} (hcs : cs = (iC l).toArray) (hB : B ≤ w.heap.size) (hl : l.length ≤ 100000) : Io B (w.alloc (.cells cs 3)) (.slice (some ⟨w.heap.size, 0, none⟩) l.length l.length) l := by
  rw [hcs]
  exact World.ownsRow_lit (base := B) (e := 3) (size := 1) w (iC l).toArray l.length hB (by simp only [maxLen]; omega) (by simp [iC])
theorem below_litI (W : World) (o : Obj) {w' : World} (h : Below (W.alloc o).heap.size (W.alloc o) w') : Below W.heap.size W w' := ((Below.refl _ _).alloc (Nat.le_refl _) o).trans (h.mono (by simp))

/-- Same, of a list and one that has just been laid -/
theorem same_lit {A : Option Addr} {l l' : List Int} {m k : Nat} {cs : Array Value} {W : World} (h : Ia W W.heap.size A l k) (e : l = l') (hm : l'.length = m) (hl : m ≤ 1000) (hcs : cs = (iC l').toArray) :
    Calls Tryd.prog 21 #[.slice A m k, .slice (some ⟨W.heap.size, 0, none⟩) m m] (W.alloc (.cells cs 3)) fun e w' => e = .returned (.bool true) ∧ Below W.heap.size W w' := by
  subst e hm
  refine (rSame_any A l k _ l _ _ (h.on ((Below.refl _ _).alloc (Nat.le_refl _) _)) (by omega) (Ia.lit W hcs) (by omega)).mono fun e w' ⟨e1, hb⟩ => ⟨by rw [e1, sm_self], below_litI _ _ hb⟩

theorem mk_lit {v : Int} {l l' : List Int} (hv : ¬ (v < 0 ∨ 4000 < v)) (hL : allL v l = true) (ha : alw l = false) (hs : l'.Pairwise (· < ·)) (hm : ∀ x, x ∈ l' ↔ x ∈ l) : mkL v l = l' ∧ mkA v l = false ∧ mkE v l = 0 := by
  have hm0 := mkE_yes hv hL
  obtain ⟨m1, m2⟩ := mk_yes hm0 ha
  exact ⟨by rw [m1, srt_eq hs hm], m2, hm0⟩
theorem i64_all {l : List Int} (h : ∀ x ∈ l, -100000 ≤ x ∧ x ≤ 100000) : ∀ x ∈ l, I64 x := fun x hx => by have := h x hx; unfold I64; omega
theorem ex13_1 : mkL 5 [7, 2, 7, 4] = [2, 4, 7] ∧ mkA 5 [7, 2, 7, 4] = false ∧ mkE 5 [7, 2, 7, 4] = 0 := mk_lit (by omega) (by decide) (by decide) (by decide) (fun x => by simp; omega)
theorem ex13_2 : mkL 5 [5, 4] = [] ∧ mkA 5 [5, 4] = true ∧ mkE 5 [5, 4] = 0 := by
  have hm0 : mkE 5 [5, 4] = 0 := by decide
  obtain ⟨m1, m2⟩ := mk_alw hm0 (by decide)
  exact ⟨m1, m2, hm0⟩
theorem ex13_3 : rvC 5 [2, 4] [3, 6] 1 = [4, 6] ∧ rvA 5 [2, 4] [3, 6] 1 = false ∧ rvE 5 [2, 4] [3, 6] 1 = 0 := by
  have hi : imE 5 [2, 4] [3, 6] = 0 := by decide
  obtain ⟨r1, r2, r3⟩ := rv_yes (n := 5) (a := [2, 4]) (b := [3, 6]) (v := 1) hi (by decide)
  have hl : rvL [2, 4] [3, 6] 1 = [4, 6] := by decide
  rw [hl] at r2 r3
  obtain ⟨m1, m2, m3⟩ := mk_lit (v := 5) (l := [4, 6]) (l' := [4, 6]) (by omega) (by decide) (by decide) (by decide) (fun x => Iff.rfl)
  exact ⟨r2.trans m1, r3.trans m2, r1⟩
theorem ex13_4 : rvC 5 [2, 4] [3, 5] 1 = [] ∧ rvA 5 [2, 4] [3, 5] 1 = true ∧ rvE 5 [2, 4] [3, 5] 1 = 0 := by
  have hi : imE 5 [2, 4] [3, 5] = 0 := by decide
  obtain ⟨r1, r2, r3⟩ := rv_yes (n := 5) (a := [2, 4]) (b := [3, 5]) (v := 1) hi (by decide)
  have hl : rvL [2, 4] [3, 5] 1 = [4, 5] := by decide
  rw [hl] at r2 r3
  obtain ⟨m1, m2⟩ := mk_alw (v := 5) (l := [4, 5]) (by decide) (by decide)
  exact ⟨r2.trans m1, r3.trans m2, r1⟩

theorem bn {w W W' : World} (h : Below w.heap.size w W) (hb : Below W.heap.size W W') : Below w.heap.size w W' := Below.step h h.size hb

end Go.Proofs.YtecmldnigohjfabDoor

namespace Go.Proofs.YtecmldnigohjfabDoor
open Go Go.RowKit
set_option linter.unusedVariables false
set_option linter.unusedSimpArgs false

theorem info_bl13 : (Tryd.prog.info? 4).map (fun i => (i.zero, i.size, i.bytes)) = some (some (.bool false), 1, 1) := by kernel_rfl

end Go.Proofs.YtecmldnigohjfabDoor

namespace Go.Proofs.YtecmldnigohjfabDoor
open Go Go.RowKit
set_option linter.unusedVariables false
set_option linter.unusedSimpArgs false

section
variable {P : Program} {ops : Array Oper} {Q : Exit → Act → World → Prop} {md : Region.Mode} {S : World → Prop} {n : Nat}
theorem wt_append13 (i s x : Nat) {oi : Oper} {d : Nat} {t : TypeId} {u y : Value} {R : Value → World → Prop} {fuel : Nat} {listed : Array Bool} {a : Act} {w : World} (hr : Region.ready md ops listed = [i]) (hi : opAt ops.toList i = some oi) (hd : oi.dst = some d)
    (hw : Region.wanted oi (yielded ops a.tmps) = true) (h1 : Slot a s u) (h2 : Slot a x y) (ho : oi.op = .call { callee := .builtin .append, args := #[.tmp s, .tmp x], argTypes := #[t, t] })
    (hrun : ∀ ty, ∃ v' w', (Builtin.append_ #[t, t] ty #[u, y]).run P w = .ok v' w' ∧ R v' w')
    (h : ∀ v' w', R v' w' → (i < n → S w') ∧ WT P md ops Q S n fuel (listed.setIfInBounds i true) (a.put (some d) v') w') : WT P md ops Q S n (fuel + 1) listed a w := by
  refine wt_one i hr ?_
  refine wpOp_go (opAt_spec hi) hw fun K hK => ?_
  obtain ⟨v', w', hrn, hR⟩ := hrun oi.type
  have h3 := hK (a.put (some d) v') w' (h v' w' hR)
  show oi.upon P a K Q _
  unfold execOp
  simp only [ho, resolve, invoke, builtin, Sem.run_bind, Sem.run_pure, Result.andThen_ok, List.map_toArray, List.map_cons, List.map_nil, h1.eval, h2.eval, hrn, Oper.upon_value, hd]
  exact h3
end

theorem add_add13 (a : Addr) (i j : Nat) : (a.add i).add j = a.add (i + j) := by
  unfold Addr.add
  by_cases h1 : i = 0
  · subst h1; simp
  · by_cases h2 : j = 0
    · subst h2; simp [h1]
    · simp [h1, h2]; omega
theorem sl_int (w : World) : ∀ W : World, (Go.sizeOf 3).run Tryd.prog W = .ok 1 W := fun W => by go_simp
/-- what stands from a place on -/
theorem Ia.from {w : World} {B k : Nat} {A : Option Addr} {l : List Int} (h : Ia w B A l k) (i : Nat) (hi : i ≤ l.length) : ∃ A' k', (∀ W, (Instr.sliceAt 22 (.slice A l.length k) (some (.int .i64 (i : Int))) none none).run Tryd.prog W = .ok (.slice A' (l.drop i).length k') W) ∧ Ia w B A' (l.drop i) k' := by
  have ht : Tryd.prog.underlying 22 = some (.slice (Tryd.prog.elem 22)) := by simp [Program.elem, Tryd.underlying22]
  have he : Tryd.prog.elem 22 = 3 := by simp [Program.elem, Tryd.underlying22]
  refine ⟨if k = i then A else A.map (·.add (i * 1)), k - i, fun W => ?_, ?_⟩
  · rw [run_sliceAt_slice _ _ _ _ _ _ ht, run_slice_l W _ _ _ _ ht .i64 _ (by omega) (by omega), he, sl_int w W]
    simp [Result.andThen, sliced, List.length_drop]
  · refine ⟨fun hn => ?_, fun hn => ?_, by rw [List.length_drop]; have := h.c; omega⟩
    · rw [List.length_drop] at hn
      obtain ⟨a, e, hl, hc⟩ := h.h (by omega)
      have hne : ¬ k = i := by have := h.c; omega
      refine ⟨a.add (i * 1), by rw [if_neg hne, e]; rfl, by rw [add_block]; exact hl, fun j hj => ?_⟩
      rw [List.length_drop] at hj
      rw [Nat.mul_one, add_add13, hc (i + j) (by omega)]
      show some (Value.int .i64 (l.getD (i + j) 0)) = some (Value.int .i64 ((l.drop i).getD j 0))
      rw [List.getD_eq_getElem?_getD, List.getD_eq_getElem?_getD, List.getElem?_drop]
    · by_cases hki : k = i
      · rw [if_pos hki] at hn
        obtain ⟨rfl, rfl⟩ := h.n hn
        exact ⟨by simp, by omega⟩
      · rw [if_neg hki] at hn
        have : A = none := by cases A with
          | none => rfl
          | some a => cases hn
        obtain ⟨rfl, rfl⟩ := h.n this
        exact ⟨by simp, by omega⟩
/-- what stands ahead of a place -/
theorem Ia.upto {w : World} {B k : Nat} {A : Option Addr} {l : List Int} (h : Ia w B A l k) (i : Nat) (hi : i ≤ l.length) : ∃ A', (∀ W, (Instr.sliceAt 22 (.slice A l.length k) none (some (.int .i64 (i : Int))) none).run Tryd.prog W = .ok (.slice A' (l.take i).length k) W) ∧ Ia w B A' (l.take i) k := by
  have ht : Tryd.prog.underlying 22 = some (.slice (Tryd.prog.elem 22)) := by simp [Program.elem, Tryd.underlying22]
  have he : Tryd.prog.elem 22 = 3 := by simp [Program.elem, Tryd.underlying22]
  have hk := h.c
  refine ⟨if k = 0 then A else A.map (·.add (0 * 1)), fun W => ?_, ?_⟩
  · rw [run_sliceAt_slice _ _ _ _ _ _ ht, run_slice_h W _ _ _ _ ht .i64 _ (by omega) (by omega), he, sl_int w W]
    simp [Result.andThen, sliced, List.length_take]
    omega
  · have hA : (if k = 0 then A else A.map (·.add (0 * 1))) = A := by
      by_cases hk0 : k = 0
      · rw [if_pos hk0]
      · rw [if_neg hk0]
        cases A with
        | none => rfl
        | some a => simp [Addr.add]
    rw [hA]
    refine ⟨fun hn => ?_, fun hn => ?_, by rw [List.length_take]; omega⟩
    · rw [List.length_take] at hn
      obtain ⟨a, e, hl, hc⟩ := h.h (by omega)
      refine ⟨a, e, hl, fun j hj => ?_⟩
      rw [List.length_take] at hj
      rw [hc j (by omega)]
      show some (Value.int .i64 (l.getD j 0)) = some (Value.int .i64 ((l.take i).getD j 0))
      rw [List.getD_eq_getElem?_getD, List.getD_eq_getElem?_getD, List.getElem?_take, if_pos (by omega)]
    · obtain ⟨rfl, rfl⟩ := h.n hn
      exact ⟨by simp, rfl⟩
theorem cut_mem (l : List Int) (i : Nat) (x : Int) : x ∈ l.drop i ++ l.take i ++ l.take i ↔ x ∈ l := by
  rw [List.mem_append, List.mem_append]
  constructor
  · rintro ((h | h) | h)
    · exact List.mem_of_mem_drop h
    · exact List.mem_of_mem_take h
    · exact List.mem_of_mem_take h
  · intro h
    rw [← List.take_append_drop i l, List.mem_append] at h
    rcases h with h | h
    · exact Or.inr h
    · exact Or.inl (Or.inl h)

end Go.Proofs.YtecmldnigohjfabDoor
