/- Operations of which several may come up; a circuit's box, stored whole. -/
import Derived.Test.YtpdfdbnmohippaaHeadTail
import Derived.Test.YtpdfdbnmohippaaGatesTwin
import Derived.Test.YtpdfdbnmohippaaGatesAlive
namespace Go.Proofs.Ytpdfdbnmohippaa
open Go Go.RowKit
set_option linter.unusedVariables false
set_option linter.unusedSimpArgs false

section
variable {P : Program} {ops : Array Oper} {Q : Exit → Act → World → Prop} {md : Region.Mode} {S : World → Prop} {n : Nat}
/-- three, two, one that may come up -/
theorem wt_ways3 (i j k : Nat) {fuel : Nat} {listed : Array Bool} {a : Act} {w : World} (hr : Region.ready md ops listed = [i, j, k])
    (hi : wpOp P ops Q i (fun a' w' => (i < n → S w') ∧ WT P md ops Q S n fuel (listed.setIfInBounds i true) a' w') a w)
    (hj : wpOp P ops Q j (fun a' w' => (j < n → S w') ∧ WT P md ops Q S n fuel (listed.setIfInBounds j true) a' w') a w)
    (hk : wpOp P ops Q k (fun a' w' => (k < n → S w') ∧ WT P md ops Q S n fuel (listed.setIfInBounds k true) a' w') a w) : WT P md ops Q S n (fuel + 1) listed a w :=
  ⟨fun h0 => (by rw [hr] at h0; cases h0), fun x hx => by
    rw [hr] at hx
    rcases List.mem_cons.1 hx with rfl | hx
    · exact wpOp_mono (fun a' w' h' => ⟨h'.1, h'.2.h⟩) hi
    rcases List.mem_cons.1 hx with rfl | hx
    · exact wpOp_mono (fun a' w' h' => ⟨h'.1, h'.2.h⟩) hj
    obtain rfl : x = k := by simpa using hx
    exact wpOp_mono (fun a' w' h' => ⟨h'.1, h'.2.h⟩) hk⟩
theorem wt_ways2 (i j : Nat) {fuel : Nat} {listed : Array Bool} {a : Act} {w : World} (hr : Region.ready md ops listed = [i, j])
    (hi : wpOp P ops Q i (fun a' w' => (i < n → S w') ∧ WT P md ops Q S n fuel (listed.setIfInBounds i true) a' w') a w)
    (hj : wpOp P ops Q j (fun a' w' => (j < n → S w') ∧ WT P md ops Q S n fuel (listed.setIfInBounds j true) a' w') a w) : WT P md ops Q S n (fuel + 1) listed a w :=
  ⟨fun h0 => (by rw [hr] at h0; cases h0), fun x hx => by
    rw [hr] at hx
    rcases List.mem_cons.1 hx with rfl | hx
    · exact wpOp_mono (fun a' w' h' => ⟨h'.1, h'.2.h⟩) hi
    obtain rfl : x = j := by simpa using hx
    exact wpOp_mono (fun a' w' h' => ⟨h'.1, h'.2.h⟩) hj⟩
/-- one of several: a call, and one that makes memory -/
theorem wb_call (i s : Nat) {oi : Oper} {d : Nat} {f : FuncId} {args : Array Value} {u : Value} {fuel : Nat} {listed : Array Bool} {a : Act} {w : World} (hi : opAt ops.toList i = some oi) (hd : oi.dst = some d)
    (hw : Region.wanted oi (yielded ops a.tmps) = true) (h1 : Slot a s u) (he : ∀ ev : Operand → Value, (∀ x, ev (.const x) = x) → (∀ f, ev (.func f) = .func (.func f) #[] #[]) → ev (.tmp s) = u → (execOp ev oi).run P w = .ok (.enter f args) w)
    (h : Calls P f args w fun e w' => ∃ v, e = .returned v ∧ (i < n → S w') ∧ WT P md ops Q S n fuel (listed.setIfInBounds i true) (a.put (some d) v) w') : wpOp P ops Q i (fun a' w' => (i < n → S w') ∧ WT P md ops Q S n fuel (listed.setIfInBounds i true) a' w') a w := by
  refine wpOp_go (opAt_spec hi) hw fun K hK => ?_
  show oi.upon P a K Q _
  rw [he _ (fun _ => rfl) (fun _ => rfl) h1.eval, Oper.upon_enter]
  refine h.mono fun e w' => ?_
  rintro ⟨v, rfl, h1, h2⟩
  have h3 := hK _ _ ⟨h1, h2⟩
  show K (a.put oi.dst v) w'
  rw [hd]; exact h3
theorem wb_val (i : Nat) {oi : Oper} {d : Nat} {v : Value} {fuel : Nat} {listed : Array Bool} {a : Act} {w w' : World} (hi : opAt ops.toList i = some oi) (hd : oi.dst = some d)
    (hw : Region.wanted oi (yielded ops a.tmps) = true) (he : ∀ ev : Operand → Value, (∀ x, ev (.const x) = x) → (execOp ev oi).run P w = .ok (.value v) w')
    (h : ∀ W1, w' = W1 → (i < n → S W1) ∧ WT P md ops Q S n fuel (listed.setIfInBounds i true) (a.put (some d) v) W1) : wpOp P ops Q i (fun a' w' => (i < n → S w') ∧ WT P md ops Q S n fuel (listed.setIfInBounds i true) a' w') a w := by
  refine wpOp_go (opAt_spec hi) hw fun K hK => ?_
  show oi.upon P a K Q _
  rw [he _ (fun _ => rfl), Oper.upon_value, hd]
  exact hK _ _ (h _ rfl)
theorem wb_act2 (i s t : Nat) {oi : Oper} {u x : Value} {fuel : Nat} {listed : Array Bool} {a : Act} {w w' : World} (hi : opAt ops.toList i = some oi) (hd : oi.dst = none)
    (hw : Region.wanted oi (yielded ops a.tmps) = true) (h1 : Slot a s u) (h2 : Slot a t x) (he : ∀ ev : Operand → Value, (∀ x, ev (.const x) = x) → ev (.tmp s) = u → ev (.tmp t) = x → (execOp ev oi).run P w = .ok .skip w')
    (h : ∀ W1, w' = W1 → (i < n → S W1) ∧ WT P md ops Q S n fuel (listed.setIfInBounds i true) a W1) : wpOp P ops Q i (fun a' w' => (i < n → S w') ∧ WT P md ops Q S n fuel (listed.setIfInBounds i true) a' w') a w := by
  refine wpOp_go (opAt_spec hi) hw fun K hK => ?_
  show oi.upon P a K Q _
  rw [he _ (fun _ => rfl) h1.eval h2.eval, Oper.upon_skip, hd]
  exact hK _ _ (h _ rfl)
end

theorem wb_act1 {P : Program} {ops : Array Oper} {Q : Exit → Act → World → Prop} {md : Region.Mode} {S : World → Prop} {n : Nat} (i s : Nat) {oi : Oper} {u : Value} {fuel : Nat} {listed : Array Bool} {a : Act} {w w' : World} (hi : opAt ops.toList i = some oi) (hd : oi.dst = none)
    (hw : Region.wanted oi (yielded ops a.tmps) = true) (h1 : Slot a s u) (he : ∀ ev : Operand → Value, (∀ x, ev (.const x) = x) → ev (.tmp s) = u → (execOp ev oi).run P w = .ok .skip w')
    (h : ∀ W1, w' = W1 → (i < n → S W1) ∧ WT P md ops Q S n fuel (listed.setIfInBounds i true) a W1) : wpOp P ops Q i (fun a' w' => (i < n → S w') ∧ WT P md ops Q S n fuel (listed.setIfInBounds i true) a' w') a w := by
  refine wpOp_go (opAt_spec hi) hw fun K hK => ?_
  show oi.upon P a K Q _
  rw [he _ (fun _ => rfl) h1.eval, Oper.upon_skip, hd]
  exact hK _ _ (h _ rfl)

theorem Has.z5 {w : World} {b : Nat} (h : Has w b 26 zc) : (w.cell? ⟨b, 0, none⟩ = some (.int .i64 0) ∧ w.cell? ⟨b, 1, none⟩ = some (.slice none 0 0) ∧ w.cell? ⟨b, 2, none⟩ = some (.slice none 0 0) ∧ w.cell? ⟨b, 3, none⟩ = some (.slice none 0 0) ∧ w.cell? ⟨b, 4, none⟩ = some (.slice none 0 0)) ∧
    w.frozen? ⟨b, 0, none⟩ = false ∧ w.frozen? ⟨b, 1, none⟩ = false ∧ w.frozen? ⟨b, 2, none⟩ = false ∧ w.frozen? ⟨b, 3, none⟩ = false ∧ w.frozen? ⟨b, 4, none⟩ = false :=
  ⟨⟨h.cell 0, h.cell 1, h.cell 2, h.cell 3, h.cell 4⟩, h.fz 0, h.fz 1, h.fz 2, h.fz 3, h.fz 4⟩

section
variable {w W W' : World} {base bx : Nat} {c : Cr} {p : Pl}
/-- a box is none of the rows -/
theorem box_ne {g b size n k : Nat} {e : TypeId} {xs : List Value} {cs : Array Value} (h : W.ownsRow base e size (.slice (some ⟨g, 0, none⟩) n k) n xs) (hb : Has W b 26 cs) (he : e ≠ 26) : g ≠ b := by
  rcases h.2 with ⟨h, _⟩ | ⟨g', cap, cur, hv, _, hh, _⟩
  · cases h
  · cases hv
    exact Has.ne (cs := cur) hh hb he

/-- all five cells of a box -/
def put5 (W : World) (b : Nat) (v0 v1 v2 v3 v4 : Value) : World := ((((W.setCell ⟨b, 0, none⟩ v0).setCell ⟨b, 1, none⟩ v1).setCell ⟨b, 2, none⟩ v2).setCell ⟨b, 3, none⟩ v3).setCell ⟨b, 4, none⟩ v4
theorem put5_far (W : World) {b g : Nat} (v0 v1 v2 v3 v4 : Value) (h : g ≠ b) : (put5 W b v0 v1 v2 v3 v4).heap[g]? = W.heap[g]? := by
  unfold put5
  rw [Below.heap_setCell _ _ _ _ h, Below.heap_setCell _ _ _ _ h, Below.heap_setCell _ _ _ _ h, Below.heap_setCell _ _ _ _ h, Below.heap_setCell _ _ _ _ h]
theorem put5_has {b : Nat} {v0 v1 v2 v3 v4 : Value} (h : Has W b 26 zc) : Has (put5 W b v0 v1 v2 v3 v4) b 26 #[v0, v1, v2, v3, v4] := by
  have := ((((h.set 0 v0).set 1 v1).set 2 v2).set 3 v3).set 4 v4
  exact this
theorem put5_below {b : Nat} (v0 v1 v2 v3 v4 : Value) (h : Below w.heap.size w W) (hb : w.heap.size ≤ b) : Below w.heap.size w (put5 W b v0 v1 v2 v3 v4) :=
  ((((h.setCell hb v0).setCell hb v1).setCell hb v2).setCell hb v3).setCell hb v4
end

theorem own_baseT {w : World} {base base' : Nat} {e : TypeId} {size : Nat} {v : Value} {n : Nat} {xs : List Value} (h : w.ownsRow base e size v n xs) (hb : base' ≤ base) : w.ownsRow base' e size v n xs := by
  refine ⟨h.1, ?_⟩
  rcases h.2 with h | ⟨g, cap, cur, hv, hg, r⟩
  · exact Or.inl h
  · exact Or.inr ⟨g, cap, cur, hv, Nat.le_trans hb hg, r⟩
theorem own_on {W W' : World} {base : Nat} {e : TypeId} {size : Nat} {v : Value} {n : Nat} {xs : List Value} (h : W.ownsRow base e size v n xs) (hh : ∀ g, v.ownBlock = some g → (∃ cur, Has W g e cur) → W'.heap[g]? = W.heap[g]?) : W'.ownsRow base e size v n xs := by
  refine ⟨h.1, ?_⟩
  rcases h.2 with h | ⟨g, cap, cur, hv, hg, hc, r⟩
  · exact Or.inl h
  · exact Or.inr ⟨g, cap, cur, hv, hg, (hh g (by rw [hv]; rfl) ⟨cur, hc⟩).trans hc, r⟩
theorem own_below {W W' : World} {base : Nat} {e : TypeId} {size : Nat} {v : Value} {n : Nat} {xs : List Value} (h : W.ownsRow base e size v n xs) (hb : Below W.heap.size W W') : W'.ownsRow base e size v n xs := own_on h fun g _ ⟨_, hc⟩ => hb.block g (Has.lt hc)
theorem intL_congr {f g : Nat → Int} : ∀ {n : Nat}, (∀ j, j < n → f j = g j) → intL f n = intL g n
  | 0, _ => rfl
  | n + 1, h => by rw [intL, intL, intL_congr (n := n) fun j hj => h j (by omega), h n (by omega)]

end Go.Proofs.Ytpdfdbnmohippaa
