/- A region that draws its order, whose last operations wait for all others: a condition S on the world is asked behind the others alone. So a load of a cell that the last store writes may be taken first. -/
import Derived.OrdersHeld
import Derived.StillTail
import Derived.Deep.RegionHeld3
import Derived.Tactics
import Derived.KernelRfl
namespace Go.Proofs.YtecmldnigohjfabDoor
open Go
set_option linter.unusedVariables false

section
variable {P : Program} {ops : Array Oper} {Q : Exit → Act → World → Prop} {md : Region.Mode} {S : World → Prop} {n : Nat}

/-- whatever comes up; S is asked behind the operations before number n -/
def wpT (P : Program) (md : Region.Mode) (ops : Array Oper) (Q : Exit → Act → World → Prop) (S : World → Prop) (n : Nat) : Nat → Array Bool → Act → World → Prop
  | 0, listed, a, w => Region.ready md ops listed = [] ∧ Q .normal a w
  | fuel + 1, listed, a, w =>
    (Region.ready md ops listed = [] → Q .normal a w) ∧
    ∀ i ∈ Region.ready md ops listed, wpOp P ops Q i (fun a' w' => (i < n → S w') ∧ wpT P md ops Q S n fuel (listed.setIfInBounds i true) a' w') a w
theorem wpT_any : ∀ (fuel : Nat) (listed : Array Bool) (a : Act) (w : World), wpT P md ops Q S n fuel listed a w → wpAny P md ops Q fuel listed a w
  | 0, _, _, _, h => h
  | fuel + 1, _, _, _, h => ⟨h.1, fun i hi => wpOp_mono (fun a' w' h' => wpT_any fuel _ a' w' h'.2) (h.2 i hi)⟩
/-- the operations from number n on all wait for number i -/
def tailWaits (md : Region.Mode) (ops : Array Oper) (n i : Nat) : Bool := (List.range ops.size).all fun j => decide (j < n) || Region.waitsFor md ops j i
theorem tailWaits_spec {i j : Nat} {oj : Oper} (h : tailWaits md ops n i = true) (hj : ops[j]? = some oj) (hn : n ≤ j) : ∃ e ∈ oj.after, Region.binds md e = true ∧ e.on = i := by
  have hlt : j < ops.size := (Array.getElem?_eq_some_iff.1 hj).1
  have h1 := List.all_eq_true.1 h j (List.mem_range.2 hlt)
  rw [Bool.or_eq_true] at h1
  rcases h1 with h1 | h1
  · have := of_decide_eq_true h1; omega
  · obtain ⟨oj', hj', e, he, hb, ho⟩ := Region.waitsFor_spec h1
    rw [hj] at hj'
    cases hj'
    exact ⟨e, he, hb, ho⟩

theorem wpT_first {i : Nat} {oi : Oper} {v : Value} (hi : ops[i]? = some oi) (hsel : Region.noSelect ops = true) (hT : tailWaits md ops n i = true)
    (hQ : ∀ c a w, Q (.panic c) (a.put oi.dst v) w → Q (.panic c) a w) :
    ∀ (fuel : Nat) (listed : Array Bool) (a : Act) (w : World), Region.free md ops listed i = true → i ∈ Region.ready md ops listed → YieldsIf P ops S oi v a → S w →
      wpT P md ops Q S n fuel (listed.setIfInBounds i true) (a.put oi.dst v) w → wpT P md ops Q S n (fuel + 1) listed a w := by
  have hs := Region.noSelect_spec hsel
  suffices H : ∀ (fuel : Nat) (listed : Array Bool) (a : Act) (w : World),
      (∀ j oj, ops[j]? = some oj → j ≠ i → listed.getD j true = false → (∀ e ∈ oj.after, Region.binds md e = true → e.on ≠ i) → oi.apart ops oj = true) → i ∈ Region.ready md ops listed → YieldsIf P ops S oi v a → S w →
      wpT P md ops Q S n fuel (listed.setIfInBounds i true) (a.put oi.dst v) w → wpT P md ops Q S n (fuel + 1) listed a w from
    fun fuel listed a w hf => H fuel listed a w (Region.free_spec hi hf)
  intro fuel
  induction fuel with
  | zero =>
    intro listed a w _ hr hy hS H
    refine ⟨fun h => (by rw [h] at hr; cases hr), fun j hj => ?_⟩
    by_cases hji : j = i
    · subst hji; exact hy.wpOp hi hS ⟨fun _ => hS, H⟩
    · have := ready_mono hj hji
      rw [H.1] at this
      cases this
  | succ fuel ih =>
    intro listed a w hfree hr hy hS H
    refine ⟨fun h => (by rw [h] at hr; cases hr), fun j hj => ?_⟩
    by_cases hji : j = i
    · subst hji; exact hy.wpOp hi hS ⟨fun _ => hS, H⟩
    · obtain ⟨hjun, oj, hoj, hall⟩ := mem_ready.1 hj
      have hnot : ∀ e ∈ oj.after, Region.binds md e = true → e.on ≠ i := fun e he hb heq => by
        have h1 := hall e he hb
        have h0 := (mem_ready.1 hr).1
        rw [heq] at h1
        rcases Nat.lt_or_ge i listed.size with h' | h'
        · simp [h'] at h0 h1; rw [h0] at h1; cases h1
        · simp [Array.getElem?_eq_none h'] at h1
      have hjn : j < n := by
        rcases Nat.lt_or_ge j n with h' | h'
        · exact h'
        · obtain ⟨e, he, hb, ho⟩ := tailWaits_spec hT hoj h'
          exact absurd ho (hnot e he hb)
      have h2 := wpOp_putIf hoj (hfree j oj hoj hji hjun hnot) (fun cs b => hs i oi cs b hi) (fun cs b => hs j oj cs b hoj) hQ hy (H.2 j (ready_mono hj hji))
      refine wpOp_mono (fun a' w' h3 => ⟨h3.2.1, ih (listed.setIfInBounds j true) a' w' (fun k ok hk hki hun hno => ?_) (ready_mono hr (Ne.symm hji)) h3.1 (h3.2.1 hjn) ?_⟩) h2
      · refine hfree k ok hk hki ?_ hno
        by_cases hjk : j = k
        · subst hjk; exact hjun
        · rw [getD_set_ne true hjk] at hun; exact hun
      · rw [Array.setIfInBounds_comm _ _ hji]
        exact h3.2.2

/-- take number i first -/
theorem wpT_take (i : Nat) {oi : Oper} {v : Value} {fuel : Nat} {listed : Array Bool} {a : Act} {w : World} (hi : ops[i]? = some oi)
    (hs : Region.noSelect ops = true) (hT : tailWaits md ops n i = true) (hf : Region.free md ops listed i = true) (hr : (Region.ready md ops listed).contains i = true)
    (hQ : ∀ c a w, Q (.panic c) (a.put oi.dst v) w → Q (.panic c) a w) (hw : Region.wanted oi (yielded ops a.tmps) = true) (hS : S w) (hy : ∀ w, S w → (execOp a.eval oi).run P w = .ok (.value v) w)
    (h : wpT P md ops Q S n fuel (listed.setIfInBounds i true) (a.put oi.dst v) w) : wpT P md ops Q S n (fuel + 1) listed a w :=
  wpT_first hi hs hT hQ fuel listed a w hf (by simpa using hr) (Or.inl ⟨hw, hy⟩) hS h
/-- one alone may come up -/
theorem wpT_one (i : Nat) {fuel : Nat} {listed : Array Bool} {a : Act} {w : World} (hr : Region.ready md ops listed = [i])
    (h : wpOp P ops Q i (fun a' w' => (i < n → S w') ∧ wpT P md ops Q S n fuel (listed.setIfInBounds i true) a' w') a w) : wpT P md ops Q S n (fuel + 1) listed a w :=
  ⟨fun h0 => (by rw [hr] at h0; cases h0), fun j hj => by
    rw [hr] at hj
    obtain rfl : j = i := by simpa using hj
    exact h⟩
theorem wpOp_go {i : Nat} {o : Oper} {K : Act → World → Prop} {a : Act} {w : World} (hi : ops[i]? = some o) (hw : Region.wanted o (yielded ops a.tmps) = true) (h : ∀ K' : Act → World → Prop, (∀ a w, K a w → K' a w) → Oper.wp P o a w K' Q) : wpOp P ops Q i K a w := by
  unfold wpOp
  simp only [hi, hw, if_true]
  exact Or.inl (h K fun _ _ h => h)
theorem wpT_done {listed : Array Bool} {a : Act} {w : World} (hr : Region.ready md ops listed = []) (h : Q .normal a w) : ∀ fuel, wpT P md ops Q S n fuel listed a w
  | 0 => ⟨hr, h⟩
  | _ + 1 => ⟨fun _ => h, by rw [hr]; simp⟩
/-- the beginning -/
theorem wp_region_T (S : World → Prop) (n : Nat) {id : Nat} {a : Act} {w : World} (hm : P.follows .mixedOrders = true)
    (h : wpT P .any ops (NoPanic Q) S n ops.size (Array.replicate ops.size false) a w.drew) : (Code.region id ops true).wp P Q a w :=
  wp_region_noPanic (wp_region_any hm (wpT_any _ _ _ _ h))
end

end Go.Proofs.YtecmldnigohjfabDoor

namespace Go.Proofs.YtecmldnigohjfabDoor
open Go
set_option linter.unusedVariables false
section
variable {P : Program} {ops : Array Oper} {Q : Exit → Act → World → Prop} {md : Region.Mode} {S : World → Prop} {n : Nat}
/-- pass over number i, whose guard is decided -/
theorem wpT_skip (i : Nat) {oi : Oper} {fuel : Nat} {listed : Array Bool} {a : Act} {w : World} (hi : ops[i]? = some oi)
    (hs : Region.noSelect ops = true) (hT : tailWaits md ops n i = true) (hf : Region.free md ops listed i = true) (hr : (Region.ready md ops listed).contains i = true)
    (hQ : ∀ c a w, Q (.panic c) (a.put oi.dst undef) w → Q (.panic c) a w) (hw : Region.wanted oi (yielded ops a.tmps) = false) (hS : S w)
    (h : wpT P md ops Q S n fuel (listed.setIfInBounds i true) (a.put oi.dst undef) w) : wpT P md ops Q S n (fuel + 1) listed a w :=
  wpT_first hi hs hT hQ fuel listed a w hf (by simpa using hr) (Or.inr ⟨hw, rfl⟩) hS h
/-- the walk of such a region, held together (so that no term is unfolded to see what it is) -/
structure WT (P : Program) (md : Region.Mode) (ops : Array Oper) (Q : Exit → Act → World → Prop) (S : World → Prop) (n fuel : Nat) (listed : Array Bool) (a : Act) (w : World) : Prop where
  h : wpT P md ops Q S n fuel listed a w
theorem wt_take (i : Nat) {oi : Oper} {v : Value} {fuel : Nat} {listed : Array Bool} {a : Act} {w : World} (hi : ops[i]? = some oi)
    (hs : Region.noSelect ops = true) (hT : tailWaits md ops n i = true) (hf : Region.free md ops listed i = true) (hr : (Region.ready md ops listed).contains i = true)
    (hQ : ∀ c a w, Q (.panic c) (a.put oi.dst v) w → Q (.panic c) a w) (hw : Region.wanted oi (yielded ops a.tmps) = true) (hS : S w) (hy : ∀ w, S w → (execOp a.eval oi).run P w = .ok (.value v) w)
    (h : WT P md ops Q S n fuel (listed.setIfInBounds i true) (a.put oi.dst v) w) : WT P md ops Q S n (fuel + 1) listed a w := ⟨wpT_take i hi hs hT hf hr hQ hw hS hy h.h⟩
theorem wt_skip (i : Nat) {oi : Oper} {fuel : Nat} {listed : Array Bool} {a : Act} {w : World} (hi : ops[i]? = some oi)
    (hs : Region.noSelect ops = true) (hT : tailWaits md ops n i = true) (hf : Region.free md ops listed i = true) (hr : (Region.ready md ops listed).contains i = true)
    (hQ : ∀ c a w, Q (.panic c) (a.put oi.dst undef) w → Q (.panic c) a w) (hw : Region.wanted oi (yielded ops a.tmps) = false) (hS : S w)
    (h : WT P md ops Q S n fuel (listed.setIfInBounds i true) (a.put oi.dst undef) w) : WT P md ops Q S n (fuel + 1) listed a w := ⟨wpT_skip i hi hs hT hf hr hQ hw hS h.h⟩
theorem wt_one (i : Nat) {fuel : Nat} {listed : Array Bool} {a : Act} {w : World} (hr : Region.ready md ops listed = [i])
    (h : wpOp P ops Q i (fun a' w' => (i < n → S w') ∧ WT P md ops Q S n fuel (listed.setIfInBounds i true) a' w') a w) : WT P md ops Q S n (fuel + 1) listed a w :=
  ⟨wpT_one i hr (wpOp_mono (fun a' w' h' => ⟨h'.1, h'.2.h⟩) h)⟩
theorem wt_done {listed : Array Bool} {a : Act} {w : World} (hr : Region.ready md ops listed = []) (h : Q .normal a w) (fuel : Nat) : WT P md ops Q S n fuel listed a w := ⟨wpT_done hr h fuel⟩
end

end Go.Proofs.YtecmldnigohjfabDoor

namespace Go.Proofs.YtecmldnigohjfabDoor
open Go
set_option linter.unusedVariables false

/-- slot s of the frame holds u -/
structure Slot (a : Act) (s : Nat) (u : Value) : Prop where
  h : a.tmps[s]? = some u
/-- the frame has N slots, and nothing is deferred -/
structure Sz (a : Act) (N : Nat) : Prop where
  h : a.tmps.size = N
  d : a.defers = []
theorem Slot.eval {a : Act} {s : Nat} {u : Value} (h : Slot a s u) : a.eval (.tmp s) = u := by
  show a.tmps.getD s undef = u
  rw [Array.getD_eq_getD_getElem?, h.h]; rfl
theorem sz_put {a : Act} {N : Nat} {x : Option Tmp} {v : Value} (h : Sz a N) : Sz (a.put x v) N := by
  cases x with
  | none => exact h
  | some d => exact ⟨by show (a.tmps.setIfInBounds d v).size = N; rw [Array.size_setIfInBounds]; exact h.h, h.d⟩
theorem slot_hit {a : Act} {N d : Nat} {v : Value} (h : Sz a N) (hd : decide (d < N) = true) : Slot (a.put (some d) v) d v := ⟨by
  have := of_decide_eq_true hd
  show (a.tmps.setIfInBounds d v)[d]? = some v
  rw [Array.getElem?_setIfInBounds_self_of_lt (by rw [h.h]; exact this)]⟩
theorem slot_miss {a : Act} {d s : Nat} {v u : Value} (hn : (d == s) = false) (h : Slot a s u) : Slot (a.put (some d) v) s u := ⟨by
  show (a.tmps.setIfInBounds d v)[s]? = some u
  rw [Array.getElem?_setIfInBounds_ne (by simpa using hn)]; exact h.h⟩
theorem slot_none {a : Act} {s : Nat} {v u : Value} (h : Slot a s u) : Slot (a.put none v) s u := h

/-- some slots' values, the others' by a function -/
def kn (v : Nat → Value) : List (Nat × Value) → Nat → Value
  | [], i => v i
  | (j, x) :: K, i => if i = j then x else kn v K i
def Kn (a : Act) : List (Nat × Value) → Prop
  | [] => True
  | (s, u) :: K => Slot a s u ∧ Kn a K
theorem kn_eq {a : Act} (i : Nat) : ∀ (K : List (Nat × Value)), Kn a K → kn (fun i => a.tmps.getD i undef) K i = a.tmps.getD i undef
  | [], _ => rfl
  | (j, x) :: K, h => by
    show (if i = j then x else kn _ K i) = _
    by_cases e : i = j
    · subst e; rw [if_pos rfl, Array.getD_eq_getD_getElem?, h.1.h]; rfl
    · rw [if_neg e]; exact kn_eq i K h.2
/-- a frame, written out: of it only some slots are known -/
theorem q_known {Q : Exit → Act → World → Prop} {a : Act} {w : World} {N : Nat} (hZ : Sz a N) (K : List (Nat × Value)) (hK : Kn a K) (h : ∀ (v : Nat → Value) (l : List Value), (List.range N).map (kn v K) = l → Q .normal ⟨l.toArray, []⟩ w) : Q .normal a w := by
  have e : a = ⟨((List.range N).map (kn (fun i => a.tmps.getD i undef) K)).toArray, []⟩ := by
    obtain ⟨t, ds⟩ := a
    obtain ⟨h1, h2⟩ := hZ
    dsimp only at h1 h2
    subst h1 h2
    congr 1
    apply Array.ext
    · simp
    · intro i h1 h2
      simp only [List.getElem_toArray, List.getElem_map, List.getElem_range]
      rw [kn_eq i K hK]
      simp [Array.getD, h1]
  rw [e]
  exact h _ _ rfl

section
variable {P : Program} {ops : Array Oper} {Q : Exit → Act → World → Prop} {md : Region.Mode} {S : World → Prop} {n : Nat}
theorem wanted_of {o : Oper} {a : Act} {j d : Nat} {b c e : Bool} (hg : o.guard = some (j, b)) (hd : (ops[j]?).bind (·.dst) = some d) (h : Slot a d (.bool c)) (hc : (c == b) = e) : Region.wanted o (yielded ops a.tmps) = e := by
  have hy : yielded ops a.tmps j = some c := by unfold yielded; rw [hd]; show (match a.tmps[d]? with | some (.bool b) => some b | _ => none) = some c; rw [h.h]
  unfold Region.wanted
  rw [hg]
  show (yielded ops a.tmps j == some b) = e
  rw [hy, ← hc]
  cases c <;> cases b <;> rfl

/-- the operation at a place of a list, laid open -/
def opAt : List Oper → Nat → Option Oper
  | [], _ => none
  | o :: _, 0 => some o
  | _ :: l, k + 1 => opAt l k
theorem opAt_list : ∀ (l : List Oper) (k : Nat), opAt l k = l[k]?
  | [], k => by simp [opAt]
  | o :: _, 0 => by simp [opAt]
  | _ :: l, k + 1 => by simp [opAt, opAt_list l k]
theorem opAt_spec {i : Nat} {oi : Oper} (h : opAt ops.toList i = some oi) : ops[i]? = some oi := by
  rw [opAt_list] at h
  rw [← Array.getElem?_toList]; exact h
theorem wt_takeD (i : Nat) {oi : Oper} {d : Nat} {v : Value} {fuel : Nat} {listed : Array Bool} {a : Act} {w : World} (hi : opAt ops.toList i = some oi) (hd : oi.dst = some d)
    (hs : Region.noSelect ops = true) (hT : tailWaits md ops n i = true) (hf : Region.free md ops listed i = true) (hr : (Region.ready md ops listed).contains i = true)
    (hQ : ∀ c a w, Q (.panic c) (a.put (some d) v) w → Q (.panic c) a w) (hw : Region.wanted oi (yielded ops a.tmps) = true) (hS : S w) (hy : ∀ w, S w → (execOp a.eval oi).run P w = .ok (.value v) w)
    (h : WT P md ops Q S n fuel (listed.setIfInBounds i true) (a.put (some d) v) w) : WT P md ops Q S n (fuel + 1) listed a w :=
  wt_take i (opAt_spec hi) hs hT hf hr (fun c a w h => hQ c a w (by rwa [hd] at h)) hw hS hy (by rw [hd]; exact h)
theorem wt_skipD (i : Nat) {oi : Oper} {d : Nat} {fuel : Nat} {listed : Array Bool} {a : Act} {w : World} (hi : opAt ops.toList i = some oi) (hd : oi.dst = some d)
    (hs : Region.noSelect ops = true) (hT : tailWaits md ops n i = true) (hf : Region.free md ops listed i = true) (hr : (Region.ready md ops listed).contains i = true)
    (hQ : ∀ c a w, Q (.panic c) (a.put (some d) undef) w → Q (.panic c) a w) (hw : Region.wanted oi (yielded ops a.tmps) = false) (hS : S w)
    (h : WT P md ops Q S n fuel (listed.setIfInBounds i true) (a.put (some d) undef) w) : WT P md ops Q S n (fuel + 1) listed a w :=
  wt_skip i (opAt_spec hi) hs hT hf hr (fun c a w h => hQ c a w (by rwa [hd] at h)) hw hS (by rw [hd]; exact h)
theorem wt_take0 (i : Nat) {oi : Oper} {d : Nat} {v : Value} {fuel : Nat} {listed : Array Bool} {a : Act} {w : World} (hi : opAt ops.toList i = some oi) (hd : oi.dst = some d)
    (hs : Region.noSelect ops = true) (hT : tailWaits md ops n i = true) (hf : Region.free md ops listed i = true) (hr : (Region.ready md ops listed).contains i = true)
    (hQ : ∀ c a w, Q (.panic c) (a.put (some d) v) w → Q (.panic c) a w) (hw : Region.wanted oi (yielded ops a.tmps) = true) (hS : S w)  (hy : ∀ ev : Operand → Value, (∀ x, ev (.const x) = x) → ∀ w, S w → (execOp ev oi).run P w = .ok (.value v) w)
    (h : WT P md ops Q S n fuel (listed.setIfInBounds i true) (a.put (some d) v) w) : WT P md ops Q S n (fuel + 1) listed a w := wt_takeD i hi hd hs hT hf hr hQ hw hS (hy a.eval (fun _ => rfl)) h
theorem wt_take1 (i s : Nat) {oi : Oper} {d : Nat} {u v : Value} {fuel : Nat} {listed : Array Bool} {a : Act} {w : World} (hi : opAt ops.toList i = some oi) (hd : oi.dst = some d)
    (hs : Region.noSelect ops = true) (hT : tailWaits md ops n i = true) (hf : Region.free md ops listed i = true) (hr : (Region.ready md ops listed).contains i = true)
    (hQ : ∀ c a w, Q (.panic c) (a.put (some d) v) w → Q (.panic c) a w) (hw : Region.wanted oi (yielded ops a.tmps) = true) (hS : S w) (h1 : Slot a s u) (hy : ∀ ev : Operand → Value, (∀ x, ev (.const x) = x) → ev (.tmp s) = u → ∀ w, S w → (execOp ev oi).run P w = .ok (.value v) w)
    (h : WT P md ops Q S n fuel (listed.setIfInBounds i true) (a.put (some d) v) w) : WT P md ops Q S n (fuel + 1) listed a w := wt_takeD i hi hd hs hT hf hr hQ hw hS (hy a.eval (fun _ => rfl) h1.eval) h
theorem wt_take2 (i s t : Nat) {oi : Oper} {d : Nat} {u x v : Value} {fuel : Nat} {listed : Array Bool} {a : Act} {w : World} (hi : opAt ops.toList i = some oi) (hd : oi.dst = some d)
    (hs : Region.noSelect ops = true) (hT : tailWaits md ops n i = true) (hf : Region.free md ops listed i = true) (hr : (Region.ready md ops listed).contains i = true)
    (hQ : ∀ c a w, Q (.panic c) (a.put (some d) v) w → Q (.panic c) a w) (hw : Region.wanted oi (yielded ops a.tmps) = true) (hS : S w) (h1 : Slot a s u) (h2 : Slot a t x) (hy : ∀ ev : Operand → Value, (∀ x, ev (.const x) = x) → ev (.tmp s) = u → ev (.tmp t) = x → ∀ w, S w → (execOp ev oi).run P w = .ok (.value v) w)
    (h : WT P md ops Q S n fuel (listed.setIfInBounds i true) (a.put (some d) v) w) : WT P md ops Q S n (fuel + 1) listed a w := wt_takeD i hi hd hs hT hf hr hQ hw hS (hy a.eval (fun _ => rfl) h1.eval h2.eval) h
theorem wt_take3 (i s t r : Nat) {oi : Oper} {d : Nat} {u x y v : Value} {fuel : Nat} {listed : Array Bool} {a : Act} {w : World} (hi : opAt ops.toList i = some oi) (hd : oi.dst = some d)
    (hs : Region.noSelect ops = true) (hT : tailWaits md ops n i = true) (hf : Region.free md ops listed i = true) (hr : (Region.ready md ops listed).contains i = true)
    (hQ : ∀ c a w, Q (.panic c) (a.put (some d) v) w → Q (.panic c) a w) (hw : Region.wanted oi (yielded ops a.tmps) = true) (hS : S w) (h1 : Slot a s u) (h2 : Slot a t x) (h3 : Slot a r y) (hy : ∀ ev : Operand → Value, (∀ x, ev (.const x) = x) → ev (.tmp s) = u → ev (.tmp t) = x → ev (.tmp r) = y → ∀ w, S w → (execOp ev oi).run P w = .ok (.value v) w)
    (h : WT P md ops Q S n fuel (listed.setIfInBounds i true) (a.put (some d) v) w) : WT P md ops Q S n (fuel + 1) listed a w := wt_takeD i hi hd hs hT hf hr hQ hw hS (hy a.eval (fun _ => rfl) h1.eval h2.eval h3.eval) h
theorem wt_move (i s : Nat) {oi : Oper} {d : Nat} {u : Value} {fuel : Nat} {listed : Array Bool} {a : Act} {w : World} (hi : opAt ops.toList i = some oi) (hd : oi.dst = some d)
    (hs : Region.noSelect ops = true) (hT : tailWaits md ops n i = true) (hf : Region.free md ops listed i = true) (hr : (Region.ready md ops listed).contains i = true)
    (hQ : ∀ c a w, Q (.panic c) (a.put (some d) u) w → Q (.panic c) a w) (hw : Region.wanted oi (yielded ops a.tmps) = true) (hS : S w) (h1 : Slot a s u) (ho : oi.op = .move (.tmp s))
    (h : WT P md ops Q S n fuel (listed.setIfInBounds i true) (a.put (some d) u) w) : WT P md ops Q S n (fuel + 1) listed a w := wt_takeD i hi hd hs hT hf hr hQ hw hS (fun w _ => by unfold execOp; rw [ho]; show (pure (Next.value (a.eval (.tmp s))) : Sem Next).run P w = _; rw [h1.eval]; rfl) h
theorem wt_assign (i s : Nat) {oi : Oper} {d : Nat} {u : Value} {fuel : Nat} {listed : Array Bool} {a : Act} {w : World} (hi : opAt ops.toList i = some oi) (hd : oi.dst = some d)
    (hs : Region.noSelect ops = true) (hT : tailWaits md ops n i = true) (hf : Region.free md ops listed i = true) (hr : (Region.ready md ops listed).contains i = true)
    (hQ : ∀ c a w, Q (.panic c) (a.put (some d) u) w → Q (.panic c) a w) (hw : Region.wanted oi (yielded ops a.tmps) = true) (hS : S w) (h1 : Slot a s u) (ho : oi.op = .assign (.tmp s))
    (h : WT P md ops Q S n fuel (listed.setIfInBounds i true) (a.put (some d) u) w) : WT P md ops Q S n (fuel + 1) listed a w := wt_takeD i hi hd hs hT hf hr hQ hw hS (fun w _ => by unfold execOp; rw [ho]; show (pure (Next.value (a.eval (.tmp s))) : Sem Next).run P w = _; rw [h1.eval]; rfl) h
/-- an operation that comes up alone, and whose run is known: a call of a Go function -/
theorem wt_call (i : Nat) {oi : Oper} {d : Nat} {f : FuncId} {args : Array Value} {fuel : Nat} {listed : Array Bool} {a : Act} {w : World} (hr : Region.ready md ops listed = [i]) (hi : opAt ops.toList i = some oi) (hd : oi.dst = some d)
    (hw : Region.wanted oi (yielded ops a.tmps) = true) (he : (execOp a.eval oi).run P w = .ok (.enter f args) w)
    (h : Calls P f args w fun e w' => ∃ v, e = .returned v ∧ (i < n → S w') ∧ WT P md ops Q S n fuel (listed.setIfInBounds i true) (a.put (some d) v) w') : WT P md ops Q S n (fuel + 1) listed a w := by
  refine wt_one i hr (wpOp_go (opAt_spec hi) hw fun K hK => ?_)
  show oi.upon P a K Q _
  rw [he, Oper.upon_enter]
  refine h.mono fun e w' => ?_
  rintro ⟨v, rfl, h1, h2⟩
  have h3 := hK _ _ ⟨h1, h2⟩
  show K (a.put oi.dst v) w'
  rw [hd]; exact h3
theorem wt_call0 (i : Nat) {oi : Oper} {d : Nat} {f : FuncId} {args : Array Value} {fuel : Nat} {listed : Array Bool} {a : Act} {w : World} (hr : Region.ready md ops listed = [i]) (hi : opAt ops.toList i = some oi) (hd : oi.dst = some d)
    (hw : Region.wanted oi (yielded ops a.tmps) = true)  (he : ∀ ev : Operand → Value, (∀ x, ev (.const x) = x) → (∀ f, ev (.func f) = .func (.func f) #[] #[]) → (execOp ev oi).run P w = .ok (.enter f args) w)
    (h : Calls P f args w fun e w' => ∃ v, e = .returned v ∧ (i < n → S w') ∧ WT P md ops Q S n fuel (listed.setIfInBounds i true) (a.put (some d) v) w') : WT P md ops Q S n (fuel + 1) listed a w := wt_call i hr hi hd hw (he _ (fun _ => rfl) (fun _ => rfl)) h
theorem wt_call1 (i s : Nat) {oi : Oper} {d : Nat} {f : FuncId} {args : Array Value} {u : Value} {fuel : Nat} {listed : Array Bool} {a : Act} {w : World} (hr : Region.ready md ops listed = [i]) (hi : opAt ops.toList i = some oi) (hd : oi.dst = some d)
    (hw : Region.wanted oi (yielded ops a.tmps) = true) (h1 : Slot a s u) (he : ∀ ev : Operand → Value, (∀ x, ev (.const x) = x) → (∀ f, ev (.func f) = .func (.func f) #[] #[]) → ev (.tmp s) = u → (execOp ev oi).run P w = .ok (.enter f args) w)
    (h : Calls P f args w fun e w' => ∃ v, e = .returned v ∧ (i < n → S w') ∧ WT P md ops Q S n fuel (listed.setIfInBounds i true) (a.put (some d) v) w') : WT P md ops Q S n (fuel + 1) listed a w := wt_call i hr hi hd hw (he _ (fun _ => rfl) (fun _ => rfl) h1.eval) h
theorem wt_call2 (i s t : Nat) {oi : Oper} {d : Nat} {f : FuncId} {args : Array Value} {u x : Value} {fuel : Nat} {listed : Array Bool} {a : Act} {w : World} (hr : Region.ready md ops listed = [i]) (hi : opAt ops.toList i = some oi) (hd : oi.dst = some d)
    (hw : Region.wanted oi (yielded ops a.tmps) = true) (h1 : Slot a s u) (h2 : Slot a t x) (he : ∀ ev : Operand → Value, (∀ x, ev (.const x) = x) → (∀ f, ev (.func f) = .func (.func f) #[] #[]) → ev (.tmp s) = u → ev (.tmp t) = x → (execOp ev oi).run P w = .ok (.enter f args) w)
    (h : Calls P f args w fun e w' => ∃ v, e = .returned v ∧ (i < n → S w') ∧ WT P md ops Q S n fuel (listed.setIfInBounds i true) (a.put (some d) v) w') : WT P md ops Q S n (fuel + 1) listed a w := wt_call i hr hi hd hw (he _ (fun _ => rfl) (fun _ => rfl) h1.eval h2.eval) h
theorem wt_call3 (i s t r : Nat) {oi : Oper} {d : Nat} {f : FuncId} {args : Array Value} {u x y : Value} {fuel : Nat} {listed : Array Bool} {a : Act} {w : World} (hr : Region.ready md ops listed = [i]) (hi : opAt ops.toList i = some oi) (hd : oi.dst = some d)
    (hw : Region.wanted oi (yielded ops a.tmps) = true) (h1 : Slot a s u) (h2 : Slot a t x) (h3 : Slot a r y) (he : ∀ ev : Operand → Value, (∀ x, ev (.const x) = x) → (∀ f, ev (.func f) = .func (.func f) #[] #[]) → ev (.tmp s) = u → ev (.tmp t) = x → ev (.tmp r) = y → (execOp ev oi).run P w = .ok (.enter f args) w)
    (h : Calls P f args w fun e w' => ∃ v, e = .returned v ∧ (i < n → S w') ∧ WT P md ops Q S n fuel (listed.setIfInBounds i true) (a.put (some d) v) w') : WT P md ops Q S n (fuel + 1) listed a w := wt_call i hr hi hd hw (he _ (fun _ => rfl) (fun _ => rfl) h1.eval h2.eval h3.eval) h
theorem wt_call4 (i s t r q : Nat) {oi : Oper} {d : Nat} {f : FuncId} {args : Array Value} {u x y z : Value} {fuel : Nat} {listed : Array Bool} {a : Act} {w : World} (hr : Region.ready md ops listed = [i]) (hi : opAt ops.toList i = some oi) (hd : oi.dst = some d)
    (hw : Region.wanted oi (yielded ops a.tmps) = true) (h1 : Slot a s u) (h2 : Slot a t x) (h3 : Slot a r y) (h4 : Slot a q z) (he : ∀ ev : Operand → Value, (∀ x, ev (.const x) = x) → (∀ f, ev (.func f) = .func (.func f) #[] #[]) → ev (.tmp s) = u → ev (.tmp t) = x → ev (.tmp r) = y → ev (.tmp q) = z → (execOp ev oi).run P w = .ok (.enter f args) w)
    (h : Calls P f args w fun e w' => ∃ v, e = .returned v ∧ (i < n → S w') ∧ WT P md ops Q S n fuel (listed.setIfInBounds i true) (a.put (some d) v) w') : WT P md ops Q S n (fuel + 1) listed a w := wt_call i hr hi hd hw (he _ (fun _ => rfl) (fun _ => rfl) h1.eval h2.eval h3.eval h4.eval) h
/-- an operation that comes up alone, writes memory and leaves no value: a store -/
theorem wt_act (i : Nat) {oi : Oper} {fuel : Nat} {listed : Array Bool} {a : Act} {w w' : World} (hr : Region.ready md ops listed = [i]) (hi : opAt ops.toList i = some oi) (hd : oi.dst = none)
    (hw : Region.wanted oi (yielded ops a.tmps) = true) (he : (execOp a.eval oi).run P w = .ok .skip w')
    (h : (i < n → S w') ∧ WT P md ops Q S n fuel (listed.setIfInBounds i true) a w') : WT P md ops Q S n (fuel + 1) listed a w := by
  refine wt_one i hr (wpOp_go (opAt_spec hi) hw fun K hK => ?_)
  show oi.upon P a K Q _
  rw [he, Oper.upon_skip, hd]
  exact hK _ _ h
theorem wt_act1 (i s : Nat) {oi : Oper} {u : Value} {fuel : Nat} {listed : Array Bool} {a : Act} {w w' : World} (hr : Region.ready md ops listed = [i]) (hi : opAt ops.toList i = some oi) (hd : oi.dst = none)
    (hw : Region.wanted oi (yielded ops a.tmps) = true) (h1 : Slot a s u) (he : ∀ ev : Operand → Value, (∀ x, ev (.const x) = x) → ev (.tmp s) = u → (execOp ev oi).run P w = .ok .skip w')
    (h : (i < n → S w') ∧ WT P md ops Q S n fuel (listed.setIfInBounds i true) a w') : WT P md ops Q S n (fuel + 1) listed a w := wt_act i hr hi hd hw (he _ (fun _ => rfl) h1.eval) h
theorem wt_act2 (i s t : Nat) {oi : Oper} {u x : Value} {fuel : Nat} {listed : Array Bool} {a : Act} {w w' : World} (hr : Region.ready md ops listed = [i]) (hi : opAt ops.toList i = some oi) (hd : oi.dst = none)
    (hw : Region.wanted oi (yielded ops a.tmps) = true) (h1 : Slot a s u) (h2 : Slot a t x) (he : ∀ ev : Operand → Value, (∀ x, ev (.const x) = x) → ev (.tmp s) = u → ev (.tmp t) = x → (execOp ev oi).run P w = .ok .skip w')
    (h : (i < n → S w') ∧ WT P md ops Q S n fuel (listed.setIfInBounds i true) a w') : WT P md ops Q S n (fuel + 1) listed a w := wt_act i hr hi hd hw (he _ (fun _ => rfl) h1.eval h2.eval) h
/-- an operation that comes up alone and makes memory -/
theorem wt_val (i : Nat) {oi : Oper} {d : Nat} {v : Value} {fuel : Nat} {listed : Array Bool} {a : Act} {w w' : World} (hr : Region.ready md ops listed = [i]) (hi : opAt ops.toList i = some oi) (hd : oi.dst = some d)
    (hw : Region.wanted oi (yielded ops a.tmps) = true) (he : (execOp a.eval oi).run P w = .ok (.value v) w')
    (h : (i < n → S w') ∧ WT P md ops Q S n fuel (listed.setIfInBounds i true) (a.put (some d) v) w') : WT P md ops Q S n (fuel + 1) listed a w := by
  refine wt_one i hr (wpOp_go (opAt_spec hi) hw fun K hK => ?_)
  show oi.upon P a K Q _
  rw [he, Oper.upon_value, hd]
  exact hK _ _ h
theorem wt_val0 (i : Nat) {oi : Oper} {d : Nat} {v : Value} {fuel : Nat} {listed : Array Bool} {a : Act} {w w' : World} (hr : Region.ready md ops listed = [i]) (hi : opAt ops.toList i = some oi) (hd : oi.dst = some d)
    (hw : Region.wanted oi (yielded ops a.tmps) = true)  (he : ∀ ev : Operand → Value, (∀ x, ev (.const x) = x) → (execOp ev oi).run P w = .ok (.value v) w')
    (h : (i < n → S w') ∧ WT P md ops Q S n fuel (listed.setIfInBounds i true) (a.put (some d) v) w') : WT P md ops Q S n (fuel + 1) listed a w := wt_val i hr hi hd hw (he _ (fun _ => rfl)) h
theorem wt_val1 (i s : Nat) {oi : Oper} {d : Nat} {v : Value} {u : Value} {fuel : Nat} {listed : Array Bool} {a : Act} {w w' : World} (hr : Region.ready md ops listed = [i]) (hi : opAt ops.toList i = some oi) (hd : oi.dst = some d)
    (hw : Region.wanted oi (yielded ops a.tmps) = true) (h1 : Slot a s u) (he : ∀ ev : Operand → Value, (∀ x, ev (.const x) = x) → ev (.tmp s) = u → (execOp ev oi).run P w = .ok (.value v) w')
    (h : (i < n → S w') ∧ WT P md ops Q S n fuel (listed.setIfInBounds i true) (a.put (some d) v) w') : WT P md ops Q S n (fuel + 1) listed a w := wt_val i hr hi hd hw (he _ (fun _ => rfl) h1.eval) h
theorem wt_val2 (i s t : Nat) {oi : Oper} {d : Nat} {v : Value} {u x : Value} {fuel : Nat} {listed : Array Bool} {a : Act} {w w' : World} (hr : Region.ready md ops listed = [i]) (hi : opAt ops.toList i = some oi) (hd : oi.dst = some d)
    (hw : Region.wanted oi (yielded ops a.tmps) = true) (h1 : Slot a s u) (h2 : Slot a t x) (he : ∀ ev : Operand → Value, (∀ x, ev (.const x) = x) → ev (.tmp s) = u → ev (.tmp t) = x → (execOp ev oi).run P w = .ok (.value v) w')
    (h : (i < n → S w') ∧ WT P md ops Q S n fuel (listed.setIfInBounds i true) (a.put (some d) v) w') : WT P md ops Q S n (fuel + 1) listed a w := wt_val i hr hi hd hw (he _ (fun _ => rfl) h1.eval h2.eval) h
theorem wt_val3 (i s t r : Nat) {oi : Oper} {d : Nat} {v : Value} {u x y : Value} {fuel : Nat} {listed : Array Bool} {a : Act} {w w' : World} (hr : Region.ready md ops listed = [i]) (hi : opAt ops.toList i = some oi) (hd : oi.dst = some d)
    (hw : Region.wanted oi (yielded ops a.tmps) = true) (h1 : Slot a s u) (h2 : Slot a t x) (h3 : Slot a r y) (he : ∀ ev : Operand → Value, (∀ x, ev (.const x) = x) → ev (.tmp s) = u → ev (.tmp t) = x → ev (.tmp r) = y → (execOp ev oi).run P w = .ok (.value v) w')
    (h : (i < n → S w') ∧ WT P md ops Q S n fuel (listed.setIfInBounds i true) (a.put (some d) v) w') : WT P md ops Q S n (fuel + 1) listed a w := wt_val i hr hi hd hw (he _ (fun _ => rfl) h1.eval h2.eval h3.eval) h
/-- the beginning of a region, in a world by name -/
theorem wp_region_T' {W : World} {a : Act} {w : World} (hW : w.drew = W) (S : World → Prop) (n : Nat) {id : Nat} {Q : Exit → Act → World → Prop} (hm : P.follows .mixedOrders = true)
    (h : wpT P .any ops (NoPanic Q) S n ops.size (Array.replicate ops.size false) a W) : (Code.region id ops true).wp P Q a w := wp_region_T S n hm (hW ▸ h)
/-- the end of the region: the frame is written out -/
theorem wt_known {Q : Exit → Act → World → Prop} {fuel : Nat} {listed : Array Bool} {a : Act} {w : World} {N : Nat} (hr : Region.ready md ops listed = []) (hZ : Sz a N) (K : List (Nat × Value)) (hK : Kn a K) (h : ∀ (v : Nat → Value) (l : List Value), (List.range N).map (kn v K) = l → Q .normal ⟨l.toArray, []⟩ w) : WT P md ops (NoPanic Q) S n fuel listed a w :=
  wt_done hr (NoPanic.normal (q_known hZ K hK h)) fuel
/-- a piece of code over a frame of which only this is known -/
theorem wp_slots {c : Code} {a : Act} {w : World} (R : Act → Prop) (hR : R a) (h : ∀ b, b = a → R b → c.wp P Q b w) : c.wp P Q a w := h a rfl hR
end

end Go.Proofs.YtecmldnigohjfabDoor
