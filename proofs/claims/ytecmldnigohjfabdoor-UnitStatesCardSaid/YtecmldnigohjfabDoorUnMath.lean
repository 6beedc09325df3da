/- What a clause is under an assignment, and unit propagation. -/
import Derived.Test.YtecmldnigohjfabDoorAsMath
namespace Go.Proofs.YtecmldnigohjfabDoor
set_option linter.unusedVariables false
set_option linter.unusedSimpArgs false

/-- what is not false of a clause -/
def nf (t c : List Int) : List Int := c.filter fun l => !decide (ng l ∈ t)
/-- one of its literals is true -/
def tru (t c : List Int) : Bool := c.any fun l => decide (l ∈ t)
/-- its state -/
def stC (t c : List Int) : Int := if tru t c = true then 1 else if (nf t c).length = 0 then 0 else if (nf t c).length = 1 then 3 else 2
/-- its literal -/
def stX (t c : List Int) : Int := if stC t c = 3 then (nf t c).headD 0 else 0
/-- the first one that is false -/
def fF (t : List Int) (L : List (List Int)) : Option Nat := L.findIdx? fun c => stC t c == 0
/-- the first one that is unit -/
def fU (t : List Int) (L : List (List Int)) : Option (List Int) := L.find? fun c => stC t c == 3
/-- unit propagation, some rounds -/
def up : Nat → List Int → List (List Int) → List Int × Int
  | 0, t, _ => (t, -1)
  | n + 1, t, L => match fF t L with
    | some i => (t, (i : Int))
    | none => match fU t L with
      | none => (t, -1)
      | some c => up n (t ++ [stX t c]) L
/-- unit propagation -/
def upR (v : Int) (t : List Int) (L : List (List Int)) : List Int × Int := up (v.toNat + 1) t L

/-! ### clauses -/
theorem tru_iff {t c : List Int} : tru t c = true ↔ ∃ l ∈ c, l ∈ t := by unfold tru; simp
theorem mem_nf {t c : List Int} {l : Int} : l ∈ nf t c ↔ l ∈ c ∧ ng l ∉ t := by unfold nf; simp
/-- no literal stands with its negation -/
theorem OkT.two {v : Int} {t : List Int} (h : OkT v t) {x : Int} (h1 : x ∈ t) (h2 : ng x ∈ t) : False := by
  have h3 : ng x / 2 = x / 2 := ng_half x
  have h4 : x ≠ ng x := by unfold ng; split <;> omega
  obtain ⟨i, hi, ei⟩ := List.getElem_of_mem h1
  obtain ⟨j, hj, ej⟩ := List.getElem_of_mem h2
  have hij : i ≠ j := fun e => by subst e; rw [ei] at ej; exact h4 ej
  rcases Nat.lt_or_gt_of_ne hij with h' | h'
  · have := List.pairwise_iff_getElem.1 h.2 i j hi hj h'; rw [ei, ej] at this; omega
  · have := List.pairwise_iff_getElem.1 h.2 j i hj hi h'; rw [ei, ej] at this; omega
theorem stC_range (t c : List Int) : 0 ≤ stC t c ∧ stC t c ≤ 3 := by
  unfold stC
  split
  · omega
  · split
    · omega
    · split <;> omega
theorem stC_0 {v : Int} {t c : List Int} (h : OkT v t) : stC t c = 0 ↔ nf t c = [] := by
  unfold stC
  constructor
  · intro h0
    split at h0
    · omega
    · split at h0
      · next h1 => exact List.eq_nil_of_length_eq_zero h1
      · split at h0 <;> omega
  · intro h0
    rw [if_neg, if_pos (by rw [h0]; rfl)]
    intro ht
    obtain ⟨l, hl, hlt⟩ := tru_iff.1 ht
    have : l ∉ nf t c := by rw [h0]; simp
    rw [mem_nf] at this
    exact h.two hlt (Classical.not_not.1 fun hn => this ⟨hl, hn⟩)
theorem stC_3 {t c : List Int} : stC t c = 3 ↔ tru t c = false ∧ (nf t c).length = 1 := by
  unfold stC
  constructor
  · intro h0
    split at h0
    · omega
    · next h1 =>
      split at h0
      · omega
      · split at h0
        · next h2 => exact ⟨by simpa using h1, h2⟩
        · omega
  · rintro ⟨h1, h2⟩
    rw [if_neg (by rw [h1]; simp), if_neg (by omega), if_pos h2]
/-- a unit clause's literal -/
theorem stX_3 {t c : List Int} (h : stC t c = 3) : nf t c = [stX t c] ∧ stX t c ∈ c ∧ stX t c ∉ t ∧ ng (stX t c) ∉ t := by
  obtain ⟨h1, h2⟩ := stC_3.1 h
  obtain ⟨x, hx⟩ := List.length_eq_one_iff.1 h2
  have e : stX t c = x := by unfold stX; rw [if_pos h, hx]; rfl
  rw [e]
  have hm : x ∈ nf t c := by rw [hx]; simp
  obtain ⟨m1, m2⟩ := mem_nf.1 hm
  refine ⟨hx, m1, fun ht => ?_, m2⟩
  have := tru_iff.2 ⟨x, m1, ht⟩
  rw [h1] at this
  cases this
theorem OkC.isl {v : Int} {c : List Int} (h : OkC v c) {x : Int} (hx : x ∈ c) : isL v x = true := h.1 x hx
theorem vin_not {v : Int} {t : List Int} {x : Int} (h1 : x ∉ t) (h2 : ng x ∉ t) : vin t x = false := by
  rw [← isv_none]; unfold isv; rw [if_neg h1, if_neg h2]
/-- implied -/
theorem OkT.unit {v : Int} {t c : List Int} (h : OkT v t) (hc : OkC v c) (hu : stC t c = 3) : OkT v (t ++ [stX t c]) := by
  obtain ⟨_, h1, h2, h3⟩ := stX_3 hu
  exact h.more (hc.isl h1) (vin_not (v := v) h2 h3)

/-! ### the rounds -/
theorem fF_some {t : List Int} {L : List (List Int)} {i : Nat} (hi : i < L.length) (h1 : stC t (L.getD i []) = 0) (h2 : ∀ j, j < i → stC t (L.getD j []) ≠ 0) : fF t L = some i := by
  unfold fF
  rw [List.findIdx?_eq_some_iff_getElem]
  refine ⟨hi, ?_, fun j hj => ?_⟩
  · have := h1; rw [List.getD_eq_getElem?_getD, List.getElem?_eq_getElem hi] at this; simpa using this
  · have := h2 j hj; rw [List.getD_eq_getElem?_getD, List.getElem?_eq_getElem (show j < L.length by omega)] at this; simpa using this
theorem fF_none {t : List Int} {L : List (List Int)} (h : ∀ j, j < L.length → stC t (L.getD j []) ≠ 0) : fF t L = none := by
  unfold fF
  rw [List.findIdx?_eq_none_iff]
  intro c hc
  obtain ⟨j, hj, rfl⟩ := List.getElem_of_mem hc
  have := h j hj
  rw [List.getD_eq_getElem?_getD, List.getElem?_eq_getElem hj] at this
  simpa using this
theorem fF_none_iff {t : List Int} {L : List (List Int)} : fF t L = none ↔ ∀ c ∈ L, stC t c ≠ 0 := by
  unfold fF
  rw [List.findIdx?_eq_none_iff]
  simp
theorem fF_at {t : List Int} {L : List (List Int)} {i : Nat} (h : fF t L = some i) : ∃ hi : i < L.length, stC t L[i] = 0 ∧ ∀ j (hj : j < i), stC t (L[j]'(by omega)) ≠ 0 := by
  unfold fF at h
  rw [List.findIdx?_eq_some_iff_getElem] at h
  obtain ⟨hi, h1, h2⟩ := h
  exact ⟨hi, by simpa using h1, fun j hj => by simpa using h2 j hj⟩
theorem fU_none_iff {t : List Int} {L : List (List Int)} : fU t L = none ↔ ∀ c ∈ L, stC t c ≠ 3 := by
  unfold fU
  rw [List.find?_eq_none]
  simp
theorem fU_some {t : List Int} {L : List (List Int)} {i : Nat} (hi : i < L.length) (h1 : stC t (L.getD i []) = 3) (h2 : ∀ j, j < i → stC t (L.getD j []) ≠ 3) : fU t L = some (L.getD i []) := by
  unfold fU
  rw [List.find?_eq_some_iff_getElem]
  have e : L.getD i [] = L[i] := by rw [List.getD_eq_getElem?_getD, List.getElem?_eq_getElem hi]; rfl
  refine ⟨by simpa using h1, i, hi, e.symm, fun j hj => ?_⟩
  have := h2 j hj
  rw [List.getD_eq_getElem?_getD, List.getElem?_eq_getElem (show j < L.length by omega)] at this
  simpa using this
theorem fU_mem {t : List Int} {L : List (List Int)} {c : List Int} (h : fU t L = some c) : c ∈ L ∧ stC t c = 3 := by
  unfold fU at h
  exact ⟨List.mem_of_find?_eq_some h, by simpa using List.find?_some h⟩
/-- the result does not depend on how many rounds there are, if they are enough -/
theorem up_more {v : Int} {L : List (List Int)} (hL : ∀ c ∈ L, OkC v c) (hv : 0 ≤ v) : ∀ (n : Nat) (t : List Int), OkT v t → (v : Int) < t.length + n → up (n + 1) t L = up n t L
  | 0, t, ht, hn => by have := ht.len hv; omega
  | n + 1, t, ht, hn => by
    rw [show up (n + 1 + 1) t L = (match fF t L with
      | some i => (t, (i : Int))
      | none => match fU t L with
        | none => (t, -1)
        | some c => up (n + 1) (t ++ [stX t c]) L) from rfl]
    rw [show up (n + 1) t L = (match fF t L with
      | some i => (t, (i : Int))
      | none => match fU t L with
        | none => (t, -1)
        | some c => up n (t ++ [stX t c]) L) from rfl]
    split
    · rfl
    · split
      · rfl
      · next c hc =>
        obtain ⟨h1, h2⟩ := fU_mem hc
        exact up_more hL hv n _ (ht.unit (hL c h1) h2) (by rw [List.length_append]; simp; omega)
theorem up_false {n : Nat} {t : List Int} {L : List (List Int)} {i : Nat} (h : fF t L = some i) (hn : 0 < n) : up n t L = (t, (i : Int)) := by
  obtain ⟨m, rfl⟩ : ∃ m, n = m + 1 := ⟨n - 1, by omega⟩
  unfold up
  rw [h]
theorem up_end {n : Nat} {t : List Int} {L : List (List Int)} (h : fF t L = none) (hu : fU t L = none) : up n t L = (t, -1) := by
  cases n with
  | zero => rfl
  | succ n => unfold up; rw [h, hu]
theorem up_step {v : Int} {n : Nat} {t : List Int} {L : List (List Int)} (hL : ∀ c ∈ L, OkC v c) (hv : 0 ≤ v) (ht : OkT v t) (hn : (v : Int) < t.length + n) {c : List Int} (h : fF t L = none) (hu : fU t L = some c) : up n t L = up n (t ++ [stX t c]) L := by
  obtain ⟨h1, h2⟩ := fU_mem hu
  rw [← up_more hL hv n t ht hn]
  show (match fF t L with
      | some i => (t, (i : Int))
      | none => match fU t L with
        | none => (t, -1)
        | some c => up n (t ++ [stX t c]) L) = _
  rw [h, hu]
/-- by an invariant -/
theorem up_ind {v : Int} {L : List (List Int)} (hL : ∀ c ∈ L, OkC v c) (P : List Int → Prop) (hP : ∀ t c, OkT v t → P t → c ∈ L → stC t c = 3 → P (t ++ [stX t c])) : ∀ (n : Nat) (t : List Int), OkT v t → P t → OkT v (up n t L).1 ∧ P (up n t L).1
  | 0, t, ht, hp => ⟨ht, hp⟩
  | n + 1, t, ht, hp => by
    rw [show up (n + 1) t L = (match fF t L with
      | some i => (t, (i : Int))
      | none => match fU t L with
        | none => (t, -1)
        | some c => up n (t ++ [stX t c]) L) from rfl]
    split
    · exact ⟨ht, hp⟩
    · split
      · exact ⟨ht, hp⟩
      · next c hc =>
        obtain ⟨h1, h2⟩ := fU_mem hc
        exact up_ind hL P hP n _ (ht.unit (hL c h1) h2) (hP t c ht hp h1 h2)
/-- the end -/
theorem up_done {v : Int} {L : List (List Int)} (hL : ∀ c ∈ L, OkC v c) (hv : 0 ≤ v) : ∀ (n : Nat) (t : List Int), OkT v t → (v : Int) < t.length + n →
    ((up n t L).2 = -1 ∧ fF (up n t L).1 L = none ∧ fU (up n t L).1 L = none) ∨ ∃ i : Nat, (up n t L).2 = (i : Int) ∧ fF (up n t L).1 L = some i
  | 0, t, ht, hn => by have := ht.len hv; omega
  | n + 1, t, ht, hn => by
    rw [show up (n + 1) t L = (match fF t L with
      | some i => (t, (i : Int))
      | none => match fU t L with
        | none => (t, -1)
        | some c => up n (t ++ [stX t c]) L) from rfl]
    split
    · next i hi => exact Or.inr ⟨i, rfl, hi⟩
    · next h0 =>
      split
      · next h1 => exact Or.inl ⟨rfl, h0, h1⟩
      · next c hc =>
        obtain ⟨h1, h2⟩ := fU_mem hc
        exact up_done hL hv n _ (ht.unit (hL c h1) h2) (by rw [List.length_append]; simp; omega)

/-! ### a literal more -/
theorem nf_app (t c : List Int) (x : Int) : nf (t ++ [x]) c = (nf t c).filter fun l => decide (ng l ≠ x) := by
  unfold nf
  rw [List.filter_filter]
  refine List.filter_congr fun l _ => ?_
  by_cases h1 : ng l ∈ t <;> by_cases h2 : ng l = x <;> simp [h1, h2]
theorem tru_app {t c : List Int} {x : Int} : tru (t ++ [x]) c = true ↔ tru t c = true ∨ x ∈ c := by
  rw [tru_iff, tru_iff]
  constructor
  · rintro ⟨l, hl, h⟩
    rcases List.mem_append.1 h with h | h
    · exact Or.inl ⟨l, hl, h⟩
    · rw [List.mem_singleton.1 h] at hl; exact Or.inr hl
  · rintro (⟨l, hl, h⟩ | h)
    · exact ⟨l, hl, List.mem_append.2 (Or.inl h)⟩
    · exact ⟨x, h, by simp⟩

end Go.Proofs.YtecmldnigohjfabDoor

namespace Go.Proofs.YtecmldnigohjfabDoor
set_option linter.unusedVariables false
set_option linter.unusedSimpArgs false

theorem up_succ' (n : Nat) (t : List Int) (L : List (List Int)) : up (n + 1) t L = (match fF t L with
      | some i => (t, (i : Int))
      | none => match fU t L with
        | none => (t, -1)
        | some c => up n (t ++ [stX t c]) L) := rfl
/-- nothing is false or unit -/
def Cls (x : List Int) (L : List (List Int)) : Prop := ∀ c ∈ L, stC x c ≠ 0 ∧ stC x c ≠ 3
theorem nf_sub {t x c : List Int} (h : ∀ l ∈ t, l ∈ x) : nf x c = (nf t c).filter fun l => !decide (ng l ∈ x) := by
  unfold nf
  rw [List.filter_filter]
  refine List.filter_congr fun l _ => ?_
  by_cases h1 : ng l ∈ x
  · simp [h1]
  · have h2 : ng l ∉ t := fun hh => h1 (h _ hh)
    simp [h1, h2]
/-- under more literals -/
theorem cls_step {v : Int} {x t c : List Int} (hx : OkT v x) (ht : OkT v t) (hs : ∀ l ∈ t, l ∈ x) (h0 : stC x c ≠ 0) (h3 : stC x c ≠ 3) : stC t c ≠ 0 ∧ (stC t c = 3 → stX t c ∈ x) := by
  have hn := nf_sub (c := c) hs
  constructor
  · intro h
    rw [stC_0 ht] at h
    rw [h] at hn
    exact h0 ((stC_0 hx).2 hn)
  · intro h
    obtain ⟨e, hc, _, _⟩ := stX_3 h
    generalize stX t c = l at e hc
    rw [e] at hn
    cases hT : tru x c with
    | true =>
      obtain ⟨m, hm, hmx⟩ := tru_iff.1 hT
      have : m ∈ nf x c := mem_nf.2 ⟨hm, fun hh => hx.two hmx hh⟩
      rw [hn] at this
      have := (List.mem_filter.1 this).1
      rw [List.mem_singleton.1 this] at hmx
      exact hmx
    | false =>
      exfalso
      by_cases hl : ng l ∈ x
      · rw [List.filter_cons_of_neg (by simp [hl])] at hn
        exact h0 ((stC_0 hx).2 hn)
      · rw [List.filter_cons_of_pos (by simp [hl])] at hn
        exact h3 (stC_3.2 ⟨hT, by rw [hn]; rfl⟩)
theorem up_sub {v : Int} {L : List (List Int)} {x : List Int} (hL : ∀ c ∈ L, OkC v c) (hx : OkT v x) (hc : Cls x L) : ∀ (n : Nat) (t : List Int), OkT v t → (∀ l ∈ t, l ∈ x) → (up n t L).2 = -1 ∧ ∀ l ∈ (up n t L).1, l ∈ x
  | 0, t, ht, hs => ⟨rfl, hs⟩
  | n + 1, t, ht, hs => by
    rw [up_succ']
    cases hf : fF t L with
    | some i =>
      exfalso
      obtain ⟨hi, h1, _⟩ := fF_at hf
      obtain ⟨h2, h3⟩ := hc _ (List.getElem_mem hi)
      exact (cls_step hx ht hs h2 h3).1 h1
    | none =>
      cases hu : fU t L with
      | none => exact ⟨rfl, hs⟩
      | some c =>
        obtain ⟨h1, h2⟩ := fU_mem hu
        obtain ⟨h3, h4⟩ := hc c h1
        refine up_sub hL hx hc n _ (ht.unit (hL c h1) h2) fun l hl => ?_
        rcases List.mem_append.1 hl with hl | hl
        · exact hs l hl
        · rw [List.mem_singleton.1 hl]; exact (cls_step hx ht hs h3 h4).2 h2
theorem upR_ok' {v : Int} {t : List Int} {L : List (List Int)} (hL : ∀ c ∈ L, OkC v c) (h : OkT v t) : OkT v (upR v t L).1 := (up_ind hL (fun _ => True) (fun _ _ _ _ _ _ => trivial) _ _ h trivial).1
theorem upR_pre {v : Int} {t : List Int} {L : List (List Int)} (hL : ∀ c ∈ L, OkC v c) (h : OkT v t) : t <+: (upR v t L).1 :=
  (up_ind hL (fun y => t <+: y) (fun y c _ hy _ _ => hy.trans (List.prefix_append _ _)) _ _ h (List.prefix_refl t)).2
theorem upR_mem {v : Int} {t : List Int} {L : List (List Int)} (hL : ∀ c ∈ L, OkC v c) (h : OkT v t) : ∀ l ∈ t, l ∈ (upR v t L).1 := fun l hl => (upR_pre hL h).subset hl
/-- the end: two ways -/
theorem upR_done {v : Int} {t : List Int} {L : List (List Int)} (hL : ∀ c ∈ L, OkC v c) (hv : 0 ≤ v) (h : OkT v t) :
    ((upR v t L).2 = -1 ∧ Cls (upR v t L).1 L) ∨ ∃ i : Nat, ∃ hi : i < L.length, (upR v t L).2 = (i : Int) ∧ stC (upR v t L).1 L[i] = 0 ∧ ∀ j (hj : j < i), stC (upR v t L).1 (L[j]'(by omega)) ≠ 0 := by
  rcases up_done hL hv (v.toNat + 1) t h (by omega) with ⟨h1, h2, h3⟩ | ⟨i, h1, h2⟩
  · refine Or.inl ⟨h1, fun c hc => ⟨fF_none_iff.1 h2 c hc, fU_none_iff.1 h3 c hc⟩⟩
  · obtain ⟨hi, h4, h5⟩ := fF_at h2
    exact Or.inr ⟨i, hi, h1, h4, h5⟩
theorem upR_neg {v : Int} {t : List Int} {L : List (List Int)} (hL : ∀ c ∈ L, OkC v c) (hv : 0 ≤ v) (h : OkT v t) : (upR v t L).2 < 0 ↔ (upR v t L).2 = -1 ∧ Cls (upR v t L).1 L := by
  constructor
  · intro hn
    rcases upR_done hL hv h with h1 | ⟨i, hi, h1, _⟩
    · exact h1
    · omega
  · rintro ⟨h1, _⟩; omega
/-- more clauses, more literals -/
theorem upR_mono {v : Int} {t t' : List Int} {L L' : List (List Int)} (hL' : ∀ c ∈ L', OkC v c) (hv : 0 ≤ v) (h : OkT v t) (h' : OkT v t') (hs : ∀ c ∈ L, c ∈ L') (ht : ∀ l ∈ t, l ∈ t') (hn : (upR v t' L').2 < 0) :
    (upR v t L).2 < 0 ∧ ∀ l ∈ (upR v t L).1, l ∈ (upR v t' L').1 := by
  obtain ⟨_, hc⟩ := (upR_neg hL' hv h').1 hn
  have := up_sub (L := L) (fun c hc => hL' c (hs c hc)) (upR_ok' hL' h') (fun c hm => hc c (hs c hm)) (v.toNat + 1) t h (fun l hl => upR_mem hL' h' l (ht l hl))
  refine ⟨?_, this.2⟩
  have h1 := this.1
  show (up (v.toNat + 1) t L).2 < 0
  omega
/-- the same in any order -/
theorem upR_perm {v : Int} {t : List Int} {L L' : List (List Int)} (hL : ∀ c ∈ L, OkC v c) (hv : 0 ≤ v) (h : OkT v t) (hm : ∀ c, c ∈ L ↔ c ∈ L') :
    ((upR v t L).2 < 0 ↔ (upR v t L').2 < 0) ∧ ((upR v t L).2 < 0 → ∀ l, l ∈ (upR v t L).1 ↔ l ∈ (upR v t L').1) := by
  have hL' : ∀ c ∈ L', OkC v c := fun c hc => hL c ((hm c).2 hc)
  have a := fun hn => upR_mono (L := L') (L' := L) hL hv h h (fun c hc => (hm c).2 hc) (fun _ hl => hl) hn
  have b := fun hn => upR_mono (L := L) (L' := L') hL' hv h h (fun c hc => (hm c).1 hc) (fun _ hl => hl) hn
  exact ⟨⟨fun hn => (a hn).1, fun hn => (b hn).1⟩, fun hn l => ⟨(b (a hn).1).2 l, (a hn).2 l⟩⟩
/-- again -/
theorem upR_twice {v : Int} {t : List Int} {L : List (List Int)} (hL : ∀ c ∈ L, OkC v c) (hv : 0 ≤ v) (h : OkT v t) : upR v (upR v t L).1 L = upR v t L := by
  rcases up_done hL hv (v.toNat + 1) t h (by omega) with ⟨h1, h2, h3⟩ | ⟨i, h1, h2⟩
  · have := up_end (n := v.toNat + 1) h2 h3
    exact this.trans (Prod.ext rfl h1.symm)
  · have := up_false (n := v.toNat + 1) h2 (Nat.succ_pos _)
    exact this.trans (Prod.ext rfl h1.symm)
/-- what is implied follows -/
theorem tr_nf {V : Nat → Bool} {t c : List Int} (ht : ∀ l ∈ t, tr V l = true) (hc : trs V c = true) : ∃ m ∈ nf t c, tr V m = true := by
  obtain ⟨m, hm, h1⟩ := trs_iff.1 hc
  refine ⟨m, mem_nf.2 ⟨hm, fun hh => ?_⟩, h1⟩
  have := ht _ hh
  rw [tr_ng, h1] at this
  cases this
theorem upR_follows {v : Int} {t : List Int} {L : List (List Int)} (hL : ∀ c ∈ L, OkC v c) (hv : 0 ≤ v) (h : OkT v t) {V : Nat → Bool} (ht : ∀ l ∈ t, tr V l = true) (hc : ∀ c ∈ L, trs V c = true) :
    (upR v t L).2 < 0 ∧ ∀ l ∈ (upR v t L).1, tr V l = true := by
  have h2 : ∀ l ∈ (upR v t L).1, tr V l = true := by
    refine (up_ind hL (fun y => ∀ l ∈ y, tr V l = true) (fun y c _ hy hcm hu l hl => ?_) _ _ h ht).2
    rcases List.mem_append.1 hl with hl | hl
    · exact hy l hl
    · obtain ⟨m, hm, h1⟩ := tr_nf hy (hc c hcm)
      rw [(stX_3 hu).1] at hm
      rw [List.mem_singleton.1 hl, ← List.mem_singleton.1 hm]; exact h1
  refine ⟨?_, h2⟩
  rcases upR_done hL hv h with ⟨h1, _⟩ | ⟨i, hi, _, h1, _⟩
  · omega
  · exfalso
    rw [stC_0 (upR_ok' hL h)] at h1
    obtain ⟨m, hm, _⟩ := tr_nf h2 (hc _ (List.getElem_mem hi))
    rw [h1] at hm
    cases hm
/-- literals, each one once, in order -/
theorem nd_len : ∀ (t s : List Int), t.Nodup → (∀ x ∈ t, x ∈ s) → t.length ≤ s.length
  | [], s, _, _ => Nat.zero_le _
  | x :: t, s, hn, h => by
    obtain ⟨h1, h2⟩ := List.nodup_cons.1 hn
    have hx := h x (by simp)
    have := nd_len t (s.erase x) h2 (fun y hy => (List.mem_erase_of_ne (fun e : y = x => h1 (by rw [← e]; exact hy))).2 (h y (List.mem_cons_of_mem _ hy)))
    rw [List.length_erase_of_mem hx] at this
    have := List.length_pos_of_mem hx
    rw [List.length_cons]; omega
theorem OkT.srt_len {v : Int} {t : List Int} (h : OkT v t) : (srt t).length = t.length := by
  have hn : t.Nodup := h.2.imp fun h e => h (by rw [e])
  have hs : (srt t).Nodup := (srt_ss t).imp fun h e => by omega
  exact Nat.le_antisymm (nd_len _ _ hs fun x hx => (mem_srt t x).1 hx) (nd_len _ _ hn fun x hx => (mem_srt t x).2 hx)

end Go.Proofs.YtecmldnigohjfabDoor

namespace Go.Proofs.YtecmldnigohjfabDoor
set_option linter.unusedVariables false
set_option linter.unusedSimpArgs false

/-- how many of the first i clauses have a literal -/
def oc (L : List (List Int)) : Nat → Int → Nat
  | 0, _ => 0
  | i + 1, y => oc L i y + if y ∈ L.getD i [] then 1 else 0
/-- where a literal's places begin -/
def sg (L : List (List Int)) : Nat → Nat
  | 0 => 0
  | z + 1 => sg L z + oc L L.length (z : Int)
/-- the clauses with a literal, in order -/
def ocs (L : List (List Int)) (i : Nat) (y : Int) : List Nat := (List.range i).filter fun j => decide (y ∈ L.getD j [])
theorem ocs_succ (L : List (List Int)) (i : Nat) (y : Int) : ocs L (i + 1) y = ocs L i y ++ if y ∈ L.getD i [] then [i] else [] := by
  unfold ocs
  rw [List.range_succ, List.filter_append]
  by_cases h : y ∈ L.getD i []
  · rw [if_pos h]; simp only [List.filter_cons, h, decide_true, if_true, List.filter_nil]
  · rw [if_neg h]; simp only [List.filter_cons, h, decide_false, List.filter_nil]; simp
theorem ocs_len (L : List (List Int)) : ∀ (i : Nat) (y : Int), (ocs L i y).length = oc L i y
  | 0, y => by simp [ocs, oc]
  | i + 1, y => by
    rw [ocs_succ, List.length_append, ocs_len L i y]
    show _ = oc L i y + _
    split <;> simp
theorem oc_mono (L : List (List Int)) (y : Int) : ∀ {i j : Nat}, i ≤ j → oc L i y ≤ oc L j y := by
  intro i j h
  induction j with
  | zero => obtain rfl : i = 0 := by omega
            exact Nat.le_refl _
  | succ j ih =>
    rcases Nat.lt_or_ge i (j + 1) with h' | h'
    · have h1 := ih (by omega)
      have h2 : oc L (j + 1) y = oc L j y + if y ∈ L.getD j [] then 1 else 0 := rfl
      rw [h2]; omega
    · obtain rfl : i = j + 1 := by omega
      exact Nat.le_refl _
/-- the place of a clause among those with a literal -/
theorem ocs_at (L : List (List Int)) (y : Int) : ∀ {n i : Nat}, i < n → y ∈ L.getD i [] → (ocs L n y)[oc L i y]? = some i := by
  intro n
  induction n with
  | zero => intro i h; omega
  | succ n ih =>
    intro i h hy
    rw [ocs_succ]
    rcases Nat.lt_or_ge i n with h' | h'
    · have h1 := ih h' hy
      rw [List.getElem?_append_left (by have := (List.getElem?_eq_some_iff.1 h1).1; exact this)]
      exact h1
    · obtain rfl : i = n := by omega
      rw [if_pos hy, List.getElem?_append_right (by rw [ocs_len]; exact Nat.le_refl _), ocs_len]
      simp
theorem oc_lt (L : List (List Int)) (y : Int) {n i : Nat} (h : i < n) (hy : y ∈ L.getD i []) : oc L i y < oc L n y := by
  have h1 : oc L (i + 1) y = oc L i y + if y ∈ L.getD i [] then 1 else 0 := rfl
  rw [if_pos hy] at h1
  have := oc_mono L y (show i + 1 ≤ n by omega)
  omega
theorem sg_mono (L : List (List Int)) : ∀ {a b : Nat}, a ≤ b → sg L a ≤ sg L b := by
  intro a b h
  induction b with
  | zero => obtain rfl : a = 0 := by omega
            exact Nat.le_refl _
  | succ b ih =>
    rcases Nat.lt_or_ge a (b + 1) with h' | h'
    · have h1 := ih (by omega)
      have h2 : sg L (b + 1) = sg L b + oc L L.length (b : Int) := rfl
      omega
    · obtain rfl : a = b + 1 := by omega
      exact Nat.le_refl _
/-- places of different literals, or of different clauses, are different -/
theorem sg_inj (L : List (List Int)) {y z : Nat} {k l : Nat} (hk : k < oc L L.length (y : Int)) (hl : l < oc L L.length (z : Int)) (h : sg L y + k = sg L z + l) : y = z ∧ k = l := by
  have h1 : sg L (y + 1) = sg L y + oc L L.length (y : Int) := rfl
  have h2 : sg L (z + 1) = sg L z + oc L L.length (z : Int) := rfl
  rcases Nat.lt_trichotomy y z with h' | h' | h'
  · have := sg_mono L (show y + 1 ≤ z by omega); omega
  · subst h'; exact ⟨rfl, by omega⟩
  · have := sg_mono L (show z + 1 ≤ y by omega); omega
/-- all places -/
theorem sg_le (L : List (List Int)) (n : Nat) {B : Nat} (hB : ∀ y, oc L L.length y ≤ B) : sg L n ≤ n * B := by
  induction n with
  | zero => exact Nat.zero_le _
  | succ n ih =>
    have h2 : sg L (n + 1) = sg L n + oc L L.length (n : Int) := rfl
    have := hB n
    rw [h2, Nat.succ_mul]; omega
theorem oc_le (L : List (List Int)) (y : Int) : ∀ i, oc L i y ≤ i
  | 0 => Nat.le_refl _
  | i + 1 => by
    have h1 : oc L (i + 1) y = oc L i y + if y ∈ L.getD i [] then 1 else 0 := rfl
    have := oc_le L y i
    rw [h1]
    split <;> omega

/-- while the clause i is taken away, p literals of it -/
def lowp (L : List (List Int)) (i p : Nat) (y : Int) : Nat := oc L (i + 1) y - if y ∈ (L.getD i []).take p then 1 else 0
theorem lowp_0 (L : List (List Int)) (i : Nat) (y : Int) : lowp L i 0 y = oc L (i + 1) y := by unfold lowp; simp
theorem lowp_all (L : List (List Int)) (i : Nat) (y : Int) : lowp L i (L.getD i []).length y = oc L i y := by
  unfold lowp
  rw [List.take_length]
  have h1 : oc L (i + 1) y = oc L i y + if y ∈ L.getD i [] then 1 else 0 := rfl
  rw [h1]
  split <;> omega
/-- the places, where those from low on have been laid -/
noncomputable def plF (L : List (List Int)) (low : Int → Nat) (j : Nat) : Nat := by
  classical
  exact if h : ∃ yk : Nat × Nat, j = sg L yk.1 + yk.2 ∧ low (yk.1 : Int) ≤ yk.2 ∧ yk.2 < oc L L.length (yk.1 : Int) then (ocs L L.length (h.choose.1 : Int))[h.choose.2]?.getD 0 else 0
theorem plF_at (L : List (List Int)) (low : Int → Nat) {y k : Nat} (h1 : low (y : Int) ≤ k) (h2 : k < oc L L.length (y : Int)) : plF L low (sg L y + k) = (ocs L L.length (y : Int))[k]?.getD 0 := by
  have hex : ∃ yk : Nat × Nat, sg L y + k = sg L yk.1 + yk.2 ∧ low (yk.1 : Int) ≤ yk.2 ∧ yk.2 < oc L L.length (yk.1 : Int) := ⟨(y, k), rfl, h1, h2⟩
  unfold plF
  rw [dif_pos hex]
  obtain ⟨e1, e2, e3⟩ := hex.choose_spec
  obtain ⟨e4, e5⟩ := sg_inj L h2 e3 e1
  rw [← e4, ← e5]
theorem plF_no (L : List (List Int)) (low : Int → Nat) {j : Nat} (h : ∀ y k : Nat, j = sg L y + k → low (y : Int) ≤ k → k < oc L L.length (y : Int) → False) : plF L low j = 0 := by
  unfold plF
  rw [dif_neg]
  rintro ⟨yk, h1, h2, h3⟩
  exact h yk.1 yk.2 h1 h2 h3
theorem plF_step (L : List (List Int)) {low low' : Int → Nat} {y i : Nat} (hi : i < L.length) (hm : (y : Int) ∈ L.getD i []) (h1 : low (y : Int) = oc L i (y : Int) + 1) (h2 : low' (y : Int) = oc L i (y : Int)) (h3 : ∀ z : Int, z ≠ (y : Int) → low' z = low z) (j : Nat) :
    plF L low' j = if j = sg L y + oc L i (y : Int) then i else plF L low j := by
  have ho := oc_lt L (y : Int) hi hm
  by_cases e : j = sg L y + oc L i (y : Int)
  · rw [if_pos e, e, plF_at L low' (by omega) ho, ocs_at L (y : Int) hi hm]; rfl
  · rw [if_neg e]
    by_cases hex : ∃ z k : Nat, j = sg L z + k ∧ low' (z : Int) ≤ k ∧ k < oc L L.length (z : Int)
    · obtain ⟨z, k, rfl, g1, g2⟩ := hex
      rw [plF_at L low' g1 g2]
      by_cases ez : z = y
      · subst ez
        rw [plF_at L low (by omega) g2]
      · rw [plF_at L low (by rw [← h3 (z : Int) (by omega)]; exact g1) g2]
    · rw [plF_no L low' (fun z k g0 g1 g2 => hex ⟨z, k, g0, g1, g2⟩), plF_no L low (fun z k g0 g1 g2 => hex ⟨z, k, g0, ?_, g2⟩)]
      by_cases ez : z = y
      · subst ez; omega
      · rw [h3 (z : Int) (by omega)]; exact g1
theorem notin_take {v : Int} {c : List Int} (hc : OkC v c) {p : Nat} (hp : p < c.length) : c.getD p 0 ∉ c.take p := fun h => by
  obtain ⟨q, hq, e⟩ := mem_getD h
  rw [List.length_take] at hq
  rw [getD_take (by omega)] at e
  have := List.pairwise_iff_getElem.1 hc.2 q p (by omega) hp (by omega)
  rw [getD_at (show q < c.length by omega), getD_at hp] at e
  omega
theorem in_take_succ {c : List Int} {p : Nat} (hp : p < c.length) (z : Int) : z ∈ c.take (p + 1) ↔ z ∈ c.take p ∨ z = c.getD p 0 := by
  rw [List.take_succ_eq_append_getElem hp, getD_at hp, List.mem_append, List.mem_singleton]
theorem lowp_at {L : List (List Int)} {v : Int} {i p : Nat} (hc : OkC v (L.getD i [])) (hp : p < (L.getD i []).length) : lowp L i p ((L.getD i []).getD p 0) = oc L i ((L.getD i []).getD p 0) + 1 ∧ lowp L i (p + 1) ((L.getD i []).getD p 0) = oc L i ((L.getD i []).getD p 0) ∧ ∀ z, z ≠ (L.getD i []).getD p 0 → lowp L i (p + 1) z = lowp L i p z := by
  have h1 : oc L (i + 1) ((L.getD i []).getD p 0) = oc L i ((L.getD i []).getD p 0) + if (L.getD i []).getD p 0 ∈ L.getD i [] then 1 else 0 := rfl
  rw [if_pos (getD_mem hp)] at h1
  unfold lowp
  refine ⟨?_, ?_, fun z hz => ?_⟩
  · rw [if_neg (notin_take hc hp), h1]; rfl
  · rw [if_pos ((in_take_succ hp _).2 (Or.inr rfl)), h1]; rfl
  · have : (z ∈ (L.getD i []).take (p + 1)) ↔ z ∈ (L.getD i []).take p := by
      rw [in_take_succ hp]; exact ⟨fun h => h.resolve_right hz, Or.inl⟩
    simp only [this]
/-- while the first clauses are counted -/
def ocp (L : List (List Int)) (j p : Nat) (y : Int) : Nat := oc L j y + if y ∈ (L.getD j []).take p then 1 else 0
theorem ocp_0 (L : List (List Int)) (j : Nat) (y : Int) : ocp L j 0 y = oc L j y := by unfold ocp; simp
theorem ocp_all (L : List (List Int)) (j : Nat) (y : Int) : ocp L j (L.getD j []).length y = oc L (j + 1) y := by unfold ocp; rw [List.take_length]; rfl
theorem ocp_at {L : List (List Int)} {v : Int} {i p : Nat} (hc : OkC v (L.getD i [])) (hp : p < (L.getD i []).length) (z : Int) : ocp L i (p + 1) z = if z = (L.getD i []).getD p 0 then ocp L i p ((L.getD i []).getD p 0) + 1 else ocp L i p z := by
  unfold ocp
  by_cases e : z = (L.getD i []).getD p 0
  · subst e
    rw [if_pos rfl, if_pos ((in_take_succ hp _).2 (Or.inr rfl)), if_neg (notin_take hc hp)]
  · rw [if_neg e]
    have : (z ∈ (L.getD i []).take (p + 1)) ↔ z ∈ (L.getD i []).take p := by
      rw [in_take_succ hp]; exact ⟨fun h => h.resolve_right e, Or.inl⟩
    simp only [this]
/-- while the sums are made -/
def sgp (L : List (List Int)) (z y : Nat) : Nat := if y < z then sg L (y + 1) else oc L L.length (y : Int)
theorem sgp_succ (L : List (List Int)) (z y : Nat) : sgp L (z + 1) y = if y = z then sg L (z + 1) else sgp L z y := by
  unfold sgp
  by_cases e : y = z
  · subst e; rw [if_pos (Nat.lt_succ_self _), if_pos rfl]
  · rw [if_neg e]
    by_cases h : y < z
    · rw [if_pos h, if_pos (by omega)]
    · rw [if_neg h, if_neg (by omega)]

end Go.Proofs.YtecmldnigohjfabDoor
