/- Assignments: their literals, all of different variables, and their starts; what a literal is, its level, what is undone. -/
import Derived.Test.YtecmldnigohjfabDoorClMath
namespace Go.Proofs.YtecmldnigohjfabDoor
set_option linter.unusedVariables false
set_option linter.unusedSimpArgs false

/-- literals of different variables -/
def OkT (v : Int) (t : List Int) : Prop := (∀ x ∈ t, isL v x = true) ∧ t.Pairwise fun x y => x / 2 ≠ y / 2
instance (v : Int) (t : List Int) : Decidable (OkT v t) := by unfold OkT; infer_instance
/-- indices that increase -/
def OkS (n : Nat) (s : List Int) : Prop := (∀ x ∈ s, 0 ≤ x ∧ x < (n : Int)) ∧ s.Pairwise (· < ·)
instance (n : Nat) (s : List Int) : Decidable (OkS n s) := by unfold OkS; infer_instance
/-- an assignment is valid -/
def OkA (v : Int) (t s : List Int) : Prop := ¬ (v < 0 ∨ 4000 < v) ∧ OkT v t ∧ OkS t.length s
instance (v : Int) (t s : List Int) : Decidable (OkA v t s) := by unfold OkA; infer_instance
/-- what Check says -/
def aE (v : Int) (t s : List Int) : Int := if OkA v t s then 0 else 8
theorem aE_0 {v : Int} {t s : List Int} : aE v t s = 0 ↔ OkA v t s := by unfold aE; split <;> simp_all
theorem aE_yes {v : Int} {t s : List Int} (h : OkA v t s) : aE v t s = 0 := if_pos h
theorem aE_no {v : Int} {t s : List Int} (h : ¬ OkA v t s) : aE v t s = 8 := if_neg h
/-- a literal's place among the first ones -/
def tJ (v : Int) (t : List Int) (j : Nat) : Prop := isL v (t.getD j 0) = true ∧ ∀ q, q < j → t.getD q 0 / 2 ≠ t.getD j 0 / 2
theorem OkT_iff {v : Int} {t : List Int} : OkT v t ↔ ∀ j, j < t.length → tJ v t j := by
  constructor
  · rintro ⟨h1, h2⟩ j hj
    refine ⟨h1 _ (getD_mem hj), fun q hq => ?_⟩
    rw [getD_at hj, getD_at (show q < t.length by omega)]
    exact List.pairwise_iff_getElem.1 h2 q j (by omega) hj hq
  · intro h
    refine ⟨fun x hx => ?_, List.pairwise_iff_getElem.2 fun i j hi hj hij => ?_⟩
    · obtain ⟨j, hj, rfl⟩ := mem_getD hx
      exact (h j hj).1
    · have := (h j hj).2 i hij
      rwa [getD_at hi, getD_at hj] at this
theorem okT_no {v : Int} {t : List Int} {j : Nat} (hj : j < t.length) (h : ¬ tJ v t j) : ¬ OkT v t := fun h' => h (OkT_iff.1 h' j hj)
theorem getD_take {l : List Int} {j m : Nat} (h : j < m) : (l.take m).getD j 0 = l.getD j 0 := by
  rw [List.getD_eq_getElem?_getD, List.getD_eq_getElem?_getD, List.getElem?_take, if_pos h]
theorem OkT_take {v : Int} {t : List Int} {m : Nat} (h : ∀ j, j < m → tJ v t j) : OkT v (t.take m) := OkT_iff.2 fun j hj => by
  rw [List.length_take] at hj
  obtain ⟨h1, h2⟩ := h j (by omega)
  refine ⟨by rw [getD_take (by omega)]; exact h1, fun q hq => by rw [getD_take (by omega), getD_take (by omega)]; exact h2 q hq⟩
theorem OkT.one {v : Int} {t : List Int} (h : OkT v t) {i j : Nat} (hi : i < t.length) (hj : j < t.length) (e : t.getD i 0 / 2 = t.getD j 0 / 2) : i = j := by
  rcases Nat.lt_trichotomy i j with h' | h' | h'
  · exact absurd e ((OkT_iff.1 h j hj).2 i h')
  · exact h'
  · exact absurd e.symm ((OkT_iff.1 h i hi).2 j h')
theorem OkT.eq {v : Int} {t : List Int} (h : OkT v t) {x y : Int} (hx : x ∈ t) (hy : y ∈ t) (e : x / 2 = y / 2) : x = y := by
  obtain ⟨i, hi, rfl⟩ := mem_getD hx
  obtain ⟨j, hj, rfl⟩ := mem_getD hy
  rw [h.one hi hj e]
/-- no more literals than variables -/
theorem OkT.len {v : Int} {t : List Int} (h : OkT v t) (hv : 0 ≤ v) : (t.length : Int) ≤ v := by
  obtain ⟨m, hm⟩ : ∃ m, m = t.mergeSort fun x y => decide (x ≤ y) := ⟨_, rfl⟩
  have hp : m.Perm t := by rw [hm]; exact List.mergeSort_perm t _
  have hs : m.Pairwise (· ≤ ·) := by
    rw [hm]
    have := List.pairwise_mergeSort (le := fun x y : Int => decide (x ≤ y)) (by intro a b c; simp only [decide_eq_true_eq]; omega) (by intro a b; simp only [Bool.or_eq_true, decide_eq_true_eq]; omega) t
    exact this.imp fun h => of_decide_eq_true h
  have hne : m.Pairwise fun x y => x / 2 ≠ y / 2 := (hp.pairwise_iff (fun {x y} h => fun e => h e.symm)).2 h.2
  have hc : OkC v m := ⟨fun x hx => h.1 x (hp.mem_iff.1 hx), (hs.and hne).imp fun {x y} ⟨h1, h2⟩ => by omega⟩
  have := hc.len2 hv
  rw [hp.length_eq] at this
  exact this
theorem OkS.len {n : Nat} {s : List Int} (h : OkS n s) : s.length ≤ n := by
  have key : ∀ j, j < s.length → (j : Int) ≤ s.getD j 0 := by
    intro j
    induction j with
    | zero => intro hj; exact (h.1 _ (getD_mem hj)).1
    | succ j ih =>
      intro hj
      have h1 := ih (by omega)
      have h2 : s.getD j 0 < s.getD (j + 1) 0 := by
        rw [getD_at (show j < s.length by omega), getD_at hj]
        exact List.pairwise_iff_getElem.1 h.2 j (j + 1) (by omega) hj (by omega)
      omega
  rcases Nat.eq_zero_or_pos s.length with h0 | h0
  · omega
  · have h1 := key (s.length - 1) (by omega)
    have h2 := (h.1 _ (getD_mem (show s.length - 1 < s.length by omega))).2
    omega
/-- the start ahead of a place -/
def sb (s : List Int) (j : Nat) : Int := if j = 0 then -1 else s.getD (j - 1) 0
def sJ (n : Nat) (s : List Int) (j : Nat) : Prop := sb s j < s.getD j 0 ∧ s.getD j 0 < (n : Int)
theorem sb_succ (s : List Int) (j : Nat) : sb s (j + 1) = s.getD j 0 := by unfold sb; rw [if_neg (by omega), Nat.add_sub_cancel]
theorem OkS_iff {n : Nat} {s : List Int} : OkS n s ↔ ∀ j, j < s.length → sJ n s j := by
  constructor
  · rintro ⟨h1, h2⟩ j hj
    refine ⟨?_, (h1 _ (getD_mem hj)).2⟩
    unfold sb
    split
    · have := (h1 _ (getD_mem hj)).1; omega
    · rw [getD_at hj, getD_at (show j - 1 < s.length by omega)]
      exact List.pairwise_iff_getElem.1 h2 (j - 1) j (by omega) hj (by omega)
  · intro h
    have lo : ∀ j, j < s.length → 0 ≤ s.getD j 0 := by
      intro j
      induction j with
      | zero => intro hj; have := (h 0 hj).1; unfold sb at this; rw [if_pos rfl] at this; omega
      | succ j ih => intro hj; have := ih (by omega); have := (h (j + 1) hj).1; rw [sb_succ] at this; omega
    refine ⟨fun x hx => ?_, List.pairwise_iff_getElem.2 fun i j hi hj hij => ?_⟩
    · obtain ⟨j, hj, rfl⟩ := mem_getD hx
      exact ⟨lo j hj, (h j hj).2⟩
    · have key : ∀ d, i + 1 + d < s.length → s.getD i 0 < s.getD (i + 1 + d) 0 := by
        intro d
        induction d with
        | zero => intro hd; have := (h (i + 1) hd).1; rwa [sb_succ] at this
        | succ d ih => intro hd; have h0 := ih (by omega); have h1 := (h (i + 1 + (d + 1)) hd).1; rw [show i + 1 + (d + 1) = (i + 1 + d) + 1 by omega, sb_succ] at h1; rw [show i + 1 + (d + 1) = (i + 1 + d) + 1 by omega]; omega
      have := key (j - i - 1) (by omega)
      rw [show i + 1 + (j - i - 1) = j by omega] at this
      rwa [getD_at hi, getD_at hj] at this
theorem okS_no {n : Nat} {s : List Int} {j : Nat} (hj : j < s.length) (h : ¬ sJ n s j) : ¬ OkS n s := fun h' => h (OkS_iff.1 h' j hj)

/-! ### what a literal is, where it stands, its level -/
def isv (t : List Int) (x : Int) : Int := if x ∈ t then 1 else if ng x ∈ t then 0 else 2
theorem isv_range (t : List Int) (x : Int) : 0 ≤ isv t x ∧ isv t x ≤ 2 := by unfold isv; split; · omega
                                                                             split <;> omega
/-- a literal of the same variable stands in the list -/
def vin (t : List Int) (x : Int) : Bool := t.any fun y => decide (y / 2 = x / 2)
theorem vin_iff {t : List Int} {x : Int} : vin t x = true ↔ ∃ y ∈ t, y / 2 = x / 2 := by unfold vin; simp
theorem vin_no {t : List Int} {x : Int} : vin t x = false ↔ ∀ y ∈ t, y / 2 ≠ x / 2 := by rw [← Bool.not_eq_true, vin_iff]; simp
theorem isv_none {t : List Int} {x : Int} : isv t x = 2 ↔ vin t x = false := by
  rw [vin_no]
  unfold isv
  constructor
  · intro h y hy e
    split at h
    · omega
    · next h1 =>
      split at h
      · omega
      · next h2 =>
        by_cases e' : y = x
        · exact h1 (e' ▸ hy)
        · exact h2 (by rw [← ng_of e.symm (fun e2 => e' e2.symm)]; exact hy)
  · intro h
    rw [if_neg (fun hx => h x hx rfl), if_neg (fun hx => h _ hx (ng_half x))]
theorem isv_ne {t : List Int} {x : Int} : isv t x ≠ 2 ↔ vin t x = true := by
  rw [Ne, isv_none]; cases vin t x <;> simp
/-- where the variable's literal stands, or -1 -/
def Plc (t : List Int) (x : Int) (i : Int) : Prop := (i = -1 ∧ vin t x = false) ∨ ∃ j : Nat, j < t.length ∧ i = j ∧ t.getD j 0 / 2 = x / 2
noncomputable def plc (t : List Int) (x : Int) : Int := by
  classical
  exact if h : ∃ i, Plc t x i then h.choose else -1
theorem plc_is {v : Int} {t : List Int} (h : OkT v t) {x i : Int} (hp : Plc t x i) : i = plc t x := by
  unfold plc
  rw [dif_pos ⟨i, hp⟩]
  have hq := (show ∃ i, Plc t x i from ⟨i, hp⟩).choose_spec
  generalize (show ∃ i, Plc t x i from ⟨i, hp⟩).choose = i' at hq
  rcases hp with ⟨rfl, h1⟩ | ⟨j, hj, rfl, h1⟩
  · rcases hq with ⟨rfl, _⟩ | ⟨j', hj', rfl, h2⟩
    · rfl
    · exact absurd h2 (vin_no.1 h1 _ (getD_mem hj'))
  · rcases hq with ⟨rfl, h2⟩ | ⟨j', hj', rfl, h2⟩
    · exact absurd h1 (vin_no.1 h2 _ (getD_mem hj))
    · rw [h.one hj hj' (h1.trans h2.symm)]
theorem plc_at {v : Int} {t : List Int} (h : OkT v t) {x : Int} {j : Nat} (hj : j < t.length) (e : t.getD j 0 / 2 = x / 2) : plc t x = (j : Int) := (plc_is h (Or.inr ⟨j, hj, rfl, e⟩)).symm
theorem plc_no {v : Int} {t : List Int} (h : OkT v t) {x : Int} (e : vin t x = false) : plc t x = -1 := (plc_is h (Or.inl ⟨rfl, e⟩)).symm
theorem plc_ng {v : Int} {t : List Int} (h : OkT v t) {x : Int} : plc t (ng x) = plc t x := by
  cases e : vin t x with
  | false => rw [plc_no h e, plc_no h (vin_no.2 fun y hy => by rw [ng_half]; exact vin_no.1 e y hy)]
  | true =>
    obtain ⟨y, hy, e2⟩ := vin_iff.1 e
    obtain ⟨j, hj, rfl⟩ := mem_getD hy
    rw [plc_at h hj e2, plc_at h hj (by rw [ng_half]; exact e2)]
/-- the level at a place -/
def atL (s : List Int) (i : Int) : Nat := s.countP fun y => decide (y ≤ i)
theorem atL_le (s : List Int) (i : Int) : atL s i ≤ s.length := List.countP_le_length
theorem atL_neg {n : Nat} {s : List Int} (h : OkS n s) : atL s (-1) = 0 := by
  unfold atL
  rw [List.countP_eq_zero]
  intro x hx
  have := (h.1 x hx).1
  simp only [decide_eq_true_eq]; omega
/-- the level of a literal's variable, or -1 -/
noncomputable def ofL (t s : List Int) (x : Int) : Int := if vin t x = true then (atL s (plc t x) : Int) else -1
/-- starts up to a place stand ahead of the others -/
theorem atL_cut {n : Nat} {s : List Int} (h : OkS n s) (i : Int) : ∀ j, j < s.length → (j < atL s i ↔ s.getD j 0 ≤ i) := by
  have hp := h.2
  unfold atL
  clear h n
  induction s with
  | nil => intro j hj; exact absurd hj (Nat.not_lt_zero _)
  | cons y s ih =>
    obtain ⟨h1, h2⟩ := List.pairwise_cons.1 hp
    intro j hj
    by_cases hy : y ≤ i
    · rw [List.countP_cons_of_pos (by simpa using hy)]
      cases j with
      | zero => simp [hy]
      | succ j =>
        have := ih h2 j (by simpa using hj)
        rw [List.getD_cons_succ, ← this]
        omega
    · rw [List.countP_cons_of_neg (by simpa using hy), List.countP_eq_zero.2 (fun z hz => by have := h1 z hz; simp only [decide_eq_true_eq]; omega)]
      cases j with
      | zero => simp; omega
      | succ j =>
        have hz := h1 _ (getD_mem (l := s) (j := j) (by simpa using hj))
        rw [List.getD_cons_succ]
        omega
/-- a level more just at a start -/
theorem atL_succ {n : Nat} {s : List Int} (h : OkS n s) (i : Int) : atL s (i + 1) = atL s i + (if (i + 1) ∈ s then 1 else 0) := by
  have hp := h.2
  unfold atL
  clear h n
  induction s with
  | nil => simp
  | cons y s ih =>
    obtain ⟨h1, h2⟩ := List.pairwise_cons.1 hp
    have := ih h2
    by_cases e : y = i + 1
    · subst e
      have hno : i + 1 ∉ s := fun hm => by have := h1 _ hm; omega
      rw [if_neg hno] at this
      rw [List.countP_cons_of_pos (by simp), List.countP_cons_of_neg (by simp; omega), this, if_pos (by simp)]
    · have e2 : (i + 1 ∈ y :: s) ↔ i + 1 ∈ s := by
        rw [List.mem_cons]
        constructor
        · rintro (h | h)
          · exact absurd h.symm e
          · exact h
        · exact Or.inr
      simp only [e2]
      by_cases hy : y ≤ i
      · rw [List.countP_cons_of_pos (by simp; omega), List.countP_cons_of_pos (by simp; omega), this]; omega
      · rw [List.countP_cons_of_neg (by simp; omega), List.countP_cons_of_neg (by simp; omega), this]
/-- at the last literal all levels have begun -/
theorem atL_all {n : Nat} {s : List Int} (h : OkS n s) {i : Int} (hi : (n : Int) ≤ i + 1) : atL s i = s.length := by
  unfold atL
  rw [List.countP_eq_length]
  intro x hx
  have := (h.1 x hx).2
  simp only [decide_eq_true_eq]; omega

/-! ### undone -/
/-- how many literals stay -/
def usz (n : Nat) (s : List Int) (lv : Nat) : Nat := if lv < s.length then (s.getD lv 0).toNat else n
theorem usz_le {n : Nat} {s : List Int} (h : OkS n s) (lv : Nat) : usz n s lv ≤ n := by
  unfold usz
  split
  · next hl => have := (h.1 _ (getD_mem hl)); omega
  · exact Nat.le_refl _
/-- what stays is what has no greater level -/
theorem usz_iff {n : Nat} {s : List Int} (h : OkS n s) {lv : Nat} (hl : lv ≤ s.length) {i : Nat} (hi : i < n) : i < usz n s lv ↔ atL s (i : Int) ≤ lv := by
  unfold usz
  split
  · next hlt =>
    have h0 := (h.1 _ (getD_mem hlt)).1
    have := atL_cut h (i : Int) lv hlt
    omega
  · have := atL_le s (i : Int)
    omega
/-- undone it is valid -/
theorem OkT.take {v : Int} {t : List Int} (h : OkT v t) (m : Nat) : OkT v (t.take m) := ⟨fun x hx => h.1 x (List.mem_of_mem_take hx), h.2.sublist (List.take_sublist _ _)⟩
theorem OkS_und {n : Nat} {s : List Int} (h : OkS n s) {lv : Nat} (hl : lv ≤ s.length) : OkS (usz n s lv) (s.take lv) := by
  refine ⟨fun x hx => ⟨(h.1 x (List.mem_of_mem_take hx)).1, ?_⟩, h.2.sublist (List.take_sublist _ _)⟩
  obtain ⟨j, hj, rfl⟩ := mem_getD hx
  rw [List.length_take] at hj
  rw [getD_take (by omega)]
  have h1 := h.1 _ (getD_mem (show j < s.length by omega))
  unfold usz
  split
  · next hlt =>
    have : s.getD j 0 < s.getD lv 0 := by
      rw [getD_at (show j < s.length by omega), getD_at hlt]
      exact List.pairwise_iff_getElem.1 h.2 j lv (by omega) hlt (by omega)
    omega
  · exact h1.2
theorem OkA.und {v : Int} {t s : List Int} (h : OkA v t s) {lv : Nat} (hl : lv ≤ s.length) : OkA v (t.take (usz t.length s lv)) (s.take lv) := by
  refine ⟨h.1, h.2.1.take _, ?_⟩
  rw [List.length_take, Nat.min_eq_left (usz_le h.2.2 lv)]
  exact OkS_und h.2.2 hl
/-- undone twice -/
theorem usz_two {n : Nat} {s : List Int} (h : OkS n s) {hi lo : Nat} (hh : hi ≤ s.length) (hlo : lo ≤ hi) : usz (usz n s hi) (s.take hi) lo = usz n s lo ∧ usz n s lo ≤ usz n s hi := by
  unfold usz
  rw [List.length_take, Nat.min_eq_left hh]
  by_cases e : lo < hi
  · rw [if_pos e, if_pos (show lo < s.length by omega), getD_take e]
    refine ⟨rfl, ?_⟩
    have h1 := h.1 _ (getD_mem (show lo < s.length by omega))
    split
    · next hlt =>
      have : s.getD lo 0 < s.getD hi 0 := by
        rw [getD_at (show lo < s.length by omega), getD_at hlt]
        exact List.pairwise_iff_getElem.1 h.2 lo hi (by omega) hlt e
      omega
    · omega
  · obtain rfl : lo = hi := by omega
    rw [if_neg e]
    exact ⟨rfl, Nat.le_refl _⟩

/-! ### a literal more -/
theorem OkT.more {v : Int} {t : List Int} (h : OkT v t) {x : Int} (hx : isL v x = true) (hn : vin t x = false) : OkT v (t ++ [x]) := by
  refine ⟨fun y hy => ?_, ?_⟩
  · rcases List.mem_append.1 hy with h' | h'
    · exact h.1 y h'
    · rw [List.mem_singleton.1 h']; exact hx
  · refine List.pairwise_append.2 ⟨h.2, List.pairwise_singleton _ _, fun a ha b hb => ?_⟩
    rw [List.mem_singleton.1 hb]
    exact vin_no.1 hn a ha
theorem OkS.wide {n m : Nat} {s : List Int} (h : OkS n s) (hm : n ≤ m) : OkS m s := ⟨fun x hx => ⟨(h.1 x hx).1, by have := (h.1 x hx).2; omega⟩, h.2⟩
theorem OkS.more {n : Nat} {s : List Int} (h : OkS n s) : OkS (n + 1) (s ++ [(n : Int)]) := by
  refine ⟨fun y hy => ?_, ?_⟩
  · rcases List.mem_append.1 hy with h' | h'
    · have := h.1 y h'; omega
    · rw [List.mem_singleton.1 h']; omega
  · refine List.pairwise_append.2 ⟨h.2, List.pairwise_singleton _ _, fun a ha b hb => ?_⟩
    rw [List.mem_singleton.1 hb]
    exact (h.1 a ha).2
theorem OkA.implied {v : Int} {t s : List Int} (h : OkA v t s) {x : Int} (hx : isL v x = true) (hn : vin t x = false) : OkA v (t ++ [x]) s := ⟨h.1, h.2.1.more hx hn, by rw [List.length_append]; exact h.2.2.wide (Nat.le_add_right _ _)⟩
theorem OkA.decided {v : Int} {t s : List Int} (h : OkA v t s) {x : Int} (hx : isL v x = true) (hn : vin t x = false) : OkA v (t ++ [x]) (s ++ [(t.length : Int)]) := ⟨h.1, h.2.1.more hx hn, by rw [List.length_append]; exact h.2.2.more⟩

/-! ### what the functions return: errors, and what else -/
/-- of functions with a literal -/
def wE (v : Int) (t s : List Int) (x : Int) : Int := if OkA v t s then (if isL v x = true then 0 else 2) else 8
def pE (v : Int) (t s : List Int) (x : Int) : Int := if OkA v t s then (if isL v x = true then (if vin t x = true then 18 else 0) else 2) else 8
def vE := wE
def lE (v : Int) (t s : List Int) (x : Int) : Int := if OkA v t s then (if isL v x = true then (if vin t x = true then 0 else 6) else 2) else 8
def vV (v : Int) (t s : List Int) (x : Int) : Int := if wE v t s x = 0 then isv t x else 0
noncomputable def lV (v : Int) (t s : List Int) (x : Int) : Int := if lE v t s x = 0 then (atL s (plc t x) : Int) else 0
def uE (v : Int) (t s : List Int) (lv : Int) : Int := if OkA v t s then (if lv < 0 ∨ (s.length : Int) < lv then 2 else 0) else 8
theorem wE_0 {v : Int} {t s : List Int} {x : Int} : wE v t s x = 0 ↔ OkA v t s ∧ isL v x = true := by
  unfold wE
  by_cases h1 : OkA v t s
  · by_cases h2 : isL v x = true <;> simp [h1, h2]
  · simp [h1]
theorem pE_0 {v : Int} {t s : List Int} {x : Int} : pE v t s x = 0 ↔ OkA v t s ∧ isL v x = true ∧ vin t x = false := by
  unfold pE
  by_cases h1 : OkA v t s
  · by_cases h2 : isL v x = true
    · cases h3 : vin t x <;> simp [h1, h2]
    · simp [h1, h2]
  · simp [h1]
theorem lE_0 {v : Int} {t s : List Int} {x : Int} : lE v t s x = 0 ↔ OkA v t s ∧ isL v x = true ∧ vin t x = true := by
  unfold lE
  by_cases h1 : OkA v t s
  · by_cases h2 : isL v x = true
    · cases h3 : vin t x <;> simp [h1, h2]
    · simp [h1, h2]
  · simp [h1]
theorem uE_0 {v : Int} {t s : List Int} {lv : Int} : uE v t s lv = 0 ↔ OkA v t s ∧ 0 ≤ lv ∧ lv ≤ s.length := by
  unfold uE
  by_cases h1 : OkA v t s
  · by_cases h2 : lv < 0 ∨ (s.length : Int) < lv
    · simp only [h1, if_true, h2]; simp; omega
    · simp only [h1, if_true, h2, if_false]; simp; omega
  · simp [h1]
theorem pE_w {v : Int} {t s : List Int} {x : Int} (h : wE v t s x ≠ 0) : pE v t s x = wE v t s x := by
  unfold pE wE at *
  split
  · split
    · simp_all
    · rfl
  · rfl
theorem lE_w {v : Int} {t s : List Int} {x : Int} (h : wE v t s x ≠ 0) : lE v t s x = wE v t s x := by
  unfold lE wE at *
  split
  · split
    · simp_all
    · rfl
  · rfl

end Go.Proofs.YtecmldnigohjfabDoor
