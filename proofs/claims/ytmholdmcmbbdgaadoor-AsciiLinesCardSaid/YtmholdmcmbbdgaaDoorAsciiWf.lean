/- What stands in a text behind its first word: digits, blanks and line feeds alone, no two gaps side by side; how many lines. -/
import Derived.Test.YtmholdmcmbbdgaaDoorAsciiMath
namespace Go.Proofs.YtmholdmcmbbdgaaDoor
open Go.RowKit
set_option linter.unusedVariables false
set_option linter.unusedSimpArgs false

/-- a blank or a line feed -/
def gapB (c : UInt8) : Bool := c == 32 || c == 10
/-- digits and gaps; g: behind a gap, or at the beginning -/
def wfL : Bool → List UInt8 → Bool
  | _, [] => true
  | g, c :: l => if gapB c then !g && wfL true l else decide (48 ≤ c.toNat ∧ c.toNat ≤ 57) && wfL false l
/-- behind a gap, at the end -/
def fin : Bool → List UInt8 → Bool
  | g, [] => g
  | _, c :: l => fin (gapB c) l
theorem wfL_app : ∀ (l m : List UInt8) (g : Bool), wfL g (l ++ m) = (wfL g l && wfL (fin g l) m)
  | [], m, g => by simp [wfL, fin]
  | c :: l, m, g => by
    rw [List.cons_append, wfL, wfL, fin]
    cases h : gapB c
    · simp only [Bool.false_eq_true, if_false, wfL_app l m false, Bool.and_assoc]
    · simp only [if_true, wfL_app l m true, Bool.and_assoc]
theorem fin_app : ∀ (l m : List UInt8) (g : Bool), fin g (l ++ m) = fin (fin g l) m
  | [], m, g => rfl
  | c :: l, m, g => by rw [List.cons_append, fin, fin, fin_app l m]
/-- how many line feeds -/
def lfs (l : List UInt8) : Nat := l.count 10
theorem lfs_app (l m : List UInt8) : lfs (l ++ m) = lfs l + lfs m := List.count_append
theorem dig_not {c : UInt8} (h : 48 ≤ c.toNat ∧ c.toNat ≤ 57) : gapB c = false ∧ (c == 10) = false := by
  have h1 : c ≠ 32 := fun e => by subst e; exact absurd h (by decide)
  have h2 : c ≠ 10 := fun e => by subst e; exact absurd h (by decide)
  unfold gapB
  simp [h1, h2]
theorem wf_digs : ∀ (l : List UInt8) (g : Bool), (∀ c ∈ l, 48 ≤ c.toNat ∧ c.toNat ≤ 57) → l ≠ [] → wfL g l = true ∧ fin g l = false ∧ lfs l = 0
  | [], _, _, h => absurd rfl h
  | c :: l, g, hl, _ => by
    have hc := hl c (by simp)
    obtain ⟨d1, d2⟩ := dig_not hc
    have hx : lfs (c :: l) = lfs l := by unfold lfs; rw [List.count_cons, d2]; simp
    by_cases hn : l = []
    · subst hn
      refine ⟨?_, ?_, by rw [hx]; rfl⟩
      · rw [wfL, d1]; simp [wfL, hc]
      · rw [fin, d1]; rfl
    · obtain ⟨a, b, d⟩ := wf_digs l false (fun c hc => hl c (by simp [hc])) hn
      refine ⟨?_, ?_, by rw [hx, d]⟩
      · rw [wfL, d1, a]; simp [hc]
      · rw [fin, d1, b]
theorem dgs_wf {x : Int} (h : 0 ≤ x) (g : Bool) : wfL g (dgs x) = true ∧ fin g (dgs x) = false ∧ lfs (dgs x) = 0 := by
  have hp := dgs_pos h
  rw [dgs_nat x h] at hp ⊢
  exact wf_digs _ g (decDigits_dig _) (fun e => by rw [e] at hp; simp at hp)
theorem par_wf {f : Nat → Int} : ∀ {n : Nat}, (∀ j, j < n + 1 → 0 ≤ f j) → wfL true (par f (n + 1)) = true ∧ fin true (par f (n + 1)) = false ∧ lfs (par f (n + 1)) = 0
  | 0, h => by
    have := dgs_wf (h 0 (by omega)) true
    have e : par f (0 + 1) = dgs (f 0) := by simp [par]
    rw [e]; exact this
  | n + 1, h => by
    obtain ⟨a, b, d⟩ := par_wf (n := n) fun j hj => h j (by omega)
    obtain ⟨a', b', d'⟩ := dgs_wf (h (n + 1) (by omega)) true
    have e : par f (n + 1 + 1) = par f (n + 1) ++ ([32] ++ dgs (f (n + 1))) := by rw [par_succ, if_neg (by omega), List.append_assoc]
    have e32 : ∀ l, wfL false ([32] ++ l) = wfL true l := fun l => by simp [wfL, gapB]
    have f32 : ∀ l, fin false ([32] ++ l) = fin true l := fun l => by simp [fin, gapB]
    rw [e, wfL_app, fin_app, lfs_app, a, b, d, e32, f32, lfs_app, a', b', d']
    exact ⟨rfl, rfl, rfl⟩
theorem lin_wf {f : Nat → Int} {n : Nat} (hn : 1 ≤ n) (h : ∀ j, j < n → 0 ≤ f j) : wfL true (lin f n) = true ∧ fin true (lin f n) = true ∧ lfs (lin f n) = 1 := by
  obtain ⟨m, rfl⟩ : ∃ m, n = m + 1 := ⟨n - 1, by omega⟩
  obtain ⟨a, b, d⟩ := par_wf (n := m) h
  rw [lin, wfL_app, fin_app, lfs_app, a, b, d]
  exact ⟨rfl, rfl, rfl⟩
/-- lines, one after the other -/
theorem flt_wf {L : Nat → List UInt8} : ∀ {n : Nat}, (∀ j, j < n → wfL true (L j) = true ∧ fin true (L j) = true ∧ lfs (L j) = 1) → wfL true (flt L n) = true ∧ fin true (flt L n) = true ∧ lfs (flt L n) = n
  | 0, _ => ⟨rfl, rfl, rfl⟩
  | n + 1, h => by
    obtain ⟨a, b, d⟩ := flt_wf (n := n) fun j hj => h j (by omega)
    obtain ⟨a', b', d'⟩ := h n (by omega)
    rw [flt, wfL_app, fin_app, lfs_app, a, b, d, a', b', d']
    exact ⟨rfl, rfl, rfl⟩
/-- by index -/
theorem wf_at : ∀ (l : List UInt8) (g : Bool), wfL g l = true → ∀ j, j < l.length → (gapB (l.getD j 0) = false → 48 ≤ (l.getD j 0).toNat ∧ (l.getD j 0).toNat ≤ 57) ∧ (gapB (l.getD j 0) = true → (j = 0 → g = false) ∧ (0 < j → gapB (l.getD (j - 1) 0) = false))
  | [], _, _, j, hj => absurd hj (Nat.not_lt_zero _)
  | c :: l, g, h, j, hj => by
    rw [wfL] at h
    cases hc : gapB c
    · rw [hc] at h
      simp only [Bool.false_eq_true, if_false, Bool.and_eq_true, decide_eq_true_eq] at h
      cases j with
      | zero =>
        show (gapB c = false → _) ∧ (gapB c = true → _)
        rw [hc]
        exact ⟨fun _ => h.1, (fun e => by cases e)⟩
      | succ j =>
        have ih := wf_at l false h.2 j (by simpa using hj)
        have e1 : (c :: l).getD (j + 1) 0 = l.getD j 0 := by simp
        rw [e1]
        refine ⟨ih.1, fun hg => ⟨fun e => by omega, fun _ => ?_⟩⟩
        cases j with
        | zero => exact hc
        | succ j =>
          have e2 : (c :: l).getD (j + 1 + 1 - 1) 0 = l.getD (j + 1 - 1) 0 := by simp
          rw [e2]
          exact (ih.2 hg).2 (by omega)
    · rw [hc] at h
      simp only [if_true, Bool.and_eq_true, Bool.not_eq_true'] at h
      cases j with
      | zero =>
        show (gapB c = false → _) ∧ (gapB c = true → _)
        rw [hc]
        exact ⟨(fun e => by cases e), fun _ => ⟨fun _ => h.1, (fun e => by omega)⟩⟩
      | succ j =>
        have ih := wf_at l true h.2 j (by simpa using hj)
        have e1 : (c :: l).getD (j + 1) 0 = l.getD j 0 := by simp
        rw [e1]
        refine ⟨ih.1, fun hg => ⟨fun e => by omega, fun _ => ?_⟩⟩
        cases j with
        | zero => have := (ih.2 hg).1 rfl; cases this
        | succ j =>
          have e2 : (c :: l).getD (j + 1 + 1 - 1) 0 = l.getD (j + 1 - 1) 0 := by simp
          rw [e2]
          exact (ih.2 hg).2 (by omega)
theorem fin_last : ∀ (l : List UInt8) (g : Bool), l ≠ [] → fin g l = gapB (l.getD (l.length - 1) 0)
  | [], _, h => absurd rfl h
  | [c], g, _ => rfl
  | c :: d :: l, g, _ => by
    rw [fin, fin_last (d :: l) _ (by simp)]
    simp
end Go.Proofs.YtmholdmcmbbdgaaDoor
