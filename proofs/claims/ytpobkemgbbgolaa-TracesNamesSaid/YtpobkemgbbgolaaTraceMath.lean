/- Runs of a circuit, as functions of the frame: states, up to where they are allowed, witnesses, what is cut. -/
import Derived.Test.YtpobkemgbbgolaaValuesRef3
namespace Go.Proofs.Ytpobkemgbbgolaa
open Go.RowKit
set_option linter.unusedVariables false

/-- how far a condition holds, from the first place on -/
def led (P : Nat → Bool) : Nat → Nat
  | 0 => 0
  | n + 1 => if led P n = n ∧ P n = true then n + 1 else led P n
theorem led_succ (P : Nat → Bool) (n : Nat) : led P (n + 1) = if led P n = n ∧ P n = true then n + 1 else led P n := rfl
theorem led_le (P : Nat → Bool) : ∀ n, led P n ≤ n
  | 0 => Nat.le_refl _
  | n + 1 => by rw [led_succ]; have := led_le P n; split <;> omega
theorem led_all (P : Nat → Bool) : ∀ n j, j < led P n → P j = true
  | 0, j, h => absurd h (Nat.not_lt_zero _)
  | n + 1, j, h => by
    rw [led_succ] at h
    split at h
    · rename_i hh
      rcases Nat.lt_succ_iff_lt_or_eq.1 h with h' | h'
      · exact led_all P n j (by omega)
      · subst h'; exact hh.2
    · exact led_all P n j h
theorem led_no (P : Nat → Bool) : ∀ n, led P n < n → P (led P n) = false
  | 0, h => absurd h (Nat.not_lt_zero _)
  | n + 1, h => by
    rw [led_succ] at h ⊢
    split at h
    · omega
    · rename_i hh
      rw [if_neg hh]
      have := led_le P n
      by_cases he : led P n = n
      · rw [he]
        cases hp : P n
        · rfl
        · exact absurd ⟨he, hp⟩ hh
      · exact led_no P n (by omega)
theorem led_eq {P : Nat → Bool} {n k : Nat} (hk : k ≤ n) (h : ∀ j, j < k → P j = true) (h2 : k < n → P k = false) : led P n = k := by
  have h1 := led_le P n
  rcases Nat.lt_trichotomy (led P n) k with h3 | h3 | h3
  · have := led_no P n (by omega)
    rw [h _ h3] at this
    cases this
  · exact h3
  · have := led_all P n k h3
    rw [h2 (by omega)] at this
    cases this
theorem led_at {P : Nat → Bool} {n k : Nat} (hk : k < n) (h : ∀ j, j < k → P j = true) (h2 : P k = false) : led P n = k := led_eq (by omega) h fun _ => h2
theorem led_end {P : Nat → Bool} {n : Nat} (h : ∀ j, j < n → P j = true) : led P n = n := led_eq (Nat.le_refl _) h fun h => by omega
theorem led_congr {P R : Nat → Bool} : ∀ n, (∀ j, j < n → P j = R j) → led P n = led R n
  | 0, _ => rfl
  | n + 1, h => by rw [led_succ, led_succ, led_congr n (fun j hj => h j (by omega)), h n (by omega)]

/-- a run, as numbers -/
structure Tr where
  nf : Nat
  fi : Nat → Bool
  ni : Nat
  ln : Nat → Nat
  ip : Nat → Nat → Bool
/-- where its lists lie -/
structure Tp where
  A1 : Option Addr
  k1 : Nat
  A2 : Option Addr
  k2 : Nat
/-- the first n frames -/
def Tr.cut (t : Tr) (n : Nat) : Tr := ⟨t.nf, t.fi, n, t.ln, t.ip⟩
/-- larger than the statements consider -/
def Tr.gr (t : Tr) : Bool := decide (60 < t.nf ∨ (20 < t.ni ∧ t.ni ≠ 101) ∨ ∃ j, j < t.ni ∧ 60 < t.ln j)
/-- all inputs have as many values -/
def Tr.lnB (t : Tr) (i : Int) : Bool := decide (∀ j, j < t.ni → (t.ln j : Int) = i)
/-- lists that are not long -/
structure TSm (t : Tr) : Prop where
  nf : t.nf ≤ 1000
  ni : t.ni ≤ 1000
  ln : ∀ j, j < t.ni → t.ln j ≤ 1000
theorem Tr.gr_no {t : Tr} (h : t.gr = false) : TSm t := by
  have := of_decide_eq_false h
  refine ⟨by omega, by omega, fun j hj => ?_⟩
  rcases Nat.lt_or_ge 60 (t.ln j) with h' | h'
  · exact absurd (Or.inr (Or.inr ⟨j, hj, h'⟩)) this
  · omega

namespace Cr
/-- the values of the latches are those of a first state -/
def stB (c : Cr) (n : Nat) (f : Nat → Bool) : Bool := decide (∀ j, j < n → ¬ (c.rs j = 0 ∧ f j = true) ∧ ¬ (c.rs j = 1 ∧ f j = false))
theorem stB_yes {c : Cr} {n : Nat} {f : Nat → Bool} (h : ∀ j, j < n → ¬ (c.rs j = 0 ∧ f j = true) ∧ ¬ (c.rs j = 1 ∧ f j = false)) : c.stB n f = true := decide_eq_true h
theorem stB_no {c : Cr} {n k : Nat} {f : Nat → Bool} (hk : k < n) (h : (c.rs k = 0 ∧ f k = true) ∨ (c.rs k = 1 ∧ f k = false)) : c.stB n f = false := decide_eq_false fun h' => by
  rcases h with h | h
  · exact (h' k hk).1 h
  · exact (h' k hk).2 h
/-- the error of a run -/
def tck (c : Cr) (t : Tr) : Int := if c.chk ≠ 0 then c.chk else if 100 < t.ni then 4 else if t.ni = 0 ∨ t.nf ≠ c.nl ∨ c.stB t.nf t.fi = false ∨ t.lnB c.i = false then 8 else 0
/-- the error of a first state -/
def fck (c : Cr) (n : Nat) : Int := if c.chk ≠ 0 then c.chk else if n ≠ c.nl then 2 else 0
def fst (c : Cr) (n : Nat) (f : Nat → Bool) : Bool := if c.fck n = 0 then c.stB n f else false
theorem tck_ok {c : Cr} {t : Tr} (h : c.tck t = 0) : c.chk = 0 ∧ 0 < t.ni ∧ t.ni ≤ 100 ∧ t.nf = c.nl ∧ c.stB t.nf t.fi = true ∧ ∀ j, j < t.ni → (t.ln j : Int) = c.i := by
  unfold tck at h
  split at h
  · omega
  · split at h
    · omega
    · split at h
      · omega
      · rename_i h1 h2 h3
        refine ⟨by omega, by omega, by omega, by omega, ?_, ?_⟩
        · cases hs : c.stB t.nf t.fi
          · exact absurd (Or.inr (Or.inr (Or.inl hs))) h3
          · rfl
        · cases hs : t.lnB c.i
          · exact absurd (Or.inr (Or.inr (Or.inr hs))) h3
          · exact of_decide_eq_true hs
theorem tck_bad {c : Cr} {t : Tr} (h : c.chk ≠ 0) : c.tck t = c.chk := if_pos h
theorem tck_many {c : Cr} {t : Tr} (h : c.chk = 0) (h1 : 100 < t.ni) : c.tck t = 4 := by unfold tck; rw [if_neg (by omega), if_pos h1]
theorem tck_wrong {c : Cr} {t : Tr} (h : c.chk = 0) (h1 : t.ni ≤ 100) (h2 : t.ni = 0 ∨ t.nf ≠ c.nl ∨ c.stB t.nf t.fi = false ∨ t.lnB c.i = false) : c.tck t = 8 := by unfold tck; rw [if_neg (by omega), if_neg (by omega), if_pos h2]
theorem tck_right {c : Cr} {t : Tr} (h : c.chk = 0) (h1 : t.ni ≤ 100) (h2 : ¬ (t.ni = 0 ∨ t.nf ≠ c.nl ∨ c.stB t.nf t.fi = false ∨ t.lnB c.i = false)) : c.tck t = 0 := by unfold tck; rw [if_neg (by omega), if_neg (by omega), if_neg h2]

/-- the states of the frames -/
def sts (c : Cr) (t : Tr) : Nat → Nat → Bool
  | 0 => t.fi
  | i + 1 => c.nv (sts c t i) (t.ip i)
theorem sts_succ (c : Cr) (t : Tr) (i : Nat) : c.sts t (i + 1) = c.nv (c.sts t i) (t.ip i) := rfl
/-- whether the constraints hold in a frame; the values of its bad literals; the first one that is true, or how many there are -/
def hf (c : Cr) (t : Tr) (i : Nat) : Bool := c.hol (c.sts t i) (t.ip i)
def bf (c : Cr) (t : Tr) (i j : Nat) : Bool := c.bv (c.sts t i) (t.ip i) j
def fb (c : Cr) (s t : Nat → Bool) : Nat := led (fun j => !c.bv s t j) c.nb
def ff (c : Cr) (t : Tr) (i : Nat) : Nat := c.fb (c.sts t i) (t.ip i)
/-- up to how many frames it is allowed -/
def alw (c : Cr) (t : Tr) : Nat := led (c.hf t) t.ni
/-- the bad literal that it shows, or -1 -/
def shw (c : Cr) (t : Tr) : Int := if c.alw t < t.ni ∨ c.ff t (t.ni - 1) = c.nb then -1 else (c.ff t (t.ni - 1) : Int)
theorem shw_no {c : Cr} {t : Tr} (h : c.alw t < t.ni ∨ c.ff t (t.ni - 1) = c.nb) : c.shw t = -1 := if_pos h
theorem shw_yes {c : Cr} {t : Tr} (h : ¬ (c.alw t < t.ni ∨ c.ff t (t.ni - 1) = c.nb)) : c.shw t = (c.ff t (t.ni - 1) : Int) := if_neg h
theorem ff_le (c : Cr) (t : Tr) (i : Nat) : c.ff t i ≤ c.nb := led_le _ _
/-- how many frames are cut off it, or none -/
def cun (c : Cr) (t : Tr) : Nat := if led (fun i => c.hf t i && decide (c.ff t i = c.nb)) t.ni < t.ni ∧ c.hf t (led (fun i => c.hf t i && decide (c.ff t i = c.nb)) t.ni) = true then led (fun i => c.hf t i && decide (c.ff t i = c.nb)) t.ni + 1 else 0
theorem sts_cut (c : Cr) (t : Tr) (n : Nat) : ∀ i, c.sts (t.cut n) i = c.sts t i
  | 0 => rfl
  | i + 1 => by rw [sts_succ, sts_succ, sts_cut c t n i]; rfl
theorem hf_cut (c : Cr) (t : Tr) (n i : Nat) : c.hf (t.cut n) i = c.hf t i := by unfold hf; rw [sts_cut]; rfl
theorem ff_cut (c : Cr) (t : Tr) (n i : Nat) : c.ff (t.cut n) i = c.ff t i := by unfold ff; rw [sts_cut]; rfl
theorem alw_cut (c : Cr) (t : Tr) (n : Nat) : c.alw (t.cut n) = led (c.hf t) n := led_congr _ fun j _ => hf_cut c t n j
/-- the beginning of a right run is one -/
theorem tck_cut {c : Cr} {t : Tr} {n : Nat} (h : c.tck t = 0) (h1 : 0 < n) (h2 : n ≤ t.ni) : c.tck (t.cut n) = 0 := by
  obtain ⟨k1, k2, k3, k4, k5, k6⟩ := tck_ok h
  refine tck_right k1 (show n ≤ 100 by omega) ?_
  rintro (h | h | h | h)
  · exact absurd (show n = 0 from h) (by omega)
  · exact h k4
  · have h : c.stB t.nf t.fi = false := h
    rw [k5] at h; cases h
  · exact of_decide_eq_false h fun j (hj : j < n) => k6 j (by omega)
/-- what a beginning shows -/
theorem shw_cut {c : Cr} {t : Tr} {n : Nat} (hn : 0 < n) : 0 ≤ c.shw (t.cut n) ↔ (∀ j, j < n → c.hf t j = true) ∧ c.ff t (n - 1) ≠ c.nb := by
  have e1 : (t.cut n).ni = n := rfl
  unfold shw
  rw [alw_cut, ff_cut, e1]
  have hl := led_le (c.hf t) n
  have hf := ff_le c t (n - 1)
  constructor
  · intro h
    split at h
    · omega
    · rename_i h'
      refine ⟨fun j hj => led_all (c.hf t) n j (by omega), fun e => h' (Or.inr e)⟩
  · intro ⟨h1, h2⟩
    rw [if_neg]
    · omega
    · rintro (h | h)
      · rw [led_end h1] at h; omega
      · exact h2 h
theorem cun_yes {c : Cr} {t : Tr} {k : Nat} (hk : k < t.ni) (h : ∀ j, j < k → c.hf t j = true ∧ c.ff t j = c.nb) (h1 : c.hf t k = true) (h2 : c.ff t k ≠ c.nb) : c.cun t = k + 1 := by
  have e : led (fun i => c.hf t i && decide (c.ff t i = c.nb)) t.ni = k := led_at hk (fun j hj => by simp [h j hj]) (by simp [h2])
  unfold cun
  rw [e, if_pos ⟨hk, h1⟩]
theorem cun_no {c : Cr} {t : Tr} {k : Nat} (hk : k < t.ni) (h : ∀ j, j < k → c.hf t j = true ∧ c.ff t j = c.nb) (h1 : c.hf t k = false) : c.cun t = 0 := by
  have e : led (fun i => c.hf t i && decide (c.ff t i = c.nb)) t.ni = k := led_at hk (fun j hj => by simp [h j hj]) (by simp [h1])
  unfold cun
  rw [e, if_neg (by rw [h1]; simp)]
theorem cun_end {c : Cr} {t : Tr} (h : ∀ j, j < t.ni → c.hf t j = true ∧ c.ff t j = c.nb) : c.cun t = 0 := by
  have e : led (fun i => c.hf t i && decide (c.ff t i = c.nb)) t.ni = t.ni := led_end fun j hj => by simp [h j hj]
  unfold cun
  rw [e, if_neg (by omega)]
/-- the first beginning that shows something is the one that is cut -/
theorem cun_first {c : Cr} {t : Tr} {n : Nat} (h0 : 0 < n) (hn : n ≤ t.ni) (hl : ∀ m, 0 < m → m < n → c.shw (t.cut m) < 0) (hs : 0 ≤ c.shw (t.cut n)) : c.cun t = n := by
  obtain ⟨h1, h2⟩ := (shw_cut h0).1 hs
  have := cun_yes (c := c) (t := t) (k := n - 1) (by omega) (fun j hj => ?_) (h1 _ (by omega)) h2
  · omega
  · refine ⟨h1 j (by omega), ?_⟩
    by_cases e : c.ff t j = c.nb
    · exact e
    · have := hl (j + 1) (by omega) (by omega)
      have := (shw_cut (c := c) (t := t) (n := j + 1) (by omega)).2 ⟨fun i hi => h1 i (by omega), by simpa using e⟩
      omega
theorem cun_none {c : Cr} {t : Tr} (hl : ∀ m, 0 < m → m ≤ t.ni → c.shw (t.cut m) < 0) : c.cun t = 0 := by
  unfold cun
  split
  · rename_i h
    have h1 := led_all (fun i => c.hf t i && decide (c.ff t i = c.nb)) t.ni
    have h2 := led_no (fun i => c.hf t i && decide (c.ff t i = c.nb)) t.ni h.1
    obtain ⟨k, hk⟩ : ∃ k, led (fun i => c.hf t i && decide (c.ff t i = c.nb)) t.ni = k := ⟨_, rfl⟩
    rw [hk] at h h1 h2
    simp only [Bool.and_eq_true, decide_eq_true_eq] at h1
    rw [h.2] at h2
    have h3 : c.ff t k ≠ c.nb := by simpa using h2
    have := hl (k + 1) (by omega) (by omega)
    have := (shw_cut (c := c) (t := t) (n := k + 1) (by omega)).2 ⟨fun i hi => by
      rcases Nat.lt_succ_iff_lt_or_eq.1 hi with h' | h'
      · exact (h1 i h').1
      · subst h'; exact h.2, by simpa using h3⟩
    omega
  · rfl
end Cr
end Go.Proofs.Ytpobkemgbbgolaa
