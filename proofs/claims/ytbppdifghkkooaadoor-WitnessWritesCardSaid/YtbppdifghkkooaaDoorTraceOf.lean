/- Runs of a circuit, as functions of the frame: states, up to where they are allowed, witnesses, what is cut. -/
import Derived.Test.YtbppdifghkkooaaDoorValuesRef3
import Derived.Maps.AppendAt
import Derived.Deep.AppendLies
namespace Go.Proofs.YtbppdifghkkooaaDoor
open Go.RowKit

set_option linter.unusedVariables false

/-- how far a condition holds, from the first place on -/
def led (P : Nat → Bool) : Nat → Nat
  | 0 => 0
  | n + 1 => if led P n = n ∧ P n = true then n + 1 else led P n
theorem led_succ (P : Nat → Bool) (n : Nat) : led P (n + 1) = if led P n = n ∧ P n = true then n + 1 else led P n := rfl
theorem led_le (P : Nat → Bool) : ∀ n, led P n ≤ n
  | 0 => Nat.le_refl _
  | n + 1 => by rw [led_succ]; have := led_le P n; split <;> omega
theorem led_all (P : Nat → Bool) : ∀ n j, j < led P n → P j = true
  | 0, j, h => absurd h (Nat.not_lt_zero _)
  | n + 1, j, h => by
    rw [led_succ] at h
    split at h
    · rename_i hh
      rcases Nat.lt_succ_iff_lt_or_eq.1 h with h' | h'
      · exact led_all P n j (by omega)
      · subst h'; exact hh.2
    · exact led_all P n j h
theorem led_no (P : Nat → Bool) : ∀ n, led P n < n → P (led P n) = false
  | 0, h => absurd h (Nat.not_lt_zero _)
  | n + 1, h => by
    rw [led_succ] at h ⊢
    split at h
    · omega
    · rename_i hh
      rw [if_neg hh]
      have := led_le P n
      by_cases he : led P n = n
      · rw [he]
        cases hp : P n
        · rfl
        · exact absurd ⟨he, hp⟩ hh
      · exact led_no P n (by omega)
theorem led_eq {P : Nat → Bool} {n k : Nat} (hk : k ≤ n) (h : ∀ j, j < k → P j = true) (h2 : k < n → P k = false) : led P n = k := by
  have h1 := led_le P n
  rcases Nat.lt_trichotomy (led P n) k with h3 | h3 | h3
  · have := led_no P n (by omega)
    rw [h _ h3] at this
    cases this
  · exact h3
  · have := led_all P n k h3
    rw [h2 (by omega)] at this
    cases this
theorem led_at {P : Nat → Bool} {n k : Nat} (hk : k < n) (h : ∀ j, j < k → P j = true) (h2 : P k = false) : led P n = k := led_eq (by omega) h fun _ => h2
theorem led_end {P : Nat → Bool} {n : Nat} (h : ∀ j, j < n → P j = true) : led P n = n := led_eq (Nat.le_refl _) h fun h => by omega
theorem led_congr {P R : Nat → Bool} : ∀ n, (∀ j, j < n → P j = R j) → led P n = led R n
  | 0, _ => rfl
  | n + 1, h => by rw [led_succ, led_succ, led_congr n (fun j hj => h j (by omega)), h n (by omega)]

/-- a run, as numbers -/
structure Tr where
  nf : Nat
  fi : Nat → Bool
  ni : Nat
  ln : Nat → Nat
  ip : Nat → Nat → Bool
/-- where its lists lie -/
structure Tp where
  A1 : Option Addr
  k1 : Nat
  A2 : Option Addr
  k2 : Nat
/-- the first n frames -/
def Tr.cut (t : Tr) (n : Nat) : Tr := ⟨t.nf, t.fi, n, t.ln, t.ip⟩
/-- larger than the statements consider -/
def Tr.gr (t : Tr) : Bool := decide (60 < t.nf ∨ (20 < t.ni ∧ t.ni ≠ 101) ∨ ∃ j, j < t.ni ∧ 60 < t.ln j)
/-- all inputs have as many values -/
def Tr.lnB (t : Tr) (i : Int) : Bool := decide (∀ j, j < t.ni → (t.ln j : Int) = i)
/-- lists that are not long -/
structure TSm (t : Tr) : Prop where
  nf : t.nf ≤ 1000
  ni : t.ni ≤ 1000
  ln : ∀ j, j < t.ni → t.ln j ≤ 1000
theorem Tr.gr_no {t : Tr} (h : t.gr = false) : TSm t := by
  have := of_decide_eq_false h
  refine ⟨by omega, by omega, fun j hj => ?_⟩
  rcases Nat.lt_or_ge 60 (t.ln j) with h' | h'
  · exact absurd (Or.inr (Or.inr ⟨j, hj, h'⟩)) this
  · omega

namespace Cr
/-- the values of the latches are those of a first state -/
def stB (c : Cr) (n : Nat) (f : Nat → Bool) : Bool := decide (∀ j, j < n → ¬ (c.rs j = 0 ∧ f j = true) ∧ ¬ (c.rs j = 1 ∧ f j = false))
theorem stB_yes {c : Cr} {n : Nat} {f : Nat → Bool} (h : ∀ j, j < n → ¬ (c.rs j = 0 ∧ f j = true) ∧ ¬ (c.rs j = 1 ∧ f j = false)) : c.stB n f = true := decide_eq_true h
theorem stB_no {c : Cr} {n k : Nat} {f : Nat → Bool} (hk : k < n) (h : (c.rs k = 0 ∧ f k = true) ∨ (c.rs k = 1 ∧ f k = false)) : c.stB n f = false := decide_eq_false fun h' => by
  rcases h with h | h
  · exact (h' k hk).1 h
  · exact (h' k hk).2 h
/-- the error of a run -/
def tck (c : Cr) (t : Tr) : Int := if c.chk ≠ 0 then c.chk else if 100 < t.ni then 4 else if t.ni = 0 ∨ t.nf ≠ c.nl ∨ c.stB t.nf t.fi = false ∨ t.lnB c.i = false then 8 else 0
/-- the error of a first state -/
def fck (c : Cr) (n : Nat) : Int := if c.chk ≠ 0 then c.chk else if n ≠ c.nl then 2 else 0
def fst (c : Cr) (n : Nat) (f : Nat → Bool) : Bool := if c.fck n = 0 then c.stB n f else false
theorem tck_ok {c : Cr} {t : Tr} (h : c.tck t = 0) : c.chk = 0 ∧ 0 < t.ni ∧ t.ni ≤ 100 ∧ t.nf = c.nl ∧ c.stB t.nf t.fi = true ∧ ∀ j, j < t.ni → (t.ln j : Int) = c.i := by
  unfold tck at h
  split at h
  · omega
  · split at h
    · omega
    · split at h
      · omega
      · rename_i h1 h2 h3
        refine ⟨by omega, by omega, by omega, by omega, ?_, ?_⟩
        · cases hs : c.stB t.nf t.fi
          · exact absurd (Or.inr (Or.inr (Or.inl hs))) h3
          · rfl
        · cases hs : t.lnB c.i
          · exact absurd (Or.inr (Or.inr (Or.inr hs))) h3
          · exact of_decide_eq_true hs
theorem tck_bad {c : Cr} {t : Tr} (h : c.chk ≠ 0) : c.tck t = c.chk := if_pos h
theorem tck_many {c : Cr} {t : Tr} (h : c.chk = 0) (h1 : 100 < t.ni) : c.tck t = 4 := by unfold tck; rw [if_neg (by omega), if_pos h1]
theorem tck_wrong {c : Cr} {t : Tr} (h : c.chk = 0) (h1 : t.ni ≤ 100) (h2 : t.ni = 0 ∨ t.nf ≠ c.nl ∨ c.stB t.nf t.fi = false ∨ t.lnB c.i = false) : c.tck t = 8 := by unfold tck; rw [if_neg (by omega), if_neg (by omega), if_pos h2]
theorem tck_right {c : Cr} {t : Tr} (h : c.chk = 0) (h1 : t.ni ≤ 100) (h2 : ¬ (t.ni = 0 ∨ t.nf ≠ c.nl ∨ c.stB t.nf t.fi = false ∨ t.lnB c.i = false)) : c.tck t = 0 := by unfold tck; rw [if_neg (by omega), if_neg (by omega), if_neg h2]

/-- the states of the frames -/
def sts (c : Cr) (t : Tr) : Nat → Nat → Bool
  | 0 => t.fi
  | i + 1 => c.nv (sts c t i) (t.ip i)
theorem sts_succ (c : Cr) (t : Tr) (i : Nat) : c.sts t (i + 1) = c.nv (c.sts t i) (t.ip i) := rfl
/-- whether the constraints hold in a frame; the values of its bad literals; the first one that is true, or how many there are -/
def hf (c : Cr) (t : Tr) (i : Nat) : Bool := c.hol (c.sts t i) (t.ip i)
def bf (c : Cr) (t : Tr) (i j : Nat) : Bool := c.bv (c.sts t i) (t.ip i) j
def fb (c : Cr) (s t : Nat → Bool) : Nat := led (fun j => !c.bv s t j) c.nb
def ff (c : Cr) (t : Tr) (i : Nat) : Nat := c.fb (c.sts t i) (t.ip i)
/-- up to how many frames it is allowed -/
def alw (c : Cr) (t : Tr) : Nat := led (c.hf t) t.ni
/-- the bad literal that it shows, or -1 -/
def shw (c : Cr) (t : Tr) : Int := if c.alw t < t.ni ∨ c.ff t (t.ni - 1) = c.nb then -1 else (c.ff t (t.ni - 1) : Int)
theorem shw_no {c : Cr} {t : Tr} (h : c.alw t < t.ni ∨ c.ff t (t.ni - 1) = c.nb) : c.shw t = -1 := if_pos h
theorem shw_yes {c : Cr} {t : Tr} (h : ¬ (c.alw t < t.ni ∨ c.ff t (t.ni - 1) = c.nb)) : c.shw t = (c.ff t (t.ni - 1) : Int) := if_neg h
theorem ff_le (c : Cr) (t : Tr) (i : Nat) : c.ff t i ≤ c.nb := led_le _ _
/-- how many frames are cut off it, or none -/
def cun (c : Cr) (t : Tr) : Nat := if led (fun i => c.hf t i && decide (c.ff t i = c.nb)) t.ni < t.ni ∧ c.hf t (led (fun i => c.hf t i && decide (c.ff t i = c.nb)) t.ni) = true then led (fun i => c.hf t i && decide (c.ff t i = c.nb)) t.ni + 1 else 0
theorem sts_cut (c : Cr) (t : Tr) (n : Nat) : ∀ i, c.sts (t.cut n) i = c.sts t i
  | 0 => rfl
  | i + 1 => by rw [sts_succ, sts_succ, sts_cut c t n i]; rfl
theorem hf_cut (c : Cr) (t : Tr) (n i : Nat) : c.hf (t.cut n) i = c.hf t i := by unfold hf; rw [sts_cut]; rfl
theorem ff_cut (c : Cr) (t : Tr) (n i : Nat) : c.ff (t.cut n) i = c.ff t i := by unfold ff; rw [sts_cut]; rfl
theorem alw_cut (c : Cr) (t : Tr) (n : Nat) : c.alw (t.cut n) = led (c.hf t) n := led_congr _ fun j _ => hf_cut c t n j
/-- the beginning of a right run is one -/
theorem tck_cut {c : Cr} {t : Tr} {n : Nat} (h : c.tck t = 0) (h1 : 0 < n) (h2 : n ≤ t.ni) : c.tck (t.cut n) = 0 := by
  obtain ⟨k1, k2, k3, k4, k5, k6⟩ := tck_ok h
  refine tck_right k1 (show n ≤ 100 by omega) ?_
  rintro (h | h | h | h)
  · exact absurd (show n = 0 from h) (by omega)
  · exact h k4
  · have h : c.stB t.nf t.fi = false := h
    rw [k5] at h; cases h
  · exact of_decide_eq_false h fun j (hj : j < n) => k6 j (by omega)
/-- what a beginning shows -/
theorem shw_cut {c : Cr} {t : Tr} {n : Nat} (hn : 0 < n) : 0 ≤ c.shw (t.cut n) ↔ (∀ j, j < n → c.hf t j = true) ∧ c.ff t (n - 1) ≠ c.nb := by
  have e1 : (t.cut n).ni = n := rfl
  unfold shw
  rw [alw_cut, ff_cut, e1]
  have hl := led_le (c.hf t) n
  have hf := ff_le c t (n - 1)
  constructor
  · intro h
    split at h
    · omega
    · rename_i h'
      refine ⟨fun j hj => led_all (c.hf t) n j (by omega), fun e => h' (Or.inr e)⟩
  · intro ⟨h1, h2⟩
    rw [if_neg]
    · omega
    · rintro (h | h)
      · rw [led_end h1] at h; omega
      · exact h2 h
theorem cun_yes {c : Cr} {t : Tr} {k : Nat} (hk : k < t.ni) (h : ∀ j, j < k → c.hf t j = true ∧ c.ff t j = c.nb) (h1 : c.hf t k = true) (h2 : c.ff t k ≠ c.nb) : c.cun t = k + 1 := by
  have e : led (fun i => c.hf t i && decide (c.ff t i = c.nb)) t.ni = k := led_at hk (fun j hj => by simp [h j hj]) (by simp [h2])
  unfold cun
  rw [e, if_pos ⟨hk, h1⟩]
theorem cun_no {c : Cr} {t : Tr} {k : Nat} (hk : k < t.ni) (h : ∀ j, j < k → c.hf t j = true ∧ c.ff t j = c.nb) (h1 : c.hf t k = false) : c.cun t = 0 := by
  have e : led (fun i => c.hf t i && decide (c.ff t i = c.nb)) t.ni = k := led_at hk (fun j hj => by simp [h j hj]) (by simp [h1])
  unfold cun
  rw [e, if_neg (by rw [h1]; simp)]
theorem cun_end {c : Cr} {t : Tr} (h : ∀ j, j < t.ni → c.hf t j = true ∧ c.ff t j = c.nb) : c.cun t = 0 := by
  have e : led (fun i => c.hf t i && decide (c.ff t i = c.nb)) t.ni = t.ni := led_end fun j hj => by simp [h j hj]
  unfold cun
  rw [e, if_neg (by omega)]
/-- the first beginning that shows something is the one that is cut -/
theorem cun_first {c : Cr} {t : Tr} {n : Nat} (h0 : 0 < n) (hn : n ≤ t.ni) (hl : ∀ m, 0 < m → m < n → c.shw (t.cut m) < 0) (hs : 0 ≤ c.shw (t.cut n)) : c.cun t = n := by
  obtain ⟨h1, h2⟩ := (shw_cut h0).1 hs
  have := cun_yes (c := c) (t := t) (k := n - 1) (by omega) (fun j hj => ?_) (h1 _ (by omega)) h2
  · omega
  · refine ⟨h1 j (by omega), ?_⟩
    by_cases e : c.ff t j = c.nb
    · exact e
    · have := hl (j + 1) (by omega) (by omega)
      have := (shw_cut (c := c) (t := t) (n := j + 1) (by omega)).2 ⟨fun i hi => h1 i (by omega), by simpa using e⟩
      omega
theorem cun_none {c : Cr} {t : Tr} (hl : ∀ m, 0 < m → m ≤ t.ni → c.shw (t.cut m) < 0) : c.cun t = 0 := by
  unfold cun
  split
  · rename_i h
    have h1 := led_all (fun i => c.hf t i && decide (c.ff t i = c.nb)) t.ni
    have h2 := led_no (fun i => c.hf t i && decide (c.ff t i = c.nb)) t.ni h.1
    obtain ⟨k, hk⟩ : ∃ k, led (fun i => c.hf t i && decide (c.ff t i = c.nb)) t.ni = k := ⟨_, rfl⟩
    rw [hk] at h h1 h2
    simp only [Bool.and_eq_true, decide_eq_true_eq] at h1
    rw [h.2] at h2
    have h3 : c.ff t k ≠ c.nb := by simpa using h2
    have := hl (k + 1) (by omega) (by omega)
    have := (shw_cut (c := c) (t := t) (n := k + 1) (by omega)).2 ⟨fun i hi => by
      rcases Nat.lt_succ_iff_lt_or_eq.1 hi with h' | h'
      · exact (h1 i h').1
      · subst h'; exact h.2, by simpa using h3⟩
    omega
  · rfl

end Cr

end Go.Proofs.YtbppdifghkkooaaDoor

namespace Go.Proofs.YtbppdifghkkooaaDoor
open Go.RowKit Go.ChangeShapes Go.WideShapes Go.ChangeAt
set_option linter.unusedVariables false

set_option linter.unusedSimpArgs false

/-- the lists of a list -/
def RowsAt (w : World) (B : Nat) (A : Option Addr) (n : Nat) (L : Nat → Nat) (f : Nat → Nat → Bool) : Prop :=
  0 < n → ∃ a, A = some a ∧ a.block < B ∧ ∀ j, j < n → ∃ A' k', w.cell? (a.add j) = some (.slice A' (L j) k') ∧ BlsAt w B A' (L j) (f j) ∧ (A' = none → L j = 0 ∧ k' = 0)
theorem RowsAt.keep {w w' : World} {B : Nat} {A : Option Addr} {n : Nat} {L : Nat → Nat} {f : Nat → Nat → Bool} (h : RowsAt w B A n L f) (hb : Below B w w') : RowsAt w' B A n L f := fun hn => by
  obtain ⟨a, e, hl, hc⟩ := h hn
  refine ⟨a, e, hl, fun j hj => ?_⟩
  obtain ⟨A', k', h1, h2, h3⟩ := hc j hj
  exact ⟨A', k', (hb.cell (by rw [add_block]; exact hl)).trans h1, h2.keep hb, h3⟩
theorem RowsAt.more {w : World} {B B' : Nat} {A : Option Addr} {n : Nat} {L : Nat → Nat} {f : Nat → Nat → Bool} (h : RowsAt w B A n L f) (hb : B ≤ B') : RowsAt w B' A n L f := fun hn => by
  obtain ⟨a, e, hl, hc⟩ := h hn
  refine ⟨a, e, by omega, fun j hj => ?_⟩
  obtain ⟨A', k', h1, h2, h3⟩ := hc j hj
  exact ⟨A', k', h1, h2.more hb, h3⟩
theorem RowsAt.to {w W : World} {B : Nat} {A : Option Addr} {n : Nat} {L : Nat → Nat} {f : Nat → Nat → Bool} (h : RowsAt w B A n L f) (hb : Below B w W) (hB : B ≤ W.heap.size) : RowsAt W W.heap.size A n L f := (h.keep hb).more hB
theorem RowsAt.first {w : World} {B : Nat} {A : Option Addr} {n m : Nat} {L : Nat → Nat} {f : Nat → Nat → Bool} (h : RowsAt w B A n L f) (hm : m ≤ n) : RowsAt w B A m L f := fun hp => by
  obtain ⟨a, e, hl, hc⟩ := h (by omega)
  exact ⟨a, e, hl, fun j hj => hc j (by omega)⟩
theorem RowsAt.congr {w : World} {B : Nat} {A : Option Addr} {n : Nat} {L L' : Nat → Nat} {f f' : Nat → Nat → Bool} (h : RowsAt w B A n L f) (hL : ∀ j, j < n → L j = L' j) (hf : ∀ j, j < n → ∀ i, i < L j → f j i = f' j i) : RowsAt w B A n L' f' := fun hp => by
  obtain ⟨a, e, hl, hc⟩ := h hp
  refine ⟨a, e, hl, fun j hj => ?_⟩
  obtain ⟨A', k', h1, h2, h3⟩ := hc j hj
  rw [← hL j hj]
  exact ⟨A', k', h1, h2.congr (hf j hj), h3⟩

/-- a run's value, and its cells -/
abbrev tv (t : Tr) (q : Tp) : Value := .agg #[.slice q.A1 t.nf q.k1, .slice q.A2 t.ni q.k2]
abbrev tcs (t : Tr) (q : Tp) : Array Value := #[.slice q.A1 t.nf q.k1, .slice q.A2 t.ni q.k2]
/-- the run lies in the memory, below block B -/
structure TMem (w : World) (B : Nat) (t : Tr) (q : Tp) : Prop where
  fi : BlsAt w B q.A1 t.nf t.fi
  ip : RowsAt w B q.A2 t.ni t.ln t.ip
  n1 : q.A1 = none → t.nf = 0 ∧ q.k1 = 0
  n2 : q.A2 = none → t.ni = 0 ∧ q.k2 = 0
  c2 : t.ni ≤ q.k2 ∧ q.k2 ≤ maxLen
theorem TMem.keep {w w' : World} {B : Nat} {t : Tr} {q : Tp} (h : TMem w B t q) (hb : Below B w w') : TMem w' B t q := ⟨h.fi.keep hb, h.ip.keep hb, h.n1, h.n2, h.c2⟩
theorem TMem.more {w : World} {B B' : Nat} {t : Tr} {q : Tp} (h : TMem w B t q) (hb : B ≤ B') : TMem w B' t q := ⟨h.fi.more hb, h.ip.more hb, h.n1, h.n2, h.c2⟩
theorem TMem.to {w W : World} {B : Nat} {t : Tr} {q : Tp} (h : TMem w B t q) (hb : Below B w W) (hB : B ≤ W.heap.size) : TMem W W.heap.size t q := (h.keep hb).more hB
/-- the beginning of a run, as a value -/
theorem TMem.cut {w : World} {B : Nat} {t : Tr} {q : Tp} (h : TMem w B t q) {n : Nat} (h0 : 0 < n) (hn : n ≤ t.ni) : TMem w B (t.cut n) q :=
  ⟨h.fi, h.ip.first hn, h.n1, fun e => by have := h.n2 e; omega, ⟨Nat.le_trans hn h.c2.1, h.c2.2⟩⟩

section
variable {H : Type} {enc : TypeId × Value → H} {W : World} {base : Nat} {held : Bool}

set_option maxRecDepth 100000 in
/-- a run, as it comes in -/
theorem open_tr6 {r : Reach} {b0 : Nat} {v : Value} {d : DataW H} {ps : List MemPlace} (hv : Value.okWide Tryd.prog W r b0 30 v) (h : DataW.Trod enc Tryd.prog W base (fun _ => true) held 30 v d ps) :
    ∃ t q, v = tv t q ∧ TMem W W.heap.size t q := by
  obtain ⟨⟨l⟩, rfl, hsz⟩ := okWide_struct Tryd.underlying30 hv
  have hC : Tryd.prog.cellsOf 30 = 2 := by kernel_rfl
  have k1 : Tryd.prog.cellsOf 27 = 1 := by kernel_rfl
  have k2 : Tryd.prog.cellsOf 28 = 1 := by kernel_rfl
  match l, hsz.trans hC with
  | [v0, v1], _ =>
    obtain ⟨fuel, hf⟩ := h
    obtain ⟨xs, n, _, _, _, hlen, hg⟩ := DataW.trod_struct Tryd.underlying30 hf
    match xs, hlen with
    | [y0, y1], _ =>
      have e0 : DataW.trod enc Tryd.prog W base (fun _ => true) held n 27 [v0] = some y0 := by
        have h := hg 0 _ rfl
        simpa [Value.cells, k1] using h
      have e1 : DataW.trod enc Tryd.prog W base (fun _ => true) held n 28 [v1] = some y1 := by
        have h := hg 1 _ rfl
        simpa [Value.cells, k2] using h
      have h0 : ∃ A n k f, v0 = .slice A n k ∧ BlsAt W W.heap.size A n f ∧ (A = none → n = 0 ∧ k = 0) := by
        rcases Deep.open_bools Tryd.underlying27 Tryd.underlying4 (by kernel_rfl) e0 with ⟨hv, _⟩ | ⟨a, len, cap, f, hv, _, hl, hml, _, hc⟩
        · injection hv with hv
          exact ⟨none, 0, 0, fun _ => false, hv, fun h => absurd h (Nat.not_lt_zero _), fun _ => ⟨rfl, rfl⟩⟩
        · injection hv with hv
          refine ⟨some a, len, cap, f, hv, fun hn => ⟨a, rfl, ?_, fun j hj => hc j (by omega)⟩, (fun h => by cases h)⟩
          have := cell_lt (hc 0 (by omega))
          rwa [add_block] at this
      have h1 : ∃ A n k L f, v1 = .slice A n k ∧ RowsAt W W.heap.size A n L f ∧ (A = none → n = 0 ∧ k = 0) ∧ n ≤ k ∧ k ≤ maxLen := by
        rcases Deep.open_bool_rows Tryd.underlying28 Tryd.underlying27 Tryd.underlying4 k1 (by kernel_rfl) e1 with ⟨hv, _⟩ | ⟨a, len, cap, A, L, C, f, hv, _, hl, hml, _, hc⟩
        · injection hv with hv
          exact ⟨none, 0, 0, fun _ => 0, fun _ _ => false, hv, fun h => absurd h (Nat.not_lt_zero _), fun _ => ⟨rfl, rfl⟩, Nat.le_refl _, Nat.zero_le _⟩
        · injection hv with hv
          refine ⟨some a, len, cap, L, f, hv, fun hn => ⟨a, rfl, ?_, fun j hj => ?_⟩, (fun h => by cases h), hl, hml⟩
          · have := cell_lt (hc 0 (by omega)).1
            rwa [add_block] at this
          · obtain ⟨c1, c2, c3, c4, c5⟩ := hc j (by omega)
            refine ⟨A j, C j, c1, fun hn => ?_, fun e => ⟨by have := c4 e; omega, c4 e⟩⟩
            cases hA : A j with
            | none => have := c4 hA; omega
            | some a' =>
              obtain ⟨_, c6⟩ := c5 a' hA
              refine ⟨a', rfl, ?_, fun i hi => c6 i (by omega)⟩
              have := cell_lt (c6 0 (by omega))
              rwa [add_block] at this
      obtain ⟨A0, n0, k0, f0, rfl, i0, j0⟩ := h0
      obtain ⟨A1, n1, k1', L1, f1, rfl, i1, j1, r1⟩ := h1
      exact ⟨⟨n0, f0, n1, L1, f1⟩, ⟨A0, k0, A1, k1'⟩, rfl, ⟨i0, i1, j0, j1, r1⟩⟩

end

theorem info_bools : (Tryd.prog.info? 27).map (fun i => (i.zero, i.size, i.bytes)) = some (some (.slice none 0 0), 1, 24) := by kernel_rfl
theorem info_bool1 : (Tryd.prog.info? 4).map (fun i => (i.zero, i.size, i.bytes)) = some (some (.bool false), 1, 1) := by kernel_rfl

/-- a list of lists in memory of the call's own; each of its lists lies apart from the list itself, and from one block more -/
structure Grid (w : World) (base : Nat) (v : Value) (n : Nat) (L : Nat → Nat) (f : Nat → Nat → Bool) (D : Option Nat) (lo : Nat := 0) : Prop where
  ex : ∃ xs, w.ownsRow base 27 1 v n xs ∧ ∀ j, j < n → ∃ A k, xs[j]? = some (.slice A (L j) k) ∧ BlsAt w w.heap.size A (L j) (f j) ∧ (A = none → L j = 0 ∧ k = 0) ∧ (0 < L j → ∀ a, A = some a → some a.block ≠ v.ownBlock ∧ some a.block ≠ D ∧ lo ≤ a.block)
theorem Grid.nil (w : World) (base : Nat) (L : Nat → Nat) (f : Nat → Nat → Bool) (D : Option Nat) {lo : Nat} : Grid w base (.slice none 0 0) 0 L f D lo :=
  ⟨⟨[], World.ownsRow_nil _ _ _ _, fun j hj => absurd hj (Nat.not_lt_zero _)⟩⟩
theorem BlsAt.by {w w' : World} {A : Option Addr} {n : Nat} {f : Nat → Bool} {r : Option Nat} (h : BlsAt w w.heap.size A n f) (hg : w.grownBy w' r) (hr : 0 < n → ∀ a, A = some a → some a.block ≠ r) : BlsAt w' w'.heap.size A n f := fun hn => by
  obtain ⟨a, e, hl, hc⟩ := h hn
  exact ⟨a, e, Nat.lt_of_lt_of_le hl hg.size, fun j hj => (World.cell?_of_block (hg.block _ (by rw [add_block]; exact hl) (by rw [add_block]; exact hr hn a e))).trans (hc j hj)⟩
/-- what the call does elsewhere -/
theorem Grid.far {w w' : World} {base : Nat} {v : Value} {n : Nat} {L : Nat → Nat} {f : Nat → Nat → Bool} {D D' : Option Nat} {lo : Nat} (h : Grid w base v n L f D lo) {r : Option Nat} (hg : w.grownBy w' r) (hr : r = none ∨ r = D) (hv : v.ownBlock = none ∨ v.ownBlock ≠ r) (hD : D' = D ∨ D' = some w.heap.size ∨ D' = none) : Grid w' base v n L f D' lo := by
  obtain ⟨xs, ho, hc⟩ := h.ex
  refine ⟨⟨xs, ?_, fun j hj => ?_⟩⟩
  · rcases ho.2 with ⟨hv', hn⟩ | ⟨g, cap, cur, rfl, hg', hh, hrest⟩
    · exact ⟨ho.1, Or.inl ⟨hv', hn⟩⟩
    · refine ⟨ho.1, Or.inr ⟨g, cap, cur, rfl, hg', (hg.block g (Has.lt (t := 27) (cs := cur) hh) ?_).trans hh, hrest⟩⟩
      rcases hv with hv | hv
      · cases hv
      · exact hv
  · obtain ⟨A, k, e1, e2, e3, e4⟩ := hc j hj
    refine ⟨A, k, e1, e2.by hg (fun hn a ha => ?_), e3, fun hn a ha => ⟨(e4 hn a ha).1, ?_, (e4 hn a ha).2.2⟩⟩
    · rcases hr with rfl | rfl
      · simp
      · exact (e4 hn a ha).2.1
    · rcases hD with rfl | rfl | rfl
      · exact (e4 hn a ha).2.1
      · obtain ⟨a', ea, hl, _⟩ := e2 hn
        rw [ha] at ea
        cases ea
        intro e
        injection e with e
        omega
      · simp
/-- what is written below all that the call owns -/
theorem Grid.under {w w' : World} {base : Nat} {v : Value} {n : Nat} {L : Nat → Nat} {f : Nat → Nat → Bool} {D : Option Nat} {lo : Nat} (h : Grid w base v n L f D lo) {x : Nat} (hg : w.grownBy w' (some x)) (h1 : x < base) (h2 : x < lo) : Grid w' base v n L f none lo := by
  obtain ⟨xs, ho, hc⟩ := h.ex
  refine ⟨⟨xs, ?_, fun j hj => ?_⟩⟩
  · rcases ho.2 with ⟨hv', hn⟩ | ⟨g, cap, cur, rfl, hg', hh, hrest⟩
    · exact ⟨ho.1, Or.inl ⟨hv', hn⟩⟩
    · exact ⟨ho.1, Or.inr ⟨g, cap, cur, rfl, hg', (hg.block g (Has.lt (t := 27) (cs := cur) hh) (fun e => by injection e with e; omega)).trans hh, hrest⟩⟩
  · obtain ⟨A, k, e1, e2, e3, e4⟩ := hc j hj
    exact ⟨A, k, e1, e2.by hg (fun hn a ha e => by injection e with e; have := (e4 hn a ha).2.2; omega), e3, fun hn a ha => ⟨(e4 hn a ha).1, by simp, (e4 hn a ha).2.2⟩⟩
theorem grown_below {w w' : World} (h : Below w.heap.size w w') : w.grownBy w' none := ⟨h.os, h.tape, h.output, h.size, fun k hk _ => h.block k hk⟩
theorem grown_al (w : World) (o : Obj) : w.grownBy (w.alloc o) none := grown_below ((Below.refl w.heap.size w).alloc (Nat.le_refl _) o)
theorem Grid.al {w : World} {base : Nat} {v : Value} {n : Nat} {L : Nat → Nat} {f : Nat → Nat → Bool} {D : Option Nat} {lo : Nat} (h : Grid w base v n L f D lo) (o : Obj) : Grid (w.alloc o) base v n L f D lo := h.far (grown_al w o) (Or.inl rfl) (by cases v.ownBlock <;> simp) (Or.inl rfl)
theorem Grid.call {w w' : World} {base : Nat} {v : Value} {n : Nat} {L : Nat → Nat} {f : Nat → Nat → Bool} {D : Option Nat} {lo : Nat} (h : Grid w base v n L f D lo) (hb : Below w.heap.size w w') : Grid w' base v n L f D lo := h.far (grown_below hb) (Or.inl rfl) (by cases v.ownBlock <;> simp) (Or.inl rfl)
theorem Grid.lt {w : World} {base : Nat} {v : Value} {n : Nat} {L : Nat → Nat} {f : Nat → Nat → Bool} {D : Option Nat} {lo : Nat} (h : Grid w base v n L f D lo) {g : Nat} (hg : v.ownBlock = some g) : base ≤ g ∧ g < w.heap.size := by
  obtain ⟨xs, ho, _⟩ := h.ex
  rcases ho.2 with ⟨rfl, _⟩ | ⟨g', cap, cur, rfl, hb, hh, _⟩
  · cases hg
  · obtain rfl : g' = g := by simpa [Value.ownBlock] using hg
    exact ⟨hb, Has.lt (t := 27) (cs := cur) hh⟩
theorem Grid.has {w w' : World} {base n : Nat} {v : Value} {L : Nat → Nat} {f : Nat → Nat → Bool} {D : Option Nat} {lo : Nat} (h : Grid w base v n L f D lo) {b : Nat} {t : TypeId} {cs : Array Value} (hH : Has w b t cs) (hg : w.grownBy w' v.ownBlock) (hb : b < base) : Has w' b t cs := (hg.block b hH.lt (fun e => by have := (h.lt e.symm).1; omega)).trans hH
theorem Grid.below {w0 w w' : World} {B base n : Nat} {v : Value} {L : Nat → Nat} {f : Nat → Nat → Bool} {D : Option Nat} {lo : Nat} (h : Grid w base v n L f D lo) (hB : Below B w0 w) (hs : B ≤ w.heap.size) (hbb : B ≤ base) (hg : w.grownBy w' v.ownBlock) : Below B w0 w' := hB.grown hg hs (fun k hk => Nat.le_trans hbb (h.lt hk).1)
theorem Grid.apart {w : World} {base n : Nat} {v : Value} {L : Nat → Nat} {f : Nat → Nat → Bool} {D : Option Nat} {lo : Nat} (h : Grid w base v n L f D lo) {m : Nat} {A : Option Addr} (hf : ∀ a, A = some a → w.heap.size ≤ a.block) {E : Option Nat} (hE : ∀ g, E = some g → g < w.heap.size) : 0 < m → ∀ a, A = some a → some a.block ≠ v.ownBlock ∧ some a.block ≠ E := fun _ a ha =>
  ⟨fun e => by have := hf a ha; have := (h.lt e.symm).2; omega, fun e => by have := hf a ha; have := hE _ e.symm; omega⟩
/-- as a list of lists -/
theorem Grid.at {w : World} {base : Nat} {v : Value} {n : Nat} {L : Nat → Nat} {f : Nat → Nat → Bool} {D : Option Nat} {lo : Nat} (h : Grid w base v n L f D lo) : ∃ A k, v = .slice A n k ∧ RowsAt w w.heap.size A n L f ∧ (A = none → n = 0 ∧ k = 0) ∧ (n ≤ k ∧ k ≤ maxLen) ∧ ∀ a, A = some a → base ≤ a.block := by
  obtain ⟨xs, ho, hc⟩ := h.ex
  rcases ho.2 with ⟨rfl, hn⟩ | ⟨g, cap, cur, rfl, hb, hh, hk, hm, _⟩
  · subst hn
    exact ⟨none, 0, rfl, fun h => absurd h (Nat.not_lt_zero _), fun _ => ⟨rfl, rfl⟩, ⟨Nat.le_refl _, Nat.zero_le _⟩, fun a h => by cases h⟩
  · refine ⟨some ⟨g, 0, none⟩, cap, rfl, fun hn => ⟨_, rfl, Has.lt (t := 27) (cs := cur) hh, fun j hj => ?_⟩, (fun h => by cases h), ⟨hk, hm⟩, fun a h => by cases h; exact hb⟩
    obtain ⟨A, k, e1, e2, e3, _⟩ := hc j hj
    exact ⟨A, k, ho.cells (g := g) rfl _ _ e1, e2, e3⟩
theorem Grid.block {w : World} {base g n k : Nat} {L : Nat → Nat} {f : Nat → Nat → Bool} {D : Option Nat} {lo : Nat} (h : Grid w base (.slice (some ⟨g, 0, none⟩) n k) n L f D lo) : ∃ cs, Has w g 27 cs := by
  obtain ⟨xs, ho, _⟩ := h.ex
  rcases ho.2 with ⟨hv, _⟩ | ⟨g', cap, cur, hv, _, hh, _⟩
  · cases hv
  · cases hv
    exact ⟨cur, hh⟩
/-- one list of it -/
theorem Grid.row {w : World} {base : Nat} {v : Value} {n : Nat} {L : Nat → Nat} {f : Nat → Nat → Bool} {D : Option Nat} {lo : Nat} (h : Grid w base v n L f D lo) {j : Nat} (hj : j < n) :
    ∃ g k A k', v = .slice (some ⟨g, 0, none⟩) n k ∧ w.cell? ⟨g, j, none⟩ = some (.slice A (L j) k') ∧ BlsAt w w.heap.size A (L j) (f j) ∧ (A = none → L j = 0 ∧ k' = 0) := by
  obtain ⟨xs, ho, hc⟩ := h.ex
  rcases ho.2 with ⟨rfl, hn⟩ | ⟨g, cap, cur, rfl, hb, hh, hk, hm, _⟩
  · omega
  · obtain ⟨A, k, e1, e2, e3, _⟩ := hc j hj
    have hc := ho.cells (g := g) rfl _ _ e1
    have e : (⟨g, 0, none⟩ : Addr).add j = ⟨g, j, none⟩ := by unfold Addr.add; split <;> simp_all
    rw [e] at hc
    exact ⟨g, cap, A, k, rfl, hc, e2, e3⟩
/-- two blocks of other kinds -/
theorem own_apart {w : World} {base base' n m : Nat} {v v' : Value} {L : Nat → Nat} {f : Nat → Nat → Bool} {D : Option Nat} {xs : List Value} {lo : Nat} (h : Grid w base v n L f D lo) (h' : w.ownsRow base' 4 1 v' m xs) : v.ownBlock = none ∨ v.ownBlock ≠ v'.ownBlock := by
  obtain ⟨ys, ho, _⟩ := h.ex
  rcases ho.2 with ⟨rfl, hn⟩ | ⟨g, cap, cur, rfl, hb, hh, _⟩
  · exact Or.inl rfl
  · rcases h'.2 with ⟨rfl, _⟩ | ⟨g', cap', cur', rfl, hb', hh', _⟩
    · exact Or.inr (by simp [Value.ownBlock])
    · refine Or.inr fun e => ?_
      have e : g = g' := by simpa [Value.ownBlock] using e
      subst e
      rw [hh] at hh'
      injection hh' with hh'
      injection hh' with _ ht
      exact absurd ht (by decide)

/-- append of one list to a list of lists -/
theorem append_row {w : World} {ops : Array Oper} {rest : List Oper} {o : Oper} {a : Act} {Q : Exit → Act → World → Prop} (hgd : o.guard = none) (s x : Operand) (t : TypeId)
    (ho : o.op = .call { callee := .builtin .append, args := #[s, x], argTypes := #[t, t] }) (ht : Tryd.prog.underlying t = some (.slice 27))
    (base : Nat) (v : Value) (n : Nat) (L : Nat → Nat) (f : Nat → Nat → Bool) (D : Option Nat) (hs : a.eval s = v) {lo : Nat} (hown : Grid w base v n L f D lo)
    (b c : Nat) (A : Option Addr) (k : Nat) (hx : a.eval x = .slice (some ⟨b, 0, none⟩) 1 c) (hb : w.cell? ⟨b, 0, none⟩ = some (.slice A (L n) k))
    (hA : BlsAt w w.heap.size A (L n) (f n)) (hN : A = none → L n = 0 ∧ k = 0) (hD : 0 < L n → ∀ a, A = some a → some a.block ≠ v.ownBlock ∧ some a.block ≠ D)
    (hn : n ≤ 100000) (hbase : base ≤ w.heap.size)
    (h : ∀ v' w', Grid w' base v' (n + 1) L f D lo → w.grownBy w' v.ownBlock → (v'.ownBlock = v.ownBlock ∨ v'.ownBlock = some w.heap.size) → wpList Tryd.prog ops Q rest (a.put o.dst v') w')
    (hlo : 0 < L n → ∀ a, A = some a → lo ≤ a.block := by intros; exact Nat.zero_le _) :
    wpList Tryd.prog ops Q (o :: rest) a w := by
  obtain ⟨i0, hi0, hzz0, hs0, hy0⟩ := info_parts info_bools
  obtain ⟨xs, hx', hc⟩ := hown.ex
  refine wpList_append_own_at w hgd s x t ho base 27 i0 (.slice none 0 0) 1 24 ht hi0 hzz0 hs0 hy0 rfl (by decide) v n xs hs hx' ⟨b, 0, none⟩ 1 c [.slice A (L n) k] hx rfl (fun j u hu => ?_) (by simp [Value.oneCell']) (by simp only [maxLen]; omega) (by omega) hbase ?_
  · match j, hu with
    | 0, hu =>
      simp at hu
      subst hu
      simpa [Addr.add] using hb
  · intro v' w' hown' hg _ hat
    refine h v' w' ⟨⟨_, hown', fun j hj => ?_⟩⟩ hg hat
    have hl : xs.length = n := by simpa using hx'.1
    have new : ∀ {A : Option Addr} {m : Nat} {g : Nat → Bool}, BlsAt w w.heap.size A m g → 0 < m → ∀ a, A = some a → some a.block ≠ v.ownBlock → some a.block ≠ v'.ownBlock := fun hA hm a ha hne => by
      rcases hat with e | e
      · rw [e]; exact hne
      · obtain ⟨a', ea, hl, _⟩ := hA hm
        rw [ha] at ea
        cases ea
        rw [e]
        intro e
        injection e with e
        omega
    rcases Nat.lt_succ_iff_lt_or_eq.1 hj with hj' | hj'
    · obtain ⟨A', k', e1, e2, e3, e4⟩ := hc j hj'
      exact ⟨A', k', by rw [List.getElem?_append_left (by omega)]; exact e1, e2.by hg (fun hm a ha => (e4 hm a ha).1), e3, fun hm a ha => ⟨new e2 hm a ha (e4 hm a ha).1, (e4 hm a ha).2⟩⟩
    · subst hj'
      exact ⟨A, k, by rw [List.getElem?_append_right (by omega), hl]; simp, hA.by hg (fun hm a ha => (hD hm a ha).1), hN, fun hm a ha => ⟨new hA hm a ha (hD hm a ha).1, (hD hm a ha).2, hlo hm a ha⟩⟩

theorem ok_inj {α : Type} {a b : α} {w w' : World} (h : (Result.ok a w : Result α) = .ok b w') : a = b ∧ w = w' := by
  cases h
  exact ⟨rfl, rfl⟩
/-- an append leaves the cells in place that were there -/
theorem append_keeps {w w' : World} {ty : TypeId} {base n g cap : Nat} {v' : Value} {xs news : List Value} {ad : Addr} {c : Nat} (hown : w.ownsRow base 27 1 (.slice (some ⟨g, 0, none⟩) n cap) n xs)
    (hl : news.length = 1) (hnews : ∀ j u, news[j]? = some u → w.cell? (ad.add j) = some u) (h1 : ∀ u ∈ news, u.oneCell' = true) (hn : n ≤ 100000)
    (hr : (Builtin.append_ #[28, 28] ty #[.slice (some ⟨g, 0, none⟩) n cap, .slice (some ad) 1 c]).run Tryd.prog w = .ok v' w') : ∀ j, j < n → w'.cell? ⟨g, j, none⟩ = w.cell? ⟨g, j, none⟩ := by
  obtain ⟨i0, hi0, hzz0, hs0, hy0⟩ := info_parts info_bools
  rcases hown.2 with ⟨hv, _⟩ | ⟨g', cap', cur, hv, hb, hh, hk, hm, hcs, htake⟩
  · cases hv
  · cases hv
    intro j hj
    have hl' : news.length = 1 * i0.size := by rw [hs0]; omega
    by_cases hroom : n + 1 ≤ cap
    · have hr' := run_append_room (P := Tryd.prog) w 28 ty 27 i0 Tryd.underlying28 hi0 g n cap cur hh ad 1 c news hl' hnews h1 hroom (by rw [hs0]; omega)
      obtain ⟨_, rfl⟩ := ok_inj (hr'.symm.trans hr)
      rw [cell_setRow_same w g j cur _ _ _ hh, cell_of_row w g j cur _ _ hh, hs0]
      simp only [List.getElem?_toArray, Nat.mul_one]
      rw [List.append_assoc, List.getElem?_append_left (by simp; omega), List.getElem?_take_of_lt hj]
      simp
    · have holds : ∀ j u, xs[j]? = some u → w.cell? ((⟨g, 0, none⟩ : Addr).add j) = some u := hown.cells (g := g) rfl
      have hge : Builtin.nextslicecap (n + 1) cap * i0.bytes ≤ 281474976710656 := by
        exact growslice_fits (by omega) (by rw [hy0]; omega)
      have hr' := run_append_grow (P := Tryd.prog) w 28 ty 27 i0 (.slice none 0 0) Tryd.underlying28 hi0 hzz0 ⟨g, 0, none⟩ n cap xs (by rw [hs0]; exact hown.1) holds ad 1 c news hl' hnews (by omega) (by omega) hge
      obtain ⟨_, rfl⟩ := ok_inj (hr'.symm.trans hr)
      have hlt : g < w.heap.size := Has.lt (t := 27) (cs := cur) hh
      exact World.cell?_alloc_lt w.drew _ ⟨g, j, none⟩ hlt
/-- append of one list to a list of lists, at the operation -/
theorem wp_append_row {w : World} {o : Oper} {a : Act} {K : Act → World → Prop} {Q : Exit → Act → World → Prop} (s x : Operand)
    (ho : o.op = .call { callee := .builtin .append, args := #[s, x], argTypes := #[28, 28] })
    (base : Nat) (v : Value) (n : Nat) (L : Nat → Nat) (f : Nat → Nat → Bool) (D : Option Nat) (hs : a.eval s = v) {lo : Nat} (hown : Grid w base v n L f D lo)
    (b c : Nat) (A : Option Addr) (k : Nat) (hx : a.eval x = .slice (some ⟨b, 0, none⟩) 1 c) (hb : w.cell? ⟨b, 0, none⟩ = some (.slice A (L n) k))
    (hA : BlsAt w w.heap.size A (L n) (f n)) (hN : A = none → L n = 0 ∧ k = 0) (hD : 0 < L n → ∀ a, A = some a → some a.block ≠ v.ownBlock ∧ some a.block ≠ D)
    (hn : n ≤ 100000) (hbase : base ≤ w.heap.size)
    (h : ∀ g cap w', Grid w' base (.slice (some ⟨g, 0, none⟩) (n + 1) cap) (n + 1) L f D lo → w.grownBy w' v.ownBlock → g < w'.heap.size → (∀ g0, v.ownBlock = some g0 → ∀ j, j < n → w'.cell? ⟨g0, j, none⟩ = w.cell? ⟨g0, j, none⟩) → K (a.put o.dst (.slice (some ⟨g, 0, none⟩) (n + 1) cap)) w')
    (hlo : 0 < L n → ∀ a, A = some a → lo ≤ a.block := by intros; exact Nat.zero_le _) : o.wp Tryd.prog a w K Q := by
  obtain ⟨i0, hi0, hzz0, hs0, hy0⟩ := info_parts info_bools
  obtain ⟨xs, hx', hc⟩ := hown.ex
  have hnews : ∀ j u, [Value.slice A (L n) k][j]? = some u → w.cell? ((⟨b, 0, none⟩ : Addr).add j) = some u := fun j u hu => by
    match j, hu with
    | 0, hu =>
      simp at hu
      subst hu
      simpa [Addr.add] using hb
  obtain ⟨g, cap, w', hr, hown', hg, hat, hlt⟩ := run_append_lies (P := Tryd.prog) w 28 o.type base 27 i0 (.slice none 0 0) 1 24 Tryd.underlying28 hi0 hzz0 hs0 hy0 rfl (by decide) v n xs hx' ⟨b, 0, none⟩ 1 c [.slice A (L n) k] rfl hnews (by simp [Value.oneCell']) (by omega) (by simp only [maxLen]; omega) (by omega) hbase w.heap.size rfl
  have hkp : ∀ g0, v.ownBlock = some g0 → ∀ j, j < n → w'.cell? ⟨g0, j, none⟩ = w.cell? ⟨g0, j, none⟩ := fun g0 hg0 => by
    rcases hx'.2 with ⟨rfl, _⟩ | ⟨g', cap', cur, rfl, _⟩
    · cases hg0
    · obtain rfl : g' = g0 := by simpa [Value.ownBlock] using hg0
      exact append_keeps hx' rfl hnews (by simp [Value.oneCell']) hn hr
  unfold Oper.wp execOp
  simp only [ho, resolve, invoke, builtin, Sem.run_bind, Sem.run_pure, Result.andThen_ok, List.map_toArray, List.map_cons, List.map_nil, hs, hx, hr]
  · refine h g cap w' ⟨⟨_, hown', fun j hj => ?_⟩⟩ hg hlt hkp
    have hl : xs.length = n := by simpa using hx'.1
    have new : ∀ {A : Option Addr} {m : Nat} {f : Nat → Bool}, BlsAt w w.heap.size A m f → 0 < m → ∀ a, A = some a → some a.block ≠ v.ownBlock → some a.block ≠ (Value.slice (some ⟨g, 0, none⟩) (n + 1) cap).ownBlock := fun hA hm a ha hne e => by
      have e : a.block = g := by simpa [Value.ownBlock] using e
      rcases hat with e' | e'
      · exact hne (by rw [e', e])
      · obtain ⟨a', ea, hl, _⟩ := hA hm
        rw [ha] at ea
        cases ea
        omega
    rcases Nat.lt_succ_iff_lt_or_eq.1 hj with hj' | hj'
    · obtain ⟨A', k', e1, e2, e3, e4⟩ := hc j hj'
      exact ⟨A', k', by rw [List.getElem?_append_left (by omega)]; exact e1, e2.by hg (fun hm a ha => (e4 hm a ha).1), e3, fun hm a ha => ⟨new e2 hm a ha (e4 hm a ha).1, (e4 hm a ha).2⟩⟩
    · subst hj'
      exact ⟨A, k, by rw [List.getElem?_append_right (by omega), hl]; simp, hA.by hg (fun hm a ha => (hD hm a ha).1), hN, fun hm a ha => ⟨new hA hm a ha (hD hm a ha).1, (hD hm a ha).2, hlo hm a ha⟩⟩

/-- append of a list to an empty one of the call's own, at the operation -/
theorem wp_append_new {w : World} {o : Oper} {a : Act} {K : Act → World → Prop} {Q : Exit → Act → World → Prop} (s x : Operand)
    (ho : o.op = .call { callee := .builtin .append, args := #[s, x], argTypes := #[27, 27] }) (b : Nat) (hs : a.eval s = .slice (some ⟨b, 0, none⟩) 0 0) (hh : Has w b 4 #[])
    (A : Option Addr) (m k : Nat) (f : Nat → Bool) (hx : a.eval x = .slice A m k) (hA : BlsAt w w.heap.size A m f) (hN : A = none → m = 0 ∧ k = 0) (hm : m ≤ 100000)
    (h : ∀ A' k' w', BlsAt w' w'.heap.size A' m f → (A' = none → m = 0 ∧ k' = 0) → (∀ a', A' = some a' → b ≤ a'.block) → w.grownBy w' (some b) → w'.ownsRow b 4 1 (.slice A' m k') m (bL f m) → K (a.put o.dst (.slice A' m k')) w') : o.wp Tryd.prog a w K Q := by
  have hown : w.ownsRow b 4 1 (.slice (some ⟨b, 0, none⟩) 0 0) 0 [] := ⟨by simp, Or.inr ⟨b, 0, #[], rfl, Nat.le_refl _, hh, Nat.le_refl _, by simp [maxLen], by simp, by simp⟩⟩
  obtain ⟨i0, hi0, hzz0, hs0, hy0⟩ := info_parts info_bool1
  rcases hA.src hN with ⟨rfl, rfl, rfl, _⟩ | ⟨ad, rfl, hc⟩
  · have hrun := run_append_owned_none (P := Tryd.prog) (w := w) b 27 o.type 4 i0 1 Tryd.underlying27 hi0 _ 0 [] hown
    unfold Oper.wp
    simp [execOp, ho, resolve, invoke, builtin, hs, hx, hrun, Result.andThen]
    exact h _ _ _ (fun h => absurd h (Nat.not_lt_zero _)) (fun h => by cases h) (fun a' h => by cases h; exact Nat.le_refl _) (World.grownBy.refl w _) hown
  · obtain ⟨v', w', hr, h2, h3, _, _⟩ := run_append_own_at (P := Tryd.prog) w b 27 o.type 4 i0 (.bool false) 1 1 Tryd.underlying27 hi0 hzz0 hs0 hy0 rfl (by decide) _ 0 [] hown ad m k (bL f m) (bL_len f m) hc (bL_one f m) (by simp only [maxLen]; omega) (by omega) (Nat.le_of_lt hh.lt)
    unfold Oper.wp execOp
    simp only [ho, resolve, invoke, builtin, Sem.run_bind, Sem.run_pure, Result.andThen_ok, List.map_toArray, List.map_cons, List.map_nil, hs, hx, hr]
    rw [Nat.zero_add, List.nil_append] at h2
    obtain ⟨A', k', rfl, hi, hn, hf⟩ := own_bools2 h2
    exact h A' k' w' hi hn hf h3 h2
/-- the same, at a list of operations -/
theorem append_new {w : World} {ops : Array Oper} {rest : List Oper} {o : Oper} {a : Act} {Q : Exit → Act → World → Prop} (hgd : o.guard = none) (s x : Operand)
    (ho : o.op = .call { callee := .builtin .append, args := #[s, x], argTypes := #[27, 27] }) (b : Nat) (hs : a.eval s = .slice (some ⟨b, 0, none⟩) 0 0) (hh : Has w b 4 #[])
    (A : Option Addr) (m k : Nat) (f : Nat → Bool) (hx : a.eval x = .slice A m k) (hA : BlsAt w w.heap.size A m f) (hN : A = none → m = 0 ∧ k = 0) (hm : m ≤ 100000)
    (h : ∀ A' k' w', BlsAt w' w'.heap.size A' m f → (A' = none → m = 0 ∧ k' = 0) → (∀ a', A' = some a' → b ≤ a'.block) → w.grownBy w' (some b) → w'.ownsRow b 4 1 (.slice A' m k') m (bL f m) → wpList Tryd.prog ops Q rest (a.put o.dst (.slice A' m k')) w') : wpList Tryd.prog ops Q (o :: rest) a w :=
  wpList_plain hgd fun _ hK => wp_append_new s x ho b hs hh A m k f hx hA hN hm fun A' k' w' h1 h2 h3 h4 h5 => hK _ _ (h A' k' w' h1 h2 h3 h4 h5)

end Go.Proofs.YtbppdifghkkooaaDoor

namespace Go.Proofs.YtbppdifghkkooaaDoor
open Go.RowKit
set_option linter.unusedVariables false

set_option linter.unusedSimpArgs false

theorem putB_all {f h : Nat → Bool} {n : Nat} : ∀ j, j < n → putB f h 0 n j = h j := fun j hj => by
  unfold putB; rw [if_pos ⟨Nat.zero_le _, by omega⟩]; simp

set_option maxRecDepth 100000 in
set_option maxHeartbeats 2000000 in
theorem copied_any (A : Option Addr) (n k : Nat) (f : Nat → Bool) (w : World) (hn : n ≤ 100000) (hA : BlsAt w w.heap.size A n f) :
    Calls Tryd.prog 72 #[.slice A n k] w (BoolsIn n f w) := by
  have hmk : ∀ w : World, (Instr.makeSlice 27 (.int .i64 (n : Int)) (.int .i64 (n : Int))).run Tryd.prog w = .ok (.slice (some ⟨w.heap.size, 0, none⟩) n n) (w.alloc (.cells (madeCells #[.bool false] n) 4)) := fun w =>
    run_make_row' 27 4 (.bool false) 1 Tryd.underlying27 info_bool1 rfl _ _ n (by omega) (by omega) w
  have hR0 : (w.alloc (.cells (madeCells #[.bool false] n) 4)).heap[w.heap.size]? = some (.cells (bL (fun _ => false) n).toArray 4 (0, 0)) := by rw [← made_bL]; exact Has.new w 4 (madeCells #[.bool false] n)
  have hB0 : Below w.heap.size w (w.alloc (.cells (madeCells #[.bool false] n) 4)) := (Below.refl _ _).alloc (Nat.le_refl _) _
  go_enter Tryd.func72, Tryd.ntmps72
  go_wp2_with (first
    | (with_reducible refine copy_bools rfl (.tmp 7) (.tmp 8) _ _ rfl 4 Tryd.underlying27 (by kernel_rfl) w.heap.size 0 n n k n (some ⟨w.heap.size, 0, none⟩) A (fun _ => false) f rfl rfl (fun _ => rfl) 4 hR0 w.heap.size (hA.keep hB0) (by omega) ?_
       intro w2 hR2 hg2))
  go_ret
  have hi := (row_bools (row_of_list (n := n) hR2)).congr putB_all
  exact ⟨_, _, rfl, hi, hB0.grown hg2 (by simp) (fun k hk => by cases hk; exact Nat.le_refl _), (fun h => by cases h), fun a h => by cases h; exact Nat.le_refl _⟩

/-- what canStart says -/
def sOk (r : Int) (b : Bool) : Bool := decide (¬ (r = 0 ∧ b = true) ∧ ¬ (r = 1 ∧ b = false))
set_option maxHeartbeats 1000000 in
theorem canStart_any (x r : Int) (b : Bool) (w : World) : Calls Tryd.prog 70 #[.agg #[.int .i64 x, .int .i64 r], .bool b] w fun e w' => e = .returned (.bool (sOk r b)) ∧ Below w.heap.size w w' := by
  by_cases h0 : r = 0
  · subst h0
    go_enter Tryd.func70, Tryd.ntmps70
    go_wp2
    go_ret
    exact ⟨by cases b <;> rfl, by go_grown⟩
  · by_cases h1 : r = 1
    · subst h1
      go_enter Tryd.func70, Tryd.ntmps70
      go_wp2
      go_ret
      exact ⟨by cases b <;> rfl, by go_grown⟩
    · have e0 : (r == 0) = false := by simpa using h0
      have e1 : (r == 1) = false := by simpa using h1
      have HR := Lib.hid (show sOk r b = true from decide_eq_true ⟨fun h => h0 h.1, fun h => h1 h.1⟩)
      clear h0 h1
      go_enter Tryd.func70, Tryd.ntmps70
      go_wp2
      go_ret
      exact ⟨by rw [HR.out]; rfl, by go_grown⟩

theorem stB_of {c : Cr} {n : Nat} {f : Nat → Bool} (h : ∀ j, j < n → sOk (c.rs j) (f j) = true) : c.stB n f = true := Cr.stB_yes fun j hj => of_decide_eq_true (h j hj)
theorem stB_not {c : Cr} {n k : Nat} {f : Nat → Bool} (hk : k < n) (h : sOk (c.rs k) (f k) = false) : c.stB n f = false := decide_eq_false fun h' => of_decide_eq_false h (h' k hk)

/-- the value of canStart -/
abbrev csV : Value := .func (.func 70) #[] #[]
set_option maxRecDepth 100000 in
set_option maxHeartbeats 2000000 in
theorem equal_any (c : Cr) (A : Option Addr) (k : Nat) (As : Option Addr) (ks : Nat) (s : Nat → Bool) (w : World) (hn : c.nl ≤ 1000) (hA : PairsAt w w.heap.size A c.nl c.nx c.rs) (hS : BlsAt w w.heap.size As c.nl s) :
    Calls Tryd.prog 69 #[.slice A c.nl k, .slice As c.nl ks, csV] w fun e w' => e = .returned (.bool (c.stB c.nl s)) ∧ Below w.heap.size w w' := by
  have t1 : ((c.nl : Int) != (c.nl : Int)) = false := by simp
  go_enter Tryd.func69, Tryd.ntmps69
  go_wp2
  go_loopw [17] (fun i wr => ∃ q : Nat, q ≤ c.nl ∧ i = .int .i64 q ∧ Hid (∀ j, j < q → sOk (c.rs j) (s j) = true) ∧ Below w.heap.size w wr) (fun i _ => c.nl - (intOf i).toNat)
  case atStart => exact ⟨0, Nat.zero_le _, rfl, Lib.hid (fun j hj => absurd hj (Nat.not_lt_zero _)), Below.refl _ _⟩
  case round =>
    obtain ⟨q, hq, rfl, hL, hBr⟩ := hrel
    have hsz := hBr.size
    by_cases hlt : q < c.nl
    · obtain ⟨a, rfl, hab, hcs⟩ := (hA.keep hBr) (by omega)
      obtain ⟨a', rfl, hab', hcs'⟩ := (hS.keep hBr) (by omega)
      obtain ⟨y0, y1⟩ := hcs q hlt
      have y2 := hcs' q hlt
      have hq0 : (0 : Int) ≤ (q : Int) := by omega
      have hq1 : (q : Int) < c.nl := by omega
      clear hcs hcs'
      obtain ⟨u, hu⟩ : ∃ u, s q = u := ⟨_, rfl⟩
      rw [hu] at y2
      have y3 : ∀ o, (wr.alloc o).cell? (a'.add q) = some (.bool u) := fun o => ca y2 o
      have HU := Lib.hid hu
      clear hu
      cases hv : sOk (c.rs q) u
      · have HV := Lib.hid (stB_not (c := c) (f := s) hlt (by rw [HU.out]; exact hv))
        have HW := Lib.hid hv
        clear hv
        go_wp2_with (go_at_call 70; (with_reducible refine (canStart_any (c.nx q) (c.rs q) u _).mono ?_); rw [HW.out]; rintro e w1 ⟨rfl, hb1⟩; have hB1 : Below w.heap.size w w1 := Below.step (by go_grown) (by go_size) hb1)
        go_ret
        exact ⟨by rw [HV.out]; rfl, hB1⟩
      · have HW := Lib.hid hv
        clear hv
        go_wp2_with (go_at_call 70; (with_reducible refine (canStart_any (c.nx q) (c.rs q) u _).mono ?_); rw [HW.out]; rintro e w1 ⟨rfl, hb1⟩; have hB1 : Below w.heap.size w w1 := Below.step (by go_grown) (by go_size) hb1)
        go_roundw
        case rel => exact ⟨q + 1, by omega, by go_num, Lib.hid (fun j hj => by
          rcases Nat.lt_succ_iff_lt_or_eq.1 hj with h' | h'
          · exact hL.out j h'
          · subst h'; rw [HU.out]; exact HW.out), hB1⟩
        case measure => simp [intOf]; omega
    · obtain rfl : q = c.nl := by omega
      have HV := Lib.hid (stB_of hL.out)
      clear hq hlt
      go_wp2
      go_ret
      exact ⟨by rw [HV.out]; rfl, hBr⟩

set_option maxRecDepth 100000 in
set_option maxHeartbeats 2000000 in
theorem first_any (c : Cr) (p : Pl) (As : Option Addr) (ns ks : Nat) (s : Nat → Bool) (w : World) (hm : Mem w w.heap.size c p) (hs : Sm c) (hS : BlsAt w w.heap.size As ns s) (hn : ns ≤ 100000) :
    Calls Tryd.prog 45 #[cv c p, .slice As ns ks] w fun e w' => e = .returned (.tuple #[.bool (c.fst ns s), .int .i64 (c.fck ns)]) ∧ Below w.heap.size w w' := by
  have hB0 : Below w.heap.size w w := Below.refl _ _
  have g1 := hs.nl
  by_cases hk : c.chk = 0
  · by_cases h1 : ns = c.nl
    · subst h1
      have HF := Lib.hid (show c.fck c.nl = 0 by unfold Cr.fck; rw [if_neg (by omega), if_neg (by omega)])
      have HG := Lib.hid (show c.fst c.nl s = c.stB c.nl s by unfold Cr.fst; rw [if_pos HF.out])
      have HC := Lib.hid hk
      have t1 : ((c.nl : Int) != (c.nl : Int)) = false := by simp
      rw [HF.out, HG.out]
      have h : (c.chk != 0) = false := by simp [hk]
      clear hk
      go_enter Tryd.func45, Tryd.ntmps45
      go_wp2_with (first
        | (go_at_call 28; (with_reducible refine (gCheck_any c p (w.alloc _) (hm.to (by go_grown) (by go_size)) hs).mono ?_); rintro e w1 ⟨rfl, hb1⟩; obtain ⟨hc1, hf1⟩ := bcell hb1; have hz1 : w.heap.size < w1.heap.size := (by have := hb1.size; (try simp at this); omega); have hB1 : Below w.heap.size w w1 := Below.step (by go_grown) (by go_size) hb1)
        | (go_at_call 69; (with_reducible refine (equal_any c p.A1 p.k1 As ks s w1 g1 ((hm.la.keep hB1).more hB1.size) (hS.to hB1 hB1.size)).mono ?_); rintro e w2 ⟨rfl, hb2⟩; have hB2 := Below.step hB1 hB1.size hb2))
      go_ret2
      exact ⟨rfl, hB2⟩
    · have HF := Lib.hid (show c.fck ns = 2 by unfold Cr.fck; rw [if_neg (by omega), if_pos h1])
      have HG := Lib.hid (show c.fst ns s = false by unfold Cr.fst; rw [if_neg (by rw [HF.out]; decide)])
      have t1 : ((ns : Int) != (c.nl : Int)) = true := by simp; omega
      rw [HF.out, HG.out]
      have h : (c.chk != 0) = false := by simp [hk]
      clear hk h1
      go_enter Tryd.func45, Tryd.ntmps45
      go_wp2_with (first
        | (go_at_call 28; (with_reducible refine (gCheck_any c p (w.alloc _) (hm.to (by go_grown) (by go_size)) hs).mono ?_); rintro e w1 ⟨rfl, hb1⟩; obtain ⟨hc1, hf1⟩ := bcell hb1; have hz1 : w.heap.size < w1.heap.size := (by have := hb1.size; (try simp at this); omega); have hB1 : Below w.heap.size w w1 := Below.step (by go_grown) (by go_size) hb1))
      go_ret2
      exact ⟨rfl, hB1⟩
  · have h : (c.chk != 0) = true := by simpa [bne] using hk
    have HF := Lib.hid (show c.fck ns = c.chk from if_pos hk)
    have HG := Lib.hid (show c.fst ns s = false by unfold Cr.fst; rw [if_neg (by rw [HF.out]; exact hk)])
    rw [HF.out, HG.out]
    clear hk
    go_enter Tryd.func45, Tryd.ntmps45
    go_wp2_with (first
      | (go_at_call 28; (with_reducible refine (gCheck_any c p (w.alloc _) (hm.to (by go_grown) (by go_size)) hs).mono ?_); rintro e w1 ⟨rfl, hb1⟩; have hB1 : Below w.heap.size w w1 := Below.step (by go_grown) (by go_size) hb1))
    go_ret2
    exact ⟨rfl, hB1⟩

set_option maxHeartbeats 1000000 in
/-- the function isWrong of isRight: its box holds the circuit -/
theorem isWrong6_any (c : Cr) (p : Pl) (b : Nat) (A : Option Addr) (n k : Nat) (w : World) (hb : Has w b 26 (cc c p)) :
    Calls Tryd.prog 46 #[.slice A n k, .pointer (some ⟨b, 0, none⟩)] w fun e w' => e = .returned (.bool ((n : Int) != c.i)) ∧ w = w' := by
  obtain ⟨x0, x1, x2, x3, x4⟩ := hb.box
  clear hb
  go_enter Tryd.func46, Tryd.ntmps46
  go_wp2
  go_ret
  exact ⟨rfl, rfl⟩

/-- the value of isWrong -/
abbrev iwV (b : Nat) : Value := .func (.func 46) #[] #[.pointer (some ⟨b, 0, none⟩)]
set_option maxRecDepth 100000 in
set_option maxHeartbeats 2000000 in
theorem indexWrong_any (c : Cr) (p : Pl) (t : Tr) (b : Nat) (A : Option Addr) (k : Nat) (B : Nat) (w : World) (hn : t.ni ≤ 1000) (hA : RowsAt w B A t.ni t.ln t.ip) (hb : Has w b 26 (cc c p)) :
    Calls Tryd.prog 71 #[.slice A t.ni k, iwV b] w (IdxIs (!t.lnB c.i) w) := by
  go_enter Tryd.func71, Tryd.ntmps71
  go_wp2
  go_loopw [8] (fun i wr => ∃ q : Nat, q ≤ t.ni ∧ i = .int .i64 q ∧ Hid (∀ j, j < q → (t.ln j : Int) = c.i) ∧ wr = w) (fun i _ => t.ni - (intOf i).toNat)
  case atStart => exact ⟨0, Nat.zero_le _, rfl, Lib.hid (fun j hj => absurd hj (Nat.not_lt_zero _)), rfl⟩
  case round =>
    obtain ⟨q, hq, rfl, hL, rfl⟩ := hrel
    by_cases hlt : q < t.ni
    · obtain ⟨a, rfl, hab, hcs⟩ := hA (by omega)
      obtain ⟨A', k', y0, hA', _⟩ := hcs q hlt
      have hq0 : (0 : Int) ≤ (q : Int) := by omega
      have hq1 : (q : Int) < t.ni := by omega
      clear hcs
      cases hv : ((t.ln q : Int) != c.i)
      · have HW := Lib.hid hv
        clear hv
        go_wp2_with (go_at_call 46; (with_reducible refine (isWrong6_any c p b A' (t.ln q) k' _ hb).mono ?_); rw [HW.out]; rintro e w1 ⟨rfl, rfl⟩)
        go_roundw
        case rel => exact ⟨q + 1, by omega, by go_num, Lib.hid (fun j hj => by
          rcases Nat.lt_succ_iff_lt_or_eq.1 hj with h' | h'
          · exact hL.out j h'
          · subst h'; have := HW.out; simpa using this), by trivial⟩
        case measure => simp [intOf]; omega
      · have HV := Lib.hid (show t.lnB c.i = false from decide_eq_false fun h => by rw [h q hlt] at hv; simp at hv)
        have HW := Lib.hid hv
        clear hv
        go_wp2_with (go_at_call 46; (with_reducible refine (isWrong6_any c p b A' (t.ln q) k' _ hb).mono ?_); rw [HW.out]; rintro e w1 ⟨rfl, rfl⟩)
        go_ret
        exact ⟨_, rfl, by rw [HV.out]; simp, Below.refl _ _⟩
    · obtain rfl : q = t.ni := by omega
      have HV := Lib.hid (show t.lnB c.i = true from decide_eq_true hL.out)
      clear hq hlt
      go_wp2
      go_ret
      exact ⟨_, rfl, by rw [HV.out]; rfl, Below.refl _ _⟩

set_option maxRecDepth 100000 in
set_option maxHeartbeats 2000000 in
theorem containsWrong_any (c : Cr) (p : Pl) (t : Tr) (b : Nat) (A : Option Addr) (k : Nat) (B : Nat) (w : World) (hn : t.ni ≤ 1000) (hA : RowsAt w B A t.ni t.ln t.ip) (hb : Has w b 26 (cc c p)) :
    Calls Tryd.prog 47 #[.slice A t.ni k, iwV b] w fun e w' => e = .returned (.bool (!t.lnB c.i)) ∧ Below w.heap.size w w' := by
  go_enter Tryd.func47, Tryd.ntmps47
  go_wp2_with (go_at_call 71; refine (indexWrong_any c p t b A k B _ hn hA hb).mono ?_; rintro e w1 ⟨m, rfl, hm, hb1⟩)
  go_ret
  exact ⟨rfl, hb1⟩

end Go.Proofs.YtbppdifghkkooaaDoor
