/- A run with one frame more. -/
import Derived.Test.YtcbkpkdnmjlggaaTraceTwin
namespace Go.Proofs.Ytcbkpkdnmjlggaa
open Go.RowKit
set_option linter.unusedVariables false

/-- the run with one frame more -/
def moreT (t : Tr) (n : Nat) (f : Nat → Bool) : Tr := ⟨t.nf, t.fi, t.ni + 1, fun j => if j < t.ni then t.ln j else n, fun j => if j < t.ni then t.ip j else f⟩
variable {c : Cr} {t : Tr} {n : Nat} {f : Nat → Bool}
theorem more_sts (c : Cr) (t : Tr) (n : Nat) (f : Nat → Bool) : ∀ i, i ≤ t.ni → c.sts (moreT t n f) i = c.sts t i
  | 0, _ => rfl
  | i + 1, h => by
    rw [Cr.sts_succ, Cr.sts_succ, more_sts c t n f i (by omega)]
    show c.nv (c.sts t i) (if i < t.ni then t.ip i else f) = _
    rw [if_pos (by omega)]
theorem more_hf (c : Cr) (t : Tr) (n : Nat) (f : Nat → Bool) {i : Nat} (h : i < t.ni) : c.hf (moreT t n f) i = c.hf t i := by
  unfold Cr.hf
  rw [more_sts c t n f i (by omega)]
  show c.hol (c.sts t i) (if i < t.ni then t.ip i else f) = _
  rw [if_pos h]
theorem more_alw : c.alw t ≤ c.alw (moreT t n f) ∧ c.alw (moreT t n f) ≤ c.alw t + 1 ∧ (c.alw (moreT t n f) = c.alw t ∨ c.alw t = t.ni) := by
  have e : c.alw (moreT t n f) = if led (c.hf (moreT t n f)) t.ni = t.ni ∧ c.hf (moreT t n f) t.ni = true then t.ni + 1 else led (c.hf (moreT t n f)) t.ni := rfl
  have e2 : led (c.hf (moreT t n f)) t.ni = c.alw t := led_congr _ fun j hj => more_hf c t n f hj
  rw [e, e2]
  split
  · rename_i h; omega
  · exact ⟨Nat.le_refl _, by omega, Or.inl rfl⟩
theorem more_tck (hk : c.tck t = 0) (h1 : t.ni ≤ 19) (h2 : (n : Int) = c.i) : c.tck (moreT t n f) = 0 := by
  obtain ⟨k1, k2, k3, k4, k5, k6⟩ := Cr.tck_ok hk
  refine Cr.tck_right k1 (show t.ni + 1 ≤ 100 by omega) ?_
  rintro (h | h | h | h)
  · exact absurd (show t.ni + 1 = 0 from h) (by omega)
  · exact h k4
  · have h : c.stB t.nf t.fi = false := h
    rw [k5] at h; cases h
  · refine of_decide_eq_false h fun j hj => ?_
    show ((if j < t.ni then t.ln j else n : Nat) : Int) = c.i
    split
    · rename_i hj'; exact k6 j hj'
    · exact h2
theorem more_sm (hts : TSm t) (h1 : t.ni ≤ 19) (h2 : n ≤ 1000) : TSm (moreT t n f) := ⟨hts.nf, show t.ni + 1 ≤ 1000 by omega, fun j hj => by
  show (if j < t.ni then t.ln j else n) ≤ 1000
  split
  · rename_i hj'; exact hts.ln j hj'
  · exact h2⟩
theorem Grid.re {w : World} {base base' m : Nat} {v : Value} {L L' : Nat → Nat} {g g' : Nat → Nat → Bool} {D : Option Nat} {lo : Nat} (h : Grid w base v m L g D lo) (h1 : base' ≤ base) (hL : ∀ j, j < m → L j = L' j) (hf : ∀ j, j < m → g j = g' j) : Grid w base' v m L' g' D 0 := by
  obtain ⟨xs, ho, hc⟩ := h.ex
  refine ⟨⟨xs, own_base ho h1, fun j hj => ?_⟩⟩
  obtain ⟨A, k, e1, e2, e3, e4⟩ := hc j hj
  rw [← hL j hj, ← hf j hj]
  exact ⟨A, k, e1, e2, e3, fun hn a ha => ⟨(e4 hn a ha).1, (e4 hn a ha).2.1, Nat.zero_le _⟩⟩
/-- what is known of a run's copy, once its box has a frame more -/
theorem more_mem {w3 X w5 : World} {base lo : Nat} {t : Tr} {A : Option Addr} {k : Nat} {v5 : Value} {n : Nat} {f : Nat → Bool} {r : Option Nat} (ho : w3.ownsRow base 4 1 (.slice A t.nf k) t.nf (bL t.fi t.nf)) (hlo : ∀ g, (Value.slice A t.nf k).ownBlock = some g → g < lo) (hr : ∀ g, r = some g → lo ≤ g)
    (hX : Below w3.heap.size w3 X) (hg : X.grownBy w5 r) (hz : lo ≤ w3.heap.size) {bG : Nat} (hG : Grid w5 bG v5 (t.ni + 1) (moreT t n f).ln (moreT t n f).ip (some w3.heap.size)) (hne : v5.ownBlock ≠ some w3.heap.size) (u : Value) (j : Nat) :
    ∃ A5 k5, v5 = .slice A5 (t.ni + 1) k5 ∧ TMem (w5.setCell ⟨w3.heap.size, j, none⟩ u) (w5.setCell ⟨w3.heap.size, j, none⟩ u).heap.size (moreT t n f) ⟨A, k, A5, k5⟩ := by
  obtain ⟨A', k', e, hi, hn, hf⟩ := own_bools2 ho
  injection e with e1 e2 e3
  subst e1 e3
  have hG2 := hG.far (grown_set w5 w3.heap.size j u) (Or.inr rfl) (Or.inr hne) (Or.inl rfl)
  obtain ⟨A5, k5, rfl, hi5, hn5, hc5, _⟩ := hG2.at
  have hb : ∀ a, A = some a → a.block < lo := fun a ha => hlo a.block (by rw [ha]; rfl)
  exact ⟨A5, k5, rfl, ⟨((hi.to hX hX.size).by hg (fun _ a ha e => by have := hb a ha; have := hr _ e.symm; omega)).by (grown_set w5 w3.heap.size j u) (fun _ a ha e => by have := hb a ha; injection e with e; omega), hi5, hn, hn5, hc5⟩⟩
end Go.Proofs.Ytcbkpkdnmjlggaa
