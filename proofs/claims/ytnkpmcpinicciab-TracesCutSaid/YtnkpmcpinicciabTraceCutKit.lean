/- What is cut off a run, once more. -/
import Derived.Test.YtnkpmcpinicciabTraceKit
namespace Go.Proofs.Ytnkpmcpinicciab
open Go.RowKit
set_option linter.unusedVariables false

namespace Cr
/-- what is cut off a run shows something, and no shorter beginning does -/
theorem cun_shw {c : Cr} {t : Tr} {N : Nat} (h : c.cun t = N) (h0 : 0 < N) : N ≤ t.ni ∧ 0 ≤ c.shw (t.cut N) ∧ ∀ m, 0 < m → m < N → c.shw (t.cut m) < 0 := by
  unfold cun at h
  split at h
  · rename_i hh
    have h1 := led_all (fun i => c.hf t i && decide (c.ff t i = c.nb)) t.ni
    have h2 := led_no (fun i => c.hf t i && decide (c.ff t i = c.nb)) t.ni hh.1
    obtain ⟨k, hk⟩ : ∃ k, led (fun i => c.hf t i && decide (c.ff t i = c.nb)) t.ni = k := ⟨_, rfl⟩
    rw [hk] at hh h h1 h2
    simp only [Bool.and_eq_true, decide_eq_true_eq] at h1
    rw [hh.2] at h2
    have h3 : c.ff t k ≠ c.nb := by simpa using h2
    subst h
    refine ⟨by omega, (shw_cut (by omega)).2 ⟨fun i hi => ?_, by simpa using h3⟩, fun m hm hl => ?_⟩
    · rcases Nat.lt_succ_iff_lt_or_eq.1 hi with h' | h'
      · exact (h1 i h').1
      · subst h'; exact hh.2
    · rcases Int.lt_or_le (c.shw (t.cut m)) 0 with h' | h'
      · exact h'
      · exact absurd (h1 (m - 1) (by omega)).2 ((shw_cut hm).1 h').2
  · omega
theorem cun_cut {c : Cr} {t : Tr} {N : Nat} (h : c.cun t = N) (h0 : 0 < N) : c.cun (t.cut N) = N := by
  obtain ⟨h1, h2, h3⟩ := cun_shw h h0
  exact cun_first (t := t.cut N) h0 (Nat.le_refl _) (fun m hm hl => h3 m hm hl) h2
theorem cun_all {c : Cr} {t : Tr} (h : c.cun t = 0) : ∀ n, 0 < n → n ≤ t.ni → c.shw (t.cut n) < 0 := by
  intro n
  induction n using Nat.strongRecOn with
  | _ n ih =>
    intro h0 hn
    rcases Int.lt_or_le (c.shw (t.cut n)) 0 with h' | h'
    · exact h'
    · have := cun_first h0 hn (fun m hm hl => ih m hl hm (by omega)) h'
      omega
/-- what Witness answers at a beginning -/
theorem wte_cut {c : Cr} {t : Tr} {n : Nat} (hk : c.tck t = 0) (h0 : 0 < n) (hn : n ≤ t.ni) : c.wte (t.cut n) = if 0 ≤ c.shw (t.cut n) then 0 else 57 := if_pos (tck_cut hk h0 hn)
end Cr
theorem TSm.cut {t : Tr} (h : TSm t) {n : Nat} (hn : n ≤ t.ni) : TSm (t.cut n) := Tr.cut_sm h hn

section
variable {c : Cr} {p : Pl} {t : Tr} {A1 A2 : Option Addr} {k1 k2 n : Nat}
theorem RArg.cut {w : World} {B : Nat} {q : Tp} (h : RArg w B c p t q) (h0 : 0 < n) (hn : n ≤ t.ni) : RArg w B c p (t.cut n) q := ⟨h.hm, h.hs, h.ht.cut h0 hn, h.hts.cut hn⟩

theorem wit_cut {x : Int} (h0 : 0 < n) (hn : n ≤ t.ni) (hx : c.wte (t.cut n) = x) (w : World) (h : RArg w w.heap.size c p t ⟨A1, k1, A2, k2⟩) :
    Calls Try.prog 10 #[cv c p, .agg #[.slice A1 t.nf k1, .slice A2 n k2]] w fun e w' => e = .returned (.tuple #[.int .i64 (c.wti (t.cut n)), .int .i64 x]) ∧ Below w.heap.size w w' := by
  have := twitness_any w (h.cut h0 hn)
  rw [hx] at this
  exact this

theorem cut_yes {N : Nat} (hk : c.tck t = 0) (hN : c.cun t = N) (h0 : 0 < N) (w : World) (h : RArg w w.heap.size c p t ⟨A1, k1, A2, k2⟩) :
    Calls Try.prog 11 #[cv c p, .agg #[.slice A1 t.nf k1, .slice A2 t.ni k2]] w (CutIs (t.cut N) 0 w) := by
  have := tcut_any w h
  rw [show c.cutT t = t.cut N by unfold Cr.cutT; rw [hN, if_pos ⟨hk, h0⟩], show c.cutE t = 0 by unfold Cr.cutE; rw [if_pos hk, hN, if_pos h0]] at this
  exact this

theorem cut_again {N : Nat} (hk : c.tck t = 0) (hN : c.cun t = N) (h0 : 0 < N) (hn : N ≤ t.ni) (w : World) (q : Tp) (h : RArg w w.heap.size c p (t.cut N) q) :
    Calls Try.prog 11 #[cv c p, .agg #[.slice q.A1 t.nf q.k1, .slice q.A2 N q.k2]] w (CutIs (t.cut N) 0 w) := by
  have hk2 := Cr.tck_cut hk h0 hn
  have hN2 := Cr.cun_cut hN h0
  have := tcut_any w h
  rw [show c.cutT (t.cut N) = t.cut N by unfold Cr.cutT; rw [hN2, if_pos ⟨hk2, h0⟩]; rfl, show c.cutE (t.cut N) = 0 by unfold Cr.cutE; rw [if_pos hk2, hN2, if_pos h0]] at this
  exact this

theorem cut_none (hk : c.tck t = 0) (hN : c.cun t = 0) (w : World) (h : RArg w w.heap.size c p t ⟨A1, k1, A2, k2⟩) :
    Calls Try.prog 11 #[cv c p, .agg #[.slice A1 t.nf k1, .slice A2 t.ni k2]] w fun e w' => ∃ q : Tp, e = .returned (.tuple #[.agg #[.slice q.A1 0 q.k1, .slice q.A2 0 q.k2], .int .i64 6]) ∧ Below w.heap.size w w' := by
  have := tcut_any w h
  rw [show c.cutT t = z0T by unfold Cr.cutT; rw [hN, if_neg (by omega)], show c.cutE t = 6 by unfold Cr.cutE; rw [if_pos hk, hN, if_neg (by omega)]] at this
  exact this.mono fun e w' ⟨q, he, _, hb⟩ => ⟨q, he, hb⟩

theorem same_cut {N : Nat} (hts : TSm t) (hn : N ≤ t.ni) (w : World) (q q' : Tp) (h : TMem w w.heap.size (t.cut N) q) (h' : TMem w w.heap.size (t.cut N) q') :
    Calls Try.prog 25 #[.agg #[.slice q.A1 t.nf q.k1, .slice q.A2 N q.k2], .agg #[.slice q'.A1 t.nf q'.k1, .slice q'.A2 N q'.k2]] w fun e w' => e = .returned (.bool true) ∧ Below w.heap.size w w' := by
  have := samT_at (samT_self (t.cut N)) w h (hts.cut hn) h' (hts.cut hn)
  exact this

end
end Go.Proofs.Ytnkpmcpinicciab
