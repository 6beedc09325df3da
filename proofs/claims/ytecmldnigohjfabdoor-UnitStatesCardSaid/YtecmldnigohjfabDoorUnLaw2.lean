/- The laws of unit: the guard, Run and State in the words of Nw. -/
import Derived.Test.YtecmldnigohjfabDoorUnLaw1
namespace Go.Proofs.YtecmldnigohjfabDoor
open Go Go.RowKit
set_option linter.unusedVariables false
set_option linter.unusedSimpArgs false

/-- what fit says -/
def ftB (v : Int) (t s : List Int) (L : List (List Int)) : Bool := !decide (200 < t.length ∨ 200 < s.length) && (!grt v L && (decide (aE v t s = 0) && decide (wrE v L = 0)))
theorem ftB_yes {v : Int} {t s : List Int} {L : List (List Int)} (h : ftB v t s L = true) : (t.length ≤ 200 ∧ s.length ≤ 200 ∧ L.length ≤ 60) ∧ (∀ c ∈ L, c.length ≤ 40) ∧ OkA v t s ∧ (∀ c ∈ L, OkC v c) ∧ v ≤ 4000 := by
  unfold ftB at h
  simp only [Bool.and_eq_true, Bool.not_eq_true', decide_eq_false_iff_not, decide_eq_true_eq] at h
  obtain ⟨h1, h2, h3, h4⟩ := h
  obtain ⟨g1, g2, g3⟩ := grt_no h2
  have hO := aE_0.1 h3
  refine ⟨⟨by omega, by omega, g1⟩, g2, hO, fun c hc => (ckE_0 (wrE_0.1 h4 c hc)).2.2, ?_⟩
  have := hO.1; omega

/-! ### Run, State -/
section
variable {b b' : Nat} {W W' : World} {A B : Option Addr} {n k m q : Nat} {t s : List Int} {v : Int}
theorem OkC.small {c : List Int} (h : OkC v c) (hv : 0 ≤ v) (hv2 : v ≤ 4000) : c.length ≤ 100000 ∧ ∀ x ∈ c, I64 x := by
  refine ⟨by have := h.len2 hv; omega, fun x hx => ?_⟩
  have := isL_iff.1 (h.1 x hx)
  unfold I64; omega
theorem upR_len {L : List (List Int)} (hL : ∀ c ∈ L, OkC v c) (h : OkT v t) (hv : 0 ≤ v) (hv2 : v ≤ 4000) : (upR v t L).1.length ≤ 4000 := by
  have := (upR_ok' hL h).len hv; omega
theorem Nw.run (h : Nw b W A n k t B m q s) (hm : m ≤ 100000) (ho : OkA v t s) {C : Option Addr} {L : List (List Int)} {kc nl n' : Nat} (hc : Ill W W.heap.size C L kc) (hL : ∀ c ∈ L, OkC v c) (hl : L.length ≤ 20000) (htab : Tab W.heap.size W) (hn' : n' = (upR v t L).1.length) (hnl : nl = L.length) :
    Calls Tryd.prog 20 #[asv v A n k B m q, .slice C nl kc] W fun e w' => ∃ A' k' B' q', e = .returned (.tuple #[asv v A' n' k' B' m q', .int .i64 (upR v t L).2, .int .i64 0]) ∧ Nw W.heap.size w' A' n' k' (upR v t L).1 B' m q' s ∧ Below W.heap.size W w' := by
  have h1 := h.nt
  have h2 := h.ms
  have hv := ho.1
  have hE : cE v t s L = 0 := cE_0.2 ⟨ho, hl, hL⟩
  have hlen := ho.2.1.len (v := v) (by omega)
  have hr := run15_all v A t k B s q C L kc W h.ti (by omega) ho.i64 h.si (by omega) hc (by omega) (fun c hm => (hL c hm).small (by omega) (by omega)) htab
  rw [show rV v t s L = v from if_pos hE, show rT v t s L = (upR v t L).1 from if_pos hE, show rS v t s L = s from if_pos hE, show rAt v t s L = (upR v t L).2 from if_pos hE, hE, ← h1, ← h2, ← hnl] at hr
  exact hr.mono fun e w' hh => hh.nwA hn' h2
theorem Nw.state (h : Nw b W A n k t B m q s) (hm : m ≤ 100000) (ho : OkA v t s) {C : Option Addr} {c : List Int} {kc nc : Nat} (hc : Ia W W.heap.size C c kc) (hO : OkC v c) (hnc : nc = c.length) :
    Calls Tryd.prog 8 #[asv v A n k B m q, .slice C nc kc] W fun e w' => e = .returned (.tuple #[.int .u8 (stC t c), .int .i64 (stX t c), .int .i64 0]) ∧ Below W.heap.size W w' := by
  have h1 := h.nt
  have h2 := h.ms
  have hv := ho.1
  have hlen := ho.2.1.len (v := v) (by omega)
  have e0 : sE v t s c = 0 := sE_0.2 ⟨ho, hO⟩
  obtain ⟨s1, s2⟩ := hO.small (by omega) (by omega)
  have hr := state_any v A t k B s q C c kc W h.ti (by omega) ho.i64 h.si (by omega) hc s1 s2
  rw [show sS v t s c = stC t c from if_pos e0, show sX v t s c = stX t c from if_pos e0, e0, ← h1, ← h2, ← hnc] at hr
  exact hr
end

end Go.Proofs.YtecmldnigohjfabDoor
