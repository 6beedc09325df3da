/- The laws of unit: the guard, Run and State in the words of Nw. -/
import Derived.Test.YtecmldnigohjfaaDoorUnLaw1
namespace Go.Proofs.YtecmldnigohjfaaDoor
open Go Go.RowKit
set_option linter.unusedVariables false
set_option linter.unusedSimpArgs false

/-- what fit says -/
def ftB (v : Int) (t s : List Int) (L : List (List Int)) : Bool := !decide (200 < t.length ∨ 200 < s.length) && (!grt v L && (decide (aE v t s = 0) && decide (wrE v L = 0)))
theorem ftB_yes {v : Int} {t s : List Int} {L : List (List Int)} (h : ftB v t s L = true) : (t.length ≤ 200 ∧ s.length ≤ 200 ∧ L.length ≤ 60) ∧ (∀ c ∈ L, c.length ≤ 40) ∧ OkA v t s ∧ (∀ c ∈ L, OkC v c) ∧ v ≤ 4000 := by
  unfold ftB at h
  simp only [Bool.and_eq_true, Bool.not_eq_true', decide_eq_false_iff_not, decide_eq_true_eq] at h
  obtain ⟨h1, h2, h3, h4⟩ := h
  obtain ⟨g1, g2, g3⟩ := grt_no h2
  have hO := aE_0.1 h3
  refine ⟨⟨by omega, by omega, g1⟩, g2, hO, fun c hc => (ckE_0 (wrE_0.1 h4 c hc)).2.2, ?_⟩
  have := hO.1; omega

set_option maxRecDepth 100000 in
set_option maxHeartbeats 10000000 in
theorem fit15_any (v : Int) (A : Option Addr) (t : List Int) (k : Nat) (B : Option Addr) (s : List Int) (q : Nat) (C : Option Addr) (L : List (List Int)) (kc : Nat) (w : World) (hm0 : Ia w w.heap.size A t k) (hn0 : Ia w w.heap.size B s q) (hk0 : k ≤ 9223372036854775807 ∧ q ≤ 9223372036854775807)
    (hm1 : Ill w w.heap.size C L kc) (hk1 : kc ≤ 9223372036854775807) (hr1 : ∀ c ∈ L, (∀ x ∈ c, I64 x) ∧ c.length ≤ 9223372036854775807) {n m nl : Nat} (hn : n = t.length) (hm : m = s.length) (hnl : nl = L.length) :
    Calls Tryd.prog 18 #[asv v A n k B m q, .slice C nl kc] w fun e w' => e = .returned (.bool (ftB v t s L)) ∧ Below w.heap.size w w' := by
  have H0 := Bs.new w (.int .i64 v) (.slice A t.length k) (.slice B s.length q)
  have hb0 := bx_on w (.cells #[.int .i64 v, .slice A t.length k, .slice B s.length q] 24)
  have hn63 : t.length ≤ 9223372036854775807 := by have := hm0.c; omega
  have hm63 : s.length ≤ 9223372036854775807 := by have := hn0.c; omega
  have hl63 : L.length ≤ 9223372036854775807 := by have := hm1.c; omega
  have DG := fun W => rGreat14_any v A t.length k B s.length q W hn63 hm63
  have DL := fun (W : World) (hb : Below w.heap.size w W) => rGreat15_any v C L kc W (hm1.on hb) hl63 (fun c hc => (hr1 c hc).2)
  have HB := Lib.hid (And.intro H0 hb0)
  rw [← hn, ← hm] at DG HB
  rw [← hnl] at DL
  have hX : ∀ b, ftB v t s L = b → ftB v t s L = b := fun b h => h
  by_cases hg : 200 < n ∨ 200 < m
  · rw [show ftB v t s L = false by unfold ftB; rw [← hn, ← hm, decide_eq_true hg]; rfl]
    rw [show decide (200 < n ∨ 200 < m) = true from decide_eq_true hg] at DG
    clear hm0 hn0 hk0 hm1 hk1 hr1 hn63 hm63 hl63 hn hm hnl hg DL H0 hb0 hX
    go_enter Tryd.func18, Tryd.ntmps18
    go_wp2_with (first
      | (go_at_call 9; (with_reducible refine (DG _).mono ?_); rintro e w1 ⟨rfl, hb1⟩
         have HB1 := Lib.hid (bn HB.out.2 hb1)
         clear hb1))
    go_ret
    exact ⟨rfl, HB1.out⟩
  have e1 : ftB v t s L = (!grt v L && (decide (aE v t s = 0) && decide (wrE v L = 0))) := by unfold ftB; rw [← hn, ← hm, decide_eq_false hg]; rfl
  rw [show decide (200 < n ∨ 200 < m) = false from decide_eq_false hg] at DG
  by_cases hg2 : grt v L = true
  · rw [e1, hg2]
    rw [hg2] at DL
    clear hm0 hn0 hk0 hm1 hk1 hr1 hn63 hm63 hl63 hn hm hnl hg hg2 H0 hb0 hX e1
    go_enter Tryd.func18, Tryd.ntmps18
    go_wp2_with (first
      | (go_at_call 9; (with_reducible refine (DG _).mono ?_); rintro e w1 ⟨rfl, hb1⟩
         have HB1 := Lib.hid (bn HB.out.2 hb1)
         obtain ⟨c0, c1, c2⟩ := (HB.out.1.on hb1).c
         clear hb1)
      | (go_at_call 10; (with_reducible refine (DL _ HB1.out).mono ?_); rintro e w2 ⟨rfl, hb2⟩
         have HB2 := Lib.hid (bn HB1.out hb2)
         clear hb2))
    go_ret
    exact ⟨rfl, HB2.out⟩
  have hg2 : grt v L = false := by simpa using hg2
  rw [e1, hg2]
  rw [hg2] at DL
  obtain ⟨q1, q2, q3⟩ := grt_no hg2
  have hn2 : n ≤ 200 := by omega
  have hm2 : m ≤ 200 := by omega
  have DC := fun (W : World) (hb : Below w.heap.size w W) => rCheck14_any v A t k B s q W (hm0.on hb) (by omega) (hn0.on hb) (by omega)
  have DW := fun (W : World) (hb : Below w.heap.size w W) => rWrong_any v C L kc W (hm1.on hb) (by omega) (fun c hc => ⟨by have := q2 c hc; omega, (hr1 c hc).1⟩)
  rw [← hn, ← hm] at DC
  rw [if_neg (by omega), ← hnl] at DW
  by_cases ea : aE v t s = 0
  · rw [ea] at DC
    rw [show (!false && (decide (aE v t s = 0) && decide (wrE v L = 0))) = decide (wrE v L = 0) by rw [ea]; simp]
    generalize wrE v L = u at DW ⊢
    have hu : (u == 0) = decide (u = 0) := by by_cases h : u = 0 <;> simp [h]
    clear hm0 hn0 hk0 hm1 hk1 hr1 hn63 hm63 hl63 hn hm hnl hg hg2 H0 hb0 hX e1 ea q1 q2 q3 hn2 hm2
    go_enter Tryd.func18, Tryd.ntmps18
    go_wp2_with (first
      | (go_at_call 9; (with_reducible refine (DG _).mono ?_); rintro e w1 ⟨rfl, hb1⟩
         have HB1 := Lib.hid (And.intro (HB.out.1.on hb1) (bn HB.out.2 hb1))
         obtain ⟨c0, c1, c2⟩ := HB1.out.1.c
         clear hb1)
      | (go_at_call 10; (with_reducible refine (DL _ HB1.out.2).mono ?_); rintro e w2 ⟨rfl, hb2⟩
         have HB2 := Lib.hid (And.intro (HB1.out.1.on hb2) (bn HB1.out.2 hb2))
         obtain ⟨c20, c21, c22⟩ := HB2.out.1.c
         clear hb2)
      | (go_at_call 21; (with_reducible refine (DC _ HB2.out.2).mono ?_); rintro e w3 ⟨rfl, hb3⟩
         have HB3 := Lib.hid (And.intro (HB2.out.1.on hb3) (bn HB2.out.2 hb3))
         obtain ⟨c30, c31, c32⟩ := HB3.out.1.c
         clear hb3)
      | (go_at_call 38; (with_reducible refine (DW _ HB3.out.2).mono ?_); rintro e w4 ⟨rfl, hb4⟩
         have HB4 := Lib.hid (bn HB3.out.2 hb4)
         clear hb4))
    go_ret
    exact ⟨rfl, HB4.out⟩
  · rw [show (!false && (decide (aE v t s = 0) && decide (wrE v L = 0))) = false by simp [ea]]
    generalize aE v t s = u at DC ea
    have hu : (u == 0) = false := by simpa using ea
    clear hm0 hn0 hk0 hm1 hk1 hr1 hn63 hm63 hl63 hn hm hnl hg hg2 H0 hb0 hX e1 ea q1 q2 q3 hn2 hm2 DW
    go_enter Tryd.func18, Tryd.ntmps18
    go_wp2_with (first
      | (go_at_call 9; (with_reducible refine (DG _).mono ?_); rintro e w1 ⟨rfl, hb1⟩
         have HB1 := Lib.hid (And.intro (HB.out.1.on hb1) (bn HB.out.2 hb1))
         obtain ⟨c0, c1, c2⟩ := HB1.out.1.c
         clear hb1)
      | (go_at_call 10; (with_reducible refine (DL _ HB1.out.2).mono ?_); rintro e w2 ⟨rfl, hb2⟩
         have HB2 := Lib.hid (And.intro (HB1.out.1.on hb2) (bn HB1.out.2 hb2))
         obtain ⟨c20, c21, c22⟩ := HB2.out.1.c
         clear hb2)
      | (go_at_call 21; (with_reducible refine (DC _ HB2.out.2).mono ?_); rintro e w3 ⟨rfl, hb3⟩
         have HB3 := Lib.hid (bn HB2.out.2 hb3)
         clear hb3))
    go_ret
    exact ⟨rfl, HB3.out⟩

/-! ### Run, State -/
section
variable {b b' : Nat} {W W' : World} {A B : Option Addr} {n k m q : Nat} {t s : List Int} {v : Int}
theorem OkC.small {c : List Int} (h : OkC v c) (hv : 0 ≤ v) (hv2 : v ≤ 4000) : c.length ≤ 100000 ∧ ∀ x ∈ c, I64 x := by
  refine ⟨by have := h.len2 hv; omega, fun x hx => ?_⟩
  have := isL_iff.1 (h.1 x hx)
  unfold I64; omega
theorem upR_len {L : List (List Int)} (hL : ∀ c ∈ L, OkC v c) (h : OkT v t) (hv : 0 ≤ v) (hv2 : v ≤ 4000) : (upR v t L).1.length ≤ 4000 := by
  have := (upR_ok' hL h).len hv; omega
theorem Nw.run (h : Nw b W A n k t B m q s) (hm : m ≤ 100000) (ho : OkA v t s) {C : Option Addr} {L : List (List Int)} {kc nl n' : Nat} (hc : Ill W W.heap.size C L kc) (hL : ∀ c ∈ L, OkC v c) (hl : L.length ≤ 20000) (htab : Tab W.heap.size W) (hn' : n' = (upR v t L).1.length) (hnl : nl = L.length) :
    Calls Tryd.prog 14 #[asv v A n k B m q, .slice C nl kc] W fun e w' => ∃ A' k' B' q', e = .returned (.tuple #[asv v A' n' k' B' m q', .int .i64 (upR v t L).2, .int .i64 0]) ∧ Nw W.heap.size w' A' n' k' (upR v t L).1 B' m q' s ∧ Below W.heap.size W w' := by
  have h1 := h.nt
  have h2 := h.ms
  have hv := ho.1
  have hE : cE v t s L = 0 := cE_0.2 ⟨ho, hl, hL⟩
  have hlen := ho.2.1.len (v := v) (by omega)
  have hr := run15_all v A t k B s q C L kc W h.ti (by omega) ho.i64 h.si (by omega) hc (by omega) (fun c hm => (hL c hm).small (by omega) (by omega)) htab
  rw [show rV v t s L = v from if_pos hE, show rT v t s L = (upR v t L).1 from if_pos hE, show rS v t s L = s from if_pos hE, show rAt v t s L = (upR v t L).2 from if_pos hE, hE, ← h1, ← h2, ← hnl] at hr
  exact hr.mono fun e w' hh => hh.nwA hn' h2
theorem Nw.state (h : Nw b W A n k t B m q s) (hm : m ≤ 100000) (ho : OkA v t s) {C : Option Addr} {c : List Int} {kc nc : Nat} (hc : Ia W W.heap.size C c kc) (hO : OkC v c) (hnc : nc = c.length) :
    Calls Tryd.prog 12 #[asv v A n k B m q, .slice C nc kc] W fun e w' => e = .returned (.tuple #[.int .u8 (stC t c), .int .i64 (stX t c), .int .i64 0]) ∧ Below W.heap.size W w' := by
  have h1 := h.nt
  have h2 := h.ms
  have hv := ho.1
  have hlen := ho.2.1.len (v := v) (by omega)
  have e0 : sE v t s c = 0 := sE_0.2 ⟨ho, hO⟩
  obtain ⟨s1, s2⟩ := hO.small (by omega) (by omega)
  have hr := state_any v A t k B s q C c kc W h.ti (by omega) ho.i64 h.si (by omega) hc s1 s2
  rw [show sS v t s c = stC t c from if_pos e0, show sX v t s c = stX t c from if_pos e0, e0, ← h1, ← h2, ← hnc] at hr
  exact hr
end

end Go.Proofs.YtecmldnigohjfaaDoor
