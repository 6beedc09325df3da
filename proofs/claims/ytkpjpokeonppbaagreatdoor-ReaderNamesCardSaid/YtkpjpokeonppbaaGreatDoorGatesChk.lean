/- The contracts of gates.Check, gates.Vars, gates.Kind and of the reference's Vars, Gate, Kind. -/
import Derived.Test.YtkpjpokeonppbaaGreatDoorGatesProg2
namespace Go.Proofs.YtkpjpokeonppbaaGreatDoor
open Go.RowKit
set_option linter.unusedVariables false

theorem Cr.chk_tm {c : Cr} (h : ¬ c.i < 0) (h1 : c.tm = true) : c.chk = 4 := Cr.chk_many h (of_decide_eq_true h1)
theorem Cr.tm_no {c : Cr} (h1 : c.tm = false) : c.sz ≤ 1000 ∧ c.nb ≤ 100 ∧ c.nc ≤ 100 := by have := of_decide_eq_false h1; omega
theorem Cr.chk_l {c : Cr} (h : ¬ c.i < 0) (h1 : c.tm = false) (h2 : c.litsB = false ∨ c.gatB = false) : c.chk = 8 :=
  Cr.chk_bad h (of_decide_eq_false h1) fun ⟨a, b, d, e⟩ => by rcases h2 with h2 | h2 <;> simp_all [Cr.litsB]
theorem Cr.chk_y {c : Cr} (h : ¬ c.i < 0) (h1 : c.tm = false) (h2 : c.litsB = true) (h3 : c.gatB = true) : c.chk = 0 :=
  Cr.chk_ok h (of_decide_eq_false h1) (by simp [Cr.litsB] at h2; exact ⟨h2.1.2, h2.2, h2.1.1, h3⟩)

set_option maxRecDepth 100000 in
set_option maxHeartbeats 2000000 in
theorem gCheck_any (c : Cr) (p : Pl) (w : World) (hm : Mem w w.heap.size c p) (hs : Sm c) :
    Calls Tryz.prog 96 #[cv c p] w fun e w' => e = .returned (.int .i64 c.chk) ∧ Below w.heap.size w w' := by
  by_cases h0 : c.i < 0
  · have HR := Lib.hid (ret_int (k := .i64) (Cr.chk_neg h0))
    go_enter Tryz.func96, Tryz.ntmps96
    go_wp2
    go_ret
    exact ⟨HR.out.symm, by go_grown⟩
  · have h0' : 0 ≤ c.i := by omega
    cases h1 : c.tm
    · have hb := Cr.tm_no h1
      cases h2 : c.litsB
      · have HR := Lib.hid (ret_int (k := .i64) (Cr.chk_l h0 h1 (Or.inl h2)))
        go_enter Tryz.func96, Tryz.ntmps96
        go_wp2_with (first
          | (go_at_call 111; refine (tooMany_any c p _ h0' hs).mono ?_; rintro e w1 ⟨rfl, hb1⟩; obtain ⟨hc1, hf1⟩ := bcell hb1; have hz1 : w.heap.size < w1.heap.size := (by have := hb1.size; (try simp at this); omega); have hB1 : Below w.heap.size w w1 := Below.step (by go_grown) (by go_size) hb1)
          | (go_at_call 112; refine (rightLits_any c p _ (hm.to hB1 hB1.size) hs h0' hb.1).mono ?_; rintro e w2 ⟨rfl, hb2⟩; have hB2 : Below w.heap.size w w2 := Below.step hB1 hB1.size hb2))
        go_ret
        exact ⟨HR.out.symm, hB2⟩
      · cases h3 : c.gatB
        · have HR := Lib.hid (ret_int (k := .i64) (Cr.chk_l h0 h1 (Or.inr h3)))
          go_enter Tryz.func96, Tryz.ntmps96
          go_wp2_with (first
            | (go_at_call 111; refine (tooMany_any c p _ h0' hs).mono ?_; rintro e w1 ⟨rfl, hb1⟩; obtain ⟨hc1, hf1⟩ := bcell hb1; have hz1 : w.heap.size < w1.heap.size := (by have := hb1.size; (try simp at this); omega); have hB1 : Below w.heap.size w w1 := Below.step (by go_grown) (by go_size) hb1)
            | (go_at_call 112; refine (rightLits_any c p _ (hm.to hB1 hB1.size) hs h0' hb.1).mono ?_; rintro e w2 ⟨rfl, hb2⟩; obtain ⟨hc2, hf2⟩ := bcell hb2; have hz2 : w.heap.size < w2.heap.size := (by have := hb2.size; omega); have hB2 : Below w.heap.size w w2 := Below.step hB1 hB1.size hb2)
            | (go_at_call 113; refine (rightGates_any c p _ (hm.to hB2 hB2.size) hs h0' hb.1).mono ?_; rintro e w3 ⟨rfl, hb3⟩; have hB3 : Below w.heap.size w w3 := Below.step hB2 hB2.size hb3))
          go_ret
          exact ⟨HR.out.symm, hB3⟩
        · have HR := Lib.hid (ret_int (k := .i64) (Cr.chk_y h0 h1 h2 h3))
          go_enter Tryz.func96, Tryz.ntmps96
          go_wp2_with (first
            | (go_at_call 111; refine (tooMany_any c p _ h0' hs).mono ?_; rintro e w1 ⟨rfl, hb1⟩; obtain ⟨hc1, hf1⟩ := bcell hb1; have hz1 : w.heap.size < w1.heap.size := (by have := hb1.size; (try simp at this); omega); have hB1 : Below w.heap.size w w1 := Below.step (by go_grown) (by go_size) hb1)
            | (go_at_call 112; refine (rightLits_any c p _ (hm.to hB1 hB1.size) hs h0' hb.1).mono ?_; rintro e w2 ⟨rfl, hb2⟩; obtain ⟨hc2, hf2⟩ := bcell hb2; have hz2 : w.heap.size < w2.heap.size := (by have := hb2.size; omega); have hB2 : Below w.heap.size w w2 := Below.step hB1 hB1.size hb2)
            | (go_at_call 113; refine (rightGates_any c p _ (hm.to hB2 hB2.size) hs h0' hb.1).mono ?_; rintro e w3 ⟨rfl, hb3⟩; have hB3 : Below w.heap.size w w3 := Below.step hB2 hB2.size hb3))
          go_ret
          exact ⟨HR.out.symm, hB3⟩
    · have HR := Lib.hid (ret_int (k := .i64) (Cr.chk_tm h0 h1))
      go_enter Tryz.func96, Tryz.ntmps96
      go_wp2_with (go_at_call 111; refine (tooMany_any c p _ h0' hs).mono ?_; rintro e w1 ⟨rfl, hb1⟩; have hB1 : Below w.heap.size w w1 := Below.step (by go_grown) (by go_size) hb1)
      go_ret
      exact ⟨HR.out.symm, hB1⟩

theorem Cr.chk_zero {c : Cr} (h : c.chk = 0) : 0 ≤ c.i ∧ c.sz ≤ 1000 ∧ c.nb ≤ 100 ∧ c.nc ≤ 100 ∧ Cr.allB c.sz c.bd c.nb = true ∧ Cr.allB c.sz c.cn c.nc = true ∧ c.latB = true ∧ c.gatB = true := by
  unfold Cr.chk at h
  split at h
  · omega
  · split at h
    · omega
    · split at h
      · rename_i h1 h2 h3
        exact ⟨by omega, by omega, by omega, by omega, h3⟩
      · omega

theorem Cr.chk_i {c : Cr} (h : (c.chk == 0) = true) (hs : Sm c) : 0 ≤ c.i ∧ c.i ≤ 1000 ∧ c.sz ≤ 1000 := by
  have h1 := Cr.chk_zero (beq_iff_eq.1 h)
  have : c.sz = c.i + c.nl + c.na := rfl
  omega

/-- what Vars says -/
def Cr.vrs (c : Cr) : Int := if c.chk = 0 then c.sz else 0

set_option maxRecDepth 100000 in
set_option maxHeartbeats 2000000 in
theorem gVars_any (c : Cr) (p : Pl) (w : World) (hm : Mem w w.heap.size c p) (hs : Sm c) :
    Calls Tryz.prog 70 #[cv c p] w fun e w' => e = .returned (.tuple #[.int .i64 c.vrs, .int .i64 c.chk]) ∧ Below w.heap.size w w' := by
  have g1 := hs.nl
  have g2 := hs.na
  cases h : (c.chk == 0)
  · have h' : (c.chk != 0) = true := by simp [bne, h]
    have HR : Hid (c.vrs = 0) := if_neg (by simpa using h)
    go_enter Tryz.func70, Tryz.ntmps70
    go_wp2_with (first
      | (go_at_call 96; refine (gCheck_any c p _ (mem_alloc hm _) hs).mono ?_; rintro e w1 ⟨rfl, hb1⟩; have hB1 : Below w.heap.size w w1 := Below.step (by go_grown) (by go_size) hb1))
    go_ret2
    exact ⟨by rw [HR.out]; rfl, hB1⟩
  · have h' : (c.chk != 0) = false := by simp [bne, h]
    have hb := Cr.chk_i h hs
    have HR : Hid (c.vrs = c.sz ∧ c.chk = 0) := ⟨if_pos (by simpa using h), by simpa using h⟩
    go_enter Tryz.func70, Tryz.ntmps70
    go_wp2_with (first
      | (go_at_call 96; refine (gCheck_any c p _ (mem_alloc hm _) hs).mono ?_; rintro e w1 ⟨rfl, hb1⟩; obtain ⟨hc1, hf1⟩ := bcell hb1; have hz1 : w.heap.size < w1.heap.size := (by have := hb1.size; (try simp at this); omega); have hB1 : Below w.heap.size w w1 := Below.step (by go_grown) (by go_size) hb1)
      | (go_at_call 97; refine (lastVar_any c p _ hb.1 hb.2.1 g1 g2).mono ?_; rintro e w2 ⟨rfl, hb2⟩; have hB2 : Below w.heap.size w w2 := Below.step hB1 hB1.size hb2))
    go_ret2
    exact ⟨by rw [HR.out.1, HR.out.2]; rfl, hB2⟩