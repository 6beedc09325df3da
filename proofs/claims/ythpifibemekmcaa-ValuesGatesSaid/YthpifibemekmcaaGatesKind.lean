/- The contracts of gates.Kind and of the reference's Gate and Kind. -/
import Derived.Test.YthpifibemekmcaaGatesChk
import Derived.Test.YthpifibemekmcaaGatesSame
namespace Go.Proofs.Ythpifibemekmcaa
open Go.RowKit
set_option linter.unusedVariables false

/-- what Kind says: the kind, the index, the error -/
def Cr.kd (c : Cr) (v : Int) : Int × Int × Int :=
  if c.chk ≠ 0 then (0, 0, c.chk) else if v < 0 ∨ c.sz < v then (0, 0, 2) else if v = 0 then (0, 0, 0)
  else if v ≤ c.i then (1, v - 1, 0) else if v ≤ c.i + c.nl then (2, v - 1 - c.i, 0) else (3, v - 1 - c.i - c.nl, 0)

theorem Cr.ret_kd {x : Int × Int × Int} {a b d : Int} (h : x = (a, b, d)) : Ending.returned (.tuple #[.int .i64 a, .int .i64 b, .int .i64 d]) = .returned (.tuple #[.int .i64 x.1, .int .i64 x.2.1, .int .i64 x.2.2]) := by rw [h]

theorem Cr.kd_bad {c : Cr} (v : Int) (h : c.chk ≠ 0) : c.kd v = (0, 0, c.chk) := by unfold Cr.kd; rw [if_pos h]
theorem Cr.kd_arg {c : Cr} {v : Int} (h : c.chk = 0) (h1 : v < 0 ∨ c.sz < v) : c.kd v = (0, 0, 2) := by unfold Cr.kd; rw [if_neg (by omega), if_pos h1]
theorem Cr.kd_0 {c : Cr} {v : Int} (h : c.chk = 0) (h1 : ¬ (v < 0 ∨ c.sz < v)) (h2 : v = 0) : c.kd v = (0, 0, 0) := by unfold Cr.kd; rw [if_neg (by omega), if_neg h1, if_pos h2]
theorem Cr.kd_1 {c : Cr} {v : Int} (h : c.chk = 0) (h1 : ¬ (v < 0 ∨ c.sz < v)) (h2 : ¬ v = 0) (h3 : v ≤ c.i) : c.kd v = (1, v - 1, 0) := by unfold Cr.kd; rw [if_neg (by omega), if_neg h1, if_neg h2, if_pos h3]
theorem Cr.kd_2 {c : Cr} {v : Int} (h : c.chk = 0) (h1 : ¬ (v < 0 ∨ c.sz < v)) (h2 : ¬ v = 0) (h3 : ¬ v ≤ c.i) (h4 : v ≤ c.i + c.nl) : c.kd v = (2, v - 1 - c.i, 0) := by unfold Cr.kd; rw [if_neg (by omega), if_neg h1, if_neg h2, if_neg h3, if_pos h4]
theorem Cr.kd_3 {c : Cr} {v : Int} (h : c.chk = 0) (h1 : ¬ (v < 0 ∨ c.sz < v)) (h2 : ¬ v = 0) (h3 : ¬ v ≤ c.i) (h4 : ¬ v ≤ c.i + c.nl) : c.kd v = (3, v - 1 - c.i - c.nl, 0) := by unfold Cr.kd; rw [if_neg (by omega), if_neg h1, if_neg h2, if_neg h3, if_neg h4]

set_option maxRecDepth 100000 in
set_option maxHeartbeats 4000000 in
theorem gKind_ok (c : Cr) (p : Pl) (v : Int) (w : World) (hm : Mem w w.heap.size c p) (hs : Sm c) (hv : v ≤ 9223372036854775807) (h : (c.chk == 0) = true) :
    Calls Try.prog 40 #[cv c p, .int .i64 v] w fun e w' => e = .returned (.tuple #[.int .i64 (c.kd v).1, .int .i64 (c.kd v).2.1, .int .i64 (c.kd v).2.2]) ∧ Below w.heap.size w w' := by
  have g1 := hs.nl
  have g2 := hs.na
  have h' : (c.chk != 0) = false := by simp [bne, h]
  have hb := Cr.chk_i h hs
  have hk : c.chk = 0 := by simpa using h
  have hz : c.sz = c.i + c.nl + c.na := rfl
  have i0 : ∀ w, (Instr.index 96 (.agg #[.int .i64 1, .int .i64 c.i, .int .i64 c.nl, .int .i64 c.na]) (.int .i64 0)).run Try.prog w = .ok (.int .i64 1) w := fun _ => by kernel_rfl
  have i1 : ∀ w, (Instr.index 96 (.agg #[.int .i64 1, .int .i64 c.i, .int .i64 c.nl, .int .i64 c.na]) (.int .i64 1)).run Try.prog w = .ok (.int .i64 c.i) w := fun _ => by kernel_rfl
  have i2 : ∀ w, (Instr.index 96 (.agg #[.int .i64 1, .int .i64 c.i, .int .i64 c.nl, .int .i64 c.na]) (.int .i64 2)).run Try.prog w = .ok (.int .i64 c.nl) w := fun _ => by kernel_rfl
  have i3 : ∀ w, (Instr.index 96 (.agg #[.int .i64 1, .int .i64 c.i, .int .i64 c.nl, .int .i64 c.na]) (.int .i64 3)).run Try.prog w = .ok (.int .i64 c.na) w := fun _ => by kernel_rfl
  have hcase : (∃ h : v < 0, Hid (c.kd v = (0, 0, 2))) ∨ (∃ h : 0 ≤ v ∧ v < 1, Hid (c.kd v = (0, v, 0))) ∨ (∃ h : 1 ≤ v ∧ v - 1 < c.i, Hid (c.kd v = (1, v - 1, 0)))
      ∨ (∃ h : c.i ≤ v - 1 ∧ v - 1 - c.i < c.nl, Hid (c.kd v = (2, v - 1 - c.i, 0))) ∨ (∃ h : c.nl ≤ v - 1 - c.i ∧ v - 1 - c.i - c.nl < c.na, Hid (c.kd v = (3, v - 1 - c.i - c.nl, 0)))
      ∨ (∃ h : c.na ≤ v - 1 - c.i - c.nl, Hid (c.kd v = (0, 0, 2))) := by
    by_cases a0 : v < 0
    · exact Or.inl ⟨a0, Cr.kd_arg hk (Or.inl a0)⟩
    · by_cases a1 : c.sz < v
      · exact Or.inr (Or.inr (Or.inr (Or.inr (Or.inr ⟨by omega, Cr.kd_arg hk (Or.inr a1)⟩))))
      · by_cases a2 : v = 0
        · exact Or.inr (Or.inl ⟨by omega, by subst a2; exact Cr.kd_0 hk (by omega) rfl⟩)
        · by_cases a3 : v ≤ c.i
          · exact Or.inr (Or.inr (Or.inl ⟨by omega, Cr.kd_1 hk (by omega) a2 a3⟩))
          · by_cases a4 : v ≤ c.i + c.nl
            · exact Or.inr (Or.inr (Or.inr (Or.inl ⟨by omega, Cr.kd_2 hk (by omega) a2 a3 a4⟩)))
            · exact Or.inr (Or.inr (Or.inr (Or.inr (Or.inl ⟨by omega, Cr.kd_3 hk (by omega) a2 a3 a4⟩))))
  clear hz
  have hk := Lib.hid hk
  rcases hcase with ⟨a, HR⟩ | ⟨a, HR⟩ | ⟨a, HR⟩ | ⟨a, HR⟩ | ⟨a, HR⟩ | ⟨a, HR⟩
  case inl =>
    go_enter Try.func40, Try.ntmps40
    go_wp2_with (first
      | (go_at_call 49; refine (gCheck_any c p _ (mem_alloc hm _) hs).mono ?_; rintro e w1 ⟨rfl, hb1⟩; have hB1 : Below w.heap.size w w1 := Below.step (by go_grown) (by go_size) hb1))
    go_ret3
    exact ⟨Cr.ret_kd HR.out, hB1⟩
  all_goals
    go_enter Try.func40, Try.ntmps40
    go_wp2_with (first
      | (go_at_call 49; refine (gCheck_any c p _ (mem_alloc hm _) hs).mono ?_; rintro e w1 ⟨rfl, hb1⟩; obtain ⟨hc1, hf1⟩ := bcell hb1; have hz1 : w.heap.size < w1.heap.size := (by have := hb1.size; (try simp at this); omega); have hB1 : Below w.heap.size w w1 := Below.step (by go_grown) (by go_size) hb1)
      | (go_at_call 67; refine (counts_any c p _).mono ?_; rintro e w2 ⟨rfl, hb2⟩; have hB2 : Below w.heap.size w w2 := Below.step hB1 hB1.size hb2))
    go_rounds 5
    go_ret3
    exact ⟨Cr.ret_kd HR.out, hB2⟩

set_option maxRecDepth 100000 in
set_option maxHeartbeats 2000000 in
theorem gKind_any (c : Cr) (p : Pl) (v : Int) (w : World) (hm : Mem w w.heap.size c p) (hs : Sm c) (hv : v ≤ 9223372036854775807) :
    Calls Try.prog 40 #[cv c p, .int .i64 v] w fun e w' => e = .returned (.tuple #[.int .i64 (c.kd v).1, .int .i64 (c.kd v).2.1, .int .i64 (c.kd v).2.2]) ∧ Below w.heap.size w w' := by
  cases h : (c.chk == 0)
  · have h' : (c.chk != 0) = true := by simp [bne, h]
    have HR := Lib.hid (Cr.kd_bad (c := c) v (by simpa using h))
    go_enter Try.func40, Try.ntmps40
    go_wp2_with (first
      | (go_at_call 49; refine (gCheck_any c p _ (mem_alloc hm _) hs).mono ?_; rintro e w1 ⟨rfl, hb1⟩; have hB1 : Below w.heap.size w w1 := Below.step (by go_grown) (by go_size) hb1))
    go_ret3
    exact ⟨Cr.ret_kd HR.out, hB1⟩
  · exact gKind_ok c p v w hm hs hv h