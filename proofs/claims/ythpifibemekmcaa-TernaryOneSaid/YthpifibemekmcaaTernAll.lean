/- The contracts of ternary.All, Next, First. -/
import Derived.Test.YthpifibemekmcaaTernRef2
import Derived.Test.YthpifibemekmcaaGatesChk
import Derived.Test.YthpifibemekmcaaValuesAll
namespace Go.Proofs.Ythpifibemekmcaa
open Go.RowKit
set_option linter.unusedVariables false
set_option linter.unusedSimpArgs false

section
variable {c : Cr} {p : Pl} {As At : Option Addr} {ns ks ni ki : Nat} {s t : Nat → Int}
theorem gCheck_at (h : c.chk = 0) (w : World) (hm : Mem w w.heap.size c p) (hs : Sm c) : Calls Try.prog 49 #[cv c p] w fun e w' => e = .returned (.int .i64 0) ∧ Below w.heap.size w w' := by
  have := gCheck_any c p w hm hs
  rwa [h] at this

set_option maxRecDepth 100000 in
set_option maxHeartbeats 4000000 in
theorem tAll_no (hk : c.tsk ns ni s t ≠ 0) (w : World) (h : TArg w w.heap.size c p As ns ks s At ni ki t) :
    Calls Try.prog 16 #[cv c p, .slice As ns ks, .slice At ni ki] w (TrsErr (c.tn ns ni s t) (c.tf s t) (c.tsk ns ni s t) w) := by
  have HF := Lib.hid (Cr.tn_no (c := c) (ns := ns) (ni := ni) (s := s) (t := t) rfl hk)
  have hB0 : Below w.heap.size w w := Below.refl _ _
  have hs := h.hs
  have hm := h.hm
  have h1 := h.n1
  have h2 := h.n2
  have g1 := hs.nl
  have g5 := hs.i
  unfold I64 at g5
  have CS := fun (W : World) (hb : Below w.heap.size w W) => areTruths_any As ns ks s w.heap.size W h1 (h.hS.keep hb) h.r1
  have CT := fun (W : World) (hb : Below w.heap.size w W) => areTruths_any At ni ki t w.heap.size W h2 (h.hT.keep hb) h.r2
  rw [HF.out]
  clear HF h
  rcases c.tsk_ways ns ni s t with ⟨a, r⟩ | ⟨a, b, r⟩ | ⟨a, b, d, r⟩ | ⟨a, b, d, e, r⟩ | ⟨a, b, d, e, f, r⟩ | ⟨a, b, d, e, f, r⟩
  rotate_right
  · exact absurd r hk
  · have h : (c.chk != 0) = true := by simpa [bne] using a
    rw [r]
    clear a r CS CT hk
    go_enter Try.func16, Try.ntmps16
    go_wp2_with (first
      | (go_at_call 49; (with_reducible refine (gCheck_any c p (w.alloc _) (hm.to (by go_grown) (by go_size)) hs).mono ?_); rintro e w1 ⟨rfl, hb1⟩; have hB1 : Below w.heap.size w w1 := Below.step (by go_grown) (by go_size) hb1))
    go_ret2
    exact TrsErr.none hB1
  all_goals
    have h : (c.chk != 0) = false := by simp [bne, a]
    have hz := Cr.chk_i (c := c) (by simpa using a) hs
    have HA := Lib.hid a
    rw [r]
    clear a r hk
    first
      | (have t1 : ((ns : Int) != (c.nl : Int)) = true := by simp; omega)
      | (have t1 : ((ns : Int) != (c.nl : Int)) = false := by simp; omega)
    try first
      | (have t2 : ((ni : Int) != c.i) = true := by simp; omega)
      | (have t2 : ((ni : Int) != c.i) = false := by simp; omega)
    clear b
    try clear d
    try rw [e] at CS
    try rw [f] at CT
    try clear e
    try clear f
    go_enter Try.func16, Try.ntmps16
    go_wp2_with (first
      | (go_at_call 49; (with_reducible refine (gCheck_at HA.out (w.alloc _) (hm.to (by go_grown) (by go_size)) hs).mono ?_); rintro e w1 ⟨rfl, hb1⟩; obtain ⟨hc1, hf1⟩ := bcell hb1; have hz1 : w.heap.size < w1.heap.size := (by have := hb1.size; (try simp at this); omega); have hB1 : Below w.heap.size w w1 := Below.step (by go_grown) (by go_size) hb1)
      | (go_at_call 45; (with_reducible refine (CS w1 hB1).mono ?_); rintro e w2 ⟨rfl, rfl⟩)
      | (go_at_call 45; (with_reducible refine (CT w1 hB1).mono ?_); rintro e w2 ⟨rfl, rfl⟩))
    go_ret2
    exact TrsErr.none hB1
end

end Go.Proofs.Ythpifibemekmcaa
