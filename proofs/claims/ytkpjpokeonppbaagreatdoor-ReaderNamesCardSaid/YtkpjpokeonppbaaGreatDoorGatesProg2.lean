/- The contracts of gates.Check, gates.Vars, gates.Kind and of the reference's Vars, Gate, Kind. -/
import Derived.Test.YtkpjpokeonppbaaGreatDoorGatesProg
import Derived.Test.YtkpjpokeonppbaaGreatDoorGatesRef2
namespace Go.Proofs.YtkpjpokeonppbaaGreatDoor
open Go.RowKit
set_option linter.unusedVariables false

/-- what is right apart from the gates -/
def Cr.litsB (c : Cr) : Bool := c.latB && Cr.allB c.sz c.bd c.nb && Cr.allB c.sz c.cn c.nc

theorem mem_alloc {w : World} {c : Cr} {p : Pl} (h : Mem w w.heap.size c p) (o : Obj) : Mem (w.alloc o) (w.alloc o).heap.size c p :=
  h.to (Below.alloc (Below.refl _ _) (Nat.le_refl _) _) (by simp)

set_option maxRecDepth 100000 in
set_option maxHeartbeats 2000000 in
theorem rightLits_any (c : Cr) (p : Pl) (w : World) (hm : Mem w w.heap.size c p) (hs : Sm c) (h0 : 0 ≤ c.i) (h1 : c.sz ≤ 1000) :
    Calls Tryz.prog 112 #[cv c p] w fun e w' => e = .returned (.bool c.litsB) ∧ Below w.heap.size w w' := by
  have hb0 := Has.new w 41 (cc c p)
  have hb1 := hb0.keep (Below.alloc (Below.refl (w.alloc (.cells (cc c p) 41)).heap.size _) (Nat.le_refl _) (.cells #[isWv w.heap.size] 131)) hb0.lt
  have hb2 := Has.new (w.alloc (.cells (cc c p) 41)) 131 #[isWv w.heap.size]
  rw [World.size_alloc] at hb2
  have hm2 := mem_alloc (mem_alloc hm (.cells (cc c p) 41)) (.cells #[isWv w.heap.size] 131)
  unfold cc at hb1 hb2 hm2
  have HH := Lib.hid (And.intro hb1 (And.intro hb2 hm2))
  clear hb1 hb2 hm2 hb0
  cases v1 : c.latB <;> cases v2 : Cr.allB c.sz c.bd c.nb
  all_goals
    have HL : c.litsB = (c.latB && Cr.allB c.sz c.bd c.nb && Cr.allB c.sz c.cn c.nc) := rfl
    rw [v1, v2] at HL
    have HL := Lib.hid HL
    go_enter Tryz.func112, Tryz.ntmps112
    go_wp2_with (first
      | (go_at_call 132; (refine (containsLat_any c p w.heap.size (w.heap.size + 1) _ HH.out.2.2 hs h0 h1 HH.out.1 HH.out.2.1).mono ?_; rintro e w1 ⟨rfl, hb1⟩; obtain ⟨hc1, hf1⟩ := bcell hb1; have hz1 : w.heap.size + 1 < w1.heap.size := (by have := hb1.size; (try simp at this); omega); have hB1 : Below w.heap.size w w1 := Below.step (by go_grown) (by go_size) hb1; have hy1 : w.heap.size < w1.heap.size := (by omega); have hh1 : Has w1 w.heap.size 41 (cc c p) := HH.out.1.keep hb1 (by simp; omega); have hm1 := HH.out.2.2.to hb1 hb1.size))
      | (go_at_call 90; (with_reducible refine (containsInts_any c p p.A3 c.nb p.k3 c.bd w.heap.size w1 hs h0 h1 hs.nb hm1.bd hh1).mono ?_); rintro e w2 ⟨rfl, hb2⟩; obtain ⟨hc2, hf2⟩ := bcell hb2; have hz2 : w.heap.size + 1 < w2.heap.size := (by have := hb2.size; omega); have hB2 : Below w.heap.size w w2 := Below.step hB1 (by go_size) hb2; have hy2 : w.heap.size < w2.heap.size := (by omega); have hh2 := hh1.keep hb2 (by omega); have hm2 := hm1.to hb2 hb2.size)
      | (go_at_call 90; (with_reducible refine (containsInts_any c p p.A4 c.nc p.k4 c.cn w.heap.size w2 hs h0 h1 hs.nc hm2.cn hh2).mono ?_); rintro e w3 ⟨rfl, hb3⟩; have hB3 : Below w.heap.size w w3 := Below.step hB2 (by go_size) hb3))
    go_ret
    exact ⟨Li.ret_bool (by rw [HL.out]; simp), by first | exact hB3 | exact hB2 | exact hB1⟩

/-- the check's answer where neither the number of inputs is below 0 nor one of the lists too long -/
theorem gatB_eq {c : Cr} (h0 : 0 ≤ c.i) (h1 : c.sz ≤ 1000) {j : Nat} (hj : j < c.na) : 0 ≤ 1 + c.i + c.nl + j ∧ 1 + c.i + c.nl + j ≤ 1000 := by
  have : c.sz = c.i + c.nl + c.na := rfl
  omega

theorem lit_pos (v : Int) (w : World) (h : 0 ≤ v ∧ v ≤ 1000) : Calls Tryz.prog 78 #[.int .i64 v, .bool false] w fun e w' => e = .returned (.tuple #[.int .i64 (2 * v), .int .i64 0]) ∧ w = w' :=
  (lit_yes v false w (Li.isV_mk h.1 h.2)).mono fun _ _ h => h

set_option maxRecDepth 100000 in
set_option maxHeartbeats 2000000 in
theorem rightGates_any (c : Cr) (p : Pl) (w : World) (hm : Mem w w.heap.size c p) (hs : Sm c) (h0 : 0 ≤ c.i) (h1 : c.sz ≤ 1000) :
    Calls Tryz.prog 113 #[cv c p] w fun e w' => e = .returned (.bool c.gatB) ∧ Below w.heap.size w w' := by
  have g1 := hs.nl
  have g2 := hs.na
  have hz : c.i ≤ 1000 := by have : c.sz = c.i + c.nl + c.na := rfl; omega
  have hn0 := Has.new w 41 (cc c p)
  unfold cc at hn0
  go_enter Tryz.func113, Tryz.ntmps113
  go_wp2
  go_loopw [10] (fun i wr => ∃ q : Nat, q ≤ c.na ∧ i = .int .i64 q ∧ Hid (GatTo c q) ∧ Below w.heap.size w wr ∧ Has wr w.heap.size 41 (cc c p)) (fun i _ => c.na - (intOf i).toNat)
  case atStart => exact ⟨0, Nat.zero_le _, rfl, Lib.hid (fun j hj => absurd hj (Nat.not_lt_zero _)), by go_grown, hn0⟩
  case round =>
    obtain ⟨q, hq, rfl, hL, hBr, hH⟩ := hrel
    by_cases hlt : q < c.na
    · obtain ⟨a, hA, hab, hcs⟩ := (hm.an.keep hBr) (by omega)
      obtain ⟨y0, y1⟩ := hcs q hlt
      have x0' := ca (hH.cell 0)
      have x1' := ca (hH.cell 1)
      have x2' := ca (hH.cell 2)
      have x3' := ca (hH.cell 3)
      have x4' := ca (hH.cell 4)
      have hz2 := hH.lt
      have hv := gatB_eq h0 h1 hlt
      rw [hA]
      have hbd := hs.ga q
      have hbe := hs.gb q
      unfold I64 at hbd hbe
      clear hcs hA
      have hG : (∃ hg : 0 ≤ c.gb q ∧ c.gb q ≤ c.ga q ∧ c.ga q / 2 ≤ c.i + c.nl + q, 0 ≤ c.gb q ∧ c.gb q ≤ c.ga q ∧ c.ga q < 2 * (1 + c.i + c.nl + q)) ∨ (∃ hg : ¬ (0 ≤ c.gb q ∧ c.gb q ≤ c.ga q ∧ c.ga q / 2 ≤ c.i + c.nl + q),
          c.gb q < 0 ∨ (¬ c.gb q < 0 ∧ c.ga q < c.gb q) ∨ (¬ c.gb q < 0 ∧ ¬ c.ga q < c.gb q ∧ 2 * (1 + c.i + c.nl + q) ≤ c.ga q)) := by
        by_cases hg : 0 ≤ c.gb q ∧ c.gb q ≤ c.ga q ∧ c.ga q / 2 ≤ c.i + c.nl + q
        · exact Or.inl ⟨hg, by omega⟩
        · exact Or.inr ⟨hg, by omega⟩
      rcases hG with ⟨hg, b1, b2, b3⟩ | ⟨hg, hg2⟩
      · have hg := Lib.hid hg
        go_wp2_with (first
          | (go_at_call 133; refine (firstGate_any c p _ (by assumption) (by assumption) (by assumption)).mono ?_; rintro e w1 ⟨rfl, hb1⟩; obtain ⟨hc1, hf1⟩ := bcell hb1; have hz1 : wr.heap.size < w1.heap.size := (by have := hb1.size; (try simp at this); omega); have hB1 : Below w.heap.size w w1 := Below.step (by go_grown) (by go_size) hb1; have hH1 := (hH.keep (Below.alloc (Below.refl _ _) (Nat.le_refl _) _) hz2).keep hb1 (by simp; omega))
          | (go_at_call 78; refine (lit_pos _ _ hv).mono ?_; rintro e w2 ⟨rfl, rfl⟩))
        go_roundw
        case rel => exact ⟨q + 1, by omega, by go_num, Lib.hid (hL.out.snoc hg.out), hB1, hH1⟩
        case measure => simp [intOf]; omega
      · have HR := Lib.hid (Li.ret_bool (Cr.gatB_no hlt hg))
        clear hg
        rcases hg2 with hg2 | ⟨hg2, hg3⟩ | ⟨hg2, hg3, hg4⟩
        all_goals
          go_wp2_with (first
            | (go_at_call 133; refine (firstGate_any c p _ (by assumption) (by assumption) (by assumption)).mono ?_; rintro e w1 ⟨rfl, hb1⟩; obtain ⟨hc1, hf1⟩ := bcell hb1; have hz1 : wr.heap.size < w1.heap.size := (by have := hb1.size; (try simp at this); omega); have hB1 : Below w.heap.size w w1 := Below.step (by go_grown) (by go_size) hb1)
            | (go_at_call 78; refine (lit_pos _ _ hv).mono ?_; rintro e w2 ⟨rfl, rfl⟩))
          go_ret
          exact ⟨HR.out.symm, hB1⟩
    · obtain rfl : q = c.na := by omega
      have HR := Lib.hid (Li.ret_bool (Cr.gatB_yes hL.out))
      clear hq hlt
      go_wp2
      go_ret
      exact ⟨HR.out.symm, hBr⟩
