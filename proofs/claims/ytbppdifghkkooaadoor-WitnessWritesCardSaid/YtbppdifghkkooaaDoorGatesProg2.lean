/- The contracts of the reference of gates: its check, its sizes, comparisons and copies. -/
import Derived.Test.YtbppdifghkkooaaDoorGatesMem
namespace Go.Proofs.YtbppdifghkkooaaDoor
open Go.RowKit

set_option linter.unusedVariables false

set_option maxHeartbeats 400000 in
theorem rSize_any (c : Cr) (p : Pl) (w : World) (h0 : 0 ≤ c.i) (h1 : c.i ≤ 1000) (h2 : c.nl ≤ 1000) (h3 : c.na ≤ 1000) :
    Calls Tryd.prog 50 #[cv c p] w fun e w' => e = .returned (.int .i64 c.sz) ∧ Below w.heap.size w w' := by
  go_enter Tryd.func50, Tryd.ntmps50
  go_wp2
  go_ret
  exact ⟨rfl, (Below.refl _ _).alloc (Nat.le_refl _) _⟩

set_option maxHeartbeats 1000000 in
theorem rGreat_any (c : Cr) (p : Pl) (w : World) : Calls Tryd.prog 4 #[cv c p] w fun e w' => e = .returned (.bool c.gr) ∧ Below w.heap.size w w' := by
  go_enter Tryd.func4, Tryd.ntmps4
  go_wp2
  all_goals
    go_ret
    refine ⟨Li.ret_bool ?_, (Below.refl _ _).alloc (Nat.le_refl _) _⟩
    rw [Bool.eq_iff_iff]
    simp [Cr.gr]
    omega

theorem Cr.allB_yes {m : Int} {f : Nat → Int} {n : Nat} (h : ∀ j, j < n → 0 ≤ f j ∧ f j / 2 ≤ m) : Cr.allB m f n = true := decide_eq_true h
theorem Cr.allB_no {m : Int} {f : Nat → Int} {n k : Nat} (hk : k < n) (h : f k < 0 ∨ m < f k / 2) : Cr.allB m f n = false := decide_eq_false fun h' => by have := h' k hk; omega

set_option maxHeartbeats 1000000 in
theorem rLiterals_any (A : Option Addr) (n k : Nat) (f : Nat → Int) (m : Int) (B : Nat) (w : World) (hf : ∀ j, I64 (f j)) (hn : n ≤ 1000) (hA : IntsAt w B A n f) :
    Calls Tryd.prog 51 #[.slice A n k, .int .i64 m] w fun e w' => e = .returned (.bool (Cr.allB m f n)) ∧ w = w' := by
  go_enter Tryd.func51, Tryd.ntmps51
  go_wp2
  go_loop [5] (fun i => ∃ q : Nat, q ≤ n ∧ i = .int .i64 q ∧ ∀ j, j < q → 0 ≤ f j ∧ f j / 2 ≤ m) (fun i => n - (intOf i).toNat)
  case atStart => exact ⟨0, Nat.zero_le _, rfl, fun j hj => absurd hj (Nat.not_lt_zero _)⟩
  case round =>
    obtain ⟨q, hq, rfl, hall⟩ := hrel
    have HA := Lib.hid hall
    clear hall
    by_cases hlt : q < n
    · obtain ⟨a, rfl, hb, hc⟩ := hA (by omega)
      have hcell := hc q hlt
      have hbd := hf q
      unfold I64 at hbd
      clear hc hf
      by_cases h1 : f q < 0
      · have HR := Lib.hid (Li.ret_bool (Cr.allB_no (m := m) hlt (Or.inl h1)))
        go_wp2
        go_ret
        exact ⟨HR.out.symm, rfl⟩
      · by_cases h2 : m < f q / 2
        · have HR := Lib.hid (Li.ret_bool (Cr.allB_no (m := m) hlt (Or.inr h2)))
          go_wp2
          go_ret
          exact ⟨HR.out.symm, rfl⟩
        · go_wp2
          go_round
          case rel => exact ⟨q + 1, by omega, by go_num, fun j hj => by
            rcases Nat.lt_succ_iff_lt_or_eq.1 hj with h | h
            · exact HA.out j h
            · subst h; omega⟩
          case measure => simp [intOf]; omega
    · have hqn : q = n := by omega
      have HR := Lib.hid (Li.ret_bool (Cr.allB_yes (m := m) (n := n) (fun j hj => HA.out j (by omega))))
      clear hqn hf hA
      go_wp2
      go_ret
      exact ⟨HR.out.symm, rfl⟩

theorem Cr.chk_neg {c : Cr} (h : c.i < 0) : c.chk = 8 := by unfold Cr.chk; rw [if_pos h]
theorem Cr.chk_many {c : Cr} (h : ¬ c.i < 0) (h1 : 1000 < c.sz ∨ 100 < c.nb ∨ 100 < c.nc) : c.chk = 4 := by unfold Cr.chk; rw [if_neg h, if_pos h1]
theorem Cr.chk_bad {c : Cr} (h : ¬ c.i < 0) (h1 : ¬ (1000 < c.sz ∨ 100 < c.nb ∨ 100 < c.nc)) (h2 : ¬ (Cr.allB c.sz c.bd c.nb = true ∧ Cr.allB c.sz c.cn c.nc = true ∧ c.latB = true ∧ c.gatB = true)) : c.chk = 8 := by
  unfold Cr.chk; rw [if_neg h, if_neg h1, if_neg h2]
theorem Cr.chk_ok {c : Cr} (h : ¬ c.i < 0) (h1 : ¬ (1000 < c.sz ∨ 100 < c.nb ∨ 100 < c.nc)) (h2 : Cr.allB c.sz c.bd c.nb = true ∧ Cr.allB c.sz c.cn c.nc = true ∧ c.latB = true ∧ c.gatB = true) : c.chk = 0 := by
  unfold Cr.chk; rw [if_neg h, if_neg h1, if_pos h2]

set_option maxRecDepth 100000 in
set_option maxHeartbeats 2000000 in
theorem rCheck_neg (c : Cr) (p : Pl) (w : World) (h : c.i < 0) : Calls Tryd.prog 33 #[cv c p] w fun e w' => e = .returned (.int .i64 8) ∧ Below w.heap.size w w' := by
  go_enter Tryd.func33, Tryd.ntmps33
  go_wp2
  go_ret
  exact ⟨rfl, (Below.refl _ _).alloc (Nat.le_refl _) _⟩

set_option maxRecDepth 100000 in
set_option maxHeartbeats 2000000 in
theorem rCheck_many (c : Cr) (p : Pl) (w : World) (hs : Sm c) (h : 0 ≤ c.i) (h1 : 1000 < c.sz ∨ 100 < c.nb ∨ 100 < c.nc) : Calls Tryd.prog 33 #[cv c p] w fun e w' => e = .returned (.int .i64 4) ∧ Below w.heap.size w w' := by
  have g1 := hs.nl
  have g2 := hs.na
  have g3 := hs.i
  unfold I64 at g3
  have hz : c.sz = c.i + c.nl + c.na := rfl
  by_cases h2 : 1000 < c.i
  · clear h1 hz hs
    go_enter Tryd.func33, Tryd.ntmps33
    go_wp2
    go_ret
    exact ⟨rfl, (Below.refl _ _).alloc (Nat.le_refl _) _⟩
  · have h3 : 1000 < c.sz ∨ (c.sz ≤ 1000 ∧ 100 < c.nb) ∨ (c.sz ≤ 1000 ∧ c.nb ≤ 100 ∧ 100 < c.nc) := by omega
    clear h1 hz hs
    rcases h3 with h3 | ⟨h3, h4⟩ | ⟨h3, h4, h5⟩
    all_goals
      go_enter Tryd.func33, Tryd.ntmps33
      go_wp2_with (go_at_call 50; refine (rSize_any c p _ (by assumption) (by omega) (by assumption) (by assumption)).mono ?_; rintro e w1 ⟨rfl, hb1⟩; obtain ⟨hc1, hf1⟩ := bcell hb1; have hz1 : w.heap.size < w1.heap.size := by have := hb1.size; (try simp at this); omega)
      go_ret
      exact ⟨rfl, ((Below.refl _ _).alloc (Nat.le_refl _) _).trans (hb1.mono (by simp))⟩

theorem Cr.latB_yes {c : Cr} (h : ∀ j, j < c.nl → 0 ≤ c.nx j ∧ c.nx j / 2 ≤ c.sz ∧ 0 ≤ c.rs j ∧ c.rs j ≤ 2) : c.latB = true := decide_eq_true h
theorem Cr.latB_no {c : Cr} {k : Nat} (hk : k < c.nl) (h : ¬ (0 ≤ c.nx k ∧ c.nx k / 2 ≤ c.sz ∧ 0 ≤ c.rs k ∧ c.rs k ≤ 2)) : c.latB = false := decide_eq_false fun h' => h (h' k hk)
theorem Cr.gatB_yes {c : Cr} (h : ∀ j, j < c.na → 0 ≤ c.gb j ∧ c.gb j ≤ c.ga j ∧ c.ga j / 2 ≤ c.i + c.nl + j) : c.gatB = true := decide_eq_true h
theorem Cr.gatB_no {c : Cr} {k : Nat} (hk : k < c.na) (h : ¬ (0 ≤ c.gb k ∧ c.gb k ≤ c.ga k ∧ c.ga k / 2 ≤ c.i + c.nl + k)) : c.gatB = false := decide_eq_false fun h' => h (h' k hk)

set_option maxRecDepth 100000 in
set_option maxHeartbeats 2000000 in
theorem rCheck_lits (c : Cr) (p : Pl) (w : World) (hm : Mem w w.heap.size c p) (hs : Sm c) (h : 0 ≤ c.i) (h1 : c.sz ≤ 1000) (h2 : c.nb ≤ 100) (h3 : c.nc ≤ 100)
    (h4 : Cr.allB c.sz c.bd c.nb = false ∨ Cr.allB c.sz c.cn c.nc = false) : Calls Tryd.prog 33 #[cv c p] w fun e w' => e = .returned (.int .i64 8) ∧ Below w.heap.size w w' := by
  have g1 := hs.nl
  have g2 := hs.na
  have hz : c.i ≤ 1000 := by have : c.sz = c.i + c.nl + c.na := rfl; omega
  have h5 : Cr.allB c.sz c.bd c.nb = false ∨ (Cr.allB c.sz c.bd c.nb = true ∧ Cr.allB c.sz c.cn c.nc = false) := by
    cases hq : Cr.allB c.sz c.bd c.nb <;> simp_all
  clear h4
  have hB0 : Below w.heap.size w w := Below.refl _ _
  rcases h5 with h5 | ⟨h5, h6⟩
  all_goals
    go_enter Tryd.func33, Tryd.ntmps33
    go_wp2_with (first
      | (go_at_call 50; refine (rSize_any c p _ (by assumption) (by assumption) (by assumption) (by assumption)).mono ?_; rintro e w1 ⟨rfl, hb1⟩; obtain ⟨hc1, hf1⟩ := bcell hb1; have hz1 : w.heap.size < w1.heap.size := (by have := hb1.size; (try simp at this); omega); have hB1 : Below w.heap.size w w1 := Below.step (by go_grown) (by go_size) hb1)
      | (go_at_call 51; (with_reducible refine (rLiterals_any p.A3 c.nb p.k3 c.bd _ w.heap.size _ hs.bd hs.nb (hm.bd.keep (by assumption))).mono ?_); rintro e w1 ⟨rfl, rfl⟩)
      | (go_at_call 51; (with_reducible refine (rLiterals_any p.A4 c.nc p.k4 c.cn _ w.heap.size _ hs.cn hs.nc (hm.cn.keep (by assumption))).mono ?_); rintro e w1 ⟨rfl, rfl⟩))
    go_ret
    exact ⟨rfl, by assumption⟩

end Go.Proofs.YtbppdifghkkooaaDoor

namespace Go.Proofs.YtbppdifghkkooaaDoor
open Go.RowKit

set_option linter.unusedVariables false

set_option maxHeartbeats 400000 in
theorem lastVar_any (c : Cr) (p : Pl) (w : World) (h0 : 0 ≤ c.i) (h1 : c.i ≤ 1000) (h2 : c.nl ≤ 1000) (h3 : c.na ≤ 1000) :
    Calls Tryd.prog 83 #[cv c p] w fun e w' => e = .returned (.int .i64 c.sz) ∧ Below w.heap.size w w' := by
  go_enter Tryd.func83, Tryd.ntmps83
  go_wp2
  go_ret
  exact ⟨rfl, (Below.refl _ _).alloc (Nat.le_refl _) _⟩

set_option maxHeartbeats 400000 in
theorem firstGate_any (c : Cr) (p : Pl) (w : World) (h0 : 0 ≤ c.i) (h1 : c.i ≤ 1000) (h2 : c.nl ≤ 1000) :
    Calls Tryd.prog 68 #[cv c p] w fun e w' => e = .returned (.int .i64 (1 + c.i + c.nl)) ∧ Below w.heap.size w w' := by
  go_enter Tryd.func68, Tryd.ntmps68
  go_wp2
  go_ret
  exact ⟨rfl, (Below.refl _ _).alloc (Nat.le_refl _) _⟩

set_option maxHeartbeats 400000 in
theorem counts_any (c : Cr) (p : Pl) (w : World) :
    Calls Tryd.prog 60 #[cv c p] w fun e w' => e = .returned (.agg #[.int .i64 1, .int .i64 c.i, .int .i64 c.nl, .int .i64 c.na]) ∧ Below w.heap.size w w' := by
  go_enter Tryd.func60, Tryd.ntmps60
  go_wp2
  refine bodyPost_ret (v := .agg #[.int .i64 1, .int .i64 c.i, .int .i64 c.nl, .int .i64 c.na]) (by simp [results, Tryd.results60, go_sem]) rfl ⟨rfl, ?_⟩
  go_grown

/-- more variables, bad literals or constraints than a circuit has -/
def Cr.tm (c : Cr) : Bool := decide (1000 < c.sz ∨ 100 < c.nb ∨ 100 < c.nc)

set_option maxRecDepth 100000 in
set_option maxHeartbeats 2000000 in
theorem tooMany_any (c : Cr) (p : Pl) (w : World) (h0 : 0 ≤ c.i) (hs : Sm c) :
    Calls Tryd.prog 42 #[cv c p] w fun e w' => e = .returned (.bool c.tm) ∧ Below w.heap.size w w' := by
  have g1 := hs.nl
  have g2 := hs.na
  have g3 := hs.nb
  have g4 := hs.nc
  have g5 := hs.i
  unfold I64 at g5
  have i0 : ∀ w, (Instr.index 100 (.agg #[.int .i64 1, .int .i64 c.i, .int .i64 c.nl, .int .i64 c.na]) (.int .i64 0)).run Tryd.prog w = .ok (.int .i64 1) w := fun _ => by kernel_rfl
  have i1 : ∀ w, (Instr.index 100 (.agg #[.int .i64 1, .int .i64 c.i, .int .i64 c.nl, .int .i64 c.na]) (.int .i64 1)).run Tryd.prog w = .ok (.int .i64 c.i) w := fun _ => by kernel_rfl
  have i2 : ∀ w, (Instr.index 100 (.agg #[.int .i64 1, .int .i64 c.i, .int .i64 c.nl, .int .i64 c.na]) (.int .i64 2)).run Tryd.prog w = .ok (.int .i64 c.nl) w := fun _ => by kernel_rfl
  have i3 : ∀ w, (Instr.index 100 (.agg #[.int .i64 1, .int .i64 c.i, .int .i64 c.nl, .int .i64 c.na]) (.int .i64 3)).run Tryd.prog w = .ok (.int .i64 c.na) w := fun _ => by kernel_rfl
  go_enter Tryd.func42, Tryd.ntmps42
  go_wp2_with (go_at_call 60; refine (counts_any c p _).mono ?_; rintro e w1 ⟨rfl, hb1⟩; obtain ⟨hc1, hf1⟩ := bcell hb1; have hz1 : w.heap.size < w1.heap.size := (by have := hb1.size; (try simp at this); omega); have hB1 : Below w.heap.size w w1 := Below.step (by go_grown) (by go_size) hb1)
  go_rounds 5
  all_goals
    go_ret
    refine ⟨Li.ret_bool ?_, hB1⟩
    rw [Bool.eq_iff_iff]
    have hz : c.sz = c.i + c.nl + c.na := rfl
    simp only [Cr.tm, decide_eq_true_eq, Bool.or_eq_true, true_iff]
    omega

/-- a literal of a variable up to m -/
def Cr.litB (m l : Int) : Bool := decide (0 ≤ l ∧ l / 2 ≤ m)

set_option maxRecDepth 100000 in
set_option maxHeartbeats 2000000 in
theorem isLitOf_any (c : Cr) (p : Pl) (l : Int) (w : World) (hs : Sm c) (h0 : 0 ≤ c.i) (h1 : c.sz ≤ 1000) :
    Calls Tryd.prog 62 #[cv c p, .int .i64 l] w fun e w' => e = .returned (.bool (Cr.litB c.sz l)) ∧ Below w.heap.size w w' := by
  have g1 := hs.nl
  have g2 := hs.na
  have hz : c.i ≤ 1000 := by have : c.sz = c.i + c.nl + c.na := rfl; omega
  cases hl : Li.isL l
  · have hb := Li.isL_no hl
    go_enter Tryd.func62, Tryd.ntmps62
    go_wp2_with (first
      | (go_at_call 82; refine (var_no _ _ hl).mono ?_; rintro e w1 ⟨rfl, rfl⟩))
    go_ret
    refine ⟨Li.ret_bool ?_, by go_grown⟩
    simp [Cr.litB]
    omega
  · have hb := Li.isL_yes hl
    go_enter Tryd.func62, Tryd.ntmps62
    go_wp2_with (first
      | (go_at_call 82; refine (var_yes _ _ hl).mono ?_; rintro e w1 ⟨rfl, rfl⟩)
      | (go_at_call 83; refine (lastVar_any c p _ (by assumption) (by assumption) (by assumption) (by assumption)).mono ?_; rintro e w1 ⟨rfl, hb1⟩; have hB1 : Below w.heap.size w w1 := Below.step (by go_grown) (by go_size) hb1))
    go_ret
    refine ⟨Li.ret_bool ?_, hB1⟩
    simp [Cr.litB]
    omega

/-- the function isWrong of hasRightLiterals: its box holds the circuit -/
theorem isWrong_any (c : Cr) (p : Pl) (l : Int) (b : Nat) (w : World) (hs : Sm c) (h0 : 0 ≤ c.i) (h1 : c.sz ≤ 1000) (hb : Has w b 26 (cc c p)) :
    Calls Tryd.prog 61 #[.int .i64 l, .pointer (some ⟨b, 0, none⟩)] w fun e w' => e = .returned (.bool (!Cr.litB c.sz l)) ∧ Below w.heap.size w w' := by
  have x0 := hb.cell 0
  have x1 := hb.cell 1
  have x2 := hb.cell 2
  have x3 := hb.cell 3
  have x4 := hb.cell 4
  simp only [cc, List.getElem?_toArray, List.getElem?_cons_zero, List.getElem?_cons_succ] at x0 x1 x2 x3 x4
  clear hb
  go_enter Tryd.func61, Tryd.ntmps61
  go_wp2_with (first
      | (go_at_call 62; refine (isLitOf_any c p _ _ hs h0 h1).mono ?_; rintro e w1 ⟨rfl, hb1⟩))
  go_ret
  exact ⟨rfl, hb1⟩

/-- a right reset -/
def Cr.resB (r : Int) : Bool := decide (0 ≤ r ∧ r ≤ 2)

theorem isReset_any (r : Int) (w : World) : Calls Tryd.prog 64 #[.int .i64 r] w fun e w' => e = .returned (.bool (Cr.resB r)) ∧ w = w' := by
  go_enter Tryd.func64, Tryd.ntmps64
  go_wp2
  all_goals
    go_ret
    refine ⟨Li.ret_bool ?_, rfl⟩
    rw [Bool.eq_iff_iff]
    simp only [Cr.resB, decide_eq_true_eq, Bool.or_eq_true, true_iff, beq_iff_eq]
    omega

/-- the value of isWrong -/
abbrev isWv (b : Nat) : Value := .func (.func 61) #[] #[.pointer (some ⟨b, 0, none⟩)]
/-- the value of isWrongLatch -/
abbrev isWLv (b : Nat) : Value := .func (.func 63) #[] #[.pointer (some ⟨b, 0, none⟩)]

set_option maxRecDepth 100000 in
set_option maxHeartbeats 2000000 in
theorem isWrongLatch_any (c : Cr) (p : Pl) (l r : Int) (b b2 : Nat) (w : World) (hs : Sm c) (h0 : 0 ≤ c.i) (h1 : c.sz ≤ 1000) (hb : Has w b 26 (cc c p)) (hb2 : Has w b2 103 #[isWv b]) :
    Calls Tryd.prog 63 #[.agg #[.int .i64 l, .int .i64 r], .pointer (some ⟨b2, 0, none⟩)] w fun e w' => e = .returned (.bool (!Cr.litB c.sz l || !Cr.resB r)) ∧ Below w.heap.size w w' := by
  have x0 : ∀ o : Obj, (w.alloc o).cell? ⟨b2, 0, none⟩ = some (isWv b) := ca (hb2.cell 0)
  have hl1 := hb.lt
  have hl2 := hb2.lt
  cases hv : Cr.litB c.sz l
  all_goals
    go_enter Tryd.func63, Tryd.ntmps63
    go_wp2_with (first
        | (go_at_call 61; refine (isWrong_any c p _ b _ hs h0 h1 (hb.keep (Below.alloc (Below.refl _ _) (Nat.le_refl _) _) hl1)).mono ?_; rintro e w1 ⟨rfl, hb1⟩; obtain ⟨hc1, hf1⟩ := bcell hb1; have hz1 : w.heap.size < w1.heap.size := (by have := hb1.size; (try simp at this); omega); have hB1 : Below w.heap.size w w1 := Below.step (by go_grown) (by go_size) hb1)
        | (go_at_call 64; refine (isReset_any _ _).mono ?_; rintro e w1 ⟨rfl, rfl⟩))
    go_ret
    exact ⟨rfl, hB1⟩

/-- an index that is at least 0 just where b holds -/
def IdxIs (b : Bool) (w : World) (e : Ending) (w' : World) : Prop := ∃ n : Int, e = .returned (.int .i64 n) ∧ decide (0 ≤ n) = b ∧ Below w.heap.size w w'

set_option maxRecDepth 100000 in
set_option maxHeartbeats 2000000 in
theorem indexInts_any (c : Cr) (p : Pl) (A : Option Addr) (n k : Nat) (f : Nat → Int) (b : Nat) (w : World) (hs : Sm c) (h0 : 0 ≤ c.i) (h1 : c.sz ≤ 1000) (hn : n ≤ 1000) (hA : IntsAt w w.heap.size A n f) (hb : Has w b 26 (cc c p)) :
    Calls Tryd.prog 85 #[.slice A n k, isWv b] w (IdxIs (!Cr.allB c.sz f n) w) := by
  go_enter Tryd.func85, Tryd.ntmps85
  go_wp2
  go_loopw [8] (fun i wr => ∃ q : Nat, q ≤ n ∧ i = .int .i64 q ∧ Hid (∀ j, j < q → 0 ≤ f j ∧ f j / 2 ≤ c.sz) ∧ Below w.heap.size w wr) (fun i _ => n - (intOf i).toNat)
  case atStart => exact ⟨0, Nat.zero_le _, rfl, Lib.hid (fun j hj => absurd hj (Nat.not_lt_zero _)), Below.refl _ _⟩
  case round =>
    obtain ⟨q, hq, rfl, hL, hBr⟩ := hrel
    by_cases hlt : q < n
    · obtain ⟨a, rfl, hab, hcs⟩ := (hA.keep hBr) (by omega)
      have y0 := hcs q hlt
      clear hcs
      have hbr := hb.keep hBr hb.lt
      cases hv : Cr.litB c.sz (f q)
      · have HV := Lib.hid (show Cr.allB c.sz f n = false from Cr.allB_no hlt (by have := of_decide_eq_false hv; omega))
        go_wp2_with (go_at_call 61; refine (isWrong_any c p _ b _ hs h0 h1 hbr).mono ?_; rintro e w1 ⟨rfl, hb1⟩)
        go_ret
        exact ⟨_, rfl, by rw [HV.out]; simp, Below.step hBr hBr.size hb1⟩
      · go_wp2_with (go_at_call 61; refine (isWrong_any c p _ b _ hs h0 h1 hbr).mono ?_; rintro e w1 ⟨rfl, hb1⟩)
        go_roundw
        case rel => exact ⟨q + 1, by omega, by go_num, Lib.hid (fun j hj => by
          rcases Nat.lt_succ_iff_lt_or_eq.1 hj with h' | h'
          · exact hL.out j h'
          · subst h'; exact of_decide_eq_true hv), Below.step hBr hBr.size hb1⟩
        case measure => simp [intOf]; omega
    · obtain rfl : q = n := by omega
      have HV := Lib.hid (show Cr.allB c.sz f q = true from Cr.allB_yes hL.out)
      clear hq hlt
      go_wp2
      go_ret
      exact ⟨_, rfl, by rw [HV.out]; rfl, hBr⟩

set_option maxRecDepth 100000 in
set_option maxHeartbeats 2000000 in
theorem containsInts_any (c : Cr) (p : Pl) (A : Option Addr) (n k : Nat) (f : Nat → Int) (b : Nat) (w : World) (hs : Sm c) (h0 : 0 ≤ c.i) (h1 : c.sz ≤ 1000) (hn : n ≤ 1000) (hA : IntsAt w w.heap.size A n f) (hb : Has w b 26 (cc c p)) :
    Calls Tryd.prog 66 #[.slice A n k, isWv b] w fun e w' => e = .returned (.bool (!Cr.allB c.sz f n)) ∧ Below w.heap.size w w' := by
  go_enter Tryd.func66, Tryd.ntmps66
  go_wp2_with (go_at_call 85; refine (indexInts_any c p A n k f b _ hs h0 h1 hn hA hb).mono ?_; rintro e w1 ⟨m, rfl, hm, hb1⟩)
  go_ret
  exact ⟨rfl, hb1⟩

theorem Cr.latB_eq {c : Cr} : c.latB = true ↔ ∀ j, j < c.nl → Cr.litB c.sz (c.nx j) = true ∧ Cr.resB (c.rs j) = true := by
  simp only [Cr.latB, Cr.litB, Cr.resB, decide_eq_true_eq, and_assoc]

set_option maxRecDepth 100000 in
set_option maxHeartbeats 2000000 in
theorem indexLat_any (c : Cr) (p : Pl) (b b2 : Nat) (w : World) (hm : Mem w w.heap.size c p) (hs : Sm c) (h0 : 0 ≤ c.i) (h1 : c.sz ≤ 1000) (hb : Has w b 26 (cc c p)) (hb2 : Has w b2 103 #[isWv b]) :
    Calls Tryd.prog 84 #[.slice p.A1 c.nl p.k1, isWLv b2] w (IdxIs (!c.latB) w) := by
  have g1 := hs.nl
  go_enter Tryd.func84, Tryd.ntmps84
  go_wp2
  go_loopw [8] (fun i wr => ∃ q : Nat, q ≤ c.nl ∧ i = .int .i64 q ∧ Hid (∀ j, j < q → Cr.litB c.sz (c.nx j) = true ∧ Cr.resB (c.rs j) = true) ∧ Below w.heap.size w wr) (fun i _ => c.nl - (intOf i).toNat)
  case atStart => exact ⟨0, Nat.zero_le _, rfl, Lib.hid (fun j hj => absurd hj (Nat.not_lt_zero _)), Below.refl _ _⟩
  case round =>
    obtain ⟨q, hq, rfl, hL, hBr⟩ := hrel
    by_cases hlt : q < c.nl
    · obtain ⟨a, hA, hab, hcs⟩ := (hm.la.keep hBr) (by omega)
      obtain ⟨y0, y1⟩ := hcs q hlt
      clear hcs
      rw [hA]
      clear hA
      have hbr := hb.keep hBr hb.lt
      have hbr2 := hb2.keep hBr hb2.lt
      cases hv : (Cr.litB c.sz (c.nx q) && Cr.resB (c.rs q))
      · have HV := Lib.hid (show c.latB = false by
          rw [Bool.eq_false_iff]; intro h; have := Cr.latB_eq.1 h q hlt; simp [this] at hv)
        have hv2 : (!Cr.litB c.sz (c.nx q) || !Cr.resB (c.rs q)) = true := by rw [← Bool.not_and, hv]; rfl
        clear hv
        go_wp2_with (go_at_call 63; refine (isWrongLatch_any c p _ _ b b2 _ hs h0 h1 hbr hbr2).mono ?_; rw [hv2]; rintro e w1 ⟨rfl, hb1⟩)
        go_ret
        exact ⟨_, rfl, by rw [HV.out]; simp, Below.step hBr hBr.size hb1⟩
      · have hv2 : (!Cr.litB c.sz (c.nx q) || !Cr.resB (c.rs q)) = false := by rw [← Bool.not_and, hv]; rfl
        go_wp2_with (go_at_call 63; refine (isWrongLatch_any c p _ _ b b2 _ hs h0 h1 hbr hbr2).mono ?_; rw [hv2]; rintro e w1 ⟨rfl, hb1⟩)
        go_roundw
        case rel => exact ⟨q + 1, by omega, by go_num, Lib.hid (fun j hj => by
          rcases Nat.lt_succ_iff_lt_or_eq.1 hj with h' | h'
          · exact hL.out j h'
          · subst h'; simpa using hv), Below.step hBr hBr.size hb1⟩
        case measure => simp [intOf]; omega
    · obtain rfl : q = c.nl := by omega
      have HV := Lib.hid (show c.latB = true from Cr.latB_eq.2 hL.out)
      clear hq hlt
      go_wp2
      go_ret
      exact ⟨_, rfl, by rw [HV.out]; rfl, hBr⟩

set_option maxRecDepth 100000 in
set_option maxHeartbeats 2000000 in
theorem containsLat_any (c : Cr) (p : Pl) (b b2 : Nat) (w : World) (hm : Mem w w.heap.size c p) (hs : Sm c) (h0 : 0 ≤ c.i) (h1 : c.sz ≤ 1000) (hb : Has w b 26 (cc c p)) (hb2 : Has w b2 103 #[isWv b]) :
    Calls Tryd.prog 65 #[.slice p.A1 c.nl p.k1, isWLv b2] w fun e w' => e = .returned (.bool (!c.latB)) ∧ Below w.heap.size w w' := by
  go_enter Tryd.func65, Tryd.ntmps65
  go_wp2_with (go_at_call 84; refine (indexLat_any c p b b2 _ hm hs h0 h1 hb hb2).mono ?_; rintro e w1 ⟨m, rfl, hm, hb1⟩)
  go_ret
  exact ⟨rfl, hb1⟩

end Go.Proofs.YtbppdifghkkooaaDoor

namespace Go.Proofs.YtbppdifghkkooaaDoor
open Go.RowKit

set_option linter.unusedVariables false

/-- the first latches are right -/
def LatTo (c : Cr) (q : Nat) : Prop := ∀ j, j < q → 0 ≤ c.nx j ∧ c.nx j / 2 ≤ c.sz ∧ 0 ≤ c.rs j ∧ c.rs j ≤ 2
theorem LatTo.snoc {c : Cr} {q : Nat} (h : LatTo c q) (h1 : 0 ≤ c.nx q ∧ c.nx q / 2 ≤ c.sz ∧ 0 ≤ c.rs q ∧ c.rs q ≤ 2) : LatTo c (q + 1) := fun j hj => by
  rcases Nat.lt_succ_iff_lt_or_eq.1 hj with h' | h'
  · exact h j h'
  · subst h'; exact h1
/-- the first gates are right -/
def GatTo (c : Cr) (q : Nat) : Prop := ∀ j, j < q → 0 ≤ c.gb j ∧ c.gb j ≤ c.ga j ∧ c.ga j / 2 ≤ c.i + c.nl + j
theorem GatTo.snoc {c : Cr} {q : Nat} (h : GatTo c q) (h1 : 0 ≤ c.gb q ∧ c.gb q ≤ c.ga q ∧ c.ga q / 2 ≤ c.i + c.nl + q) : GatTo c (q + 1) := fun j hj => by
  rcases Nat.lt_succ_iff_lt_or_eq.1 hj with h' | h'
  · exact h j h'
  · subst h'; exact h1

/-- what rCheck_rest returns -/
def Cr.rest (c : Cr) : Int := if c.latB = true ∧ c.gatB = true then 0 else 8
theorem Cr.rest_l {c : Cr} {q : Nat} (hk : q < c.nl) (h : ¬ (0 ≤ c.nx q ∧ c.nx q / 2 ≤ c.sz ∧ 0 ≤ c.rs q ∧ c.rs q ≤ 2)) : c.rest = 8 := by
  unfold Cr.rest; rw [if_neg (fun h' => by rw [Cr.latB_no hk h] at h'; cases h'.1)]
theorem Cr.rest_g {c : Cr} {q : Nat} (hk : q < c.na) (h : ¬ (0 ≤ c.gb q ∧ c.gb q ≤ c.ga q ∧ c.ga q / 2 ≤ c.i + c.nl + q)) : c.rest = 8 := by
  unfold Cr.rest; rw [if_neg (fun h' => by rw [Cr.gatB_no hk h] at h'; cases h'.2)]
theorem Cr.rest_0 {c : Cr} (h : LatTo c c.nl) (h' : GatTo c c.na) : c.rest = 0 := by
  unfold Cr.rest; rw [if_pos ⟨Cr.latB_yes h, Cr.gatB_yes h'⟩]

set_option maxRecDepth 100000 in
set_option maxHeartbeats 2000000 in
theorem rCheck_rest (c : Cr) (p : Pl) (w : World) (hm : Mem w w.heap.size c p) (hs : Sm c) (h : 0 ≤ c.i) (h1 : c.sz ≤ 1000) (h2 : c.nb ≤ 100) (h3 : c.nc ≤ 100)
    (h4 : Cr.allB c.sz c.bd c.nb = true) (h5 : Cr.allB c.sz c.cn c.nc = true) : Calls Tryd.prog 33 #[cv c p] w fun e w' => e = .returned (.int .i64 c.rest) ∧ Below w.heap.size w w' := by
  have g1 := hs.nl
  have g2 := hs.na
  have hz : c.i ≤ 1000 := by have : c.sz = c.i + c.nl + c.na := rfl; omega
  have hB0 : Below w.heap.size w w := Below.refl _ _
  go_enter Tryd.func33, Tryd.ntmps33
  go_wp2_with (first
    | (go_at_call 50; refine (rSize_any c p _ (by assumption) (by assumption) (by assumption) (by assumption)).mono ?_; rintro e w1 ⟨rfl, hb1⟩; obtain ⟨hc1, hf1⟩ := bcell hb1; have hz1 : w.heap.size < w1.heap.size := (by have := hb1.size; (try simp at this); omega); have hB1 : Below w.heap.size w w1 := Below.step (by go_grown) (by go_size) hb1;
       have hH1 : Has w1 w.heap.size 26 (cc c p) := (by first | exact Has.keep (by assumption) hb1 (by assumption) | exact Has.keep (Has.new _ _ _) hb1 (by go_size)))
    | (go_at_call 51; (with_reducible refine (rLiterals_any p.A3 c.nb p.k3 c.bd _ w.heap.size _ hs.bd hs.nb (hm.bd.keep (by assumption))).mono ?_); rintro e w1 ⟨rfl, rfl⟩)
    | (go_at_call 51; (with_reducible refine (rLiterals_any p.A4 c.nc p.k4 c.cn _ w.heap.size _ hs.cn hs.nc (hm.cn.keep (by assumption))).mono ?_); rintro e w1 ⟨rfl, rfl⟩))
  clear hc1 hf1
  go_loopw [4] (fun i wr => ∃ q : Nat, q ≤ c.nl ∧ i = .int .i64 q ∧ LatTo c q ∧ Below w.heap.size w wr ∧ Has wr w.heap.size 26 (cc c p)) (fun i _ => c.nl - (intOf i).toNat)
  case atStart => exact ⟨0, Nat.zero_le _, rfl, fun j hj => absurd hj (Nat.not_lt_zero _), hB1, hH1⟩
  case round =>
    obtain ⟨q, hq, rfl, hL, hBr, hH⟩ := hrel
    have x0 := hH.cell 0
    have x1 := hH.cell 1
    have x2 := hH.cell 2
    simp only [cc, List.getElem?_toArray, List.getElem?_cons_zero, List.getElem?_cons_succ] at x0 x1 x2
    by_cases hlt : q < c.nl
    · obtain ⟨a, hA, hab, hcs⟩ := (hm.la.keep hBr) (by omega)
      obtain ⟨y0, y1⟩ := hcs q hlt
      rw [hA] at x1
      have hbd := hs.nx q
      have hbe := hs.rs q
      unfold I64 at hbd hbe
      clear hcs hA
      have x1' := ca x1
      have y0' := ca y0
      have y1' := ca y1
      have hz2 := hH.lt
      by_cases hg : 0 ≤ c.nx q ∧ c.nx q / 2 ≤ c.sz ∧ 0 ≤ c.rs q ∧ c.rs q ≤ 2
      · obtain ⟨b1, b2, b3, b4⟩ := hg
        have hv : Cr.allB c.sz (fun _ => c.nx q) 1 = true := Cr.allB_yes fun _ _ => ⟨b1, b2⟩
        go_wp2_with (go_at_call 51; (with_reducible refine (rLiterals_any (some ⟨wr.heap.size, 0, none⟩) 1 1 (fun _ => c.nx q) _ (wr.heap.size + 1) _ (fun _ => hs.nx q) (by omega) (IntsAt.one wr _ _)).mono ?_); rintro e w1 ⟨rfl, rfl⟩)
        go_roundw
        case rel => exact ⟨q + 1, by omega, by go_num, hL.snoc ⟨b1, b2, b3, b4⟩, hBr.alloc (by omega) _, hH.keep (Below.alloc (Below.refl _ _) (Nat.le_refl _) _) hz2⟩
        case measure => simp [intOf]; omega
      · have HR := Lib.hid (ret_int (k := .i64) (Cr.rest_l hlt hg))
        by_cases hg1 : 0 ≤ c.nx q ∧ c.nx q / 2 ≤ c.sz
        · have hv : Cr.allB c.sz (fun _ => c.nx q) 1 = true := Cr.allB_yes fun _ _ => hg1
          have hg2 : c.rs q < 0 ∨ (¬ c.rs q < 0 ∧ 2 < c.rs q) := by omega
          clear hg hg1
          rcases hg2 with hg2 | ⟨hg2, hg3⟩
          all_goals
            go_wp2_with (go_at_call 51; (with_reducible refine (rLiterals_any (some ⟨wr.heap.size, 0, none⟩) 1 1 (fun _ => c.nx q) _ (wr.heap.size + 1) _ (fun _ => hs.nx q) (by omega) (IntsAt.one wr _ _)).mono ?_); rintro e w1 ⟨rfl, rfl⟩)
            go_ret
            exact ⟨HR.out.symm, hBr.alloc (by omega) _⟩
        · have hv : Cr.allB c.sz (fun _ => c.nx q) 1 = false := Cr.allB_no (k := 0) (by omega) (by omega)
          clear hg hg1
          go_wp2_with (go_at_call 51; (with_reducible refine (rLiterals_any (some ⟨wr.heap.size, 0, none⟩) 1 1 (fun _ => c.nx q) _ (wr.heap.size + 1) _ (fun _ => hs.nx q) (by omega) (IntsAt.one wr _ _)).mono ?_); rintro e w1 ⟨rfl, rfl⟩)
          go_ret
          exact ⟨HR.out.symm, hBr.alloc (by omega) _⟩
    · obtain rfl : q = c.nl := by omega
      clear hq hlt
      have HL := Lib.hid hL
      clear hL hH1 hB1
      go_wp2
      go_loopw [5] (fun i wr => ∃ q : Nat, q ≤ c.na ∧ i = .int .i64 q ∧ GatTo c q ∧ Below w.heap.size w wr ∧ Has wr w.heap.size 26 (cc c p)) (fun i _ => c.na - (intOf i).toNat)
      case atStart => exact ⟨0, Nat.zero_le _, rfl, fun j hj => absurd hj (Nat.not_lt_zero _), hBr, hH⟩
      case round =>
        clear x0 x1 x2 hH hBr
        obtain ⟨q, hq, rfl, hG, hBr, hH⟩ := hrel
        have x0 := hH.cell 0
        have x1 := hH.cell 1
        have x2 := hH.cell 2
        simp only [cc, List.getElem?_toArray, List.getElem?_cons_zero, List.getElem?_cons_succ] at x0 x1 x2
        by_cases hlt : q < c.na
        · obtain ⟨a, hA, hab, hcs⟩ := (hm.an.keep hBr) (by omega)
          obtain ⟨y0, y1⟩ := hcs q hlt
          rw [hA] at x2
          have hbd := hs.ga q
          have hbe := hs.gb q
          unfold I64 at hbd hbe
          clear hcs hA
          have x1' := ca x1
          have x0' := ca x0
          have x2' := ca x2
          have y0' := ca y0
          have y1' := ca y1
          have hz2 := hH.lt
          by_cases hg : 0 ≤ c.gb q ∧ c.gb q ≤ c.ga q ∧ c.ga q / 2 ≤ c.i + c.nl + q
          · obtain ⟨b1, b2, b3⟩ := hg
            go_wp2
            go_roundw
            case rel => exact ⟨q + 1, by omega, by go_num, hG.snoc ⟨b1, b2, b3⟩, hBr.alloc (by omega) _, hH.keep (Below.alloc (Below.refl _ _) (Nat.le_refl _) _) hz2⟩
            case measure => simp [intOf]; omega
          · have HR := Lib.hid (ret_int (k := .i64) (Cr.rest_g hlt hg))
            have hg2 : c.gb q < 0 ∨ (¬ c.gb q < 0 ∧ c.ga q < c.gb q) ∨ (¬ c.gb q < 0 ∧ ¬ c.ga q < c.gb q ∧ c.i + c.nl + q < c.ga q / 2) := by omega
            clear hg
            rcases hg2 with hg2 | ⟨hg2, hg3⟩ | ⟨hg2, hg3, hg4⟩
            all_goals
              go_wp2
              go_ret
              exact ⟨HR.out.symm, hBr.alloc (by omega) _⟩
        · obtain rfl : q = c.na := by omega
          have HR := Lib.hid (ret_int (k := .i64) (Cr.rest_0 HL.out hG))
          clear hG hq hlt
          go_wp2
          go_ret
          exact ⟨HR.out.symm, hBr⟩

/-- the reference's check, of any circuit with lists that are not long -/
theorem rCheck_any (c : Cr) (p : Pl) (w : World) (hm : Mem w w.heap.size c p) (hs : Sm c) : Calls Tryd.prog 33 #[cv c p] w fun e w' => e = .returned (.int .i64 c.chk) ∧ Below w.heap.size w w' := by
  by_cases h : c.i < 0
  · rw [Cr.chk_neg h]; exact rCheck_neg c p w h
  · by_cases h1 : 1000 < c.sz ∨ 100 < c.nb ∨ 100 < c.nc
    · rw [Cr.chk_many h h1]; exact rCheck_many c p w hs (by omega) h1
    · by_cases h2 : Cr.allB c.sz c.bd c.nb = true ∧ Cr.allB c.sz c.cn c.nc = true
      · have : c.chk = c.rest := by
          unfold Cr.rest
          by_cases h3 : c.latB = true ∧ c.gatB = true
          · rw [if_pos h3, Cr.chk_ok h h1 ⟨h2.1, h2.2, h3.1, h3.2⟩]
          · rw [if_neg h3, Cr.chk_bad h h1 (fun h' => h3 ⟨h'.2.2.1, h'.2.2.2⟩)]
        rw [this]
        exact rCheck_rest c p w hm hs (by omega) (by omega) (by omega) (by omega) h2.1 h2.2
      · rw [Cr.chk_bad h h1 (fun h' => h2 ⟨h'.1, h'.2.1⟩)]
        refine rCheck_lits c p w hm hs (by omega) (by omega) (by omega) (by omega) ?_
        cases hq : Cr.allB c.sz c.bd c.nb
        · exact Or.inl rfl
        · exact Or.inr (by cases hq2 : Cr.allB c.sz c.cn c.nc
                           · rfl
                           · exact absurd ⟨hq, hq2⟩ h2)

end Go.Proofs.YtbppdifghkkooaaDoor

namespace Go.Proofs.YtbppdifghkkooaaDoor
open Go.RowKit

set_option linter.unusedVariables false

/-- what is right apart from the gates -/
def Cr.litsB (c : Cr) : Bool := c.latB && Cr.allB c.sz c.bd c.nb && Cr.allB c.sz c.cn c.nc

theorem mem_alloc {w : World} {c : Cr} {p : Pl} (h : Mem w w.heap.size c p) (o : Obj) : Mem (w.alloc o) (w.alloc o).heap.size c p :=
  h.to (Below.alloc (Below.refl _ _) (Nat.le_refl _) _) (by simp)

set_option maxRecDepth 100000 in
set_option maxHeartbeats 2000000 in
theorem rightLits_any (c : Cr) (p : Pl) (w : World) (hm : Mem w w.heap.size c p) (hs : Sm c) (h0 : 0 ≤ c.i) (h1 : c.sz ≤ 1000) :
    Calls Tryd.prog 43 #[cv c p] w fun e w' => e = .returned (.bool c.litsB) ∧ Below w.heap.size w w' := by
  have hb0 := Has.new w 26 (cc c p)
  have hb1 := hb0.keep (Below.alloc (Below.refl (w.alloc (.cells (cc c p) 26)).heap.size _) (Nat.le_refl _) (.cells #[isWv w.heap.size] 103)) hb0.lt
  have hb2 := Has.new (w.alloc (.cells (cc c p) 26)) 103 #[isWv w.heap.size]
  rw [World.size_alloc] at hb2
  have hm2 := mem_alloc (mem_alloc hm (.cells (cc c p) 26)) (.cells #[isWv w.heap.size] 103)
  unfold cc at hb1 hb2 hm2
  have HH := Lib.hid (And.intro hb1 (And.intro hb2 hm2))
  clear hb1 hb2 hm2 hb0
  cases v1 : c.latB <;> cases v2 : Cr.allB c.sz c.bd c.nb
  all_goals
    have HL : c.litsB = (c.latB && Cr.allB c.sz c.bd c.nb && Cr.allB c.sz c.cn c.nc) := rfl
    rw [v1, v2] at HL
    have HL := Lib.hid HL
    go_enter Tryd.func43, Tryd.ntmps43
    go_wp2_with (first
      | (go_at_call 65; (refine (containsLat_any c p w.heap.size (w.heap.size + 1) _ HH.out.2.2 hs h0 h1 HH.out.1 HH.out.2.1).mono ?_; rintro e w1 ⟨rfl, hb1⟩; obtain ⟨hc1, hf1⟩ := bcell hb1; have hz1 : w.heap.size + 1 < w1.heap.size := (by have := hb1.size; (try simp at this); omega); have hB1 : Below w.heap.size w w1 := Below.step (by go_grown) (by go_size) hb1; have hy1 : w.heap.size < w1.heap.size := (by omega); have hh1 : Has w1 w.heap.size 26 (cc c p) := HH.out.1.keep hb1 (by simp; omega); have hm1 := HH.out.2.2.to hb1 hb1.size))
      | (go_at_call 66; (with_reducible refine (containsInts_any c p p.A3 c.nb p.k3 c.bd w.heap.size w1 hs h0 h1 hs.nb hm1.bd hh1).mono ?_); rintro e w2 ⟨rfl, hb2⟩; obtain ⟨hc2, hf2⟩ := bcell hb2; have hz2 : w.heap.size + 1 < w2.heap.size := (by have := hb2.size; omega); have hB2 : Below w.heap.size w w2 := Below.step hB1 (by go_size) hb2; have hy2 : w.heap.size < w2.heap.size := (by omega); have hh2 := hh1.keep hb2 (by omega); have hm2 := hm1.to hb2 hb2.size)
      | (go_at_call 66; (with_reducible refine (containsInts_any c p p.A4 c.nc p.k4 c.cn w.heap.size w2 hs h0 h1 hs.nc hm2.cn hh2).mono ?_); rintro e w3 ⟨rfl, hb3⟩; have hB3 : Below w.heap.size w w3 := Below.step hB2 (by go_size) hb3))
    go_ret
    exact ⟨Li.ret_bool (by rw [HL.out]; simp), by first | exact hB3 | exact hB2 | exact hB1⟩

/-- the check's answer where neither the number of inputs is below 0 nor one of the lists too long -/
theorem gatB_eq {c : Cr} (h0 : 0 ≤ c.i) (h1 : c.sz ≤ 1000) {j : Nat} (hj : j < c.na) : 0 ≤ 1 + c.i + c.nl + j ∧ 1 + c.i + c.nl + j ≤ 1000 := by
  have : c.sz = c.i + c.nl + c.na := rfl
  omega

theorem lit_pos (v : Int) (w : World) (h : 0 ≤ v ∧ v ≤ 1000) : Calls Tryd.prog 67 #[.int .i64 v, .bool false] w fun e w' => e = .returned (.tuple #[.int .i64 (2 * v), .int .i64 0]) ∧ w = w' :=
  (lit_yes v false w (Li.isV_mk h.1 h.2)).mono fun _ _ h => h

set_option maxRecDepth 100000 in
set_option maxHeartbeats 2000000 in
theorem rightGates_any (c : Cr) (p : Pl) (w : World) (hm : Mem w w.heap.size c p) (hs : Sm c) (h0 : 0 ≤ c.i) (h1 : c.sz ≤ 1000) :
    Calls Tryd.prog 44 #[cv c p] w fun e w' => e = .returned (.bool c.gatB) ∧ Below w.heap.size w w' := by
  have g1 := hs.nl
  have g2 := hs.na
  have hz : c.i ≤ 1000 := by have : c.sz = c.i + c.nl + c.na := rfl; omega
  have hn0 := Has.new w 26 (cc c p)
  unfold cc at hn0
  go_enter Tryd.func44, Tryd.ntmps44
  go_wp2
  go_loopw [10] (fun i wr => ∃ q : Nat, q ≤ c.na ∧ i = .int .i64 q ∧ Hid (GatTo c q) ∧ Below w.heap.size w wr ∧ Has wr w.heap.size 26 (cc c p)) (fun i _ => c.na - (intOf i).toNat)
  case atStart => exact ⟨0, Nat.zero_le _, rfl, Lib.hid (fun j hj => absurd hj (Nat.not_lt_zero _)), by go_grown, hn0⟩
  case round =>
    obtain ⟨q, hq, rfl, hL, hBr, hH⟩ := hrel
    by_cases hlt : q < c.na
    · obtain ⟨a, hA, hab, hcs⟩ := (hm.an.keep hBr) (by omega)
      obtain ⟨y0, y1⟩ := hcs q hlt
      have x0' := ca (hH.cell 0)
      have x1' := ca (hH.cell 1)
      have x2' := ca (hH.cell 2)
      have x3' := ca (hH.cell 3)
      have x4' := ca (hH.cell 4)
      have hz2 := hH.lt
      have hv := gatB_eq h0 h1 hlt
      rw [hA]
      have hbd := hs.ga q
      have hbe := hs.gb q
      unfold I64 at hbd hbe
      clear hcs hA
      have hG : (∃ hg : 0 ≤ c.gb q ∧ c.gb q ≤ c.ga q ∧ c.ga q / 2 ≤ c.i + c.nl + q, 0 ≤ c.gb q ∧ c.gb q ≤ c.ga q ∧ c.ga q < 2 * (1 + c.i + c.nl + q)) ∨ (∃ hg : ¬ (0 ≤ c.gb q ∧ c.gb q ≤ c.ga q ∧ c.ga q / 2 ≤ c.i + c.nl + q),
          c.gb q < 0 ∨ (¬ c.gb q < 0 ∧ c.ga q < c.gb q) ∨ (¬ c.gb q < 0 ∧ ¬ c.ga q < c.gb q ∧ 2 * (1 + c.i + c.nl + q) ≤ c.ga q)) := by
        by_cases hg : 0 ≤ c.gb q ∧ c.gb q ≤ c.ga q ∧ c.ga q / 2 ≤ c.i + c.nl + q
        · exact Or.inl ⟨hg, by omega⟩
        · exact Or.inr ⟨hg, by omega⟩
      rcases hG with ⟨hg, b1, b2, b3⟩ | ⟨hg, hg2⟩
      · have hg := Lib.hid hg
        go_wp2_with (first
          | (go_at_call 68; refine (firstGate_any c p _ (by assumption) (by assumption) (by assumption)).mono ?_; rintro e w1 ⟨rfl, hb1⟩; obtain ⟨hc1, hf1⟩ := bcell hb1; have hz1 : wr.heap.size < w1.heap.size := (by have := hb1.size; (try simp at this); omega); have hB1 : Below w.heap.size w w1 := Below.step (by go_grown) (by go_size) hb1; have hH1 := (hH.keep (Below.alloc (Below.refl _ _) (Nat.le_refl _) _) hz2).keep hb1 (by simp; omega))
          | (go_at_call 67; refine (lit_pos _ _ hv).mono ?_; rintro e w2 ⟨rfl, rfl⟩))
        go_roundw
        case rel => exact ⟨q + 1, by omega, by go_num, Lib.hid (hL.out.snoc hg.out), hB1, hH1⟩
        case measure => simp [intOf]; omega
      · have HR := Lib.hid (Li.ret_bool (Cr.gatB_no hlt hg))
        clear hg
        rcases hg2 with hg2 | ⟨hg2, hg3⟩ | ⟨hg2, hg3, hg4⟩
        all_goals
          go_wp2_with (first
            | (go_at_call 68; refine (firstGate_any c p _ (by assumption) (by assumption) (by assumption)).mono ?_; rintro e w1 ⟨rfl, hb1⟩; obtain ⟨hc1, hf1⟩ := bcell hb1; have hz1 : wr.heap.size < w1.heap.size := (by have := hb1.size; (try simp at this); omega); have hB1 : Below w.heap.size w w1 := Below.step (by go_grown) (by go_size) hb1)
            | (go_at_call 67; refine (lit_pos _ _ hv).mono ?_; rintro e w2 ⟨rfl, rfl⟩))
          go_ret
          exact ⟨HR.out.symm, hB1⟩
    · obtain rfl : q = c.na := by omega
      have HR := Lib.hid (Li.ret_bool (Cr.gatB_yes hL.out))
      clear hq hlt
      go_wp2
      go_ret
      exact ⟨HR.out.symm, hBr⟩

end Go.Proofs.YtbppdifghkkooaaDoor

namespace Go.Proofs.YtbppdifghkkooaaDoor
open Go.RowKit

set_option linter.unusedVariables false

theorem Cr.chk_tm {c : Cr} (h : ¬ c.i < 0) (h1 : c.tm = true) : c.chk = 4 := Cr.chk_many h (of_decide_eq_true h1)
theorem Cr.tm_no {c : Cr} (h1 : c.tm = false) : c.sz ≤ 1000 ∧ c.nb ≤ 100 ∧ c.nc ≤ 100 := by have := of_decide_eq_false h1; omega
theorem Cr.chk_l {c : Cr} (h : ¬ c.i < 0) (h1 : c.tm = false) (h2 : c.litsB = false ∨ c.gatB = false) : c.chk = 8 :=
  Cr.chk_bad h (of_decide_eq_false h1) fun ⟨a, b, d, e⟩ => by rcases h2 with h2 | h2 <;> simp_all [Cr.litsB]
theorem Cr.chk_y {c : Cr} (h : ¬ c.i < 0) (h1 : c.tm = false) (h2 : c.litsB = true) (h3 : c.gatB = true) : c.chk = 0 :=
  Cr.chk_ok h (of_decide_eq_false h1) (by simp [Cr.litsB] at h2; exact ⟨h2.1.2, h2.2, h2.1.1, h3⟩)

set_option maxRecDepth 100000 in
set_option maxHeartbeats 2000000 in
theorem gCheck_any (c : Cr) (p : Pl) (w : World) (hm : Mem w w.heap.size c p) (hs : Sm c) :
    Calls Tryd.prog 28 #[cv c p] w fun e w' => e = .returned (.int .i64 c.chk) ∧ Below w.heap.size w w' := by
  by_cases h0 : c.i < 0
  · have HR := Lib.hid (ret_int (k := .i64) (Cr.chk_neg h0))
    go_enter Tryd.func28, Tryd.ntmps28
    go_wp2
    go_ret
    exact ⟨HR.out.symm, by go_grown⟩
  · have h0' : 0 ≤ c.i := by omega
    cases h1 : c.tm
    · have hb := Cr.tm_no h1
      cases h2 : c.litsB
      · have HR := Lib.hid (ret_int (k := .i64) (Cr.chk_l h0 h1 (Or.inl h2)))
        go_enter Tryd.func28, Tryd.ntmps28
        go_wp2_with (first
          | (go_at_call 42; refine (tooMany_any c p _ h0' hs).mono ?_; rintro e w1 ⟨rfl, hb1⟩; obtain ⟨hc1, hf1⟩ := bcell hb1; have hz1 : w.heap.size < w1.heap.size := (by have := hb1.size; (try simp at this); omega); have hB1 : Below w.heap.size w w1 := Below.step (by go_grown) (by go_size) hb1)
          | (go_at_call 43; refine (rightLits_any c p _ (hm.to hB1 hB1.size) hs h0' hb.1).mono ?_; rintro e w2 ⟨rfl, hb2⟩; have hB2 : Below w.heap.size w w2 := Below.step hB1 hB1.size hb2))
        go_ret
        exact ⟨HR.out.symm, hB2⟩
      · cases h3 : c.gatB
        · have HR := Lib.hid (ret_int (k := .i64) (Cr.chk_l h0 h1 (Or.inr h3)))
          go_enter Tryd.func28, Tryd.ntmps28
          go_wp2_with (first
            | (go_at_call 42; refine (tooMany_any c p _ h0' hs).mono ?_; rintro e w1 ⟨rfl, hb1⟩; obtain ⟨hc1, hf1⟩ := bcell hb1; have hz1 : w.heap.size < w1.heap.size := (by have := hb1.size; (try simp at this); omega); have hB1 : Below w.heap.size w w1 := Below.step (by go_grown) (by go_size) hb1)
            | (go_at_call 43; refine (rightLits_any c p _ (hm.to hB1 hB1.size) hs h0' hb.1).mono ?_; rintro e w2 ⟨rfl, hb2⟩; obtain ⟨hc2, hf2⟩ := bcell hb2; have hz2 : w.heap.size < w2.heap.size := (by have := hb2.size; omega); have hB2 : Below w.heap.size w w2 := Below.step hB1 hB1.size hb2)
            | (go_at_call 44; refine (rightGates_any c p _ (hm.to hB2 hB2.size) hs h0' hb.1).mono ?_; rintro e w3 ⟨rfl, hb3⟩; have hB3 : Below w.heap.size w w3 := Below.step hB2 hB2.size hb3))
          go_ret
          exact ⟨HR.out.symm, hB3⟩
        · have HR := Lib.hid (ret_int (k := .i64) (Cr.chk_y h0 h1 h2 h3))
          go_enter Tryd.func28, Tryd.ntmps28
          go_wp2_with (first
            | (go_at_call 42; refine (tooMany_any c p _ h0' hs).mono ?_; rintro e w1 ⟨rfl, hb1⟩; obtain ⟨hc1, hf1⟩ := bcell hb1; have hz1 : w.heap.size < w1.heap.size := (by have := hb1.size; (try simp at this); omega); have hB1 : Below w.heap.size w w1 := Below.step (by go_grown) (by go_size) hb1)
            | (go_at_call 43; refine (rightLits_any c p _ (hm.to hB1 hB1.size) hs h0' hb.1).mono ?_; rintro e w2 ⟨rfl, hb2⟩; obtain ⟨hc2, hf2⟩ := bcell hb2; have hz2 : w.heap.size < w2.heap.size := (by have := hb2.size; omega); have hB2 : Below w.heap.size w w2 := Below.step hB1 hB1.size hb2)
            | (go_at_call 44; refine (rightGates_any c p _ (hm.to hB2 hB2.size) hs h0' hb.1).mono ?_; rintro e w3 ⟨rfl, hb3⟩; have hB3 : Below w.heap.size w w3 := Below.step hB2 hB2.size hb3))
          go_ret
          exact ⟨HR.out.symm, hB3⟩
    · have HR := Lib.hid (ret_int (k := .i64) (Cr.chk_tm h0 h1))
      go_enter Tryd.func28, Tryd.ntmps28
      go_wp2_with (go_at_call 42; refine (tooMany_any c p _ h0' hs).mono ?_; rintro e w1 ⟨rfl, hb1⟩; have hB1 : Below w.heap.size w w1 := Below.step (by go_grown) (by go_size) hb1)
      go_ret
      exact ⟨HR.out.symm, hB1⟩

theorem Cr.chk_zero {c : Cr} (h : c.chk = 0) : 0 ≤ c.i ∧ c.sz ≤ 1000 ∧ c.nb ≤ 100 ∧ c.nc ≤ 100 ∧ Cr.allB c.sz c.bd c.nb = true ∧ Cr.allB c.sz c.cn c.nc = true ∧ c.latB = true ∧ c.gatB = true := by
  unfold Cr.chk at h
  split at h
  · omega
  · split at h
    · omega
    · split at h
      · rename_i h1 h2 h3
        exact ⟨by omega, by omega, by omega, by omega, h3⟩
      · omega

theorem Cr.chk_i {c : Cr} (h : (c.chk == 0) = true) (hs : Sm c) : 0 ≤ c.i ∧ c.i ≤ 1000 ∧ c.sz ≤ 1000 := by
  have h1 := Cr.chk_zero (beq_iff_eq.1 h)
  have : c.sz = c.i + c.nl + c.na := rfl
  omega

/-- what Vars says -/
def Cr.vrs (c : Cr) : Int := if c.chk = 0 then c.sz else 0

set_option maxRecDepth 100000 in
set_option maxHeartbeats 2000000 in
theorem gVars_any (c : Cr) (p : Pl) (w : World) (hm : Mem w w.heap.size c p) (hs : Sm c) :
    Calls Tryd.prog 87 #[cv c p] w fun e w' => e = .returned (.tuple #[.int .i64 c.vrs, .int .i64 c.chk]) ∧ Below w.heap.size w w' := by
  have g1 := hs.nl
  have g2 := hs.na
  cases h : (c.chk == 0)
  · have h' : (c.chk != 0) = true := by simp [bne, h]
    have HR : Hid (c.vrs = 0) := if_neg (by simpa using h)
    go_enter Tryd.func87, Tryd.ntmps87
    go_wp2_with (first
      | (go_at_call 28; refine (gCheck_any c p _ (mem_alloc hm _) hs).mono ?_; rintro e w1 ⟨rfl, hb1⟩; have hB1 : Below w.heap.size w w1 := Below.step (by go_grown) (by go_size) hb1))
    go_ret2
    exact ⟨by rw [HR.out]; rfl, hB1⟩
  · have h' : (c.chk != 0) = false := by simp [bne, h]
    have hb := Cr.chk_i h hs
    have HR : Hid (c.vrs = c.sz ∧ c.chk = 0) := ⟨if_pos (by simpa using h), by simpa using h⟩
    go_enter Tryd.func87, Tryd.ntmps87
    go_wp2_with (first
      | (go_at_call 28; refine (gCheck_any c p _ (mem_alloc hm _) hs).mono ?_; rintro e w1 ⟨rfl, hb1⟩; obtain ⟨hc1, hf1⟩ := bcell hb1; have hz1 : w.heap.size < w1.heap.size := (by have := hb1.size; (try simp at this); omega); have hB1 : Below w.heap.size w w1 := Below.step (by go_grown) (by go_size) hb1)
      | (go_at_call 83; refine (lastVar_any c p _ hb.1 hb.2.1 g1 g2).mono ?_; rintro e w2 ⟨rfl, hb2⟩; have hB2 : Below w.heap.size w w2 := Below.step hB1 hB1.size hb2))
    go_ret2
    exact ⟨by rw [HR.out.1, HR.out.2]; rfl, hB2⟩

end Go.Proofs.YtbppdifghkkooaaDoor
