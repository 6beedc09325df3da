/- The contracts of the package gates: sizes, literals, the check. -/
import Derived.Test.YtkpjpokeonppbaaGreatDoorGatesRef
namespace Go.Proofs.YtkpjpokeonppbaaGreatDoor
open Go.RowKit
set_option linter.unusedVariables false

set_option maxHeartbeats 400000 in
theorem lastVar_any (c : Cr) (p : Pl) (w : World) (h0 : 0 ≤ c.i) (h1 : c.i ≤ 1000) (h2 : c.nl ≤ 1000) (h3 : c.na ≤ 1000) :
    Calls Tryz.prog 97 #[cv c p] w fun e w' => e = .returned (.int .i64 c.sz) ∧ Below w.heap.size w w' := by
  go_enter Tryz.func97, Tryz.ntmps97
  go_wp2
  go_ret
  exact ⟨rfl, (Below.refl _ _).alloc (Nat.le_refl _) _⟩

set_option maxHeartbeats 400000 in
theorem firstGate_any (c : Cr) (p : Pl) (w : World) (h0 : 0 ≤ c.i) (h1 : c.i ≤ 1000) (h2 : c.nl ≤ 1000) :
    Calls Tryz.prog 133 #[cv c p] w fun e w' => e = .returned (.int .i64 (1 + c.i + c.nl)) ∧ Below w.heap.size w w' := by
  go_enter Tryz.func133, Tryz.ntmps133
  go_wp2
  go_ret
  exact ⟨rfl, (Below.refl _ _).alloc (Nat.le_refl _) _⟩

set_option maxHeartbeats 400000 in
theorem counts_any (c : Cr) (p : Pl) (w : World) :
    Calls Tryz.prog 127 #[cv c p] w fun e w' => e = .returned (.agg #[.int .i64 1, .int .i64 c.i, .int .i64 c.nl, .int .i64 c.na]) ∧ Below w.heap.size w w' := by
  go_enter Tryz.func127, Tryz.ntmps127
  go_wp2
  refine bodyPost_ret (v := .agg #[.int .i64 1, .int .i64 c.i, .int .i64 c.nl, .int .i64 c.na]) (by simp [results, Tryz.results127, go_sem]) rfl ⟨rfl, ?_⟩
  go_grown

/-- more variables, bad literals or constraints than a circuit has -/
def Cr.tm (c : Cr) : Bool := decide (1000 < c.sz ∨ 100 < c.nb ∨ 100 < c.nc)

set_option maxRecDepth 100000 in
set_option maxHeartbeats 2000000 in
theorem tooMany_any (c : Cr) (p : Pl) (w : World) (h0 : 0 ≤ c.i) (hs : Sm c) :
    Calls Tryz.prog 111 #[cv c p] w fun e w' => e = .returned (.bool c.tm) ∧ Below w.heap.size w w' := by
  have g1 := hs.nl
  have g2 := hs.na
  have g3 := hs.nb
  have g4 := hs.nc
  have g5 := hs.i
  unfold I64 at g5
  have i0 : ∀ w, (Instr.index 166 (.agg #[.int .i64 1, .int .i64 c.i, .int .i64 c.nl, .int .i64 c.na]) (.int .i64 0)).run Tryz.prog w = .ok (.int .i64 1) w := fun _ => by kernel_rfl
  have i1 : ∀ w, (Instr.index 166 (.agg #[.int .i64 1, .int .i64 c.i, .int .i64 c.nl, .int .i64 c.na]) (.int .i64 1)).run Tryz.prog w = .ok (.int .i64 c.i) w := fun _ => by kernel_rfl
  have i2 : ∀ w, (Instr.index 166 (.agg #[.int .i64 1, .int .i64 c.i, .int .i64 c.nl, .int .i64 c.na]) (.int .i64 2)).run Tryz.prog w = .ok (.int .i64 c.nl) w := fun _ => by kernel_rfl
  have i3 : ∀ w, (Instr.index 166 (.agg #[.int .i64 1, .int .i64 c.i, .int .i64 c.nl, .int .i64 c.na]) (.int .i64 3)).run Tryz.prog w = .ok (.int .i64 c.na) w := fun _ => by kernel_rfl
  go_enter Tryz.func111, Tryz.ntmps111
  go_wp2_with (go_at_call 127; refine (counts_any c p _).mono ?_; rintro e w1 ⟨rfl, hb1⟩; obtain ⟨hc1, hf1⟩ := bcell hb1; have hz1 : w.heap.size < w1.heap.size := (by have := hb1.size; (try simp at this); omega); have hB1 : Below w.heap.size w w1 := Below.step (by go_grown) (by go_size) hb1)
  go_rounds 5
  all_goals
    go_ret
    refine ⟨Li.ret_bool ?_, hB1⟩
    rw [Bool.eq_iff_iff]
    have hz : c.sz = c.i + c.nl + c.na := rfl
    simp only [Cr.tm, decide_eq_true_eq, Bool.or_eq_true, true_iff]
    omega

/-- a literal of a variable up to m -/
def Cr.litB (m l : Int) : Bool := decide (0 ≤ l ∧ l / 2 ≤ m)

set_option maxRecDepth 100000 in
set_option maxHeartbeats 2000000 in
theorem isLitOf_any (c : Cr) (p : Pl) (l : Int) (w : World) (hs : Sm c) (h0 : 0 ≤ c.i) (h1 : c.sz ≤ 1000) :
    Calls Tryz.prog 129 #[cv c p, .int .i64 l] w fun e w' => e = .returned (.bool (Cr.litB c.sz l)) ∧ Below w.heap.size w w' := by
  have g1 := hs.nl
  have g2 := hs.na
  have hz : c.i ≤ 1000 := by have : c.sz = c.i + c.nl + c.na := rfl; omega
  cases hl : Li.isL l
  · have hb := Li.isL_no hl
    go_enter Tryz.func129, Tryz.ntmps129
    go_wp2_with (first
      | (go_at_call 77; refine (var_no _ _ hl).mono ?_; rintro e w1 ⟨rfl, rfl⟩))
    go_ret
    refine ⟨Li.ret_bool ?_, by go_grown⟩
    simp [Cr.litB]
    omega
  · have hb := Li.isL_yes hl
    go_enter Tryz.func129, Tryz.ntmps129
    go_wp2_with (first
      | (go_at_call 77; refine (var_yes _ _ hl).mono ?_; rintro e w1 ⟨rfl, rfl⟩)
      | (go_at_call 97; refine (lastVar_any c p _ (by assumption) (by assumption) (by assumption) (by assumption)).mono ?_; rintro e w1 ⟨rfl, hb1⟩; have hB1 : Below w.heap.size w w1 := Below.step (by go_grown) (by go_size) hb1))
    go_ret
    refine ⟨Li.ret_bool ?_, hB1⟩
    simp [Cr.litB]
    omega

/-- the function isWrong of hasRightLiterals: its box holds the circuit -/
theorem isWrong_any (c : Cr) (p : Pl) (l : Int) (b : Nat) (w : World) (hs : Sm c) (h0 : 0 ≤ c.i) (h1 : c.sz ≤ 1000) (hb : Has w b 41 (cc c p)) :
    Calls Tryz.prog 128 #[.int .i64 l, .pointer (some ⟨b, 0, none⟩)] w fun e w' => e = .returned (.bool (!Cr.litB c.sz l)) ∧ Below w.heap.size w w' := by
  have x0 := hb.cell 0
  have x1 := hb.cell 1
  have x2 := hb.cell 2
  have x3 := hb.cell 3
  have x4 := hb.cell 4
  simp only [cc, List.getElem?_toArray, List.getElem?_cons_zero, List.getElem?_cons_succ] at x0 x1 x2 x3 x4
  clear hb
  go_enter Tryz.func128, Tryz.ntmps128
  go_wp2_with (first
      | (go_at_call 129; refine (isLitOf_any c p _ _ hs h0 h1).mono ?_; rintro e w1 ⟨rfl, hb1⟩))
  go_ret
  exact ⟨rfl, hb1⟩

/-- a right reset -/
def Cr.resB (r : Int) : Bool := decide (0 ≤ r ∧ r ≤ 2)

theorem isReset_any (r : Int) (w : World) : Calls Tryz.prog 131 #[.int .i64 r] w fun e w' => e = .returned (.bool (Cr.resB r)) ∧ w = w' := by
  go_enter Tryz.func131, Tryz.ntmps131
  go_wp2
  all_goals
    go_ret
    refine ⟨Li.ret_bool ?_, rfl⟩
    rw [Bool.eq_iff_iff]
    simp only [Cr.resB, decide_eq_true_eq, Bool.or_eq_true, true_iff, beq_iff_eq]
    omega

/-- the value of isWrong -/
abbrev isWv (b : Nat) : Value := .func (.func 128) #[] #[.pointer (some ⟨b, 0, none⟩)]
/-- the value of isWrongLatch -/
abbrev isWLv (b : Nat) : Value := .func (.func 130) #[] #[.pointer (some ⟨b, 0, none⟩)]

set_option maxRecDepth 100000 in
set_option maxHeartbeats 2000000 in
theorem isWrongLatch_any (c : Cr) (p : Pl) (l r : Int) (b b2 : Nat) (w : World) (hs : Sm c) (h0 : 0 ≤ c.i) (h1 : c.sz ≤ 1000) (hb : Has w b 41 (cc c p)) (hb2 : Has w b2 131 #[isWv b]) :
    Calls Tryz.prog 130 #[.agg #[.int .i64 l, .int .i64 r], .pointer (some ⟨b2, 0, none⟩)] w fun e w' => e = .returned (.bool (!Cr.litB c.sz l || !Cr.resB r)) ∧ Below w.heap.size w w' := by
  have x0 : ∀ o : Obj, (w.alloc o).cell? ⟨b2, 0, none⟩ = some (isWv b) := ca (hb2.cell 0)
  have hl1 := hb.lt
  have hl2 := hb2.lt
  cases hv : Cr.litB c.sz l
  all_goals
    go_enter Tryz.func130, Tryz.ntmps130
    go_wp2_with (first
        | (go_at_call 128; refine (isWrong_any c p _ b _ hs h0 h1 (hb.keep (Below.alloc (Below.refl _ _) (Nat.le_refl _) _) hl1)).mono ?_; rintro e w1 ⟨rfl, hb1⟩; obtain ⟨hc1, hf1⟩ := bcell hb1; have hz1 : w.heap.size < w1.heap.size := (by have := hb1.size; (try simp at this); omega); have hB1 : Below w.heap.size w w1 := Below.step (by go_grown) (by go_size) hb1)
        | (go_at_call 131; refine (isReset_any _ _).mono ?_; rintro e w1 ⟨rfl, rfl⟩))
    go_ret
    exact ⟨rfl, hB1⟩

/-- an index that is at least 0 just where b holds -/
def IdxIs (b : Bool) (w : World) (e : Ending) (w' : World) : Prop := ∃ n : Int, e = .returned (.int .i64 n) ∧ decide (0 ≤ n) = b ∧ Below w.heap.size w w'

set_option maxRecDepth 100000 in
set_option maxHeartbeats 2000000 in
theorem indexInts_any (c : Cr) (p : Pl) (A : Option Addr) (n k : Nat) (f : Nat → Int) (b : Nat) (w : World) (hs : Sm c) (h0 : 0 ≤ c.i) (h1 : c.sz ≤ 1000) (hn : n ≤ 1000) (hA : IntsAt w w.heap.size A n f) (hb : Has w b 41 (cc c p)) :
    Calls Tryz.prog 110 #[.slice A n k, isWv b] w (IdxIs (!Cr.allB c.sz f n) w) := by
  go_enter Tryz.func110, Tryz.ntmps110
  go_wp2
  go_loopw [8] (fun i wr => ∃ q : Nat, q ≤ n ∧ i = .int .i64 q ∧ Hid (∀ j, j < q → 0 ≤ f j ∧ f j / 2 ≤ c.sz) ∧ Below w.heap.size w wr) (fun i _ => n - (intOf i).toNat)
  case atStart => exact ⟨0, Nat.zero_le _, rfl, Lib.hid (fun j hj => absurd hj (Nat.not_lt_zero _)), Below.refl _ _⟩
  case round =>
    obtain ⟨q, hq, rfl, hL, hBr⟩ := hrel
    by_cases hlt : q < n
    · obtain ⟨a, rfl, hab, hcs⟩ := (hA.keep hBr) (by omega)
      have y0 := hcs q hlt
      clear hcs
      have hbr := hb.keep hBr hb.lt
      cases hv : Cr.litB c.sz (f q)
      · have HV := Lib.hid (show Cr.allB c.sz f n = false from Cr.allB_no hlt (by have := of_decide_eq_false hv; omega))
        go_wp2_with (go_at_call 128; refine (isWrong_any c p _ b _ hs h0 h1 hbr).mono ?_; rintro e w1 ⟨rfl, hb1⟩)
        go_ret
        exact ⟨_, rfl, by rw [HV.out]; simp, Below.step hBr hBr.size hb1⟩
      · go_wp2_with (go_at_call 128; refine (isWrong_any c p _ b _ hs h0 h1 hbr).mono ?_; rintro e w1 ⟨rfl, hb1⟩)
        go_roundw
        case rel => exact ⟨q + 1, by omega, by go_num, Lib.hid (fun j hj => by
          rcases Nat.lt_succ_iff_lt_or_eq.1 hj with h' | h'
          · exact hL.out j h'
          · subst h'; exact of_decide_eq_true hv), Below.step hBr hBr.size hb1⟩
        case measure => simp [intOf]; omega
    · obtain rfl : q = n := by omega
      have HV := Lib.hid (show Cr.allB c.sz f q = true from Cr.allB_yes hL.out)
      clear hq hlt
      go_wp2
      go_ret
      exact ⟨_, rfl, by rw [HV.out]; rfl, hBr⟩

set_option maxRecDepth 100000 in
set_option maxHeartbeats 2000000 in
theorem containsInts_any (c : Cr) (p : Pl) (A : Option Addr) (n k : Nat) (f : Nat → Int) (b : Nat) (w : World) (hs : Sm c) (h0 : 0 ≤ c.i) (h1 : c.sz ≤ 1000) (hn : n ≤ 1000) (hA : IntsAt w w.heap.size A n f) (hb : Has w b 41 (cc c p)) :
    Calls Tryz.prog 90 #[.slice A n k, isWv b] w fun e w' => e = .returned (.bool (!Cr.allB c.sz f n)) ∧ Below w.heap.size w w' := by
  go_enter Tryz.func90, Tryz.ntmps90
  go_wp2_with (go_at_call 110; refine (indexInts_any c p A n k f b _ hs h0 h1 hn hA hb).mono ?_; rintro e w1 ⟨m, rfl, hm, hb1⟩)
  go_ret
  exact ⟨rfl, hb1⟩

theorem Cr.latB_eq {c : Cr} : c.latB = true ↔ ∀ j, j < c.nl → Cr.litB c.sz (c.nx j) = true ∧ Cr.resB (c.rs j) = true := by
  simp only [Cr.latB, Cr.litB, Cr.resB, decide_eq_true_eq, and_assoc]

set_option maxRecDepth 100000 in
set_option maxHeartbeats 2000000 in
theorem indexLat_any (c : Cr) (p : Pl) (b b2 : Nat) (w : World) (hm : Mem w w.heap.size c p) (hs : Sm c) (h0 : 0 ≤ c.i) (h1 : c.sz ≤ 1000) (hb : Has w b 41 (cc c p)) (hb2 : Has w b2 131 #[isWv b]) :
    Calls Tryz.prog 148 #[.slice p.A1 c.nl p.k1, isWLv b2] w (IdxIs (!c.latB) w) := by
  have g1 := hs.nl
  go_enter Tryz.func148, Tryz.ntmps148
  go_wp2
  go_loopw [8] (fun i wr => ∃ q : Nat, q ≤ c.nl ∧ i = .int .i64 q ∧ Hid (∀ j, j < q → Cr.litB c.sz (c.nx j) = true ∧ Cr.resB (c.rs j) = true) ∧ Below w.heap.size w wr) (fun i _ => c.nl - (intOf i).toNat)
  case atStart => exact ⟨0, Nat.zero_le _, rfl, Lib.hid (fun j hj => absurd hj (Nat.not_lt_zero _)), Below.refl _ _⟩
  case round =>
    obtain ⟨q, hq, rfl, hL, hBr⟩ := hrel
    by_cases hlt : q < c.nl
    · obtain ⟨a, hA, hab, hcs⟩ := (hm.la.keep hBr) (by omega)
      obtain ⟨y0, y1⟩ := hcs q hlt
      clear hcs
      rw [hA]
      clear hA
      have hbr := hb.keep hBr hb.lt
      have hbr2 := hb2.keep hBr hb2.lt
      cases hv : (Cr.litB c.sz (c.nx q) && Cr.resB (c.rs q))
      · have HV := Lib.hid (show c.latB = false by
          rw [Bool.eq_false_iff]; intro h; have := Cr.latB_eq.1 h q hlt; simp [this] at hv)
        have hv2 : (!Cr.litB c.sz (c.nx q) || !Cr.resB (c.rs q)) = true := by rw [← Bool.not_and, hv]; rfl
        clear hv
        go_wp2_with (go_at_call 130; refine (isWrongLatch_any c p _ _ b b2 _ hs h0 h1 hbr hbr2).mono ?_; rw [hv2]; rintro e w1 ⟨rfl, hb1⟩)
        go_ret
        exact ⟨_, rfl, by rw [HV.out]; simp, Below.step hBr hBr.size hb1⟩
      · have hv2 : (!Cr.litB c.sz (c.nx q) || !Cr.resB (c.rs q)) = false := by rw [← Bool.not_and, hv]; rfl
        go_wp2_with (go_at_call 130; refine (isWrongLatch_any c p _ _ b b2 _ hs h0 h1 hbr hbr2).mono ?_; rw [hv2]; rintro e w1 ⟨rfl, hb1⟩)
        go_roundw
        case rel => exact ⟨q + 1, by omega, by go_num, Lib.hid (fun j hj => by
          rcases Nat.lt_succ_iff_lt_or_eq.1 hj with h' | h'
          · exact hL.out j h'
          · subst h'; simpa using hv), Below.step hBr hBr.size hb1⟩
        case measure => simp [intOf]; omega
    · obtain rfl : q = c.nl := by omega
      have HV := Lib.hid (show c.latB = true from Cr.latB_eq.2 hL.out)
      clear hq hlt
      go_wp2
      go_ret
      exact ⟨_, rfl, by rw [HV.out]; rfl, hBr⟩

set_option maxRecDepth 100000 in
set_option maxHeartbeats 2000000 in
theorem containsLat_any (c : Cr) (p : Pl) (b b2 : Nat) (w : World) (hm : Mem w w.heap.size c p) (hs : Sm c) (h0 : 0 ≤ c.i) (h1 : c.sz ≤ 1000) (hb : Has w b 41 (cc c p)) (hb2 : Has w b2 131 #[isWv b]) :
    Calls Tryz.prog 132 #[.slice p.A1 c.nl p.k1, isWLv b2] w fun e w' => e = .returned (.bool (!c.latB)) ∧ Below w.heap.size w w' := by
  go_enter Tryz.func132, Tryz.ntmps132
  go_wp2_with (go_at_call 148; refine (indexLat_any c p b b2 _ hm hs h0 h1 hb hb2).mono ?_; rintro e w1 ⟨m, rfl, hm, hb1⟩)
  go_ret
  exact ⟨rfl, hb1⟩
