/- The contracts of traces.copied, canStart, First, isRight, Check, and of slices.Index and Contains at bool. -/
import Derived.Test.YtpobkemgbbgolaaTraceMem
namespace Go.Proofs.Ytpobkemgbbgolaa
open Go.RowKit
set_option linter.unusedVariables false
set_option linter.unusedSimpArgs false

theorem putB_all {f h : Nat → Bool} {n : Nat} : ∀ j, j < n → putB f h 0 n j = h j := fun j hj => by
  unfold putB; rw [if_pos ⟨Nat.zero_le _, by omega⟩]; simp

set_option maxRecDepth 100000 in
set_option maxHeartbeats 2000000 in
theorem copied_any (A : Option Addr) (n k : Nat) (f : Nat → Bool) (w : World) (hn : n ≤ 100000) (hA : BlsAt w w.heap.size A n f) :
    Calls Try.prog 15 #[.slice A n k] w (BoolsIn n f w) := by
  have hmk : ∀ w : World, (Instr.makeSlice 29 (.int .i64 (n : Int)) (.int .i64 (n : Int))).run Try.prog w = .ok (.slice (some ⟨w.heap.size, 0, none⟩) n n) (w.alloc (.cells (madeCells #[.bool false] n) 4)) := fun w =>
    run_make_row' 29 4 (.bool false) 1 Try.underlying29 info_bool1 rfl _ _ n (by omega) (by omega) w
  have hR0 : (w.alloc (.cells (madeCells #[.bool false] n) 4)).heap[w.heap.size]? = some (.cells (bL (fun _ => false) n).toArray 4 (0, 0)) := by rw [← made_bL]; exact Has.new w 4 (madeCells #[.bool false] n)
  have hB0 : Below w.heap.size w (w.alloc (.cells (madeCells #[.bool false] n) 4)) := (Below.refl _ _).alloc (Nat.le_refl _) _
  go_enter Try.func15, Try.ntmps15
  go_wp2_with (first
    | (with_reducible refine copy_bools rfl (.tmp 7) (.tmp 8) _ _ rfl 4 Try.underlying29 (by kernel_rfl) w.heap.size 0 n n k n (some ⟨w.heap.size, 0, none⟩) A (fun _ => false) f rfl rfl (fun _ => rfl) 4 hR0 w.heap.size (hA.keep hB0) (by omega) ?_
       intro w2 hR2 hg2))
  go_ret
  have hi := (row_bools (row_of_list (n := n) hR2)).congr putB_all
  exact ⟨_, _, rfl, hi, hB0.grown hg2 (by simp) (fun k hk => by cases hk; exact Nat.le_refl _), (fun h => by cases h), fun a h => by cases h; exact Nat.le_refl _⟩

/-- what canStart says -/
def sOk (r : Int) (b : Bool) : Bool := decide (¬ (r = 0 ∧ b = true) ∧ ¬ (r = 1 ∧ b = false))
set_option maxHeartbeats 1000000 in
theorem canStart_any (x r : Int) (b : Bool) (w : World) : Calls Try.prog 23 #[.agg #[.int .i64 x, .int .i64 r], .bool b] w fun e w' => e = .returned (.bool (sOk r b)) ∧ Below w.heap.size w w' := by
  by_cases h0 : r = 0
  · subst h0
    go_enter Try.func23, Try.ntmps23
    go_wp2
    go_ret
    exact ⟨by cases b <;> rfl, by go_grown⟩
  · by_cases h1 : r = 1
    · subst h1
      go_enter Try.func23, Try.ntmps23
      go_wp2
      go_ret
      exact ⟨by cases b <;> rfl, by go_grown⟩
    · have e0 : (r == 0) = false := by simpa using h0
      have e1 : (r == 1) = false := by simpa using h1
      have HR := Lib.hid (show sOk r b = true from decide_eq_true ⟨fun h => h0 h.1, fun h => h1 h.1⟩)
      clear h0 h1
      go_enter Try.func23, Try.ntmps23
      go_wp2
      go_ret
      exact ⟨by rw [HR.out]; rfl, by go_grown⟩

theorem stB_of {c : Cr} {n : Nat} {f : Nat → Bool} (h : ∀ j, j < n → sOk (c.rs j) (f j) = true) : c.stB n f = true := Cr.stB_yes fun j hj => of_decide_eq_true (h j hj)
theorem stB_not {c : Cr} {n k : Nat} {f : Nat → Bool} (hk : k < n) (h : sOk (c.rs k) (f k) = false) : c.stB n f = false := decide_eq_false fun h' => of_decide_eq_false h (h' k hk)

/-- the value of canStart -/
abbrev csV : Value := .func (.func 23) #[] #[]
set_option maxRecDepth 100000 in
set_option maxHeartbeats 2000000 in
theorem equal_any (c : Cr) (A : Option Addr) (k : Nat) (As : Option Addr) (ks : Nat) (s : Nat → Bool) (w : World) (hn : c.nl ≤ 1000) (hA : PairsAt w w.heap.size A c.nl c.nx c.rs) (hS : BlsAt w w.heap.size As c.nl s) :
    Calls Try.prog 22 #[.slice A c.nl k, .slice As c.nl ks, csV] w fun e w' => e = .returned (.bool (c.stB c.nl s)) ∧ Below w.heap.size w w' := by
  have t1 : ((c.nl : Int) != (c.nl : Int)) = false := by simp
  go_enter Try.func22, Try.ntmps22
  go_wp2
  go_loopw [17] (fun i wr => ∃ q : Nat, q ≤ c.nl ∧ i = .int .i64 q ∧ Hid (∀ j, j < q → sOk (c.rs j) (s j) = true) ∧ Below w.heap.size w wr) (fun i _ => c.nl - (intOf i).toNat)
  case atStart => exact ⟨0, Nat.zero_le _, rfl, Lib.hid (fun j hj => absurd hj (Nat.not_lt_zero _)), Below.refl _ _⟩
  case round =>
    obtain ⟨q, hq, rfl, hL, hBr⟩ := hrel
    have hsz := hBr.size
    by_cases hlt : q < c.nl
    · obtain ⟨a, rfl, hab, hcs⟩ := (hA.keep hBr) (by omega)
      obtain ⟨a', rfl, hab', hcs'⟩ := (hS.keep hBr) (by omega)
      obtain ⟨y0, y1⟩ := hcs q hlt
      have y2 := hcs' q hlt
      have hq0 : (0 : Int) ≤ (q : Int) := by omega
      have hq1 : (q : Int) < c.nl := by omega
      clear hcs hcs'
      obtain ⟨u, hu⟩ : ∃ u, s q = u := ⟨_, rfl⟩
      rw [hu] at y2
      have y3 : ∀ o, (wr.alloc o).cell? (a'.add q) = some (.bool u) := fun o => ca y2 o
      have HU := Lib.hid hu
      clear hu
      cases hv : sOk (c.rs q) u
      · have HV := Lib.hid (stB_not (c := c) (f := s) hlt (by rw [HU.out]; exact hv))
        have HW := Lib.hid hv
        clear hv
        go_wp2_with (go_at_call 23; (with_reducible refine (canStart_any (c.nx q) (c.rs q) u _).mono ?_); rw [HW.out]; rintro e w1 ⟨rfl, hb1⟩; have hB1 : Below w.heap.size w w1 := Below.step (by go_grown) (by go_size) hb1)
        go_ret
        exact ⟨by rw [HV.out]; rfl, hB1⟩
      · have HW := Lib.hid hv
        clear hv
        go_wp2_with (go_at_call 23; (with_reducible refine (canStart_any (c.nx q) (c.rs q) u _).mono ?_); rw [HW.out]; rintro e w1 ⟨rfl, hb1⟩; have hB1 : Below w.heap.size w w1 := Below.step (by go_grown) (by go_size) hb1)
        go_roundw
        case rel => exact ⟨q + 1, by omega, by go_num, Lib.hid (fun j hj => by
          rcases Nat.lt_succ_iff_lt_or_eq.1 hj with h' | h'
          · exact hL.out j h'
          · subst h'; rw [HU.out]; exact HW.out), hB1⟩
        case measure => simp [intOf]; omega
    · obtain rfl : q = c.nl := by omega
      have HV := Lib.hid (stB_of hL.out)
      clear hq hlt
      go_wp2
      go_ret
      exact ⟨by rw [HV.out]; rfl, hBr⟩

set_option maxRecDepth 100000 in
set_option maxHeartbeats 2000000 in
theorem first_any (c : Cr) (p : Pl) (As : Option Addr) (ns ks : Nat) (s : Nat → Bool) (w : World) (hm : Mem w w.heap.size c p) (hs : Sm c) (hS : BlsAt w w.heap.size As ns s) (hn : ns ≤ 100000) :
    Calls Try.prog 8 #[cv c p, .slice As ns ks] w fun e w' => e = .returned (.tuple #[.bool (c.fst ns s), .int .i64 (c.fck ns)]) ∧ Below w.heap.size w w' := by
  have hB0 : Below w.heap.size w w := Below.refl _ _
  have g1 := hs.nl
  by_cases hk : c.chk = 0
  · by_cases h1 : ns = c.nl
    · subst h1
      have HF := Lib.hid (show c.fck c.nl = 0 by unfold Cr.fck; rw [if_neg (by omega), if_neg (by omega)])
      have HG := Lib.hid (show c.fst c.nl s = c.stB c.nl s by unfold Cr.fst; rw [if_pos HF.out])
      have HC := Lib.hid hk
      have t1 : ((c.nl : Int) != (c.nl : Int)) = false := by simp
      rw [HF.out, HG.out]
      have h : (c.chk != 0) = false := by simp [hk]
      clear hk
      go_enter Try.func8, Try.ntmps8
      go_wp2_with (first
        | (go_at_call 21; (with_reducible refine (gCheck_any c p (w.alloc _) (hm.to (by go_grown) (by go_size)) hs).mono ?_); rintro e w1 ⟨rfl, hb1⟩; obtain ⟨hc1, hf1⟩ := bcell hb1; have hz1 : w.heap.size < w1.heap.size := (by have := hb1.size; (try simp at this); omega); have hB1 : Below w.heap.size w w1 := Below.step (by go_grown) (by go_size) hb1)
        | (go_at_call 22; (with_reducible refine (equal_any c p.A1 p.k1 As ks s w1 g1 ((hm.la.keep hB1).more hB1.size) (hS.to hB1 hB1.size)).mono ?_); rintro e w2 ⟨rfl, hb2⟩; have hB2 := Below.step hB1 hB1.size hb2))
      go_ret2
      exact ⟨rfl, hB2⟩
    · have HF := Lib.hid (show c.fck ns = 2 by unfold Cr.fck; rw [if_neg (by omega), if_pos h1])
      have HG := Lib.hid (show c.fst ns s = false by unfold Cr.fst; rw [if_neg (by rw [HF.out]; decide)])
      have t1 : ((ns : Int) != (c.nl : Int)) = true := by simp; omega
      rw [HF.out, HG.out]
      have h : (c.chk != 0) = false := by simp [hk]
      clear hk h1
      go_enter Try.func8, Try.ntmps8
      go_wp2_with (first
        | (go_at_call 21; (with_reducible refine (gCheck_any c p (w.alloc _) (hm.to (by go_grown) (by go_size)) hs).mono ?_); rintro e w1 ⟨rfl, hb1⟩; obtain ⟨hc1, hf1⟩ := bcell hb1; have hz1 : w.heap.size < w1.heap.size := (by have := hb1.size; (try simp at this); omega); have hB1 : Below w.heap.size w w1 := Below.step (by go_grown) (by go_size) hb1))
      go_ret2
      exact ⟨rfl, hB1⟩
  · have h : (c.chk != 0) = true := by simpa [bne] using hk
    have HF := Lib.hid (show c.fck ns = c.chk from if_pos hk)
    have HG := Lib.hid (show c.fst ns s = false by unfold Cr.fst; rw [if_neg (by rw [HF.out]; exact hk)])
    rw [HF.out, HG.out]
    clear hk
    go_enter Try.func8, Try.ntmps8
    go_wp2_with (first
      | (go_at_call 21; (with_reducible refine (gCheck_any c p (w.alloc _) (hm.to (by go_grown) (by go_size)) hs).mono ?_); rintro e w1 ⟨rfl, hb1⟩; have hB1 : Below w.heap.size w w1 := Below.step (by go_grown) (by go_size) hb1))
    go_ret2
    exact ⟨rfl, hB1⟩

set_option maxHeartbeats 1000000 in
/-- the function isWrong of isRight: its box holds the circuit -/
theorem isWrong6_any (c : Cr) (p : Pl) (b : Nat) (A : Option Addr) (n k : Nat) (w : World) (hb : Has w b 28 (cc c p)) :
    Calls Try.prog 32 #[.slice A n k, .pointer (some ⟨b, 0, none⟩)] w fun e w' => e = .returned (.bool ((n : Int) != c.i)) ∧ w = w' := by
  obtain ⟨x0, x1, x2, x3, x4⟩ := hb.box
  clear hb
  go_enter Try.func32, Try.ntmps32
  go_wp2
  go_ret
  exact ⟨rfl, rfl⟩

/-- the value of isWrong -/
abbrev iwV (b : Nat) : Value := .func (.func 32) #[] #[.pointer (some ⟨b, 0, none⟩)]
set_option maxRecDepth 100000 in
set_option maxHeartbeats 2000000 in
theorem indexWrong_any (c : Cr) (p : Pl) (t : Tr) (b : Nat) (A : Option Addr) (k : Nat) (B : Nat) (w : World) (hn : t.ni ≤ 1000) (hA : RowsAt w B A t.ni t.ln t.ip) (hb : Has w b 28 (cc c p)) :
    Calls Try.prog 47 #[.slice A t.ni k, iwV b] w (IdxIs (!t.lnB c.i) w) := by
  go_enter Try.func47, Try.ntmps47
  go_wp2
  go_loopw [8] (fun i wr => ∃ q : Nat, q ≤ t.ni ∧ i = .int .i64 q ∧ Hid (∀ j, j < q → (t.ln j : Int) = c.i) ∧ wr = w) (fun i _ => t.ni - (intOf i).toNat)
  case atStart => exact ⟨0, Nat.zero_le _, rfl, Lib.hid (fun j hj => absurd hj (Nat.not_lt_zero _)), rfl⟩
  case round =>
    obtain ⟨q, hq, rfl, hL, rfl⟩ := hrel
    by_cases hlt : q < t.ni
    · obtain ⟨a, rfl, hab, hcs⟩ := hA (by omega)
      obtain ⟨A', k', y0, hA', _⟩ := hcs q hlt
      have hq0 : (0 : Int) ≤ (q : Int) := by omega
      have hq1 : (q : Int) < t.ni := by omega
      clear hcs
      cases hv : ((t.ln q : Int) != c.i)
      · have HW := Lib.hid hv
        clear hv
        go_wp2_with (go_at_call 32; (with_reducible refine (isWrong6_any c p b A' (t.ln q) k' _ hb).mono ?_); rw [HW.out]; rintro e w1 ⟨rfl, rfl⟩)
        go_roundw
        case rel => exact ⟨q + 1, by omega, by go_num, Lib.hid (fun j hj => by
          rcases Nat.lt_succ_iff_lt_or_eq.1 hj with h' | h'
          · exact hL.out j h'
          · subst h'; have := HW.out; simpa using this), by trivial⟩
        case measure => simp [intOf]; omega
      · have HV := Lib.hid (show t.lnB c.i = false from decide_eq_false fun h => by rw [h q hlt] at hv; simp at hv)
        have HW := Lib.hid hv
        clear hv
        go_wp2_with (go_at_call 32; (with_reducible refine (isWrong6_any c p b A' (t.ln q) k' _ hb).mono ?_); rw [HW.out]; rintro e w1 ⟨rfl, rfl⟩)
        go_ret
        exact ⟨_, rfl, by rw [HV.out]; simp, Below.refl _ _⟩
    · obtain rfl : q = t.ni := by omega
      have HV := Lib.hid (show t.lnB c.i = true from decide_eq_true hL.out)
      clear hq hlt
      go_wp2
      go_ret
      exact ⟨_, rfl, by rw [HV.out]; rfl, Below.refl _ _⟩

set_option maxRecDepth 100000 in
set_option maxHeartbeats 2000000 in
theorem containsWrong_any (c : Cr) (p : Pl) (t : Tr) (b : Nat) (A : Option Addr) (k : Nat) (B : Nat) (w : World) (hn : t.ni ≤ 1000) (hA : RowsAt w B A t.ni t.ln t.ip) (hb : Has w b 28 (cc c p)) :
    Calls Try.prog 33 #[.slice A t.ni k, iwV b] w fun e w' => e = .returned (.bool (!t.lnB c.i)) ∧ Below w.heap.size w w' := by
  go_enter Try.func33, Try.ntmps33
  go_wp2_with (go_at_call 47; refine (indexWrong_any c p t b A k B _ hn hA hb).mono ?_; rintro e w1 ⟨m, rfl, hm, hb1⟩)
  go_ret
  exact ⟨rfl, hb1⟩
