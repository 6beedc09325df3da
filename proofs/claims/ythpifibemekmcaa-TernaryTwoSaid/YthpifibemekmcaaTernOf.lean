/- AND, negation and the value of a literal with three truth values: the contracts of ternary.And, Not, isTruth, isCovered, valueOf, and of the reference's. -/
import Derived.Test.YthpifibemekmcaaTernMem
namespace Go.Proofs.Ythpifibemekmcaa
open Go.RowKit
set_option linter.unusedVariables false
set_option linter.unusedSimpArgs false

/-- whether a byte is a truth value -/
def isTb (a : Int) : Bool := decide (a ≤ 2)
theorem isTb_yes {a : Int} (h : isT a) : isTb a = true := decide_eq_true h.lo.2
theorem isTb_no {a : Int} (h : 2 < a) : isTb a = false := decide_eq_false (by omega)
theorem u8_ways {a : Int} (h0 : 0 ≤ a) : isT a ∨ 2 < a := by unfold isT; omega

set_option maxHeartbeats 1000000 in
theorem isTruth_yes {a : Int} (h : isT a) (w : World) : Calls Try.prog 48 #[.int .u8 a] w fun e w' => e = .returned (.bool true) ∧ w = w' := by
  rcases h with rfl | rfl | rfl
  all_goals
    go_enter Try.func48, Try.ntmps48
    go_wp2
    go_ret
    exact ⟨rfl, rfl⟩
set_option maxHeartbeats 1000000 in
theorem isTruth_no {a : Int} (h : 2 < a) (w : World) : Calls Try.prog 48 #[.int .u8 a] w fun e w' => e = .returned (.bool false) ∧ w = w' := by
  have h0 : (a == 0) = false := by simp; omega
  have h1 : (a == 1) = false := by simp; omega
  have h2 : (a == 2) = false := by simp; omega
  go_enter Try.func48, Try.ntmps48
  go_wp2
  go_ret
  exact ⟨rfl, rfl⟩
theorem isTruth_any {a : Int} (h : 0 ≤ a) (w : World) : Calls Try.prog 48 #[.int .u8 a] w fun e w' => e = .returned (.bool (isTb a)) ∧ w = w' := by
  rcases u8_ways h with h | h
  · rw [isTb_yes h]; exact isTruth_yes h w
  · rw [isTb_no h]; exact isTruth_no h w

set_option maxHeartbeats 2000000 in
theorem tAnd_yes {a b : Int} (ha : isT a) (hb : isT b) (w : World) : Calls Try.prog 15 #[.int .u8 a, .int .u8 b] w fun e w' => e = .returned (.tuple #[.int .u8 (tand a b), .int .i64 0]) ∧ w = w' := by
  have C1 := isTruth_yes ha w
  have C2 := isTruth_yes hb w
  rcases ha with rfl | rfl | rfl <;> rcases hb with rfl | rfl | rfl
  all_goals
    go_enter Try.func15, Try.ntmps15
    go_wp2_with (first
      | (go_at_call 48; (with_reducible refine C1.mono ?_); rintro e w1 ⟨rfl, rfl⟩)
      | (go_at_call 48; (with_reducible refine C2.mono ?_); rintro e w1 ⟨rfl, rfl⟩))
    go_ret2
    exact ⟨rfl, rfl⟩
set_option maxHeartbeats 2000000 in
theorem tAnd_no {a b : Int} (ha : 0 ≤ a) (hb : 0 ≤ b) (h : 2 < a ∨ 2 < b) (w : World) : Calls Try.prog 15 #[.int .u8 a, .int .u8 b] w fun e w' => e = .returned (.tuple #[.int .u8 0, .int .i64 8]) ∧ w = w' := by
  rcases u8_ways ha with h1 | h1
  · rcases u8_ways hb with h2 | h2
    · have := h1.lo; have := h2.lo; omega
    · have C1 := isTruth_yes h1 w
      have C2 := isTruth_no h2 w
      clear ha hb h
      go_enter Try.func15, Try.ntmps15
      go_wp2_with (first
        | (go_at_call 48; (with_reducible refine C1.mono ?_); rintro e w1 ⟨rfl, rfl⟩)
        | (go_at_call 48; (with_reducible refine C2.mono ?_); rintro e w1 ⟨rfl, rfl⟩))
      go_ret2
      exact ⟨rfl, rfl⟩
  · have C1 := isTruth_no h1 w
    clear ha hb h
    go_enter Try.func15, Try.ntmps15
    go_wp2_with (first
      | (go_at_call 48; (with_reducible refine C1.mono ?_); rintro e w1 ⟨rfl, rfl⟩))
    go_ret2
    exact ⟨rfl, rfl⟩
/-- what And returns -/
def andV (a b : Int) : Int := if isTb a && isTb b then tand a b else 0
def andE (a b : Int) : Int := if isTb a && isTb b then 0 else 8
theorem and_ways {a b : Int} (ha : 0 ≤ a) (hb : 0 ≤ b) : (isT a ∧ isT b ∧ andV a b = tand a b ∧ andE a b = 0) ∨ ((2 < a ∨ 2 < b) ∧ andV a b = 0 ∧ andE a b = 8) := by
  unfold andV andE
  rcases u8_ways ha with h1 | h1
  · rcases u8_ways hb with h2 | h2
    · refine Or.inl ⟨h1, h2, ?_, ?_⟩ <;> simp [isTb_yes h1, isTb_yes h2]
    · refine Or.inr ⟨Or.inr h2, ?_, ?_⟩ <;> simp [isTb_no h2]
  · refine Or.inr ⟨Or.inl h1, ?_, ?_⟩ <;> simp [isTb_no h1]
theorem tAnd_any {a b : Int} (ha : 0 ≤ a) (hb : 0 ≤ b) (w : World) : Calls Try.prog 15 #[.int .u8 a, .int .u8 b] w fun e w' => e = .returned (.tuple #[.int .u8 (andV a b), .int .i64 (andE a b)]) ∧ w = w' := by
  rcases and_ways ha hb with ⟨h1, h2, e1, e2⟩ | ⟨h, e1, e2⟩ <;> rw [e1, e2]
  · exact tAnd_yes h1 h2 w
  · exact tAnd_no ha hb h w

set_option maxHeartbeats 1000000 in
theorem tNot_yes {a : Int} (ha : isT a) (w : World) : Calls Try.prog 12 #[.int .u8 a] w fun e w' => e = .returned (.tuple #[.int .u8 (tneg a), .int .i64 0]) ∧ w = w' := by
  rcases ha with rfl | rfl | rfl
  all_goals
    go_enter Try.func12, Try.ntmps12
    go_wp2
    go_ret2
    exact ⟨rfl, rfl⟩
set_option maxHeartbeats 1000000 in
theorem tNot_no {a : Int} (h : 2 < a) (w : World) : Calls Try.prog 12 #[.int .u8 a] w fun e w' => e = .returned (.tuple #[.int .u8 0, .int .i64 8]) ∧ w = w' := by
  have h0 : (a == 0) = false := by simp; omega
  have h1 : (a == 1) = false := by simp; omega
  have h2 : (a == 2) = false := by simp; omega
  go_enter Try.func12, Try.ntmps12
  go_wp2
  go_ret2
  exact ⟨rfl, rfl⟩
/-- what Not returns -/
def notV (a : Int) : Int := if isTb a then tneg a else 0
def notE (a : Int) : Int := if isTb a then 0 else 8
theorem not_ways {a : Int} (ha : 0 ≤ a) : (isT a ∧ notV a = tneg a ∧ notE a = 0) ∨ (2 < a ∧ notV a = 0 ∧ notE a = 8) := by
  unfold notV notE
  rcases u8_ways ha with h1 | h1
  · exact Or.inl ⟨h1, by simp [isTb_yes h1], by simp [isTb_yes h1]⟩
  · exact Or.inr ⟨h1, by simp [isTb_no h1], by simp [isTb_no h1]⟩
theorem tNot_any {a : Int} (ha : 0 ≤ a) (w : World) : Calls Try.prog 12 #[.int .u8 a] w fun e w' => e = .returned (.tuple #[.int .u8 (notV a), .int .i64 (notE a)]) ∧ w = w' := by
  rcases not_ways ha with ⟨h1, e1, e2⟩ | ⟨h, e1, e2⟩ <;> rw [e1, e2]
  · exact tNot_yes h1 w
  · exact tNot_no h w

set_option maxHeartbeats 1000000 in
theorem tIsCov_any (a b : Int) (w : World) : Calls Try.prog 47 #[.int .u8 a, .int .u8 b] w fun e w' => e = .returned (.bool (a == 2 || a == b)) ∧ w = w' := by
  by_cases h : a = 2
  · subst h
    go_enter Try.func47, Try.ntmps47
    go_wp2
    go_ret
    exact ⟨rfl, rfl⟩
  · have h2 : (a == 2) = false := by simpa using h
    clear h
    go_enter Try.func47, Try.ntmps47
    go_wp2
    go_ret
    exact ⟨Li.ret_bool (by rw [h2]; rfl), rfl⟩

set_option maxHeartbeats 1000000 in
theorem tvalueOf_any (A : Option Addr) (n k : Nat) (F : Nat → Int) (l : Int) (B : Nat) (w : World) (hA : TrAt w B A n F) (h0 : 0 ≤ l) (h1 : l ≤ 2001) (hn : l / 2 < (n : Int)) (hT : isT (F (l / 2).toNat)) :
    Calls Try.prog 51 #[.slice A n k, .int .i64 l] w fun e w' => e = .returned (.int .u8 (tlo F l)) ∧ w = w' := by
  obtain ⟨a, rfl, hb, hc⟩ := hA (by omega)
  have y := hc (l / 2).toNat (by omega)
  have m0 : 0 ≤ l / 2 := by omega
  obtain ⟨x, hx⟩ : ∃ x, F (l / 2).toNat = x := ⟨_, rfl⟩
  rw [hx] at y hT
  have CN := tNot_yes hT w
  cases ho : Li.od l
  · have HR := Lib.hid (show tlo F l = x by unfold tlo; rw [ho, hx]; rfl)
    have t1 : (l % 2 == 1) = false := ho
    clear hc hA ho hx CN
    go_enter Try.func51, Try.ntmps51
    go_wp2
    go_ret
    exact ⟨by rw [HR.out]; rfl, rfl⟩
  · have HR := Lib.hid (show tlo F l = tneg x by unfold tlo; rw [ho, hx]; rfl)
    have t1 : (l % 2 == 1) = true := ho
    clear hc hA ho hx
    go_enter Try.func51, Try.ntmps51
    go_wp2_with (go_at_call 12; (with_reducible refine CN.mono ?_); rintro e w1 ⟨rfl, rfl⟩)
    go_ret
    exact ⟨by rw [HR.out]; rfl, rfl⟩

set_option maxHeartbeats 2000000 in
theorem rBoth_any {a b : Int} (ha : isT a) (hb : isT b) (w : World) : Calls Try.prog 58 #[.int .u8 a, .int .u8 b] w fun e w' => e = .returned (.int .u8 (tand a b)) ∧ Below w.heap.size w w' := by
  rcases ha with rfl | rfl | rfl <;> rcases hb with rfl | rfl | rfl
  all_goals
    go_enter Try.func58, Try.ntmps58
    go_wp2
    go_ret
    exact ⟨rfl, by go_grown⟩

set_option maxHeartbeats 2000000 in
theorem rOther_any {a : Int} (ha : isT a) (w : World) : Calls Try.prog 59 #[.int .u8 a] w fun e w' => e = .returned (.int .u8 (tneg a)) ∧ Below w.heap.size w w' := by
  rcases ha with rfl | rfl | rfl
  all_goals
    go_enter Try.func59, Try.ntmps59
    go_wp2
    go_ret
    exact ⟨rfl, by go_grown⟩

set_option maxHeartbeats 2000000 in
theorem rAnd_any {a b : Int} (ha : 0 ≤ a) (hb : 0 ≤ b) (w : World) : Calls Try.prog 27 #[.int .u8 a, .int .u8 b] w fun e w' => e = .returned (.tuple #[.int .u8 (andV a b), .int .i64 (andE a b)]) ∧ Below w.heap.size w w' := by
  rcases and_ways ha hb with ⟨h1, h2, e1, e2⟩ | ⟨h, e1, e2⟩ <;> rw [e1, e2]
  · have C := rBoth_any h1 h2 w
    have := h1.lo
    have := h2.lo
    clear h1 h2 e1 e2
    go_enter Try.func27, Try.ntmps27
    go_wp2_with (go_at_call 58; (with_reducible refine C.mono ?_); rintro e w1 ⟨rfl, hb1⟩)
    go_ret2
    exact ⟨rfl, by go_grown⟩
  · clear e1 e2
    rcases h with h | h
    · go_enter Try.func27, Try.ntmps27
      go_wp2
      go_ret2
      exact ⟨rfl, by go_grown⟩
    · by_cases h2 : 2 < a
      · go_enter Try.func27, Try.ntmps27
        go_wp2
        go_ret2
        exact ⟨rfl, by go_grown⟩
      · go_enter Try.func27, Try.ntmps27
        go_wp2
        go_ret2
        exact ⟨rfl, by go_grown⟩

set_option maxHeartbeats 2000000 in
theorem rNot_any {a : Int} (ha : 0 ≤ a) (w : World) : Calls Try.prog 28 #[.int .u8 a] w fun e w' => e = .returned (.tuple #[.int .u8 (notV a), .int .i64 (notE a)]) ∧ Below w.heap.size w w' := by
  rcases not_ways ha with ⟨h1, e1, e2⟩ | ⟨h, e1, e2⟩ <;> rw [e1, e2]
  · have C := rOther_any h1 w
    have := h1.lo
    clear h1 e1 e2
    go_enter Try.func28, Try.ntmps28
    go_wp2_with (go_at_call 59; (with_reducible refine C.mono ?_); rintro e w1 ⟨rfl, hb1⟩)
    go_ret2
    exact ⟨rfl, hb1⟩
  · clear e1 e2
    go_enter Try.func28, Try.ntmps28
    go_wp2
    go_ret2
    exact ⟨rfl, Below.refl _ _⟩

set_option maxHeartbeats 1000000 in
theorem trValue_any (A : Option Addr) (n k : Nat) (F : Nat → Int) (l : Int) (B : Nat) (w : World) (hA : TrAt w B A n F) (h0 : 0 ≤ l) (h1 : l ≤ 2001) (hn : l / 2 < (n : Int)) (hT : isT (F (l / 2).toNat)) :
    Calls Try.prog 75 #[.slice A n k, .int .i64 l] w fun e w' => e = .returned (.int .u8 (tlo F l)) ∧ Below w.heap.size w w' := by
  obtain ⟨a, rfl, hb, hc⟩ := hA (by omega)
  have y := hc (l / 2).toNat (by omega)
  have m0 : 0 ≤ l / 2 := by omega
  obtain ⟨x, hx⟩ : ∃ x, F (l / 2).toNat = x := ⟨_, rfl⟩
  rw [hx] at y hT
  have CN := rOther_any hT w
  cases ho : Li.od l
  · have HR := Lib.hid (show tlo F l = x by unfold tlo; rw [ho, hx]; rfl)
    have t1 : (l % 2 == 1) = false := ho
    clear hc hA ho hx CN
    go_enter Try.func75, Try.ntmps75
    go_wp2
    go_ret
    exact ⟨by rw [HR.out]; rfl, Below.refl _ _⟩
  · have HR := Lib.hid (show tlo F l = tneg x by unfold tlo; rw [ho, hx]; rfl)
    have t1 : (l % 2 == 1) = true := ho
    clear hc hA ho hx
    go_enter Try.func75, Try.ntmps75
    go_wp2_with (go_at_call 59; (with_reducible refine CN.mono ?_); rintro e w1 ⟨rfl, hb1⟩)
    go_ret
    exact ⟨by rw [HR.out]; rfl, hb1⟩
end Go.Proofs.Ythpifibemekmcaa
