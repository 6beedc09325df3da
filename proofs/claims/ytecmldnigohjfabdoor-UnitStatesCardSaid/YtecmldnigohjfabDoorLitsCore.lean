/- The contracts of the package lits and of its reference: what each function returns, for any numbers. -/
import Derived.Test.YtecmldnigohjfabDoorRows
import Derived.WalkKit
import Derived.ProofKit
import Derived.OpenShut
import Derived.Lib.Hide
import Derived.Deep.QuietTactic
import Derived.BigQuiet
import Derived.Handy
import Derived.Outline
namespace Go.Proofs.YtecmldnigohjfabDoor
open Go.RowKit
set_option linter.unusedVariables false

/-- a contract that leaves the world as it is, at a call inside a region that draws its order -/
theorem qs {P : Program} {f : FuncId} {args : Array Value} {w : World} {n : Nat} {v : Value} (h : Calls P f args (w.drewN n) fun e w' => e = .returned v ∧ w.drewN n = w') :
    Calls P f args (w.drewN n) fun e w'' => e = .returned v ∧ ∃ m, w'' = w.drewN m := h.mono fun _ _ ⟨he, hm⟩ => ⟨he, n, hm.symm⟩

/-- the same, where draws came before that region -/
theorem qs2 {P : Program} {f : FuncId} {args : Array Value} {w : World} {k n : Nat} {v : Value} (h : Calls P f args (w.drewN (k + n)) fun e w' => e = .returned v ∧ w.drewN (k + n) = w') :
    Calls P f args (w.drewN (k + n)) fun e w'' => e = .returned v ∧ ∃ m, w'' = w.drewN (k + m) := h.mono fun _ _ ⟨he, hm⟩ => ⟨he, n, hm.symm⟩

theorem grown_drewN {x w : World} (h : Grown x w) (n : Nat) : Grown x (w.drewN n) := h

namespace Li

/-- a literal -/
def isL (l : Int) : Bool := decide (0 ≤ l ∧ l ≤ 2001)
/-- a variable -/
def isV (v : Int) : Bool := decide (0 ≤ v ∧ v ≤ 1000)
/-- the negation of a literal -/
def ng (l : Int) : Int := if l % 2 = 0 then l + 1 else l - 1

theorem isL_yes {l : Int} (h : isL l = true) : 0 ≤ l ∧ l ≤ 2001 := by simpa [isL] using h
theorem isL_no {l : Int} (h : isL l = false) : l < 0 ∨ 2001 < l := by
  simp [isL] at h; omega
theorem isL_mk {l : Int} (h : 0 ≤ l) (h1 : l ≤ 2001) : isL l = true := by simp [isL]; omega
theorem isL_mk0 {l : Int} (h : l < 0) : isL l = false := by simp [isL]; omega
theorem isL_mk1 {l : Int} (h : 2001 < l) : isL l = false := by simp [isL]; omega
theorem isV_yes {l : Int} (h : isV l = true) : 0 ≤ l ∧ l ≤ 1000 := by simpa [isV] using h
theorem isV_no {l : Int} (h : isV l = false) : l < 0 ∨ 1000 < l := by
  simp [isV] at h; omega
theorem isV_mk {l : Int} (h : 0 ≤ l) (h1 : l ≤ 1000) : isV l = true := by simp [isV]; omega
theorem isV_mk0 {l : Int} (h : l < 0) : isV l = false := by simp [isV]; omega
theorem isV_mk1 {l : Int} (h : 1000 < l) : isV l = false := by simp [isV]; omega
theorem ng_bd {l : Int} (h : 0 ≤ l) (h1 : l ≤ 2001) : 0 ≤ ng l ∧ ng l ≤ 2001 := by unfold ng; split <;> omega
theorem ng_isL {l : Int} (h : isL l = true) : isL (ng l) = true := isL_mk (ng_bd (isL_yes h).1 (isL_yes h).2).1 (ng_bd (isL_yes h).1 (isL_yes h).2).2
theorem ng_ng (l : Int) : ng (ng l) = l := by unfold ng; split <;> split <;> omega
theorem ng_even {l : Int} (h : l % 2 = 0) : ng l = l + 1 := by unfold ng; rw [if_pos h]
theorem ng_odd {l : Int} (h : ¬ l % 2 = 0) : ng l = l - 1 := by unfold ng; rw [if_neg h]

theorem xor_nat : ∀ n : Nat, n < 2002 → bits .xor .i64 (n : Int) 1 = ng (n : Int) := by decide +kernel
theorem xor_ng {l : Int} (h : 0 ≤ l) (h1 : l ≤ 2001) : bits .xor .i64 l 1 = ng l := by
  have := xor_nat l.toNat (by omega)
  rwa [Int.toNat_of_nonneg h] at this

theorem ret_bool {a b : Bool} (h : a = b) : Ending.returned (.bool a) = .returned (.bool b) := by rw [h]

/-- is a literal negated? -/
def od (l : Int) : Bool := l % 2 == 1
/-- the AND of two literals: what it is, where it is simple -/
def sm (a b : Int) : Int × Bool :=
  if a = 0 ∨ b = 0 ∨ b = ng a then (0, true) else if a = 1 ∨ a = b then (b, true) else if b = 1 then (a, true) else (0, false)
/-- the value of a literal whose variable has the value v -/
def vl (l : Int) (v : Bool) : Bool := if l < 2 then l == 1 else v != od l

end Li

/-- the literal of a variable -/
def Li.mk (v : Int) (neg : Bool) : Int := if neg then 2 * v + 1 else 2 * v

theorem Li.sm_zero {a b : Int} (h : a = 0 ∨ b = 0 ∨ b = Li.ng a) : Li.sm a b = (0, true) := by unfold Li.sm; rw [if_pos h]
theorem Li.sm_b {a b : Int} (h : ¬ (a = 0 ∨ b = 0 ∨ b = Li.ng a)) (h1 : a = 1 ∨ a = b) : Li.sm a b = (b, true) := by unfold Li.sm; rw [if_neg h, if_pos h1]
theorem Li.sm_a {a b : Int} (h : ¬ (a = 0 ∨ b = 0 ∨ b = Li.ng a)) (h1 : ¬ (a = 1 ∨ a = b)) (h2 : b = 1) : Li.sm a b = (a, true) := by unfold Li.sm; rw [if_neg h, if_neg h1, if_pos h2]
theorem Li.sm_no {a b : Int} (h : ¬ (a = 0 ∨ b = 0 ∨ b = Li.ng a)) (h1 : ¬ (a = 1 ∨ a = b)) (h2 : ¬ b = 1) : Li.sm a b = (0, false) := by unfold Li.sm; rw [if_neg h, if_neg h1, if_neg h2]
theorem Li.ng_sym {a b : Int} (h : b = Li.ng a) : a = Li.ng b := by rw [h, Li.ng_ng]
theorem Li.ret_sm {x : Int × Bool} {a : Int} {b : Bool} (h : x = (a, b)) : Ending.returned (.tuple #[.int .i64 a, .bool b, .int .i64 0]) = .returned (.tuple #[.int .i64 x.1, .bool x.2, .int .i64 0]) := by rw [h]
theorem Li.ret_sm2 {x : Int × Bool} {a : Int} {b : Bool} (h : x = (a, b)) : Ending.returned (.tuple #[.int .i64 a, .bool b]) = .returned (.tuple #[.int .i64 x.1, .bool x.2]) := by rw [h]
theorem bq {a b : Int} (h : ¬ a = b) : (a == b) = false := beq_eq_false_iff_ne.2 h
theorem bt {a b : Int} (h : a = b) : (a == b) = true := beq_iff_eq.2 h

theorem Li.vl_lo {l : Int} {v : Bool} (h : l < 2) : Li.vl l v = (l == 1) := by unfold Li.vl; rw [if_pos h]
theorem Li.vl_hi {l : Int} {v : Bool} (h : ¬ l < 2) : Li.vl l v = (v != Li.od l) := by unfold Li.vl; rw [if_neg h]

theorem Li.od_lo {l : Int} (h : 0 ≤ l) (h2 : l < 2) : Li.od l = (l == 1) := by
  rcases (by omega : l = 0 ∨ l = 1) with rfl | rfl <;> rfl

theorem Li.ng_ne (l : Int) : (Li.ng l != l) = true := by rw [bne_iff_ne]; unfold Li.ng; split <;> omega
theorem Li.mk_own {l : Int} (h : 0 ≤ l) : Li.mk (l / 2) (Li.od l) = l := by
  unfold Li.mk Li.od
  by_cases h2 : l % 2 = 1
  · rw [if_pos (by simp [h2])]; omega
  · rw [if_neg (by simp [h2])]; omega
theorem Li.od_ng (l : Int) : Li.od (Li.ng l) = !Li.od l := by
  unfold Li.od Li.ng
  by_cases h2 : l % 2 = 0
  · rw [if_pos h2]
    have e1 : (l + 1) % 2 = 1 := by omega
    rw [e1, h2]; rfl
  · rw [if_neg h2]
    have e1 : (l - 1) % 2 = 0 := by omega
    have e2 : l % 2 = 1 := by omega
    rw [e1, e2]; rfl
theorem Li.vl_ng {l : Int} (v : Bool) (h : 0 ≤ l) : (Li.vl l v != Li.vl (Li.ng l) v) = true := by
  by_cases h2 : l < 2
  · rcases (by omega : l = 0 ∨ l = 1) with rfl | rfl <;> cases v <;> rfl
  · rw [Li.vl_hi h2, Li.vl_hi (by unfold Li.ng; split <;> omega), Li.od_ng]
    cases v <;> cases Li.od l <;> rfl
theorem Li.mk_half (v : Int) (n : Bool) : Li.mk v n / 2 = v := by cases n <;> simp [Li.mk]; omega
theorem Li.od_mk (v : Int) (n : Bool) : Li.od (Li.mk v n) = n := by
  cases n
  · simp [Li.mk, Li.od]
  · simp only [Li.mk, Li.od, if_true]; rw [bt (by omega)]
theorem Li.isL_mk_of {v : Int} (n : Bool) (h : Li.isV v = true) : Li.isL (Li.mk v n) = true := by
  have := Li.isV_yes h
  cases n
  · exact Li.isL_mk (by simp [Li.mk]; omega) (by simp [Li.mk]; omega)
  · exact Li.isL_mk (by simp [Li.mk]; omega) (by simp [Li.mk]; omega)
theorem Li.isV_half {l : Int} (h : Li.isL l = true) : Li.isV (l / 2) = true := by
  have := Li.isL_yes h
  exact Li.isV_mk (by omega) (by omega)
theorem Li.sm_comm (a b : Int) : Li.sm a b = Li.sm b a := by
  by_cases h : a = 0 ∨ b = 0 ∨ b = Li.ng a
  · rw [Li.sm_zero h, Li.sm_zero]
    rcases h with h | h | h
    · exact Or.inr (Or.inl h)
    · exact Or.inl h
    · exact Or.inr (Or.inr (Li.ng_sym h))
  have h' : ¬ (b = 0 ∨ a = 0 ∨ a = Li.ng b) := by
    intro g; apply h
    rcases g with g | g | g
    · exact Or.inr (Or.inl g)
    · exact Or.inl g
    · exact Or.inr (Or.inr (Li.ng_sym g))
  by_cases h1 : a = b
  · rw [h1]
  by_cases h2 : a = 1
  · rw [Li.sm_b h (Or.inl h2), Li.sm_a h' (by rintro (g | g); exact h1 (h2.trans g.symm); exact h1 g.symm) h2]
  by_cases h3 : b = 1
  · rw [Li.sm_b h' (Or.inl h3), Li.sm_a h (by rintro (g | g); exact h2 g; exact h1 g) h3]
  · rw [Li.sm_no h (by rintro (g | g); exact h2 g; exact h1 g) h3, Li.sm_no h' (by rintro (g | g); exact h3 g; exact h1 g.symm) h2]
theorem Li.ng_ne' (l : Int) : ¬ l = Li.ng l := by unfold Li.ng; split <;> omega
theorem Li.sm_self (a : Int) : Li.sm a a = (a, true) := by
  by_cases h : a = 0
  · rw [Li.sm_zero (Or.inl h), h]
  · exact Li.sm_b (by rintro (g | g | g); exact h g; exact h g; exact Li.ng_ne' _ g) (Or.inr rfl)
theorem Li.sm_one (a : Int) : Li.sm a 1 = (a, true) := by
  by_cases h : a = 0
  · rw [Li.sm_zero (Or.inl h), h]
  by_cases h1 : a = 1
  · subst h1; decide
  · exact Li.sm_a (by rintro (g | g | g); exact h g; exact absurd g (by decide); exact h (by have := Li.ng_sym g; rw [this]; decide)) (by rintro (g | g) <;> exact h1 g) rfl
theorem Li.sm_nul (a : Int) : Li.sm a 0 = (0, true) := Li.sm_zero (Or.inr (Or.inl rfl))
theorem Li.sm_not (a : Int) : Li.sm a (Li.ng a) = (0, true) := Li.sm_zero (Or.inr (Or.inr rfl))
/-- the rules of AND, over numbers -/
theorem Li.sm_rules {a b : Int} (f s : Bool) (ha : 0 ≤ a) (hb : 0 ≤ b) (h : (Li.sm a b).2 = true) (hs : a / 2 = b / 2 → s = f) :
    Li.vl (Li.sm a b).1 (if (Li.sm a b).1 / 2 = b / 2 then s else f) = (Li.vl a f && Li.vl b s) ∧ ((Li.sm a b).1 = a ∨ (Li.sm a b).1 = b ∨ (Li.sm a b).1 = 0) := by
  have v0 : ∀ v, Li.vl 0 v = false := fun v => rfl
  have v1 : ∀ v, Li.vl 1 v = true := fun v => rfl
  by_cases h1 : a = 0
  · subst h1; rw [Li.sm_zero (Or.inl rfl)]; simp [v0]
  by_cases h2 : b = 0
  · subst h2; rw [Li.sm_zero (Or.inr (Or.inl rfl))]; simp [v0]
  by_cases h3 : b = Li.ng a
  · rw [Li.sm_zero (Or.inr (Or.inr h3))]
    have hd : a / 2 = b / 2 := by rw [h3]; unfold Li.ng; split <;> omega
    have := Li.vl_ng f ha
    rw [← h3] at this
    rw [hs hd]
    refine ⟨?_, Or.inr (Or.inr rfl)⟩
    rw [v0]; revert this
    cases Li.vl a f <;> cases Li.vl b f <;> simp
  have hn : ¬ (a = 0 ∨ b = 0 ∨ b = Li.ng a) := by simp [h1, h2, h3]
  by_cases h4 : a = 1
  · subst h4; rw [Li.sm_b hn (Or.inl rfl)]; simp [v1]
  by_cases h5 : a = b
  · subst h5; rw [Li.sm_b hn (Or.inr rfl), hs rfl]; simp
  have hn2 : ¬ (a = 1 ∨ a = b) := by simp [h4, h5]
  by_cases h6 : b = 1
  · subst h6; rw [Li.sm_a hn hn2 rfl]
    have : ¬ a / 2 = 1 / 2 := by omega
    simp only [if_neg this]
    simp [v1]
  · rw [Li.sm_no hn hn2 h6] at h; simp at h
theorem Li.sm_simple {a b : Int} (ha : 0 ≤ a) (hb : 0 ≤ b) (h : (Li.sm a b).2 = false) : (Li.sm a b).1 = 0 ∧ 1 < a ∧ 1 < b ∧ ¬ a / 2 = b / 2 := by
  by_cases hn : a = 0 ∨ b = 0 ∨ b = Li.ng a
  · rw [Li.sm_zero hn] at h; simp at h
  by_cases hn2 : a = 1 ∨ a = b
  · rw [Li.sm_b hn hn2] at h; simp at h
  by_cases h6 : b = 1
  · rw [Li.sm_a hn hn2 h6] at h; simp at h
  rw [Li.sm_no hn hn2 h6]
  have h3 : ¬ b = Li.ng a := fun g => hn (Or.inr (Or.inr g))
  unfold Li.ng at h3
  refine ⟨rfl, by omega, by omega, ?_⟩
  split at h3 <;> omega
theorem Li.sm_isL {a b : Int} (ha : Li.isL a = true) (hb : Li.isL b = true) : Li.isL (Li.sm a b).1 = true := by
  unfold Li.sm
  split
  · rfl
  split
  · exact hb
  split
  · exact ha
  · rfl

end Go.Proofs.YtecmldnigohjfabDoor
