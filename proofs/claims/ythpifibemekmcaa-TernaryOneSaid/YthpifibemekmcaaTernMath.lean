/- Three truth values, their AND and negation; the ternary values of all variables in a frame, as a function of the variable. -/
import Derived.Test.YthpifibemekmcaaValuesMath
namespace Go.Proofs.Ythpifibemekmcaa
open Go.RowKit
set_option linter.unusedVariables false

/-- AND and negation of 0, 1, 2 -/
def tand (a b : Int) : Int := if a = 0 ∨ b = 0 then 0 else if a = 1 ∧ b = 1 then 1 else 2
def tneg (a : Int) : Int := if a = 0 then 1 else if a = 1 then 0 else 2
/-- a truth value -/
def isT (a : Int) : Prop := a = 0 ∨ a = 1 ∨ a = 2
theorem isT_mk {a : Int} (h0 : 0 ≤ a) (h1 : a ≤ 2) : isT a := by unfold isT; omega
theorem isT.lo {a : Int} (h : isT a) : 0 ≤ a ∧ a ≤ 2 := by unfold isT at h; omega
theorem tand_isT (a b : Int) : isT (tand a b) := by unfold tand isT; split <;> (try split) <;> omega
theorem tneg_isT (a : Int) : isT (tneg a) := by unfold tneg isT; split <;> (try split) <;> omega
/-- a value covers another one -/
def tcov (a b : Int) : Prop := a = 2 ∨ a = b
instance (a b : Int) : Decidable (tcov a b) := inferInstanceAs (Decidable (a = 2 ∨ a = b))
theorem tcov_and {a b x y : Int} (h : tcov a x) (h' : tcov b y) (hx : isT x) (hy : isT y) : tcov (tand a b) (tand x y) := by
  rcases hx with rfl | rfl | rfl <;> rcases hy with rfl | rfl | rfl <;> rcases h with rfl | rfl <;> rcases h' with rfl | rfl <;> unfold tcov <;> decide
theorem tcov_neg {a x : Int} (h : tcov a x) : tcov (tneg a) (tneg x) := by
  rcases h with rfl | rfl
  · exact Or.inl (by decide)
  · exact Or.inr rfl

/-- the value of a literal by those of all variables -/
def tlo (F : Nat → Int) (l : Int) : Int := if Li.od l = true then tneg (F (l / 2).toNat) else F (l / 2).toNat
theorem tlo_congr {F G : Nat → Int} {l : Int} (h : F (l / 2).toNat = G (l / 2).toNat) : tlo F l = tlo G l := by unfold tlo; rw [h]
theorem tlo_isT {F : Nat → Int} {l : Int} (h : isT (F (l / 2).toNat)) : isT (tlo F l) := by
  unfold tlo; split
  · exact tneg_isT _
  · exact h
theorem tcov_lo {F G : Nat → Int} {l : Int} (h : tcov (F (l / 2).toNat) (G (l / 2).toNat)) : tcov (tlo F l) (tlo G l) := by
  unfold tlo; split
  · exact tcov_neg h
  · exact h
/-- a truth value of two as one of three -/
def b3 (b : Bool) : Int := if b then 1 else 0
theorem b3_isT (b : Bool) : isT (b3 b) := by cases b <;> simp [b3, isT]
theorem b3_and (a b : Bool) : tand (b3 a) (b3 b) = b3 (a && b) := by cases a <;> cases b <;> decide
theorem b3_lo (F : Nat → Bool) (l : Int) : tlo (fun v => b3 (F v)) l = b3 (vlo F l) := by
  unfold tlo vlo
  show (if Li.od l = true then tneg (b3 (F (l / 2).toNat)) else b3 (F (l / 2).toNat)) = _
  generalize F (l / 2).toNat = x
  generalize Li.od l = y
  cases x <;> cases y <;> rfl

namespace Cr
/-- the ternary values when k gates have theirs: s the state, t the inputs -/
def tfA (c : Cr) (s t : Nat → Int) : Nat → Nat → Int
  | 0, v => if v = 0 then 0 else if v < 1 + c.i.toNat then t (v - 1) else if v < c.fg then s (v - (1 + c.i.toNat)) else 0
  | k + 1, v => if v = c.fg + k then tand (tlo (tfA c s t k) (c.ga k)) (tlo (tfA c s t k) (c.gb k)) else tfA c s t k v
/-- the ternary values of all variables -/
def tf (c : Cr) (s t : Nat → Int) : Nat → Int := c.tfA s t c.na
variable {c : Cr} {s t s' t' : Nat → Int}
theorem tfA_succ (c : Cr) (s t : Nat → Int) (k : Nat) : c.tfA s t (k + 1) = fun v => if v = c.fg + k then tand (tlo (c.tfA s t k) (c.ga k)) (tlo (c.tfA s t k) (c.gb k)) else c.tfA s t k v := rfl
theorem tfA_isT (hs : ∀ j, j < c.nl → isT (s j)) (ht : ∀ j, j < c.i.toNat → isT (t j)) : ∀ k v, isT (c.tfA s t k v)
  | 0, v => by
    unfold tfA
    split
    · exact Or.inl rfl
    · split
      · exact ht _ (by omega)
      · split
        · exact hs _ (by unfold fg at *; omega)
        · exact Or.inl rfl
  | k + 1, v => by
    rw [tfA_succ]
    show isT (if v = c.fg + k then _ else _)
    split
    · exact tand_isT _ _
    · exact tfA_isT hs ht k v
/-- it covers all that is two-valued -/
theorem tfA_cov (hs : ∀ j, j < c.nl → isT (s' j)) (ht : ∀ j, j < c.i.toNat → isT (t' j)) (cs : ∀ j, j < c.nl → tcov (s j) (s' j)) (ct : ∀ j, j < c.i.toNat → tcov (t j) (t' j)) : ∀ k v, tcov (c.tfA s t k v) (c.tfA s' t' k v)
  | 0, v => by
    unfold tfA
    split
    · exact Or.inr rfl
    · split
      · exact ct _ (by omega)
      · split
        · exact cs _ (by unfold fg at *; omega)
        · exact Or.inr rfl
  | k + 1, v => by
    rw [tfA_succ, tfA_succ]
    show tcov (if v = c.fg + k then _ else _) (if v = c.fg + k then _ else _)
    split
    · exact tcov_and (tcov_lo (tfA_cov hs ht cs ct k _)) (tcov_lo (tfA_cov hs ht cs ct k _)) (tlo_isT (tfA_isT hs ht k _)) (tlo_isT (tfA_isT hs ht k _))
    · exact tfA_cov hs ht cs ct k v
/-- without the third value they are those of two -/
theorem tfA_two (c : Cr) (s t : Nat → Bool) : ∀ k v, c.tfA (fun j => b3 (s j)) (fun j => b3 (t j)) k v = b3 (c.frA s t k v)
  | 0, v => by
    unfold tfA frA
    split
    · rfl
    · split
      · rfl
      · split <;> rfl
  | k + 1, v => by
    rw [tfA_succ, frA_succ]
    show (if v = c.fg + k then _ else _) = b3 (if v = c.fg + k then _ else _)
    have e : c.tfA (fun j => b3 (s j)) (fun j => b3 (t j)) k = fun v => b3 (c.frA s t k v) := funext (tfA_two c s t k)
    split
    · rw [e, b3_lo, b3_lo, b3_and]
    · rw [e]
/-- the next ternary state -/
def tnv (c : Cr) (s t : Nat → Int) (j : Nat) : Int := tlo (c.tf s t) (c.nx j)
theorem tf_isT (hs : ∀ j, j < c.nl → isT (s j)) (ht : ∀ j, j < c.i.toNat → isT (t j)) (v : Nat) : isT (c.tf s t v) := tfA_isT hs ht _ v
theorem tnv_isT (hs : ∀ j, j < c.nl → isT (s j)) (ht : ∀ j, j < c.i.toNat → isT (t j)) (v : Nat) : isT (c.tnv s t v) := tlo_isT (tf_isT hs ht _)
theorem tf_cov (hs : ∀ j, j < c.nl → isT (s' j)) (ht : ∀ j, j < c.i.toNat → isT (t' j)) (cs : ∀ j, j < c.nl → tcov (s j) (s' j)) (ct : ∀ j, j < c.i.toNat → tcov (t j) (t' j)) (v : Nat) : tcov (c.tf s t v) (c.tf s' t' v) := tfA_cov hs ht cs ct _ v
theorem tnv_cov (hs : ∀ j, j < c.nl → isT (s' j)) (ht : ∀ j, j < c.i.toNat → isT (t' j)) (cs : ∀ j, j < c.nl → tcov (s j) (s' j)) (ct : ∀ j, j < c.i.toNat → tcov (t j) (t' j)) (v : Nat) : tcov (c.tnv s t v) (c.tnv s' t' v) := tcov_lo (tf_cov hs ht cs ct _)
theorem tf_two (c : Cr) (s t : Nat → Bool) (v : Nat) : c.tf (fun j => b3 (s j)) (fun j => b3 (t j)) v = b3 (c.fr s t v) := tfA_two c s t _ v
theorem tnv_two (c : Cr) (s t : Nat → Bool) (j : Nat) : c.tnv (fun j => b3 (s j)) (fun j => b3 (t j)) j = b3 (vlo (c.fr s t) (c.nx j)) := by
  unfold tnv
  rw [show c.tf (fun j => b3 (s j)) (fun j => b3 (t j)) = fun v => b3 (c.fr s t v) from funext (tf_two c s t), b3_lo]
end Cr
end Go.Proofs.Ythpifibemekmcaa
