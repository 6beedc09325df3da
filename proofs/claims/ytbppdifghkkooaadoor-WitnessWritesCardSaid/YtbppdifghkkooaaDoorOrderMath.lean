/- What the reference of layer 3 says, as numbers: lists, errors, the order of the gates, the new variables. -/
import Derived.Test.YtbppdifghkkooaaDoorOrderMem
import Derived.Test.YtbppdifghkkooaaDoorGatesMore
namespace Go.Proofs.YtbppdifghkkooaaDoor
open Go.RowKit
set_option linter.unusedVariables false

/-- two numbers for each index -/
def twos (f g : Nat → Int) : Nat → List Int
  | 0 => []
  | n + 1 => twos f g n ++ [f n, g n]
theorem twos_len (f g : Nat → Int) : ∀ n, (twos f g n).length = 2 * n
  | 0 => rfl
  | n + 1 => by rw [twos, List.length_append, twos_len f g n]; simp; omega
theorem mem_twos {f g : Nat → Int} {x : Int} : ∀ {n : Nat}, x ∈ twos f g n ↔ ∃ j, j < n ∧ (f j = x ∨ g j = x)
  | 0 => by simp [twos]
  | n + 1 => by
    rw [twos, List.mem_append, mem_twos (n := n)]
    constructor
    · rintro (⟨j, hj, h⟩ | h)
      · exact ⟨j, by omega, h⟩
      · simp at h; exact ⟨n, by omega, by rcases h with h | h <;> simp [h]⟩
    · rintro ⟨j, hj, h⟩
      by_cases e : j = n
      · subst e; right; simp; rcases h with h | h <;> simp [h]
      · exact Or.inl ⟨j, by omega, h⟩

namespace Rw
variable (r : Rw)
/-- what is defined -/
def dL : List Int := lst r.ip r.ni ++ lst r.ll r.nl ++ lst r.gl r.na
/-- what is used -/
def uL : List Int := lst r.bd r.nb ++ lst r.cn r.nc ++ lst r.la r.nl ++ twos r.ga r.gb r.na
/-- numbers that a defined literal may be -/
def dOk (x : Int) : Bool := decide (2 ≤ x ∧ x % 2 = 0 ∧ x ≤ 2 * r.m + 1)
/-- numbers that a used literal may be -/
def uOk (x : Int) : Bool := decide (0 ≤ x ∧ x ≤ 2 * r.m + 1)
def reOk (x : Int) : Bool := decide (0 ≤ x ∧ x ≤ 2)
/-- the numbers are all such as they may be -/
def num : Bool := r.dL.all r.dOk && r.uL.all r.uOk && (lst r.lb r.nl).all reOk
/-- a variable is defined twice -/
def twi : Bool := decide (¬ (r.dL.map (· / 2)).Nodup)
/-- a variable that is not defined is used -/
def opn : Bool := r.uL.any fun x => decide (x / 2 ≠ 0 ∧ x / 2 ∉ r.dL.map (· / 2))
/-- too large -/
def big : Bool := decide (1000 < r.m ∨ 1000 < (r.ni + r.nl + r.na : Int) ∨ 100 < r.nb ∨ 100 < r.nc)

/-- what is ready at first -/
def rd0 (v : Int) : Bool := decide (v ∉ (lst r.gl r.na).map (· / 2))
/-- the gate may be taken -/
def may (B : Int → Bool) (i : Nat) : Bool := !B (r.gl i / 2) && B (r.ga i / 2) && B (r.gb i / 2)
/-- the first gate that may be taken -/
def fnd (B : Int → Bool) : Nat := (List.range r.na).findIdx (r.may B)
def upd {α : Type} (B : Int → α) (v : Int) (x : α) : Int → α := fun u => if u = v then x else B u
/-- behind k rounds: what is ready, and which gates were taken -/
def st : Nat → (Int → Bool) × List Nat
  | 0 => (r.rd0, [])
  | k + 1 => if r.fnd (st k).1 < r.na then (upd (st k).1 (r.gl (r.fnd (st k).1) / 2) true, (st k).2 ++ [r.fnd (st k).1]) else st k
/-- the order of the gates -/
def ord : List Nat := (r.st r.na).2
/-- what Check says -/
def chk : Int :=
  if r.m < 0 then 8 else if r.big = true then 4 else if r.num = false then 8 else if r.twi = true then 43 else if r.opn = true then 46 else if r.ord.length < r.na then 41 else 0

/-- the variables' literals in their new order -/
def oL : List Int := lst r.ip r.ni ++ lst r.ll r.nl ++ r.ord.map r.gl
/-- the new variables, behind k of them -/
def nwk : Nat → Int → Int
  | 0 => fun v => if v = 0 then 0 else -1
  | k + 1 => upd (nwk k) (r.oL.getD k 0 / 2) (k + 1)
/-- the new variables -/
def nw : Int → Int := r.nwk r.oL.length
/-- a literal by its new variable -/
def told (x : Int) : Int := 2 * r.nw (x / 2) + x % 2
/-- its circuit -/
def cir : Cr := ⟨r.ni, r.nl, r.ord.length, r.nb, r.nc, fun j => r.told (r.la j), r.lb, fun j => max (r.told (r.ga (r.ord.getD j 0))) (r.told (r.gb (r.ord.getD j 0))), fun j => min (r.told (r.ga (r.ord.getD j 0))) (r.told (r.gb (r.ord.getD j 0))), fun j => r.told (r.bd j), fun j => r.told (r.cn j)⟩

variable {r}
theorem fnd_le {B : Int → Bool} : r.fnd B ≤ r.na := by
  have := List.findIdx_le_length (xs := List.range r.na) (p := r.may B)
  simpa [fnd] using this
theorem fnd_may {B : Int → Bool} (h : r.fnd B < r.na) : r.may B (r.fnd B) = true := by
  have h' : r.fnd B < (List.range r.na).length := by simpa using h
  have h2 := List.findIdx_getElem (w := h')
  have e : (List.range r.na)[List.findIdx (r.may B) (List.range r.na)]'h' = r.fnd B := List.getElem_range h'
  exact (congrArg (r.may B) e).symm.trans h2
theorem fnd_min {B : Int → Bool} {i : Nat} (h : i < r.fnd B) : r.may B i = false := by
  have := List.not_of_lt_findIdx (xs := List.range r.na) (p := r.may B) (i := i) h
  simpa using this
theorem fnd_is {B : Int → Bool} {i : Nat} (hi : i < r.na) (h : r.may B i = true) (hm : ∀ j, j < i → r.may B j = false) : r.fnd B = i := by
  rcases Nat.lt_trichotomy (r.fnd B) i with h1 | h1 | h1
  · have := fnd_may (r := r) (B := B) (by omega)
    rw [hm _ h1] at this; cases this
  · exact h1
  · rw [fnd_min h1] at h; cases h
theorem fnd_no {B : Int → Bool} (h : ∀ j, j < r.na → r.may B j = false) : r.fnd B = r.na := by
  have := fnd_le (r := r) (B := B)
  rcases Nat.lt_or_ge (r.fnd B) r.na with h1 | h1
  · have h2 := fnd_may h1
    rw [h _ h1] at h2; cases h2
  · omega
theorem st_len (k : Nat) : (r.st k).2.length ≤ k := by
  induction k with
  | zero => simp [st]
  | succ k ih =>
    rw [st]
    split
    · simp; exact ih
    · omega
theorem st_stop {k : Nat} (h : r.fnd (r.st k).1 = r.na) : ∀ d, r.st (k + d) = r.st k
  | 0 => rfl
  | d + 1 => by
    have ih := st_stop h d
    show r.st (k + d + 1) = _
    rw [st, ih, if_neg (by omega)]
theorem st_done {k : Nat} (h : r.fnd (r.st k).1 = r.na) (hk : k ≤ r.na) : r.st r.na = r.st k := by
  have := st_stop h (r.na - k)
  rwa [Nat.add_sub_cancel' hk] at this
theorem st_go {k : Nat} (h : r.fnd (r.st k).1 < r.na) : r.st (k + 1) = (upd (r.st k).1 (r.gl (r.fnd (r.st k).1) / 2) true, (r.st k).2 ++ [r.fnd (r.st k).1]) := by
  rw [st, if_pos h]
theorem st_lt (k : Nat) : ∀ i ∈ (r.st k).2, i < r.na := by
  induction k with
  | zero => simp [st]
  | succ k ih =>
    rw [st]
    split
    · intro i hi
      simp at hi
      rcases hi with hi | hi
      · exact ih i hi
      · omega
    · exact ih
theorem ord_lt : ∀ i ∈ r.ord, i < r.na := st_lt _
theorem ord_len : r.ord.length ≤ r.na := st_len _
theorem ord_at {j : Nat} (h : j < r.ord.length) : r.ord.getD j 0 < r.na := by
  rw [List.getD_eq_getElem?_getD, List.getElem?_eq_getElem h]
  exact ord_lt _ (List.getElem_mem h)
end Rw
end Go.Proofs.YtbppdifghkkooaaDoor
