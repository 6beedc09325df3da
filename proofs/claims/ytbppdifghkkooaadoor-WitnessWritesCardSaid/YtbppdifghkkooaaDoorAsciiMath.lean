/- The text of a raw circuit, as a list of bytes; how long it is; that different raw circuits have different texts. -/
import Derived.Test.YtbppdifghkkooaaDoorOrderMath
import Derived.Lib.ItoaMem
namespace Go.Proofs.YtbppdifghkkooaaDoor
open Go.RowKit
set_option linter.unusedVariables false

/-- the digits of a number -/
abbrev dgs (x : Int) : List UInt8 := Lib.itoa x
/-- what a line has up to its number n -/
def par (f : Nat → Int) : Nat → List UInt8
  | 0 => []
  | k + 1 => (par f k ++ if k = 0 then [] else [32]) ++ dgs (f k)
/-- a line of numbers -/
def lin (f : Nat → Int) (n : Nat) : List UInt8 := par f n ++ [10]
/-- a line of one, two, three numbers -/
def one (x : Int) : Nat → Int := fun _ => x
def tri (x y z : Int) : Nat → Int := fun j => if j = 0 then x else if j = 1 then y else z
/-- lines of one number -/
def ech (f : Nat → Int) : Nat → List UInt8
  | 0 => []
  | k + 1 => ech f k ++ lin (one (f k)) 1
/-- lines of three numbers -/
def gts (f g h : Nat → Int) : Nat → List UInt8
  | 0 => []
  | k + 1 => gts f g h k ++ lin (tri (f k) (g k) (h k)) 3
/-- how many numbers the line of a latch has, and which one is the third -/
def ltn (b : Int) : Nat := if b = 1 then 3 else if b = 2 then 3 else 2
def lt3 (l b : Int) : Int := if b = 1 then 1 else l
/-- lines of latches -/
def lts (f g h : Nat → Int) : Nat → List UInt8
  | 0 => []
  | k + 1 => lts f g h k ++ lin (tri (f k) (g k) (lt3 (f k) (h k))) (ltn (h k))
namespace Rw
/-- the numbers of the first line -/
def hd (r : Rw) : Nat → Int := fun j => if j = 0 then r.m else if j = 1 then r.ni else if j = 2 then r.nl else if j = 3 then 0 else if j = 4 then r.na else if j = 5 then r.nb else r.nc
/-- the text -/
def txt (r : Rw) : List UInt8 := [97, 97, 103, 32] ++ lin r.hd 7 ++ ech r.ip r.ni ++ lts r.ll r.la r.lb r.nl ++ ech r.bd r.nb ++ ech r.cn r.nc ++ gts r.gl r.ga r.gb r.na
/-- how many lines it has -/
def lns (r : Rw) : Int := 1 + r.ni + r.nl + r.nb + r.nc + r.na
end Rw

theorem par_succ (f : Nat → Int) (k : Nat) : par f (k + 1) = (par f k ++ if k = 0 then [] else [32]) ++ dgs (f k) := rfl
theorem par_congr {f g : Nat → Int} : ∀ {n : Nat}, (∀ j, j < n → f j = g j) → par f n = par g n
  | 0, _ => rfl
  | n + 1, h => by rw [par_succ, par_succ, par_congr (n := n) fun j hj => h j (by omega), h n (by omega)]
theorem lin_congr {f g : Nat → Int} {n : Nat} (h : ∀ j, j < n → f j = g j) : lin f n = lin g n := by rw [lin, lin, par_congr h]

/-! ### lengths -/
theorem nDigits_le (u k : Nat) (h : u < 10 ^ (k + 1)) : Lib.nDigits u ≤ k + 1 := by
  induction k generalizing u with
  | zero => rw [Lib.nDigits_small (by simpa using h)]; omega
  | succ k ih =>
    by_cases h1 : u < 10
    · rw [Lib.nDigits_small h1]; omega
    · rw [Lib.nDigits_big h1]
      have := ih (u / 10) (by rw [Nat.pow_succ] at h; omega)
      omega
theorem dgs_nat (x : Int) (h : 0 ≤ x) : dgs x = Lib.decDigits x.toNat := by
  have := Lib.itoa_nonneg x.toNat
  rwa [Int.toNat_of_nonneg h] at this
theorem dgs_len {x : Int} (h0 : 0 ≤ x) (h1 : x ≤ 9999) : (dgs x).length ≤ 4 := by
  rw [dgs_nat x h0, Lib.decDigits_length]
  exact nDigits_le _ 3 (by omega)
theorem dgs_pos {x : Int} (h0 : 0 ≤ x) : 1 ≤ (dgs x).length := by
  rw [dgs_nat x h0, Lib.decDigits_length]
  exact Lib.nDigits_pos _
theorem par_len {f : Nat → Int} : ∀ {n : Nat}, (∀ j, j < n → 0 ≤ f j ∧ f j ≤ 9999) → (par f n).length ≤ 5 * n
  | 0, _ => Nat.le_refl _
  | n + 1, h => by
    have h1 := par_len (n := n) fun j hj => h j (by omega)
    have h2 := dgs_len (h n (by omega)).1 (h n (by omega)).2
    rw [par_succ, List.length_append, List.length_append]
    have h3 : (if n = 0 then ([] : List UInt8) else [32]).length ≤ 1 := by split <;> simp
    omega
theorem lin_len {f : Nat → Int} {n : Nat} (h : ∀ j, j < n → 0 ≤ f j ∧ f j ≤ 9999) : (lin f n).length ≤ 5 * n + 1 := by
  have := par_len h
  rw [lin, List.length_append]
  simpa using this
theorem tri_bd {x y z : Int} {j : Nat} (hx : 0 ≤ x ∧ x ≤ 9999) (hy : 0 ≤ y ∧ y ≤ 9999) (hz : 0 ≤ z ∧ z ≤ 9999) : 0 ≤ tri x y z j ∧ tri x y z j ≤ 9999 := by
  unfold tri; split
  · exact hx
  · split
    · exact hy
    · exact hz
theorem ech_len {f : Nat → Int} : ∀ {n : Nat}, (∀ j, j < n → 0 ≤ f j ∧ f j ≤ 9999) → (ech f n).length ≤ 6 * n
  | 0, _ => Nat.le_refl _
  | n + 1, h => by
    have h1 := ech_len (n := n) fun j hj => h j (by omega)
    have h2 := lin_len (f := one (f n)) (n := 1) fun j _ => h n (by omega)
    rw [ech, List.length_append]
    omega
theorem gts_len {f g h : Nat → Int} : ∀ {n : Nat}, (∀ j, j < n → 0 ≤ f j ∧ f j ≤ 9999) → (∀ j, j < n → 0 ≤ g j ∧ g j ≤ 9999) → (∀ j, j < n → 0 ≤ h j ∧ h j ≤ 9999) → (gts f g h n).length ≤ 16 * n
  | 0, _, _, _ => Nat.le_refl _
  | n + 1, a, b, c => by
    have h1 := gts_len (n := n) (fun j hj => a j (by omega)) (fun j hj => b j (by omega)) (fun j hj => c j (by omega))
    have h2 := lin_len (f := tri (f n) (g n) (h n)) (n := 3) fun j _ => tri_bd (a n (by omega)) (b n (by omega)) (c n (by omega))
    rw [gts, List.length_append]
    omega
theorem ltn_le (b : Int) : 2 ≤ ltn b ∧ ltn b ≤ 3 := by unfold ltn; split; omega; split <;> omega
theorem lt3_bd {l b : Int} (h : 0 ≤ l ∧ l ≤ 9999) : 0 ≤ lt3 l b ∧ lt3 l b ≤ 9999 := by unfold lt3; split; omega; exact h
theorem lts_len {f g h : Nat → Int} : ∀ {n : Nat}, (∀ j, j < n → 0 ≤ f j ∧ f j ≤ 9999) → (∀ j, j < n → 0 ≤ g j ∧ g j ≤ 9999) → (lts f g h n).length ≤ 16 * n
  | 0, _, _ => Nat.le_refl _
  | n + 1, a, b => by
    have h1 := lts_len (h := h) (n := n) (fun j hj => a j (by omega)) (fun j hj => b j (by omega))
    have h2 := lin_len (f := tri (f n) (g n) (lt3 (f n) (h n))) (n := ltn (h n)) fun j _ => tri_bd (a n (by omega)) (b n (by omega)) (lt3_bd (a n (by omega)))
    have h3 := ltn_le (h n)
    rw [lts, List.length_append]
    omega

/-! ### one text for each: a line is read back -/
theorem decDigits_dig : ∀ (u : Nat), ∀ c ∈ Lib.decDigits u, 48 ≤ c.toNat ∧ c.toNat ≤ 57 := by
  intro u
  induction u using Nat.strongRecOn with
  | _ u ih =>
    intro c hc
    rw [Lib.decDigits] at hc
    split at hc
    · rw [List.mem_singleton] at hc; subst hc
      rw [UInt8.toNat_ofNat']; omega
    · rw [List.mem_append] at hc
      rcases hc with hc | hc
      · exact ih (u / 10) (by omega) c hc
      · rw [List.mem_singleton] at hc; subst hc
        rw [UInt8.toNat_ofNat']; omega
/-- the number of some digits -/
def num10 (l : List UInt8) : Nat := l.foldl (fun a c => 10 * a + (c.toNat - 48)) 0
theorem num10_digits (u : Nat) : num10 (Lib.decDigits u) = u := by
  induction u using Nat.strongRecOn with
  | _ u ih =>
    rw [Lib.decDigits]
    split
    · next h =>
      show 10 * 0 + ((UInt8.ofNat (48 + u)).toNat - 48) = u
      rw [UInt8.toNat_ofNat']; omega
    · next h =>
      rw [num10, List.foldl_append]
      have := ih (u / 10) (by omega)
      rw [num10] at this
      rw [this]
      show 10 * (u / 10) + ((UInt8.ofNat (48 + u % 10)).toNat - 48) = u
      rw [UInt8.toNat_ofNat']; omega
/-- digits, and then something that is none: read in one way -/
theorem split_dig {a b s t : List UInt8} (ha : ∀ c ∈ a, 48 ≤ c.toNat ∧ c.toNat ≤ 57) (hb : ∀ c ∈ b, 48 ≤ c.toNat ∧ c.toNat ≤ 57) (hs : ∀ c ∈ s.head?, c.toNat < 48) (ht : ∀ c ∈ t.head?, c.toNat < 48) (h : a ++ s = b ++ t) : a = b ∧ s = t := by
  induction a generalizing b with
  | nil =>
    cases b with
    | nil => exact ⟨rfl, h⟩
    | cons y b =>
      rw [List.nil_append] at h
      have h1 := hs y (by rw [h]; rfl)
      have h2 := hb y (by simp)
      omega
  | cons x a ih =>
    cases b with
    | nil =>
      rw [List.nil_append] at h
      have h1 := ht x (by rw [← h]; rfl)
      have h2 := ha x (by simp)
      omega
    | cons y b =>
      rw [List.cons_append, List.cons_append] at h
      injection h with h1 h2
      have := ih (b := b) (fun c hc => ha c (by simp [hc])) (fun c hc => hb c (by simp [hc])) h2
      exact ⟨by rw [h1, this.1], this.2⟩
theorem dgs_inj {x y : Int} {s t : List UInt8} (hx : 0 ≤ x) (hy : 0 ≤ y) (hs : ∀ c ∈ s.head?, c.toNat < 48) (ht : ∀ c ∈ t.head?, c.toNat < 48) (h : dgs x ++ s = dgs y ++ t) : x = y ∧ s = t := by
  rw [dgs_nat x hx, dgs_nat y hy] at h
  obtain ⟨h1, h2⟩ := split_dig (decDigits_dig _) (decDigits_dig _) hs ht h
  have := congrArg num10 h1
  rw [num10_digits, num10_digits] at this
  exact ⟨by omega, h2⟩
/-- what stands behind the first number of a line -/
def rst (f : Nat → Int) : Nat → List UInt8
  | 0 => []
  | k + 1 => [32] ++ dgs (f 0) ++ rst (fun j => f (j + 1)) k
theorem rst_snoc (f : Nat → Int) : ∀ k, rst f (k + 1) = rst f k ++ [32] ++ dgs (f k)
  | 0 => by simp [rst]
  | k + 1 => by
    rw [rst, rst_snoc (fun j => f (j + 1)) k, rst]
    simp [List.append_assoc]
theorem par_rst (f : Nat → Int) : ∀ k, par f (k + 1) = dgs (f 0) ++ rst (fun j => f (j + 1)) k
  | 0 => by simp [par, rst]
  | k + 1 => by
    rw [par_succ, par_rst f k, rst_snoc]
    simp [List.append_assoc]
theorem head_ten (s : List UInt8) : ∀ c ∈ ([10] ++ s).head?, c.toNat < 48 := by
  intro c hc; simp at hc; subst hc; decide
theorem head_rst (f : Nat → Int) (k : Nat) (s : List UInt8) : ∀ c ∈ (rst f k ++ ([10] ++ s)).head?, c.toNat < 48 := by
  intro c hc
  cases k with
  | zero => simp [rst] at hc; subst hc; decide
  | succ k => simp [rst] at hc; subst hc; decide
theorem rst_inj : ∀ (k m : Nat) (f g : Nat → Int) (s t : List UInt8), (∀ j, j < k → 0 ≤ f j) → (∀ j, j < m → 0 ≤ g j) → rst f k ++ ([10] ++ s) = rst g m ++ ([10] ++ t) → k = m ∧ (∀ j, j < k → f j = g j) ∧ s = t
  | 0, 0, f, g, s, t, _, _, h => by
    simp [rst] at h
    exact ⟨rfl, fun j hj => absurd hj (Nat.not_lt_zero _), h⟩
  | 0, m + 1, f, g, s, t, _, _, h => by simp [rst] at h
  | k + 1, 0, f, g, s, t, _, _, h => by simp [rst] at h
  | k + 1, m + 1, f, g, s, t, hf, hg, h => by
    rw [rst, rst, List.append_assoc, List.append_assoc, List.append_assoc, List.append_assoc] at h
    have h := (List.append_cancel_left h)
    obtain ⟨h1, h2⟩ := dgs_inj (hf 0 (by omega)) (hg 0 (by omega)) (head_rst _ _ _) (head_rst _ _ _) h
    obtain ⟨h3, h4, h5⟩ := rst_inj k m _ _ s t (fun j hj => hf (j + 1) (by omega)) (fun j hj => hg (j + 1) (by omega)) h2
    refine ⟨by omega, fun j hj => ?_, h5⟩
    cases j with
    | zero => exact h1
    | succ j => exact h4 j (by omega)
/-- a line of at least one number, and what follows, is read in one way -/
theorem lin_inj {f g : Nat → Int} {k m : Nat} {s t : List UInt8} (hf : ∀ j, j < k → 0 ≤ f j) (hg : ∀ j, j < m → 0 ≤ g j) (hk : 1 ≤ k) (hm : 1 ≤ m) (h : lin f k ++ s = lin g m ++ t) : k = m ∧ (∀ j, j < k → f j = g j) ∧ s = t := by
  obtain ⟨k, rfl⟩ : ∃ k', k = k' + 1 := ⟨k - 1, by omega⟩
  obtain ⟨m, rfl⟩ : ∃ m', m = m' + 1 := ⟨m - 1, by omega⟩
  rw [lin, lin, par_rst, par_rst, List.append_assoc, List.append_assoc, List.append_assoc, List.append_assoc] at h
  obtain ⟨h1, h2⟩ := dgs_inj (hf 0 (by omega)) (hg 0 (by omega)) (head_rst _ _ _) (head_rst _ _ _) h
  obtain ⟨h3, h4, h5⟩ := rst_inj k m _ _ s t (fun j hj => hf (j + 1) (by omega)) (fun j hj => hg (j + 1) (by omega)) h2
  refine ⟨by omega, fun j hj => ?_, h5⟩
  cases j with
  | zero => exact h1
  | succ j => exact h4 j (by omega)
/-- lines from the front -/
def ecf (f : Nat → Int) (L : Nat → List UInt8) : Nat → List UInt8
  | 0 => []
  | k + 1 => L 0 ++ ecf f (fun j => L (j + 1)) k
def flt (L : Nat → List UInt8) : Nat → List UInt8
  | 0 => []
  | k + 1 => flt L k ++ L k
theorem flt_front (L : Nat → List UInt8) : ∀ k, flt L (k + 1) = L 0 ++ flt (fun j => L (j + 1)) k
  | 0 => by simp [flt]
  | k + 1 => by rw [flt, flt_front L k, flt]; simp [List.append_assoc]
theorem ech_flt (f : Nat → Int) : ∀ k, ech f k = flt (fun j => lin (one (f j)) 1) k
  | 0 => rfl
  | k + 1 => by rw [ech, flt, ech_flt f k]
theorem gts_flt (f g h : Nat → Int) : ∀ k, gts f g h k = flt (fun j => lin (tri (f j) (g j) (h j)) 3) k
  | 0 => rfl
  | k + 1 => by rw [gts, flt, gts_flt f g h k]
theorem lts_flt (f g h : Nat → Int) : ∀ k, lts f g h k = flt (fun j => lin (tri (f j) (g j) (lt3 (f j) (h j))) (ltn (h j))) k
  | 0 => rfl
  | k + 1 => by rw [lts, flt, lts_flt f g h k]
/-- as many lines, each of which is read in one way -/
theorem flt_inj {X : Type} (R : Nat → Prop) : ∀ (k : Nat) (L M : Nat → List UInt8) (s t : List UInt8), (∀ j, j < k → ∀ s t, L j ++ s = M j ++ t → L j = M j ∧ s = t) → flt L k ++ s = flt M k ++ t → (∀ j, j < k → L j = M j) ∧ s = t
  | 0, L, M, s, t, _, h => ⟨fun j hj => absurd hj (Nat.not_lt_zero _), by simpa [flt] using h⟩
  | k + 1, L, M, s, t, hi, h => by
    rw [flt_front, flt_front, List.append_assoc, List.append_assoc] at h
    obtain ⟨h1, h2⟩ := hi 0 (by omega) _ _ h
    obtain ⟨h3, h4⟩ := flt_inj (X := X) R k _ _ s t (fun j hj => hi (j + 1) (by omega)) h2
    refine ⟨fun j hj => ?_, h4⟩
    cases j with
    | zero => exact h1
    | succ j => exact h3 j (by omega)
end Go.Proofs.YtbppdifghkkooaaDoor
