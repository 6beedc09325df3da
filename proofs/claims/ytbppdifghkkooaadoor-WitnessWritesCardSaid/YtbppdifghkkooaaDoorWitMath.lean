/- A run that shows a bad literal, as text: the circuit with one bad literal, the error of an index, the rows of a text and what is read of them. -/
import Derived.Test.YtbppdifghkkooaaDoorTraceProps
import Derived.Test.YtbppdifghkkooaaDoorTraceRef4
import Derived.Test.YtbppdifghkkooaaDoorReadPa
import Derived.Lib.Join
import Derived.Lib.AtoiAll
namespace Go.Proofs.YtbppdifghkkooaaDoor
open Go Go.RowKit
set_option linter.unusedVariables false
set_option linter.unusedSimpArgs false

/-! ### truth values as digits -/
def d01 (f : Nat → Bool) (n : Nat) : List UInt8 := (List.range n).map fun j => if f j = true then 49 else 48
theorem d01_len (f : Nat → Bool) (n : Nat) : (d01 f n).length = n := by simp [d01]
theorem d01_succ (f : Nat → Bool) (n : Nat) : d01 f (n + 1) = d01 f n ++ [if f n = true then 49 else 48] := by unfold d01; rw [List.range_succ, List.map_append]; rfl
theorem d01_mem {f : Nat → Bool} {n : Nat} : ∀ y ∈ d01 f n, y = 48 ∨ y = 49 := fun y hy => by
  unfold d01 at hy
  obtain ⟨j, _, rfl⟩ := List.mem_map.1 hy
  split
  · exact Or.inr rfl
  · exact Or.inl rfl
theorem d01_no {f : Nat → Bool} {n : Nat} : ∀ y ∈ d01 f n, y ≠ (10 : UInt8) := fun y hy e => by
  rcases d01_mem y hy with h | h <;> rw [h] at e <;> exact absurd e (by decide)
theorem d01_at {f : Nat → Bool} {n j : Nat} (h : j < n) : (d01 f n).getD j 0 = if f j = true then 49 else 48 := by
  unfold d01
  rw [List.getD_eq_getElem?_getD, List.getElem?_map, List.getElem?_range h]; rfl
theorem d01_congr {f g : Nat → Bool} {n : Nat} (h : ∀ j, j < n → f j = g j) : d01 f n = d01 g n := by
  unfold d01
  exact List.map_congr_left fun j hj => by rw [h j (List.mem_range.1 hj)]
/-- a row of so many digits -/
def isD (s : List UInt8) (n : Nat) : Bool := decide (s.length = n ∧ ∀ c ∈ s, c = 48 ∨ c = 49)
def bvD (s : List UInt8) (j : Nat) : Bool := s.getD j 0 == 49
theorem isD_d01 (f : Nat → Bool) (n : Nat) : isD (d01 f n) n = true := decide_eq_true ⟨d01_len f n, d01_mem⟩
theorem bvD_d01 {f : Nat → Bool} {n j : Nat} (h : j < n) : bvD (d01 f n) j = f j := by
  unfold bvD
  rw [d01_at h]
  cases f j <;> rfl
theorem d01_bvD {s : List UInt8} {n : Nat} (h : isD s n = true) : d01 (bvD s) n = s := by
  obtain ⟨hl, hc⟩ := of_decide_eq_true h
  subst hl
  apply List.ext_getElem
  · rw [d01_len]
  · intro j h1 h2
    have h3 := d01_at (f := bvD s) h2
    rw [List.getD_eq_getElem?_getD, List.getElem?_eq_getElem h1] at h3
    have h4 := hc s[j] (List.getElem_mem _)
    simp only [Option.getD_some] at h3
    rw [h3]
    unfold bvD
    rw [List.getD_eq_getElem?_getD, List.getElem?_eq_getElem h2]
    simp only [Option.getD_some]
    rcases h4 with h4 | h4 <;> rw [h4] <;> decide

/-! ### the text of a run -/
def rwL (t : Tr) (b : Int) : List (List UInt8) := dgs b :: d01 t.fi t.nf :: (List.range t.ni).map fun j => d01 (t.ip j) (t.ln j)
def mdl (t : Tr) (b : Int) : List UInt8 := Lib.join (rwL t b) [10]
def wtx (t : Tr) (b : Int) : List UInt8 := [49, 10, 98] ++ (mdl t b ++ [10, 46, 10])
theorem pcs_join (c : UInt8) : ∀ (x : List UInt8) (L : List (List UInt8)), (∀ p ∈ x :: L, ∀ y ∈ p, y ≠ c) → pcs c (Lib.join (x :: L) [c]) = x :: L
  | x, [], h => by rw [Lib.join_one, pcs_one (h x (by simp))]
  | x, y :: L, h => by
    have e : x ++ Lib.joinTail [c] (y :: L) = x ++ c :: Lib.join (y :: L) [c] := by rw [Lib.join_cons]; simp [Lib.joinTail]
    rw [Lib.join_cons, e, pcs_app _ (h x (by simp)), pcs_join c y L fun p hp => h p (List.mem_cons_of_mem _ hp)]
theorem join_pcs (c : UInt8) : ∀ s, Lib.join (pcs c s) [c] = s
  | [] => by rw [pcs, Lib.join_one]
  | x :: xs => by
    have ih := join_pcs c xs
    cases hp : pcs c xs with
    | nil => exact absurd hp (pcs_ne c xs)
    | cons p ps =>
      rw [hp, Lib.join_cons] at ih
      by_cases hx : x = c
      · subst hx
        rw [pcs, if_pos rfl, hp, Lib.join_cons, ← ih]
        simp [Lib.joinTail]
      · rw [pcs_cons hx hp, Lib.join_cons, List.cons_append, ih]
theorem rwL_no {t : Tr} {b : Int} (hb : 0 ≤ b) : ∀ p ∈ rwL t b, ∀ y ∈ p, y ≠ (10 : UInt8) := fun p hp => by
  unfold rwL at hp
  rcases List.mem_cons.1 hp with rfl | hp
  · exact dgs_no hb (by decide)
  · rcases List.mem_cons.1 hp with rfl | hp
    · exact d01_no
    · obtain ⟨j, _, rfl⟩ := List.mem_map.1 hp
      exact d01_no
theorem mdl_pcs {t : Tr} {b : Int} (hb : 0 ≤ b) : pcs 10 (mdl t b) = rwL t b := pcs_join 10 _ _ (rwL_no hb)

/-! ### what stands between head and end -/
def okM (s : List UInt8) : Bool := decide (6 ≤ s.length ∧ s.take 3 = [49, 10, 98] ∧ s.drop (s.length - 3) = [10, 46, 10])
def mid (s : List UInt8) : List UInt8 := (s.drop 3).take (s.length - 6)
theorem okM_of (m : List UInt8) : okM ([49, 10, 98] ++ (m ++ [10, 46, 10])) = true := by
  refine decide_eq_true ⟨by simp, rfl, ?_⟩
  rw [← List.append_assoc]
  exact List.drop_left' (by simp)
theorem mid_of (m : List UInt8) : mid ([49, 10, 98] ++ (m ++ [10, 46, 10])) = m := by
  unfold mid
  rw [List.drop_left' (by rfl)]
  exact List.take_left' (by simp)
theorem okM_eq {s : List UInt8} (h : okM s = true) : s = [49, 10, 98] ++ (mid s ++ [10, 46, 10]) := by
  obtain ⟨h1, h2, h3⟩ := of_decide_eq_true h
  have e1 := List.take_append_drop 3 s
  have e2 := List.take_append_drop (s.length - 6) (s.drop 3)
  have e3 : (s.drop 3).drop (s.length - 6) = [10, 46, 10] := by rw [List.drop_drop, show 3 + (s.length - 6) = s.length - 3 by omega]; exact h3
  rw [e3] at e2
  unfold mid
  rw [e2]
  rw [h2] at e1
  exact e1.symm
/-- its rows -/
def mL (s : List UInt8) : List (List UInt8) := pcs 10 (mid s)
abbrev mR (s : List UInt8) (j : Nat) : List UInt8 := (mL s).getD j []
/-- a text of rows -/
def wOk (c : Cr) (s : List UInt8) : Bool := okM s && decide (3 ≤ (mL s).length ∧ (mL s).length ≤ 102) && (nbr (mR s 0)).isSome && isD (mR s 1) c.nl && decide (∀ j, j < (mL s).length - 2 → isD (mR s (2 + j)) c.i.toNat = true)
def wBd (s : List UInt8) : Nat := (nbr (mR s 0)).getD 0
def wTr (c : Cr) (s : List UInt8) : Tr := ⟨c.nl, bvD (mR s 1), (mL s).length - 2, fun _ => c.i.toNat, fun j => bvD (mR s (2 + j))⟩
structure WOk (c : Cr) (s : List UInt8) : Prop where
  m : okM s = true
  n : 3 ≤ (mL s).length ∧ (mL s).length ≤ 102
  b : nbr (mR s 0) = some (wBd s)
  f : isD (mR s 1) c.nl = true
  r : ∀ j, j < (mL s).length - 2 → isD (mR s (2 + j)) c.i.toNat = true
theorem wOk_iff {c : Cr} {s : List UInt8} : wOk c s = true ↔ WOk c s := by
  unfold wOk
  simp only [Bool.and_eq_true, decide_eq_true_eq]
  constructor
  · rintro ⟨⟨⟨⟨h1, h2⟩, h3⟩, h4⟩, h5⟩
    refine ⟨h1, h2, ?_, h4, h5⟩
    obtain ⟨x, hx⟩ := Option.isSome_iff_exists.1 h3
    unfold wBd
    rw [hx]; rfl
  · intro h
    exact ⟨⟨⟨⟨h.m, h.n⟩, by rw [h.b]; rfl⟩, h.f⟩, h.r⟩
theorem wOk_no {c : Cr} {s : List UInt8} (h : ¬ WOk c s) : wOk c s = false := by
  cases e : wOk c s
  · rfl
  · exact absurd (wOk_iff.1 e) h

/-! ### the lines of the whole text -/
theorem lines_of {s : List UInt8} (h : okM s = true) {x : List UInt8} {xs : List (List UInt8)} (hx : mL s = x :: xs) : pcs 10 s = [49] :: (98 :: x) :: (xs ++ [[46], []]) := by
  have e := okM_eq h
  have e1 : pcs 10 (mid s ++ [10, 46, 10]) = (x :: xs) ++ [[46], []] := by
    have a1 : mid s ++ [10, 46, 10] = (mid s ++ 10 :: [46]) ++ 10 :: [] := by simp
    have hm : pcs 10 (mid s) = x :: xs := hx
    rw [a1, pcs_snoc (by simp), pcs_snoc (by intro y hy; rw [List.mem_singleton] at hy; rw [hy]; decide), hm]
    simp
  have e2 : ([49, 10, 98] ++ (mid s ++ [10, 46, 10]) : List UInt8) = [49] ++ 10 :: (98 :: (mid s ++ [10, 46, 10])) := rfl
  rw [e, e2, pcs_app _ (by intro y hy; rw [List.mem_singleton] at hy; rw [hy]; decide), pcs_cons (by decide) (show pcs 10 (mid s ++ [10, 46, 10]) = x :: (xs ++ [[46], []]) from e1)]
/-- the lines are those of a text of rows -/
def rOk (L : List (List UInt8)) : Prop := 6 ≤ L.length ∧ L.length ≤ 105 ∧ L.getD (L.length - 1) [] = [] ∧ L.getD (L.length - 2) [] = [46] ∧ L.getD 0 [] = [49] ∧ 2 ≤ (L.getD 1 []).length ∧ (L.getD 1 []).getD 0 0 = 98
theorem two_last {α : Type} {R : List α} (d : α) (h : 2 ≤ R.length) : R = R.take (R.length - 2) ++ [R.getD (R.length - 2) d, R.getD (R.length - 1) d] := by
  have e1 := (List.take_append_drop (R.length - 2) R).symm
  have e2 : R.drop (R.length - 2) = [R.getD (R.length - 2) d, R.getD (R.length - 1) d] := by
    rw [List.drop_eq_getElem_cons (by omega), List.drop_eq_getElem_cons (by omega), List.drop_of_length_le (by omega), List.getD_eq_getElem?_getD, List.getD_eq_getElem?_getD, List.getElem?_eq_getElem (by omega), List.getElem?_eq_getElem (by omega)]
    simp only [Option.getD_some]
    congr 2
    congr 1
    omega
  rw [e2] at e1
  exact e1
theorem okM_lines {s : List UInt8} (h : rOk (pcs 10 s)) : okM s = true := by
  obtain ⟨h1, h2, h3, h4, h5, h6, h7⟩ := h
  have ej := join_pcs 10 s
  generalize pcs 10 s = L at *
  match L, h1, h3, h4, h5, h6, h7, ej with
  | a :: b :: R, h1, h3, h4, h5, h6, h7, ej =>
    have hR : 2 ≤ R.length := by simp only [List.length_cons] at h1; omega
    have e := two_last ([] : List UInt8) hR
    have g1 : R.getD (R.length - 1) [] = [] := by
      have := h3
      simp only [List.length_cons] at this
      rwa [show R.length + 1 + 1 - 1 = (R.length - 1) + 1 + 1 by omega, List.getD_cons_succ, List.getD_cons_succ] at this
    have g2 : R.getD (R.length - 2) [] = [46] := by
      have := h4
      simp only [List.length_cons] at this
      rwa [show R.length + 1 + 1 - 2 = (R.length - 2) + 1 + 1 by omega, List.getD_cons_succ, List.getD_cons_succ] at this
    rw [g1, g2] at e
    have ha : a = [49] := h5
    have hb : b = 98 :: b.drop 1 := by
      match b, h6, h7 with
      | y :: ys, _, h7 =>
        have : y = 98 := h7
        rw [this]; rfl
    have es : s = [49, 10, 98] ++ ((b.drop 1 ++ Lib.joinTail [10] (R.take (R.length - 2))) ++ [10, 46, 10]) := by
      rw [← ej, Lib.join_cons, ha]
      have e3 : Lib.joinTail [10] (b :: R) = 10 :: b ++ Lib.joinTail [10] R := by simp [Lib.joinTail]
      have e4 : Lib.joinTail [10] R = Lib.joinTail [10] (R.take (R.length - 2)) ++ [10, 46, 10] := by
        conv => lhs; rw [e]
        simp [Lib.joinTail]
      rw [e3, e4]
      conv => lhs; rw [hb]
      simp
    rw [es]
    exact okM_of _
theorem rOk_iff {s : List UInt8} : rOk (pcs 10 s) ↔ okM s = true ∧ 3 ≤ (mL s).length ∧ (mL s).length ≤ 102 ∧ 1 ≤ (mR s 0).length := by
  constructor
  · intro h
    have hm := okM_lines h
    refine ⟨hm, ?_⟩
    obtain ⟨h1, h2, h3, h4, h5, h6, h7⟩ := h
    cases hx : mL s with
    | nil => exact absurd hx (pcs_ne _ _)
    | cons x xs =>
      rw [lines_of hm hx] at h1 h2 h6
      unfold mR
      rw [hx]
      simp only [List.length_cons, List.length_append, List.length_nil] at h1 h2 ⊢
      refine ⟨by omega, by omega, ?_⟩
      have : 2 ≤ (98 :: x).length := h6
      rw [List.length_cons] at this
      show 1 ≤ x.length
      omega
  · rintro ⟨hm, h1, h2, h3⟩
    cases hx : mL s with
    | nil => exact absurd hx (pcs_ne _ _)
    | cons x xs =>
      unfold mR at h3
      rw [hx] at h1 h2 h3
      rw [lines_of hm hx]
      simp only [List.length_cons] at h1 h2
      have h3 : 1 ≤ x.length := h3
      have a1 : ([49] :: (98 :: x) :: (xs ++ [[46], []]) : List (List UInt8)).length = xs.length + 2 + 2 := by simp
      refine ⟨by rw [a1]; omega, by rw [a1]; omega, ?_, ?_, rfl, ?_, rfl⟩
      · rw [a1, show xs.length + 2 + 2 - 1 = (xs.length + 1) + 1 + 1 by omega, List.getD_cons_succ, List.getD_cons_succ, List.getD_eq_getElem?_getD, List.getElem?_append_right (by omega), show xs.length + 1 - xs.length = 1 by omega]; rfl
      · rw [a1, show xs.length + 2 + 2 - 2 = xs.length + 1 + 1 by omega, List.getD_cons_succ, List.getD_cons_succ, List.getD_eq_getElem?_getD, List.getElem?_append_right (by omega), show xs.length - xs.length = 0 by omega]; rfl
      · show 2 ≤ (98 :: x).length
        rw [List.length_cons]; omega
/-- the lines, one by one -/
theorem line_at {s : List UInt8} (h : okM s = true) : (pcs 10 s).length = (mL s).length + 3 ∧ (pcs 10 s).getD 1 [] = 98 :: mR s 0 ∧ ∀ j, 1 ≤ j → j < (mL s).length → (pcs 10 s).getD (j + 1) [] = mR s j := by
  cases hx : mL s with
  | nil => exact absurd hx (pcs_ne _ _)
  | cons x xs =>
    unfold mR
    rw [lines_of h hx, hx]
    refine ⟨by simp, rfl, fun j h1 h2 => ?_⟩
    obtain ⟨i, rfl⟩ : ∃ i, j = i + 1 := ⟨j - 1, by omega⟩
    simp only [List.length_cons] at h2
    rw [List.getD_cons_succ, List.getD_cons_succ, List.getD_cons_succ, List.getD_eq_getElem?_getD, List.getElem?_append_left (by omega), List.getD_eq_getElem?_getD]

/-! ### the circuit with one of its bad literals -/
namespace Cr
variable {c : Cr}
def sol (c : Cr) (b : Nat) : Cr := ⟨c.i, c.nl, c.na, 1, c.nc, c.nx, c.rs, c.ga, c.gb, fun j => c.bd (b + j), c.cn⟩
theorem sol_frA (b : Nat) (s t : Nat → Bool) : ∀ k, (c.sol b).frA s t k = c.frA s t k
  | 0 => rfl
  | k + 1 => by rw [frA_succ, frA_succ, sol_frA b s t k]; rfl
theorem sol_fr (b : Nat) (s t : Nat → Bool) : (c.sol b).fr s t = c.fr s t := sol_frA b s t c.na
theorem sol_sts (b : Nat) (t : Tr) : ∀ i, (c.sol b).sts t i = c.sts t i
  | 0 => rfl
  | i + 1 => by
    rw [sts_succ, sts_succ, sol_sts b t i]
    unfold nv
    rw [sol_fr]; rfl
theorem sol_hf (b : Nat) (t : Tr) : (c.sol b).hf t = c.hf t := by
  funext i
  unfold hf hol
  rw [sol_sts, sol_fr]; rfl
theorem sol_alw (b : Nat) (t : Tr) : (c.sol b).alw t = c.alw t := by unfold alw; rw [sol_hf]
theorem sol_bv (b : Nat) (s t : Nat → Bool) (j : Nat) : (c.sol b).bv s t j = c.bv s t (b + j) := by unfold bv; rw [sol_fr]; rfl
theorem sol_chk {b : Nat} (h : c.chk = 0) (hb : b < c.nb) : (c.sol b).chk = 0 := by
  unfold chk at h ⊢
  have hz : (c.sol b).sz = c.sz := rfl
  split at h
  · omega
  · split at h
    · omega
    · split at h
      · next h1 h2 h3 =>
        rw [if_neg (show ¬ (c.sol b).i < 0 from h1), if_neg (by rw [hz]; show ¬ (1000 < c.sz ∨ 100 < 1 ∨ 100 < c.nc); omega), if_pos]
        refine ⟨?_, h3.2.1, h3.2.2.1, h3.2.2.2⟩
        refine decide_eq_true fun j hj => ?_
        have hj : j < 1 := hj
        exact of_decide_eq_true h3.1 (b + j) (by omega)
      · omega
theorem sol_tck {b : Nat} {t : Tr} (h : c.tck t = 0) (hb : b < c.nb) : (c.sol b).tck t = 0 := by
  have h1 := sol_chk (tck_ok h).1 hb
  unfold tck at h ⊢
  rw [if_neg (by omega)]
  rw [if_neg (by rw [(tck_ok (c := c) (t := t) (by unfold tck; exact h)).1]; omega)] at h
  exact h
/-- a run shows the bad literal with an index -/
def shB (c : Cr) (t : Tr) (b : Nat) : Bool := decide (c.alw t = t.ni) && c.bf t (t.ni - 1) b
theorem sol_wte {b : Nat} {t : Tr} (h : c.tck t = 0) (hb : b < c.nb) : (c.sol b).wte t = if c.shB t b = true then 0 else 57 := by
  have hle : c.alw t ≤ t.ni := led_le _ _
  have e1 : (c.sol b).ff t (t.ni - 1) = if c.bf t (t.ni - 1) b = true then 0 else 1 := by
    unfold ff fb
    show led _ 1 = _
    rw [led_succ, sol_bv, sol_sts, Nat.add_zero]
    show (if (0 : Nat) = 0 ∧ (!c.bf t (t.ni - 1) b) = true then 0 + 1 else 0) = _
    cases c.bf t (t.ni - 1) b <;> rfl
  unfold wte
  rw [if_pos (sol_tck h hb)]
  unfold shw shB
  rw [sol_alw, e1]
  show (if 0 ≤ (if c.alw t < t.ni ∨ (if c.bf t (t.ni - 1) b = true then 0 else 1) = 1 then (-1 : Int) else _) then (0 : Int) else 57) = _
  by_cases h1 : c.alw t = t.ni
  · cases h2 : c.bf t (t.ni - 1) b
    · simp [h1]
    · simp [h1]
  · have h3 : c.alw t < t.ni := by omega
    simp [h1, h3]
/-- the error of a run and an index -/
def wck (c : Cr) (t : Tr) (b : Int) : Int := if c.tck t ≠ 0 then c.tck t else if b < 0 ∨ (c.nb : Int) ≤ b then 2 else if c.shB t b.toNat = true then 0 else 57
theorem wck_ok {t : Tr} {b : Int} (h : c.wck t b = 0) : c.tck t = 0 ∧ 0 ≤ b ∧ b < c.nb ∧ c.shB t b.toNat = true := by
  unfold wck at h
  split at h
  · omega
  · split at h
    · omega
    · split at h
      · next h1 h2 h3 => exact ⟨by omega, by omega, by omega, h3⟩
      · omega
/-- what is read of a text -/
def wrE (c : Cr) (s : List UInt8) : Int := if c.chk ≠ 0 then c.chk else if wOk c s = false then 12 else c.wck (wTr c s) (wBd s)
def wrT (c : Cr) (s : List UInt8) : Tr := if c.wrE s = 0 then wTr c s else z0T
def wrB (c : Cr) (s : List UInt8) : Nat := if c.wrE s = 0 then wBd s else 0

/-! ### runs that are the same -/
theorem frA_ext {s s' t t' : Nat → Bool} (hs : ∀ j, j < c.nl → s j = s' j) (ht : ∀ j, j < c.i.toNat → t j = t' j) : ∀ k, c.frA s t k = c.frA s' t' k
  | 0 => by
    funext v
    unfold frA
    split
    · rfl
    · split
      · exact ht _ (by omega)
      · split
        · next h1 h2 h3 => exact hs _ (by unfold fg at h3; omega)
        · rfl
  | k + 1 => by rw [frA_succ, frA_succ, frA_ext hs ht k]
theorem fr_ext {s s' t t' : Nat → Bool} (hs : ∀ j, j < c.nl → s j = s' j) (ht : ∀ j, j < c.i.toNat → t j = t' j) : c.fr s t = c.fr s' t' := frA_ext hs ht c.na
end Cr
structure Tr.Like (c : Cr) (t u : Tr) : Prop where
  nf : t.nf = c.nl
  nf' : u.nf = c.nl
  ni : t.ni = u.ni
  ln : ∀ j, j < t.ni → t.ln j = u.ln j
  fi : ∀ j, j < c.nl → t.fi j = u.fi j
  ip : ∀ i, i < t.ni → ∀ j, j < c.i.toNat → t.ip i j = u.ip i j
namespace Tr.Like
variable {c : Cr} {t u : Tr}
theorem sts (h : Tr.Like c t u) : ∀ i, i ≤ t.ni → ∀ j, j < c.nl → c.sts t i j = c.sts u i j
  | 0, _, j, hj => h.fi j hj
  | i + 1, hi, j, hj => by
    rw [Cr.sts_succ, Cr.sts_succ]
    unfold Cr.nv
    rw [Cr.fr_ext (h.sts i (by omega)) (h.ip i (by omega))]
theorem fr (h : Tr.Like c t u) {i : Nat} (hi : i < t.ni) : c.fr (c.sts t i) (t.ip i) = c.fr (c.sts u i) (u.ip i) := Cr.fr_ext (h.sts i (by omega)) (h.ip i hi)
theorem hf (h : Tr.Like c t u) {i : Nat} (hi : i < t.ni) : c.hf t i = c.hf u i := by unfold Cr.hf Cr.hol; rw [h.fr hi]
theorem bf (h : Tr.Like c t u) {i : Nat} (hi : i < t.ni) (j : Nat) : c.bf t i j = c.bf u i j := by unfold Cr.bf Cr.bv; rw [h.fr hi]
theorem alw (h : Tr.Like c t u) : c.alw t = c.alw u := by unfold Cr.alw; rw [← h.ni]; exact led_congr _ fun j hj => h.hf hj
theorem shB (h : Tr.Like c t u) (h0 : 0 < t.ni) (b : Nat) : c.shB t b = c.shB u b := by unfold Cr.shB; rw [h.alw, ← h.ni, h.bf (by omega)]
theorem tck (h : Tr.Like c t u) : c.tck t = c.tck u := by
  have e1 : c.stB t.nf t.fi = c.stB u.nf u.fi := by
    unfold Cr.stB
    rw [h.nf, h.nf']
    exact decide_eq_decide.2 ⟨fun hh j hj => by rw [← h.fi j hj]; exact hh j hj, fun hh j hj => by rw [h.fi j hj]; exact hh j hj⟩
  have e2 : t.lnB c.i = u.lnB c.i := by
    unfold Tr.lnB
    rw [← h.ni]
    exact decide_eq_decide.2 ⟨fun hh j hj => by rw [← h.ln j hj]; exact hh j hj, fun hh j hj => by rw [h.ln j hj]; exact hh j hj⟩
  unfold Cr.tck
  rw [e1, e2, h.nf, h.nf', h.ni]
theorem wck (h : Tr.Like c t u) (b : Int) : c.wck t b = c.wck u b := by
  by_cases h0 : c.tck t = 0
  · unfold Cr.wck
    rw [← h.tck, h.shB (Cr.tck_ok h0).2.1]
  · unfold Cr.wck
    rw [← h.tck]
    simp only [if_pos h0]
theorem same (h : Tr.Like c t u) (hl : ∀ j, j < t.ni → (t.ln j : Int) = c.i) : samT t u = true := samT_yes (h.nf.trans h.nf'.symm) (fun j hj => h.fi j (by rw [← h.nf]; exact hj)) h.ni h.ln fun j hj i hi => h.ip j hj i (by have := hl j hj; omega)
end Tr.Like

/-! ### written and read -/
section
variable {c : Cr} {t : Tr} {b : Int}
theorem back_mL (hb : 0 ≤ b) : mL (wtx t b) = rwL t b := by
  unfold mL wtx
  rw [mid_of, mdl_pcs hb]
theorem rwL_len (t : Tr) (b : Int) : (rwL t b).length = t.ni + 2 := by unfold rwL; simp
theorem rwL_at {j : Nat} (h : j < t.ni) : (rwL t b).getD (2 + j) [] = d01 (t.ip j) (t.ln j) := by
  unfold rwL
  rw [show 2 + j = j + 1 + 1 by omega, List.getD_cons_succ, List.getD_cons_succ, List.getD_eq_getElem?_getD, List.getElem?_map, List.getElem?_range h]; rfl
theorem wbk_ok (h : c.tck t = 0) (hb : 0 ≤ b) (hb2 : b ≤ 2001) : WOk c (wtx t b) := by
  obtain ⟨h1, h2, h3, h4, h5, h6⟩ := Cr.tck_ok h
  have e := back_mL (t := t) hb
  have el := rwL_len t b
  refine ⟨okM_of _, by rw [e, el]; omega, ?_, ?_, fun j hj => ?_⟩
  · unfold wBd mR
    rw [e]
    have := nbr_dgs hb hb2
    show nbr (dgs b) = some ((nbr (dgs b)).getD 0)
    rw [this]; rfl
  · unfold mR
    rw [e, ← h4]
    exact isD_d01 _ _
  · unfold mR
    rw [e, el] at hj
    rw [e, rwL_at (by omega)]
    have h7 := h6 j (by omega)
    rw [show c.i.toNat = t.ln j by omega]
    exact isD_d01 _ _
theorem back_bd (hb : 0 ≤ b) (hb2 : b ≤ 2001) : (wBd (wtx t b) : Int) = b := by
  unfold wBd mR
  rw [back_mL (t := t) hb]
  show (((nbr (dgs b)).getD 0 : Nat) : Int) = b
  rw [nbr_dgs hb hb2]
  show ((b.toNat : Nat) : Int) = b
  omega
theorem back_like (h : c.tck t = 0) (hb : 0 ≤ b) : Tr.Like c (wTr c (wtx t b)) t := by
  obtain ⟨h1, h2, h3, h4, h5, h6⟩ := Cr.tck_ok h
  have e := back_mL (t := t) hb
  have el := rwL_len t b
  have en : (wTr c (wtx t b)).ni = t.ni := by show (mL (wtx t b)).length - 2 = _; rw [e, el]; omega
  refine ⟨rfl, h4, en, fun j hj => ?_, fun j hj => ?_, fun i hi j hj => ?_⟩
  · rw [en] at hj
    have := h6 j hj
    show c.i.toNat = _
    omega
  · show bvD (mR (wtx t b) 1) j = _
    unfold mR
    rw [e]
    exact bvD_d01 (by rw [h4]; exact hj)
  · rw [en] at hi
    show bvD (mR (wtx t b) (2 + i)) j = _
    unfold mR
    rw [e, rwL_at hi]
    have := h6 i hi
    exact bvD_d01 (by omega)
theorem back_all (h : c.wck t b = 0) (hnb : c.nb ≤ 1000) : c.wrE (wtx t b) = 0 ∧ samT (wTr c (wtx t b)) t = true ∧ (wBd (wtx t b) : Int) = b := by
  obtain ⟨h1, h2, h3, h4⟩ := Cr.wck_ok h
  have hk := Cr.tck_ok h1
  have hL := back_like h1 h2
  have hb := back_bd (t := t) h2 (by omega)
  refine ⟨?_, hL.same fun j hj => ?_, hb⟩
  · unfold Cr.wrE
    rw [if_neg (by rw [hk.1]; omega), wOk_iff.2 (wbk_ok h1 h2 (by omega)), if_neg (by simp), hb, hL.wck, h]
  · rw [hL.ln j hj]
    exact hk.2.2.2.2.2 j (by rw [← hL.ni]; exact hj)
end
/-- what is read has just this text -/
theorem text_back {c : Cr} {s : List UInt8} (h : WOk c s) (hi : 0 ≤ c.i) : wtx (wTr c s) (wBd s) = s := by
  have e : rwL (wTr c s) (wBd s : Int) = mL s := by
    obtain ⟨h1, h2, h3, h4, h5⟩ := h
    have hn := h2.1
    apply List.ext_getElem
    · rw [rwL_len]; show (mL s).length - 2 + 2 = _; omega
    · intro j g1 g2
      have hD : ∀ (L : List (List UInt8)) (g : j < L.length), L[j] = L.getD j [] := fun L g => by rw [List.getD_eq_getElem?_getD, List.getElem?_eq_getElem g]; rfl
      rw [hD _ g1, hD _ g2]
      match j, g2 with
      | 0, _ =>
        show dgs (wBd s : Int) = mR s 0
        have h9 := h3
        unfold nbr at h9
        split at h9
        · cases h9
        · next hc =>
          have hc2 : (mR s 0).length ≠ 0 ∧ (mR s 0).length ≤ 9 ∧ ¬ (1 < (mR s 0).length ∧ (mR s 0).head? = some 48) ∧ ∀ x ∈ mR s 0, digB x := by
            refine ⟨fun q => hc (Or.inl q), ?_, fun q => hc (Or.inr (Or.inr (Or.inl q))), ?_⟩
            · exact Nat.not_lt.1 fun q => hc (Or.inr (Or.inl q))
            · exact Classical.byContradiction fun q => hc (Or.inr (Or.inr (Or.inr q)))
          have hf := (fmt_iff ((mR s 0).length - 1) (mR s 0) (by omega) hc2.2.2.2).2 (by
            by_cases q : (mR s 0).length = 1
            · left; omega
            · right; intro q2; exact hc2.2.2.1 ⟨by omega, q2⟩)
          have h10 : num10 (mR s 0) = wBd s := by injection h9
          rw [dgs_nat _ (by omega), Int.toNat_natCast, ← h10, hf]
      | 1, _ => exact d01_bvD h4
      | j + 2, g2 =>
        rw [show j + 2 = 2 + j by omega, rwL_at (by show j < (mL s).length - 2; omega)]
        exact d01_bvD (h5 j (by omega))
  have h1 := okM_eq h.m
  unfold wtx mdl
  rw [e]
  unfold mL
  rw [join_pcs]
  exact h1.symm
/-- texts are the same just where index and run are -/
theorem wtx_same {c : Cr} {t u : Tr} {a b : Int} (ht : c.wck t a = 0) (hu : c.wck u b = 0) (hnb : c.nb ≤ 1000) : wtx t a = wtx u b ↔ a = b ∧ samT t u = true := by
  obtain ⟨h1, h2, h3, _⟩ := Cr.wck_ok ht
  obtain ⟨g1, g2, g3, _⟩ := Cr.wck_ok hu
  have k1 := Cr.tck_ok h1
  have k2 := Cr.tck_ok g1
  constructor
  · intro e
    have a1 := back_bd (t := t) h2 (by omega)
    have a2 := back_bd (t := u) g2 (by omega)
    rw [e, a2] at a1
    refine ⟨a1.symm, ?_⟩
    have l1 := back_like h1 h2
    have l2 := back_like g1 g2
    rw [e] at l1
    refine samT_yes (l1.nf'.trans l2.nf'.symm) (fun j hj => ?_) (l1.ni.symm.trans l2.ni) (fun j hj => ?_) fun j hj i hi => ?_
    · rw [l1.nf'] at hj
      exact (l1.fi j hj).symm.trans (l2.fi j hj)
    · rw [← l1.ni] at hj
      exact (l1.ln j hj).symm.trans (l2.ln j hj)
    · have := k1.2.2.2.2.2 j hj
      rw [← l1.ni] at hj
      exact (l1.ip j hj i (by omega)).symm.trans (l2.ip j hj i (by omega))
  · rintro ⟨rfl, hs⟩
    unfold samT samB samR at hs
    simp only [Bool.and_eq_true, decide_eq_true_eq] at hs
    obtain ⟨⟨s1, s2⟩, s3, s4⟩ := hs
    unfold wtx mdl rwL
    rw [s1, d01_congr (f := t.fi) (g := u.fi) (fun j hj => s2 j (by rw [s1]; exact hj)), s3]
    congr 5
    refine List.map_congr_left fun j hj => ?_
    have : t.ln j = u.ln j ∧ ∀ i, i < t.ln j → t.ip j i = u.ip j i := of_decide_eq_true (s4 j (by rw [s3]; exact List.mem_range.1 hj))
    rw [this.1]
    exact d01_congr fun i hi => this.2 i (by rw [this.1]; exact hi)

end Go.Proofs.YtbppdifghkkooaaDoor
