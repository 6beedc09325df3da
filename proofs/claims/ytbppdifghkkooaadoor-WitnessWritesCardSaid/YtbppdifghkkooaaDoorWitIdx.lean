/- An index as strconv.Atoi and Itoa have it; rows of digits as strings.Trim has them. -/
import Derived.Test.YtbppdifghkkooaaDoorWitMath
import Derived.Lib.SlTrimSet
namespace Go.Proofs.YtbppdifghkkooaaDoor
open Go Go.RowKit
set_option linter.unusedVariables false
set_option linter.unusedSimpArgs false

theorem parse10_ok : ∀ (l : List UInt8) (acc : Nat), (∀ c ∈ l, digB c) → (acc + 1) * 10 ^ l.length ≤ 1000000000 → Lib.parseUint10 acc l = .ok (l.foldl (fun a c => 10 * a + (c.toNat - 48)) acc)
  | [], acc, _, _ => rfl
  | c :: r, acc, h, hb => by
    have hc := h c (by simp)
    have hc' := hc
    unfold digB at hc'
    have hp : 1 ≤ 10 ^ r.length := Nat.pos_of_ne_zero (by simp)
    have e1 : (acc + 1) * 10 ^ (r.length + 1) = (10 * acc + 10) * 10 ^ r.length := by rw [Nat.pow_succ, Nat.mul_comm (10 ^ r.length) 10, ← Nat.mul_assoc]; congr 1; omega
    rw [List.length_cons, e1] at hb
    have hb2 : (acc * 10 + (c.toNat - 48) + 1) * 10 ^ r.length ≤ 1000000000 := Nat.le_trans (Nat.mul_le_mul_right _ (by omega)) hb
    have hb3 : 10 * acc + 10 ≤ 1000000000 := Nat.le_trans (Nat.le_mul_of_pos_right _ hp) hb
    rw [Lib.parseUint10, if_pos hc', if_neg (by omega), if_neg (by omega), parse10_ok r _ (fun x hx => h x (by simp [hx])) hb2, List.foldl_cons, Nat.mul_comm acc 10]
theorem dec_len : ∀ (k u : Nat), u < 10 ^ (k + 1) → (Lib.decDigits u).length ≤ k + 1
  | 0, u, h => by rw [Lib.decDigits, dif_pos (by omega)]; simp
  | k + 1, u, h => by
    by_cases hu : u < 10
    · rw [Lib.decDigits, dif_pos hu]; simp
    · rw [Lib.decDigits, dif_neg hu, List.length_append]
      have := dec_len k (u / 10) (Nat.div_lt_of_lt_mul (by rw [Nat.pow_succ, Nat.mul_comm] at h; exact h))
      simp only [List.length_cons, List.length_nil]
      omega
theorem dec_nil (u : Nat) : Lib.decDigits u ≠ [] := fun e => by
  rw [Lib.decDigits] at e
  split at e
  · cases e
  · simp at e
theorem nbr_dec {u : Nat} (h : u ≤ 999999999) : nbr (Lib.decDigits u) = some u := by
  have := nbr_yes (dec_nil u) (dec_len 8 u (by omega)) (decDigits_dig u) (by rw [num10_digits])
  rwa [num10_digits] at this
/-- what stands for a number is one, and is written so -/
theorem atoi_of {l : List UInt8} {x : Nat} (h : nbr l = some x) : Lib.atoiAll l = .ok (x : Int) ∧ x ≤ 999999999 ∧ Lib.itoa (x : Int) = l := by
  unfold nbr at h
  split at h
  · cases h
  · next hc =>
    have g1 : l.length ≠ 0 := fun q => hc (Or.inl q)
    have g2 : l.length ≤ 9 := Nat.not_lt.1 fun q => hc (Or.inr (Or.inl q))
    have g3 : ¬ (1 < l.length ∧ l.head? = some 48) := fun q => hc (Or.inr (Or.inr (Or.inl q)))
    have g4 : ∀ c ∈ l, digB c := Classical.byContradiction fun q => hc (Or.inr (Or.inr (Or.inr q)))
    have hx : num10 l = x := by injection h
    have hle := num10_le9 g4 g2
    have hf := (fmt_iff (l.length - 1) l (by omega) g4).2 (by
      by_cases q : l.length = 1
      · left; omega
      · right; intro q2; exact g3 ⟨by omega, q2⟩)
    refine ⟨?_, by omega, ?_⟩
    · have hp := parse10_ok l 0 g4 (pow_le g2)
      have hp2 : Lib.parseUint10 0 l = .ok x := by rw [hp, ← hx]; rfl
      match l, g1, g4, hp2 with
      | c :: r, _, g4, hp2 =>
        have hd := g4 c (by simp)
        unfold digB at hd
        have e2 : Lib.parseMag (c :: r) = .ok x := by unfold Lib.parseMag; rw [if_neg (by simp), hp2]
        unfold Lib.atoiAll
        simp only
        rw [if_neg (by omega), e2]
        simp only
        rw [if_neg (by omega), if_neg (by omega), if_neg (by omega)]
    · unfold Lib.itoa
      rw [if_neg (by omega), Int.toNat_natCast, ← hx, hf]
theorem nbr_itoa {l : List UInt8} {v : Int} (h0 : 0 ≤ v) (h9 : v ≤ 999999999) (h : Lib.itoa v = l) : nbr l = some v.toNat := by
  unfold Lib.itoa at h
  rw [if_neg (by omega)] at h
  rw [← h]
  exact nbr_dec (by omega)

theorem dw_head {P : UInt8 → Bool} : ∀ {l : List UInt8} {x : UInt8} {r : List UInt8}, l.dropWhile P = x :: r → P x = false
  | [], x, r, h => by cases h
  | y :: ys, x, r, h => by
    rw [List.dropWhile_cons] at h
    split at h
    · exact dw_head h
    · next hy => cases h; simpa using hy
theorem dw_nil {P : UInt8 → Bool} : ∀ {l : List UInt8}, l.dropWhile P = [] ↔ ∀ x ∈ l, P x = true
  | [] => by simp
  | y :: ys => by
    rw [List.dropWhile_cons]
    cases hy : P y
    · simp [hy]
    · rw [if_pos rfl, dw_nil]
      simp [hy]
/-- nothing is left of a row of digits, and of no other -/
theorem trim_iff {l : List UInt8} : Lib.trimS l [48, 49] = [] ↔ ∀ c ∈ l, c = 48 ∨ c = 49 := by
  have hP : ∀ c : UInt8, ([48, 49] : List UInt8).contains c = true ↔ c = 48 ∨ c = 49 := fun c => by simp
  unfold Lib.trimS Lib.trimLeftS Lib.trimRightS
  rw [dw_nil]
  constructor
  · intro h
    cases hd : l.reverse.dropWhile (([48, 49] : List UInt8).contains ·) with
    | nil =>
      rw [dw_nil] at hd
      exact fun c hc => (hP c).1 (hd c (by simpa using hc))
    | cons x r =>
      have h1 := h x (by rw [hd]; simp)
      rw [dw_head hd] at h1
      cases h1
  · intro h c hc
    refine (hP c).2 (h c ?_)
    have h2 := List.mem_reverse.1 hc
    exact List.mem_reverse.1 ((List.dropWhile_suffix _).subset h2)
/-- the pieces up to so many -/
theorem splitK_pcs (c : UInt8) : ∀ (s : List UInt8) (k : Nat), Lib.count s [c] ≤ k → Lib.splitK [c] 0 k s = pcs c s
  | [], 0, _ => rfl
  | [], k + 1, _ => by rw [Lib.splitK, if_pos (by simp [Lib.index])]; rfl
  | b :: l, k, hk => by
    by_cases h : b = c
    · subst h
      have hix : Lib.index (b :: l) [b] = 0 := by rw [Lib.index]; simp [List.isPrefixOf]
      rw [Lib.count_cons_eq] at hk
      obtain ⟨k', rfl⟩ : ∃ k', k = k' + 1 := ⟨k - 1, by omega⟩
      rw [Lib.splitK, hix, if_neg (by decide), pcs, if_pos rfl, ← splitK_pcs b l k' (by omega)]
      rfl
    · rw [Lib.count_cons_ne b c l h] at hk
      have ih := splitK_pcs c l k hk
      cases k with
      | zero =>
        have e : pcs c l = [l] := ih.symm
        rw [pcs_cons h e]; rfl
      | succ k =>
        by_cases hm : (Lib.index l [c] == -1) = true
        · rw [Lib.splitK, if_pos hm] at ih
          rw [Lib.splitK, index_ne l h, if_pos hm, if_pos (by decide), pcs_cons h ih.symm]
        · have hge := Lib.index_ge l [c]
          obtain ⟨j, hj⟩ : ∃ j : Nat, Lib.index l [c] = j := ⟨(Lib.index l [c]).toNat, by
            have hne : Lib.index l [c] ≠ -1 := fun e => hm (beq_iff_eq.2 e)
            omega⟩
          have hix := index_ne l h
          rw [if_neg hm, hj] at hix
          rw [Lib.splitK, hj, if_neg (by rw [hj] at hm; exact hm)] at ih
          rw [Lib.splitK, hix, if_neg (by simp only [beq_iff_eq]; omega), pcs_cons h ih.symm]
          have e1 : ((j : Int) + 1).toNat = j + 1 := by omega
          have e2 : ((j : Int)).toNat = j := by omega
          rw [e1, e2]
          rfl
theorem splitK_len (c : UInt8) : ∀ (k : Nat) (s : List UInt8), k ≤ Lib.count s [c] → (Lib.splitK [c] 0 k s).length = k + 1
  | 0, _, _ => rfl
  | k + 1, s, h => by
    by_cases hm : Lib.index s [c] = -1
    · rw [Lib.count_miss hm] at h; omega
    · have hge := Lib.index_ge s [c]
      obtain ⟨j, hj⟩ : ∃ j : Nat, Lib.index s [c] = j := ⟨(Lib.index s [c]).toNat, by omega⟩
      have hc := Lib.count_hit (sub := [c]) (by simp) hj
      have e2 : ((j : Int)).toNat = j := by omega
      rw [Lib.splitK, hj, if_neg (by simp only [beq_iff_eq]; omega), List.length_cons, e2, splitK_len c k _ (by omega)]
theorem pcs_count (c : UInt8) (s : List UInt8) : (pcs c s).length = Lib.count s [c] + 1 := by
  rw [pcs_len, Lib.count_one, List.count_eq_length_filter]
/-- the rows as SplitN has them: all, or one too many -/
theorem splitN_rows (l : List UInt8) : ∃ L : List (List UInt8), Lib.splitB ⟨#[10]⟩ 0 (min 103 ((str l).size + 1) - 1) (str l) = L.map str ∧ L.length ≤ 103 ∧ ((pcs 10 l).length ≤ 103 → L = pcs 10 l) ∧ (103 < (pcs 10 l).length → L.length = 103) := by
  have hd := Lib.splitB_data ⟨#[10]⟩ 0 (min 103 ((str l).size + 1) - 1) (str l)
  have e4 : (str l).data.toList = l := by simp [str]
  rw [e4, str_size] at hd
  have hc := pcs_count 10 l
  have hcl := Lib.count_one 10 l
  have hcl2 := List.count_le_length (a := (10 : UInt8)) (l := l)
  have h2 := congrArg (List.map str) hd
  rw [List.map_map] at h2
  have e3 : (str ∘ fun x : ByteArray => x.data.toList) = id := funext str_of
  rw [e3, List.map_id] at h2
  rw [str_size]
  refine ⟨_, h2, ?_, fun h => splitK_pcs 10 l _ (by omega), fun h => ?_⟩
  · have := congrArg List.length hd
    rw [List.length_map] at this
    have h3 := Lib.splitB_length_le ⟨#[10]⟩ 0 (min 103 (l.length + 1) - 1) (str l)
    show (Lib.splitK _ _ _ _).length ≤ 103
    rw [← this]
    omega
  · show (Lib.splitK _ _ _ _).length = 103
    have h3 := splitK_len 10 (min 103 (l.length + 1) - 1) l (by omega)
    refine h3.trans ?_
    omega

end Go.Proofs.YtbppdifghkkooaaDoor
