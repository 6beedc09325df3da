/- What is reached from a variable: the array's rounds, and the relation that they compute; lists in increasing order. -/
import Derived.Test.YtkpjpokeonppbaaGreatDoorGatesOut
namespace Go.Proofs.YtkpjpokeonppbaaGreatDoor
open Go.RowKit
set_option linter.unusedVariables false

namespace Cr
/-- reached from the variable r: r itself, and the parts of the gates that are reached -/
inductive Rc (c : Cr) (r : Nat) : Nat → Prop
  | base : Rc c r r
  | left {j : Nat} (hj : j < c.na) (h : Rc c r (c.fg + j)) : Rc c r (c.ga j / 2).toNat
  | right {j : Nat} (hj : j < c.na) (h : Rc c r (c.fg + j)) : Rc c r (c.gb j / 2).toNat

theorem Rc.trans {c : Cr} {r s v : Nat} (h : Rc c r s) (k : Rc c s v) : Rc c r v := by
  induction k with
  | base => exact h
  | left hj _ ih => exact .left hj ih
  | right hj _ ih => exact .right hj ih

theorem part_lt {c : Cr} (h : c.chk = 0) {j : Nat} (hj : j < c.na) : (c.ga j / 2).toNat < c.fg + j ∧ (c.gb j / 2).toNat < c.fg + j := by
  obtain ⟨k1, k2, k3, k4, k5⟩ := gate_ok h hj
  unfold fg
  omega
theorem Rc.le {c : Cr} (h : c.chk = 0) {r v : Nat} (k : Rc c r v) : v ≤ r := by
  induction k with
  | base => exact Nat.le_refl _
  | left hj _ ih => have := (part_lt h hj).1; omega
  | right hj _ ih => have := (part_lt h hj).2; omega

theorem rk_mono (c : Cr) (l : Int) (k v : Nat) (h : c.rk l k v = true) : c.rk l (k + 1) v = true := by
  rw [rk_succ]
  cases hq : c.rk l k (c.fg + (c.na - 1 - k))
  · rw [stp_no hq]; exact h
  · rw [stp_yes hq]; simp [h]
theorem rk_mono' (c : Cr) (l : Int) (v k : Nat) : ∀ d, c.rk l k v = true → c.rk l (k + d) v = true
  | 0, h => h
  | d + 1, h => rk_mono c l (k + d) v (rk_mono' c l v k d h)
theorem rk_stay {c : Cr} (hc : c.chk = 0) (l : Int) (k v : Nat) (hk : k < c.na) (hv : c.fg + (c.na - 1 - k) ≤ v) : c.rk l (k + 1) v = c.rk l k v := by
  obtain ⟨p1, p2⟩ := part_lt hc (j := c.na - 1 - k) (by omega)
  rw [rk_succ]
  cases hq : c.rk l k (c.fg + (c.na - 1 - k))
  · rw [stp_no hq]
  · rw [stp_yes hq]
    have e1 : (v == (c.gb (c.na - 1 - k) / 2).toNat) = false := by simp; omega
    have e2 : (v == (c.ga (c.na - 1 - k) / 2).toNat) = false := by simp; omega
    simp [e1, e2]
theorem rk_stay' {c : Cr} (hc : c.chk = 0) (l : Int) (k v : Nat) (hv : c.fg + (c.na - 1 - k) ≤ v) : ∀ d, k + d ≤ c.na → c.rk l (k + d) v = c.rk l k v
  | 0, _ => rfl
  | d + 1, h => by
    have := rk_stay hc l (k + d) v (by omega) (by omega)
    rw [← Nat.add_assoc, this]
    exact rk_stay' hc l k v hv d (by omega)

/-- what the rounds reach is reached -/
theorem rk_rc {c : Cr} (hc : c.chk = 0) (l : Int) : ∀ k, k ≤ c.na → ∀ v, c.rk l k v = true → Rc c (l / 2).toNat v
  | 0, _, v, h => by
    have : v = (l / 2).toNat := by simpa [rk, fld] using h
    rw [this]
    exact .base
  | k + 1, hk, v, h => by
    have ih := rk_rc hc l k (by omega)
    rw [rk_succ] at h
    cases hq : c.rk l k (c.fg + (c.na - 1 - k))
    · rw [stp_no hq] at h; exact ih v h
    · rw [stp_yes hq] at h
      have hg := ih _ hq
      simp only [Bool.or_eq_true, beq_iff_eq] at h
      rcases h with h | h | h
      · rw [h]; exact .right (by omega) hg
      · rw [h]; exact .left (by omega) hg
      · exact ih v h
/-- what is reached the rounds reach -/
theorem rc_rch {c : Cr} (hc : c.chk = 0) (l : Int) {v : Nat} (h : Rc c (l / 2).toNat v) : c.rch l v = true := by
  have part : ∀ j, j < c.na → c.rch l (c.fg + j) = true → c.rch l (c.ga j / 2).toNat = true ∧ c.rch l (c.gb j / 2).toNat = true := fun j hj hr => by
    obtain ⟨k, hk⟩ : ∃ k, k = c.na - 1 - j := ⟨_, rfl⟩
    have hjk : c.na - 1 - k = j := by omega
    have h1 := rk_stay' hc l k (c.fg + j) (by rw [hjk]; omega) (c.na - k) (by omega)
    have e : k + (c.na - k) = c.na := by omega
    rw [e, rk_all, hr] at h1
    have h2 := rk_succ c l k
    rw [hjk, stp_yes h1.symm] at h2
    have e' : k + 1 + (c.na - k - 1) = c.na := by omega
    have m1 := rk_mono' c l (c.ga j / 2).toNat (k + 1) (c.na - k - 1) (by rw [h2]; simp)
    have m2 := rk_mono' c l (c.gb j / 2).toNat (k + 1) (c.na - k - 1) (by rw [h2]; simp)
    rw [e', rk_all] at m1 m2
    exact ⟨m1, m2⟩
  induction h with
  | base =>
    have := rk_mono' c l (l / 2).toNat 0 c.na (by simp [rk, fld])
    rwa [Nat.zero_add, rk_all] at this
  | left hj _ ih => exact (part _ hj ih).1
  | right hj _ ih => exact (part _ hj ih).2
theorem rch_iff {c : Cr} (hc : c.chk = 0) (l : Int) (v : Nat) : c.rch l v = true ↔ Rc c (l / 2).toNat v := ⟨fun h => rk_rc hc l c.na (Nat.le_refl _) v h, rc_rch hc l⟩

/-- the list's numbers -/
theorem mem_cnL {R : Nat → Bool} : ∀ {q : Nat} {x : Int}, x ∈ cnL R q ↔ ∃ v : Nat, x = v ∧ 0 < v ∧ v < q ∧ R v = true
  | 0, x => by simp [cnL]
  | q + 1, x => by
    have ih := mem_cnL (R := R) (q := q) (x := x)
    by_cases h : 0 < q ∧ R q = true
    · rw [cnL_yes h, List.mem_append, ih, List.mem_singleton]
      constructor
      · rintro (⟨v, h1, h2, h3, h4⟩ | h')
        · exact ⟨v, h1, h2, by omega, h4⟩
        · exact ⟨q, h', h.1, by omega, h.2⟩
      · rintro ⟨v, h1, h2, h3, h4⟩
        rcases Nat.lt_succ_iff_lt_or_eq.1 h3 with h5 | h5
        · exact Or.inl ⟨v, h1, h2, h5, h4⟩
        · subst h5; exact Or.inr h1
    · rw [cnL_no h, ih]
      constructor
      · rintro ⟨v, h1, h2, h3, h4⟩; exact ⟨v, h1, h2, by omega, h4⟩
      · rintro ⟨v, h1, h2, h3, h4⟩
        rcases Nat.lt_succ_iff_lt_or_eq.1 h3 with h5 | h5
        · exact ⟨v, h1, h2, h5, h4⟩
        · subst h5; exact absurd ⟨h2, h4⟩ h
theorem cnL_inc (R : Nat → Bool) : ∀ q, (cnL R q).Pairwise (· < ·)
  | 0 => List.Pairwise.nil
  | q + 1 => by
    by_cases h : 0 < q ∧ R q = true
    · rw [cnL_yes h, List.pairwise_append]
      refine ⟨cnL_inc R q, List.pairwise_singleton _ _, fun a ha b hb => ?_⟩
      obtain ⟨v, h1, h2, h3, _⟩ := mem_cnL.1 ha
      rw [List.mem_singleton.1 hb, h1]
      omega
    · rw [cnL_no h]; exact cnL_inc R q
theorem cnL_last {R : Nat → Bool} {m : Nat} (h0 : 0 < m) (hm : R m = true) (hg : ∀ v, m < v → R v = false) : ∀ q, m < q → cnL R q = cnL R m ++ [(m : Int)]
  | 0, h => by omega
  | q + 1, h => by
    rcases Nat.lt_succ_iff_lt_or_eq.1 h with h5 | h5
    · rw [cnL_no (fun h' => by rw [hg q h5] at h'; cases h'.2)]
      exact cnL_last h0 hm hg q h5
    · subst h5; exact cnL_yes ⟨h0, hm⟩
end Cr

/-- a list in increasing order, by its numbers -/
theorem inc_getD {xs : List Int} (h : xs.Pairwise (· < ·)) {i j : Nat} (hij : i < j) (hj : j < xs.length) : xs.getD i 0 < xs.getD j 0 := by
  rw [List.getD_eq_getElem?_getD, List.getD_eq_getElem?_getD, List.getElem?_eq_getElem hj, List.getElem?_eq_getElem (by omega)]
  exact List.pairwise_iff_getElem.1 h i j (by omega) hj hij
theorem getD_mem {xs : List Int} {j : Nat} (hj : j < xs.length) : xs.getD j 0 ∈ xs := by
  rw [List.getD_eq_getElem?_getD, List.getElem?_eq_getElem hj]
  exact List.getElem_mem hj

/-- the cone of a literal of a variable of a valid circuit -/
structure ConeOk (c : Cr) (l : Int) : Prop where
  pos : 0 < (c.cL l).length
  last : (c.cL l).getD ((c.cL l).length - 1) 0 = l / 2
  inc : ∀ i j, i < j → j < (c.cL l).length → (c.cL l).getD i 0 < (c.cL l).getD j 0
  mem : ∀ j, j < (c.cL l).length → 1 ≤ (c.cL l).getD j 0 ∧ (c.cL l).getD j 0 ≤ c.sz ∧ Cr.Rc c (l / 2).toNat ((c.cL l).getD j 0).toNat
  err : c.cE l = 0
theorem cone_ok {c : Cr} {l : Int} (hc : c.chk = 0) (h2 : 2 ≤ l) (hl : l / 2 ≤ c.sz) : ConeOk c l := by
  have hb : Cr.litB c.sz l = true := decide_eq_true ⟨by omega, hl⟩
  have hL : c.cL l = Cr.cnL (c.rch l) (c.sz.toNat + 1) := if_pos ⟨hc, hb⟩
  have hE : c.cE l = 0 := by unfold Cr.cE; rw [if_neg (by omega), if_pos hb]
  have hm0 : 0 < (l / 2).toNat := by omega
  have hml : (l / 2).toNat < c.sz.toNat + 1 := by omega
  have hlast := Cr.cnL_last hm0 (Cr.rc_rch hc l .base) (fun v hv => by
    cases h : c.rch l v
    · rfl
    · have := ((Cr.rch_iff hc l v).1 h).le hc
      omega) _ hml
  refine ⟨by rw [hL, hlast]; simp, ?_, fun i j hij hj => ?_, fun j hj => ?_, hE⟩
  · rw [hL, hlast]
    simp
    omega
  · rw [hL] at hj ⊢
    exact inc_getD (Cr.cnL_inc _ _) hij hj
  · rw [hL] at hj ⊢
    obtain ⟨v, h1, h3, h4, h5⟩ := Cr.mem_cnL.1 (getD_mem hj)
    rw [h1]
    exact ⟨by omega, by omega, by rw [Int.toNat_natCast]; exact (Cr.rch_iff hc l v).1 h5⟩
