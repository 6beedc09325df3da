/- The reference of layer 3: the order of the gates. -/
import Derived.Test.YtbppdifghkkooaaDoorOrderRef3
namespace Go.Proofs.YtbppdifghkkooaaDoor
open Go.RowKit
set_option linter.unusedVariables false
set_option linter.unusedSimpArgs false

namespace Rw
theorem num_g {r : Rw} (h : r.num = true) {j : Nat} (hj : j < r.na) : (2 ≤ r.gl j ∧ r.gl j ≤ 2 * r.m + 1) ∧ (0 ≤ r.ga j ∧ r.ga j ≤ 2 * r.m + 1) ∧ (0 ≤ r.gb j ∧ r.gb j ≤ 2 * r.m + 1) := by
  unfold num at h
  simp only [Bool.and_eq_true] at h
  have h1 := List.all_eq_true.1 h.1.1 (r.gl j) (by unfold dL; exact List.mem_append_right _ (mem_lst.2 ⟨j, hj, rfl⟩))
  have h2 := List.all_eq_true.1 h.1.2 (r.ga j) (by unfold uL; exact List.mem_append_right _ (mem_twos.2 ⟨j, hj, Or.inl rfl⟩))
  have h3 := List.all_eq_true.1 h.1.2 (r.gb j) (by unfold uL; exact List.mem_append_right _ (mem_twos.2 ⟨j, hj, Or.inr rfl⟩))
  have e1 := of_decide_eq_true h1
  have e2 := of_decide_eq_true h2
  have e3 := of_decide_eq_true h3
  exact ⟨⟨e1.1, e1.2.2⟩, e2, e3⟩
/-- what is ready once the first q gates' variables are struck -/
def rdk (r : Rw) (q : Nat) (v : Nat) : Bool := decide ((v : Int) ∉ (lst r.gl q).map (· / 2))
theorem rdk_0 (r : Rw) (v : Nat) : r.rdk 0 v = true := by simp [rdk, lst]
theorem rdk_succ (r : Rw) (q v : Nat) (h : 0 ≤ r.gl q) : (if v = (r.gl q / 2).toNat then false else r.rdk q v) = r.rdk (q + 1) v := by
  unfold rdk
  rw [lst_succ]
  by_cases e : v = (r.gl q / 2).toNat
  · rw [if_pos e]
    symm
    refine decide_eq_false (fun h => h ?_)
    simp
    right; omega
  · rw [if_neg e]
    rw [Bool.eq_iff_iff]
    simp only [decide_eq_true_eq, List.map_append, List.mem_append, List.map_cons, List.map_nil, List.mem_singleton, not_or]
    constructor
    · intro h; exact ⟨h, by omega⟩
    · intro h; exact h.1
theorem rdk_end (r : Rw) (v : Nat) : r.rdk r.na v = r.rd0 v := rfl

/-- what the search from behind has found, down to q -/
def FD (r : Rw) (B : Int → Bool) (q : Nat) (f : Int) : Prop := (f = -1 ∧ ∀ j, q ≤ j → j < r.na → r.may B j = false) ∨ ∃ n : Nat, f = n ∧ q ≤ n ∧ n < r.na ∧ r.may B n = true ∧ ∀ j, q ≤ j → j < n → r.may B j = false
theorem FD_0 {r : Rw} {B : Int → Bool} : r.FD B r.na (-1) := Or.inl ⟨rfl, fun j h1 h2 => by omega⟩
theorem FD_no {r : Rw} {B : Int → Bool} {q : Nat} {f : Int} (h : r.FD B (q + 1) f) (hm : r.may B q = false) : r.FD B q f := by
  rcases h with ⟨e, h⟩ | ⟨n, e, h1, h2, h3, h4⟩
  · exact Or.inl ⟨e, fun j hj hl => if hq : j = q then hq ▸ hm else h j (by omega) hl⟩
  · exact Or.inr ⟨n, e, by omega, h2, h3, fun j hj hl => if hq : j = q then hq ▸ hm else h4 j (by omega) hl⟩
theorem FD_yes {r : Rw} {B : Int → Bool} {q : Nat} (hq : q < r.na) (hm : r.may B q = true) : r.FD B q q := Or.inr ⟨q, rfl, Nat.le_refl _, hq, hm, fun j h1 h2 => by omega⟩
theorem FD_end {r : Rw} {B : Int → Bool} {f : Int} (h : r.FD B 0 f) : (f = -1 ∧ r.fnd B = r.na) ∨ (f = (r.fnd B : Int) ∧ r.fnd B < r.na) := by
  rcases h with ⟨e, h⟩ | ⟨n, e, _, h2, h3, h4⟩
  · exact Or.inl ⟨e, fnd_no fun j hj => h j (Nat.zero_le _) hj⟩
  · have := fnd_is h2 h3 (fun j hj => h4 j (Nat.zero_le _) hj)
    exact Or.inr ⟨by rw [this, e], by omega⟩
end Rw
/-- the length of a slice -/
def lenV : Value → Nat
  | .slice _ n _ => n
  | _ => 0
/-- numbers of gates -/
def nL (l : List Nat) : List Int := l.map (fun i : Nat => (i : Int))
theorem nL_len (l : List Nat) : (nL l).length = l.length := by simp [nL]
theorem nL_app (l : List Nat) (i : Nat) : nL (l ++ [i]) = nL l ++ [(i : Int)] := by simp [nL]

theorem own_ints1 {w : World} {base : Nat} {e : TypeId} {v : Value} {n : Nat} {xs : List Value} (ho : w.ownsRow base e 1 v n xs) : ∃ A k, v = .slice A n k ∧ ∀ a, A = some a → base ≤ a.block := by
  rcases ho.2 with ⟨rfl, hn⟩ | ⟨q, cap, cur, rfl, hg, hh, r⟩
  · have hn0 : n = 0 := by
      have := ho.1
      rw [hn] at this
      simp at this
      omega
    subst hn0
    exact ⟨none, 0, rfl, fun a h => by cases h⟩
  · exact ⟨_, cap, rfl, fun a h => by cases h; exact hg⟩
theorem info_bool8 : (Tryd.prog.info? 4).map (fun i => (i.zero, i.size, i.bytes)) = some (some (.bool false), 1, 1) := by kernel_rfl