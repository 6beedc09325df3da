/- Cones within cones. -/
import Derived.Test.YtheekpmjcgmopaaGatesMore
import Derived.Test.YtheekpmjcgmopaaGatesKind
namespace Go.Proofs.Ytheekpmjcgmopaa
open Go.RowKit
set_option linter.unusedVariables false

namespace Cr
variable {c : Cr}
theorem rch_half (c : Cr) {l l' : Int} (h : l / 2 = l' / 2) : c.rch l = c.rch l' := by unfold rch; rw [h]
theorem cL_half {l l' : Int} (h : c.chk = 0) (h0 : 0 ≤ l) (h0' : 0 ≤ l') (hl : l / 2 ≤ c.sz) (e : l / 2 = l' / 2) : c.cL l' = c.cL l ∧ c.cE l' = 0 := by
  obtain ⟨a, _⟩ := cL_eq h h0 hl
  obtain ⟨b, d⟩ := cL_eq (l := l') h h0' (by omega)
  exact ⟨by rw [a, b, rch_half c e], d⟩
/-- the cone of what is reached lies in the cone -/
theorem cL_sub {l l' : Int} (h : c.chk = 0) (h0 : 0 ≤ l) (h0' : 0 ≤ l') (hl : l / 2 ≤ c.sz) (hl' : l' / 2 ≤ c.sz) (hr : Rc c (l / 2).toNat (l' / 2).toNat) : List.Sublist (c.cL l') (c.cL l) ∧ c.cE l' = 0 := by
  obtain ⟨a, _⟩ := cL_eq h h0 hl
  obtain ⟨b, d⟩ := cL_eq (l := l') h h0' hl'
  exact ⟨by rw [a, b]; exact cnL_sub (fun v hv => (rch_iff h l v).2 (hr.trans ((rch_iff h l' v).1 hv))) _, d⟩
theorem Rc.input {r v : Nat} (hr : r < c.fg) (h : c.chk = 0) (k : Rc c r v) : v = r := by
  cases k with
  | base => rfl
  | left hj k => have := k.le h; omega
  | right hj k => have := k.le h; omega
theorem Rc.split {j v : Nat} (hj : j < c.na) (k : Rc c (c.fg + j) v) : v = c.fg + j ∨ Rc c (c.ga j / 2).toNat v ∨ Rc c (c.gb j / 2).toNat v := by
  induction k with
  | base => exact Or.inl rfl
  | @left j' hj' _ ih =>
    rcases ih with ih | ih | ih
    · obtain rfl : j' = j := by omega
      exact Or.inr (Or.inl .base)
    · exact Or.inr (Or.inl (.left hj' ih))
    · exact Or.inr (Or.inr (.left hj' ih))
  | @right j' hj' _ ih =>
    rcases ih with ih | ih | ih
    · obtain rfl : j' = j := by omega
      exact Or.inr (Or.inr .base)
    · exact Or.inr (Or.inl (.right hj' ih))
    · exact Or.inr (Or.inr (.right hj' ih))
theorem mem_cL {l : Int} (h : c.chk = 0) (h0 : 0 ≤ l) (hl : l / 2 ≤ c.sz) {x : Int} : x ∈ c.cL l ↔ ∃ v : Nat, x = v ∧ 0 < v ∧ v < c.sz.toNat + 1 ∧ Rc c (l / 2).toNat v := by
  rw [(cL_eq h h0 hl).1, mem_cnL]
  exact ⟨fun ⟨v, a, b, d, e⟩ => ⟨v, a, b, d, (rch_iff h l v).1 e⟩, fun ⟨v, a, b, d, e⟩ => ⟨v, a, b, d, (rch_iff h l v).2 e⟩⟩
/-- the cone of an input or a latch -/
theorem cone_one {l : Int} (h : c.chk = 0) (h2 : 2 ≤ l) (hl : l / 2 ≤ c.sz) (hg : l / 2 - 1 - c.i - c.nl < 0) : (c.cL l).length = 1 := by
  have hz := chk_zero h
  have hf : (l / 2).toNat < c.fg := by unfold fg; omega
  have e := (cL_eq h (by omega) hl).1
  have hlast := cnL_last (R := c.rch l) (m := (l / 2).toNat) (by omega) (rc_rch h l .base) (fun v hv => by
    cases hh : c.rch l v
    · rfl
    · have := ((rch_iff h l v).1 hh).le h
      omega) (c.sz.toNat + 1) (by omega)
  rw [e, hlast]
  have h0 : cnL (c.rch l) (l / 2).toNat = [] := by
    cases hc : cnL (c.rch l) (l / 2).toNat with
    | nil => rfl
    | cons x t =>
      obtain ⟨v, _, _, h3, h4⟩ := mem_cnL.1 (hc ▸ List.mem_cons_self : x ∈ cnL (c.rch l) (l / 2).toNat)
      have := Rc.input hf h ((rch_iff h l v).1 h4)
      omega
  rw [h0]
  rfl
/-- what is in the cone of a gate, other than itself, is in that of one of its parts -/
theorem cone_parts {l : Int} {j : Nat} (h : c.chk = 0) (h2 : 2 ≤ l) (hl : l / 2 ≤ c.sz) (hj : j < c.na) (e : l / 2 = c.i + c.nl + 1 + j) :
    (List.Sublist (c.cL (c.ga j)) (c.cL l) ∧ c.cE (c.ga j) = 0) ∧ (List.Sublist (c.cL (c.gb j)) (c.cL l) ∧ c.cE (c.gb j) = 0) ∧ ∀ k, k + 1 < (c.cL l).length → List.Sublist [(c.cL l).getD k 0] (c.cL (c.ga j)) ∨ List.Sublist [(c.cL l).getD k 0] (c.cL (c.gb j)) := by
  obtain ⟨k1, k2, k3, k4, k5⟩ := gate_ok h hj
  have hz : c.sz = c.i + c.nl + c.na := rfl
  have er : (l / 2).toNat = c.fg + j := by unfold fg; omega
  have r0 : Rc c (l / 2).toNat (c.fg + j) := er ▸ .base
  refine ⟨cL_sub h (by omega) (by omega) hl (by omega) (.left hj r0), cL_sub h (by omega) (by omega) hl (by omega) (.right hj r0), fun k hk => ?_⟩
  have ok := cone_ok h h2 hl
  obtain ⟨m1, m2, m3⟩ := ok.mem k (by omega)
  have hlt := ok.inc k ((c.cL l).length - 1) (by omega) (by omega)
  rw [ok.last] at hlt
  rw [er] at m3
  rcases m3.split hj with m | m | m
  · omega
  · exact Or.inl (List.singleton_sublist.2 ((mem_cL h (by omega) (by omega)).2 ⟨_, (Int.toNat_of_nonneg (by omega)).symm, by omega, by omega, m⟩))
  · exact Or.inr (List.singleton_sublist.2 ((mem_cL h (by omega) (by omega)).2 ⟨_, (Int.toNat_of_nonneg (by omega)).symm, by omega, by omega, m⟩))
end Cr
theorem own_cap {w : World} {base : Nat} {e : TypeId} {v : Value} {xs : List Int} (h : w.ownsRow base e 1 v xs.length (il xs)) : ∃ A k, v = .slice A xs.length k ∧ IntsAt w w.heap.size A xs.length (fun j => xs.getD j 0) ∧ xs.length ≤ k ∧ k ≤ maxLen := by
  obtain ⟨A, k, e1, hi, _⟩ := own_list h
  refine ⟨A, k, e1, hi, ?_⟩
  rcases h.2 with ⟨h2, hn⟩ | ⟨g, cap, cur, h2, _, _, h3, h4, _⟩
  · rw [e1] at h2; injection h2 with _ h5 h6; omega
  · rw [e1] at h2; injection h2 with _ _ h6; omega
theorem coneAs {c : Cr} {l : Int} {ys : List Int} (h : c.cE l = 0) (hL : c.cL l = ys) (p : Pl) (w : World) (hm : Mem w w.heap.size c p) (hs : Sm c) : Calls Try.prog 13 #[cv c p, .int .i64 l] w fun e w' => ∃ A k, e = .returned (.tuple #[.slice A ys.length k, .int .i64 0]) ∧ IntsAt w' w'.heap.size A ys.length (fun j => ys.getD j 0) ∧ (ys.length ≤ k ∧ k ≤ 9223372036854775807) ∧ Below w.heap.size w w' := by
  refine (gCone_any c p l w hm hs).mono fun e w' ⟨v, he, ho, hb⟩ => ?_
  rw [hL] at ho
  obtain ⟨A, k, rfl, hi, h1, h2⟩ := own_cap ho
  exact ⟨A, k, by rw [he, h], hi, ⟨h1, by simpa [maxLen] using h2⟩, hb⟩
theorem gateAs {c : Cr} {v x : Int} (hx : v - 1 - c.i - c.nl = x) (p : Pl) (w : World) (h0 : 0 ≤ c.i) (h1 : c.i ≤ 1000) (h2 : c.nl ≤ 1000) (h3 : -1000000 ≤ v) (h4 : v ≤ 1000000) : Calls Try.prog 28 #[cv c p, .int .i64 v] w fun e w' => e = .returned (.int .i64 x) ∧ Below w.heap.size w w' := by
  have := rGate_any c p v w h0 h1 h2 h3 h4
  rwa [hx] at this
theorem ng_half (l : Int) : Li.ng l / 2 = l / 2 := by unfold Li.ng; split <;> omega
theorem has_one (A : Option Addr) (a : Addr) (k k' : Nat) (xs : List Int) (u : Int) (b : Bool) (B : Nat) (w : World) (hn : xs.length ≤ 100000) (hA : IntsAt w B A xs.length (fun j => xs.getD j 0)) (ha : a.block < B) (hc : w.cell? a = some (.int .i64 u)) (hb : decide (met xs [u] xs.length = 1) = b) :
    Calls Try.prog 27 #[.slice A xs.length k, .slice (some a) 1 k'] w fun e w' => e = .returned (.bool b) ∧ Below w.heap.size w w' := by
  have h := has_any A (some a) k k' xs [u] B w hn (by simp) hA (fun _ => ⟨a, rfl, ha, fun j hj => by
    obtain rfl : j = 0 := Nat.lt_one_iff.1 hj
    exact hc⟩)
  have e : decide (met xs [u] xs.length = [u].length) = b := hb
  rw [e] at h
  exact h
theorem one_met {xs : List Int} {u : Int} (h : List.Sublist [u] xs) : decide (met xs [u] xs.length = 1) = true := decide_eq_true (met_sub h)
