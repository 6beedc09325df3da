/- A gate more, and the values of all variables. -/
import Derived.Test.YthpifibemekmcaaValuesAlive
namespace Go.Proofs.Ythpifibemekmcaa
open Go.RowKit
set_option linter.unusedVariables false

namespace Cr
variable {c : Cr} {a b : Int} {s t : Nat → Bool}
theorem more_frA : ∀ k, k ≤ c.na → ∀ v, (c.more a b).frA s t k v = c.frA s t k v
  | 0, _, v => rfl
  | k + 1, h, v => by
    have ih : (c.more a b).frA s t k = c.frA s t k := funext (more_frA k (by omega))
    have e1 : (c.more a b).ga k = c.ga k := if_neg (by omega)
    have e2 : (c.more a b).gb k = c.gb k := if_neg (by omega)
    rw [frA_succ, frA_succ, e1, e2, ih]
    rfl
theorem more_fr {v : Nat} (hv : v < c.fg + c.na) : (c.more a b).fr s t v = c.fr s t v := by
  have h1 : (c.more a b).fr s t v = (c.more a b).frA s t c.na v := fr_of (c := c.more a b) hv (Nat.le_succ _)
  rw [h1]
  exact more_frA c.na (Nat.le_refl _) v
theorem more_fr_last : (c.more a b).fr s t (c.fg + c.na) = (vlo (c.fr s t) a && vlo (c.fr s t) b) := by
  have e0 : (c.more a b).fr s t = (c.more a b).frA s t (c.na + 1) := rfl
  have e1 : (c.more a b).ga c.na = a := if_pos rfl
  have e2 : (c.more a b).gb c.na = b := if_pos rfl
  have ih : (c.more a b).frA s t c.na = c.fr s t := funext (more_frA c.na (Nat.le_refl _))
  rw [e0, frA_succ, e1, e2, ih]
  exact if_pos rfl
theorem more_ask {ns ni : Nat} (h : c.ask ns ni = 0) (hm : (c.more a b).chk = 0) : (c.more a b).ask ns ni = 0 := by
  obtain ⟨_, h1, h2⟩ := ask_zero h
  exact ask_ok hm h1 h2
end Cr

theorem all_fl {c : Cr} {p : Pl} {As At : Option Addr} {ns ks ni ki : Nat} {s t : Nat → Bool} (hk : c.ask ns ni = 0) (w : World) (h : Arg w w.heap.size c p As ns ks s At ni ki t) :
    Calls Try.prog 33 #[cv c p, .slice As ns ks, .slice At ni ki] w (BoolsFull (c.fg + c.na) (c.fr s t) 0 w) := all_full c p As At ns ks ni ki s t w h.hm h.hs h.hS h.hT hk
theorem samBs_eq (A A' : Option Addr) (n k k' : Nat) (f g : Nat → Bool) (B : Nat) (w : World) (hn : n ≤ 100000) (hA : BlsAt w B A n f) (hA' : BlsAt w B A' n g) (hfg : ∀ j, j < n → f j = g j) :
    Calls Try.prog 44 #[.slice A n k, .slice A' n k'] w fun e w' => e = .returned (.bool true) ∧ Below w.heap.size w w' := by
  have h := samBs_any A A' n n k k' f g B w hn hn hA hA'
  rw [samB_yes hfg] at h
  exact h
theorem is_at {A : Option Addr} {n k : Nat} {F : Nat → Bool} {l : Int} {x : Bool} (hx : vlo F l = x) (B : Nat) (w : World) (hA : BlsAt w B A n F) (h0 : 0 ≤ l) (h1 : l ≤ 2001) (hn : l / 2 < (n : Int)) :
    Calls Try.prog 41 #[.slice A n k, .int .i64 l] w fun e w' => e = .returned (.bool x) ∧ Below w.heap.size w w' := by
  subst hx
  exact (is_any A n k F l B w hA h0 h1 hn).mono fun e w' ⟨h, hw⟩ => ⟨h, hw ▸ Below.refl _ _⟩
theorem BlsAt.first {w : World} {B g : Nat} {n m : Nat} {f : Nat → Bool} (h : BlsAt w B (some ⟨g, 0, none⟩) n f) (hm : m ≤ n) : BlsAt w B (some ⟨g, 0, none⟩) m f := fun hp => by
  obtain ⟨a, e, hl, hc⟩ := h (by omega)
  exact ⟨a, e, hl, fun j hj => hc j (by omega)⟩
theorem BlsAt.cell {w : World} {B g : Nat} {n : Nat} {f : Nat → Bool} (h : BlsAt w B (some ⟨g, 0, none⟩) n f) {j : Nat} (hj : j < n) : g < B ∧ w.cell? ⟨g, j, none⟩ = some (.bool (f j)) := by
  obtain ⟨a, e, hl, hc⟩ := h (by omega)
  injection e with e
  subst e
  refine ⟨hl, ?_⟩
  have := hc j hj
  have e : (⟨g, 0, none⟩ : Addr).add j = ⟨g, j, none⟩ := by unfold Addr.add; split <;> simp_all
  rwa [e] at this
