/- The contracts of the reference's comparisons and copies. -/
import Derived.Test.YtmholdmcmbbdgaaDoorGatesMem
import Derived.Deep.AppendLies
import Derived.Maps.AppendAt
namespace Go.Proofs.YtmholdmcmbbdgaaDoor
open Go.RowKit
set_option linter.unusedVariables false

theorem below_dn {B : Nat} {a w : World} (h : Below B a w) (n : Nat) : Below B a (w.drewN n) := ⟨h.os, h.tape, h.output, h.size, h.block⟩

/-- two lists of numbers that agree -/
def sameB (n m : Nat) (f g : Nat → Int) : Bool := decide (n = m ∧ ∀ j, j < n → f j = g j)
theorem sameB_no {n m : Nat} {f g : Nat → Int} (h : n ≠ m) : sameB n m f g = false := decide_eq_false fun h' => h h'.1
theorem sameB_no2 {n m k : Nat} {f g : Nat → Int} (hk : k < n) (h : f k ≠ g k) : sameB n m f g = false := decide_eq_false fun h' => h (h'.2 k hk)
theorem sameB_yes {n : Nat} {f g : Nat → Int} (h : ∀ j, j < n → f j = g j) : sameB n n f g = true := decide_eq_true ⟨rfl, h⟩

set_option maxRecDepth 100000 in
set_option maxHeartbeats 2000000 in
theorem sameInts_any (A A' : Option Addr) (n m k k' : Nat) (f g : Nat → Int) (B : Nat) (w : World) (hn : n ≤ 100000) (hm : m ≤ 100000) (hA : IntsAt w B A n f) (hA' : IntsAt w B A' m g) :
    Calls Tryd.prog 29 #[.slice A n k, .slice A' m k'] w fun e w' => e = .returned (.bool (sameB n m f g)) ∧ Below w.heap.size w w' := by
  by_cases hnm : n = m
  · subst hnm
    go_enter Tryd.func29, Tryd.ntmps29
    go_wp2
    go_loopw [5] (fun i wr => ∃ q : Nat, q ≤ n ∧ i = .int .i64 q ∧ Hid (∀ j, j < q → f j = g j) ∧ ∃ d, wr = w.drewN d) (fun i _ => n - (intOf i).toNat)
    case atStart => exact ⟨0, Nat.zero_le _, rfl, fun j hj => absurd hj (Nat.not_lt_zero _), 0, rfl⟩
    case round =>
      obtain ⟨q, hq, rfl, hL, d, rfl⟩ := hrel
      by_cases hlt : q < n
      · obtain ⟨a, rfl, hb, hc⟩ := hA (by omega)
        obtain ⟨a', rfl, hb', hc'⟩ := hA' (by omega)
        have y := hc q hlt
        have y' := hc' q hlt
        clear hc hc'
        have hb1 : (0 : Int) ≤ (q : Int) := by omega
        have hb2 : (q : Int) < (n : Int) := by omega
        by_cases he : f q = g q
        · have h1 : (f q != g q) = false := by simp [he]
          have HE := Lib.hid he
          clear he
          go_wp2
          go_quiet (fail)
          go_wp2
          go_roundw
          case rel => exact ⟨q + 1, by omega, by go_num, fun j hj => by
            rcases Nat.lt_succ_iff_lt_or_eq.1 hj with h' | h'
            · exact hL.out j h'
            · subst h'; exact HE.out, _, rfl⟩
          case measure => simp [intOf]; omega
        · have h1 : (f q != g q) = true := by simp [he]
          have HR := Lib.hid (Li.ret_bool (sameB_no2 (m := n) hlt he))
          clear he
          go_wp2
          go_quiet (fail)
          go_wp2
          go_ret
          exact ⟨HR.out.symm, below_dn (below_dn (Below.refl _ _) _) _⟩
      · obtain rfl : q = n := by omega
        have HR := Lib.hid (Li.ret_bool (sameB_yes hL.out))
        clear hq hlt
        go_wp2
        go_ret
        exact ⟨HR.out.symm, below_dn (Below.refl _ _) _⟩
  · have HR := Lib.hid (Li.ret_bool (sameB_no (f := f) (g := g) hnm))
    have h1 : ((n : Int) != (m : Int)) = true := by simp; omega
    clear hnm
    go_enter Tryd.func29, Tryd.ntmps29
    go_wp2
    go_ret
    exact ⟨HR.out.symm, Below.refl _ _⟩

theorem sameInts_self (A A' : Option Addr) (n k k' : Nat) (f : Nat → Int) (B : Nat) (w : World) (hn : n ≤ 100000) (hA : IntsAt w B A n f) (hA' : IntsAt w B A' n f) :
    Calls Tryd.prog 29 #[.slice A n k, .slice A' n k'] w fun e w' => e = .returned (.bool true) ∧ Below w.heap.size w w' := by
  have h := sameInts_any A A' n n k k' f f B w hn hn hA hA'
  rw [sameB_yes (fun _ _ => rfl)] at h
  exact h