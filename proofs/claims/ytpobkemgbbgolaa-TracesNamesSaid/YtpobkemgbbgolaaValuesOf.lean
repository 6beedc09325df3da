/- The value of a literal: the contracts of values.Of, valueOf, and of the reference's Value and Same. -/
import Derived.Test.YtpobkemgbbgolaaValuesMem
namespace Go.Proofs.Ytpobkemgbbgolaa
open Go.RowKit
set_option linter.unusedVariables false
set_option linter.unusedSimpArgs false

set_option maxHeartbeats 1000000 in
theorem of_yes (A : Option Addr) (n k : Nat) (F : Nat → Bool) (l : Int) (B : Nat) (w : World) (hA : BlsAt w B A n F) (h0 : 0 ≤ l) (h1 : l ≤ 2001) (hn : l / 2 < (n : Int)) :
    Calls Try.prog 36 #[.slice A n k, .int .i64 l] w fun e w' => e = .returned (.tuple #[.bool (vlo F l), .int .i64 0]) ∧ w = w' := by
  obtain ⟨a, rfl, hb, hc⟩ := hA (by omega)
  have y := hc (l / 2).toNat (by omega)
  have m0 : 0 ≤ l / 2 := by omega
  have HV : (F (l / 2).toNat != Li.od l) = vlo F l := rfl
  clear hc hA
  go_enter Try.func36, Try.ntmps36
  go_wp2_with (go_at_call 49; refine (var_yes _ _ (Li.isL_mk h0 h1)).mono ?_; rintro e w1 ⟨rfl, rfl⟩)
  go_ret2
  exact ⟨rfl, rfl⟩

set_option maxHeartbeats 1000000 in
theorem of_no (A : Option Addr) (n k : Nat) (l : Int) (w : World) (h : l < 0 ∨ 2001 < l ∨ (n : Int) ≤ l / 2) :
    Calls Try.prog 36 #[.slice A n k, .int .i64 l] w fun e w' => e = .returned (.tuple #[.bool false, .int .i64 2]) ∧ w = w' := by
  cases hl : Li.isL l
  · go_enter Try.func36, Try.ntmps36
    go_wp2_with (go_at_call 49; refine (var_no _ _ hl).mono ?_; rintro e w1 ⟨rfl, rfl⟩)
    go_ret2
    exact ⟨rfl, rfl⟩
  · have hb := Li.isL_yes hl
    have hn : (n : Int) ≤ l / 2 := by omega
    clear h
    go_enter Try.func36, Try.ntmps36
    go_wp2_with (go_at_call 49; refine (var_yes _ _ hl).mono ?_; rintro e w1 ⟨rfl, rfl⟩)
    go_ret2
    exact ⟨rfl, rfl⟩

set_option maxHeartbeats 1000000 in
theorem valueOf_any (A : Option Addr) (n k : Nat) (F : Nat → Bool) (l : Int) (B : Nat) (w : World) (hA : BlsAt w B A n F) (h0 : 0 ≤ l) (h1 : l ≤ 2001) (hn : l / 2 < (n : Int)) :
    Calls Try.prog 27 #[.slice A n k, .int .i64 l] w fun e w' => e = .returned (.bool (vlo F l)) ∧ w = w' := by
  go_enter Try.func27, Try.ntmps27
  go_wp2_with (go_at_call 36; refine (of_yes A n k F l B _ hA h0 h1 hn).mono ?_; rintro e w1 ⟨rfl, rfl⟩)
  go_ret
  exact ⟨rfl, rfl⟩

/-- the function isFalse of Props: its box holds the values -/
theorem isFalse_any (A : Option Addr) (n k : Nat) (F : Nat → Bool) (l : Int) (B b : Nat) (w : World) (hA : BlsAt w B A n F) (hb : Has w b 29 #[.slice A n k]) (h0 : 0 ≤ l) (h1 : l ≤ 2001) (hn : l / 2 < (n : Int)) :
    Calls Try.prog 37 #[.int .i64 l, .pointer (some ⟨b, 0, none⟩)] w fun e w' => e = .returned (.bool (!vlo F l)) ∧ w = w' := by
  have x := hb.cell 0
  simp only [List.getElem?_toArray, List.getElem?_cons_zero] at x
  clear hb
  go_enter Try.func37, Try.ntmps37
  go_wp2_with (go_at_call 27; refine (valueOf_any A n k F l B _ hA h0 h1 hn).mono ?_; rintro e w1 ⟨rfl, rfl⟩)
  go_ret
  exact ⟨rfl, rfl⟩

/-- a part of the values: where it starts -/
abbrev partA (g first size : Nat) : Option Addr := some ⟨g, if size = 0 then 0 else first, none⟩
set_option maxRecDepth 100000 in
set_option maxHeartbeats 1000000 in
theorem part_any (g N b first size : Nat) (w : World) (hb : Has w b 29 #[.slice (some ⟨g, 0, none⟩) N N]) (hN : N ≤ 2000) (hf : first + size ≤ N) :
    Calls Try.prog 35 #[.int .i64 first, .int .i64 size, .pointer (some ⟨b, 0, none⟩)] w fun e w' => e = .returned (.slice (partA g first size) size size) ∧ w = w' := by
  have x := hb.cell 0
  simp only [List.getElem?_toArray, List.getElem?_cons_zero] at x
  clear hb
  by_cases hs : size = 0
  · subst hs
    go_enter Try.func35, Try.ntmps35
    go_wp2
    go_ret
    refine ⟨?_, rfl⟩
    simp [partA]
  · have hp : 0 < size := by omega
    have e : partA g first size = some ⟨g, first, none⟩ := by unfold partA; rw [if_neg hs]
    rw [e]
    go_enter Try.func35, Try.ntmps35
    go_wp2
    go_ret
    refine ⟨?_, rfl⟩
    simp

/-- two lists of truth values that agree -/
def samB (n m : Nat) (f g : Nat → Bool) : Bool := decide (n = m ∧ ∀ j, j < n → f j = g j)
theorem samB_no {n m : Nat} {f g : Nat → Bool} (h : n ≠ m) : samB n m f g = false := decide_eq_false fun h' => h h'.1
theorem samB_no2 {n m k : Nat} {f g : Nat → Bool} (hk : k < n) (h : f k ≠ g k) : samB n m f g = false := decide_eq_false fun h' => h (h'.2 k hk)
theorem samB_yes {n : Nat} {f g : Nat → Bool} (h : ∀ j, j < n → f j = g j) : samB n n f g = true := decide_eq_true ⟨rfl, h⟩

set_option maxRecDepth 100000 in
set_option maxHeartbeats 2000000 in
theorem samBs_any (A A' : Option Addr) (n m k k' : Nat) (f g : Nat → Bool) (B : Nat) (w : World) (hn : n ≤ 100000) (hm : m ≤ 100000) (hA : BlsAt w B A n f) (hA' : BlsAt w B A' m g) :
    Calls Try.prog 25 #[.slice A n k, .slice A' m k'] w fun e w' => e = .returned (.bool (samB n m f g)) ∧ Below w.heap.size w w' := by
  by_cases hnm : n = m
  · subst hnm
    go_enter Try.func25, Try.ntmps25
    go_wp2
    go_loopw [5] (fun i wr => ∃ q : Nat, q ≤ n ∧ i = .int .i64 q ∧ Hid (∀ j, j < q → f j = g j) ∧ ∃ d, wr = w.drewN d) (fun i _ => n - (intOf i).toNat)
    case atStart => exact ⟨0, Nat.zero_le _, rfl, fun j hj => absurd hj (Nat.not_lt_zero _), 0, rfl⟩
    case round =>
      obtain ⟨q, hq, rfl, hL, d, rfl⟩ := hrel
      by_cases hlt : q < n
      · obtain ⟨a, rfl, hb, hc⟩ := hA (by omega)
        obtain ⟨a', rfl, hb', hc'⟩ := hA' (by omega)
        have y := hc q hlt
        have y' := hc' q hlt
        clear hc hc'
        have hb1 : (0 : Int) ≤ (q : Int) := by omega
        have hb2 : (q : Int) < (n : Int) := by omega
        obtain ⟨u, hu⟩ : ∃ u, f q = u := ⟨_, rfl⟩
        obtain ⟨u', hu'⟩ : ∃ u', g q = u' := ⟨_, rfl⟩
        rw [hu] at y
        rw [hu'] at y'
        have HU := Lib.hid hu
        have HU' := Lib.hid hu'
        clear hu hu'
        by_cases he : u = u'
        · subst he
          have h1 : (u != u) = false := by simp
          go_wp2
          go_quiet (fail)
          go_wp2
          go_roundw
          case rel => exact ⟨q + 1, by omega, by go_num, fun j hj => by
            rcases Nat.lt_succ_iff_lt_or_eq.1 hj with h' | h'
            · exact hL.out j h'
            · subst h'; rw [HU.out, HU'.out], _, rfl⟩
          case measure => simp [intOf]; omega
        · have h1 : (u != u') = true := by simp [he]
          have HR := Lib.hid (Li.ret_bool (samB_no2 (f := f) (g := g) (m := n) hlt (by rw [HU.out, HU'.out]; exact he)))
          cases u <;> cases u' <;> simp at he
          all_goals
            go_wp2
            go_quiet (fail)
            go_wp2
            go_ret
            exact ⟨HR.out.symm, below_dn (below_dn (Below.refl _ _) _) _⟩
      · obtain rfl : q = n := by omega
        have HR := Lib.hid (Li.ret_bool (samB_yes hL.out))
        clear hq hlt
        go_wp2
        go_ret
        exact ⟨HR.out.symm, below_dn (Below.refl _ _) _⟩
  · have HR := Lib.hid (Li.ret_bool (samB_no (f := f) (g := g) hnm))
    have h1 : ((n : Int) != (m : Int)) = true := by simp; omega
    go_enter Try.func25, Try.ntmps25
    go_wp2
    go_ret
    exact ⟨HR.out.symm, by go_grown⟩
