/- Lists of bytes: the contracts of areTruths, Covers, and of the reference's Right, Over, Same, Covers. -/
import Derived.Test.YthpifibemekmcaaTernOf
import Derived.Test.YthpifibemekmcaaGatesProg
namespace Go.Proofs.Ythpifibemekmcaa
open Go.RowKit
set_option linter.unusedVariables false
set_option linter.unusedSimpArgs false

/-- all bytes of a list are truth values -/
def allTb (f : Nat → Int) (n : Nat) : Bool := decide (∀ j, j < n → f j ≤ 2)
theorem allTb_no {f : Nat → Int} {n k : Nat} (hk : k < n) (h : 2 < f k) : allTb f n = false := decide_eq_false fun h' => by have := h' k hk; omega
theorem allTb_yes {f : Nat → Int} {n : Nat} (h : ∀ j, j < n → f j ≤ 2) : allTb f n = true := decide_eq_true h
theorem allTb_at {f : Nat → Int} {n : Nat} (h : allTb f n = true) (hr : ∀ j, j < n → 0 ≤ f j ∧ f j ≤ 255) : ∀ j, j < n → isT (f j) := fun j hj => isT_mk (hr j hj).1 ((of_decide_eq_true h : ∀ j, j < n → f j ≤ 2) j hj)
theorem allTb_of {f : Nat → Int} {n : Nat} (h : ∀ j, j < n → isT (f j)) : allTb f n = true := decide_eq_true fun j hj => (h j hj).lo.2

set_option maxRecDepth 100000 in
set_option maxHeartbeats 2000000 in
theorem tRight_any (A : Option Addr) (n k : Nat) (f : Nat → Int) (B : Nat) (w : World) (hn : n ≤ 100000) (hA : TrAt w B A n f) (hr : ∀ j, j < n → 0 ≤ f j ∧ f j ≤ 255) :
    Calls Try.prog 35 #[.slice A n k] w fun e w' => e = .returned (.bool (allTb f n)) ∧ w = w' := by
  go_enter Try.func35, Try.ntmps35
  go_wp2
  go_loop [3] (fun i => ∃ q : Nat, q ≤ n ∧ i = .int .i64 q ∧ Hid (∀ j, j < q → f j ≤ 2)) (fun i => n - (intOf i).toNat)
  case atStart => exact ⟨0, Nat.zero_le _, rfl, Lib.hid (fun j hj => absurd hj (Nat.not_lt_zero _))⟩
  case round =>
    obtain ⟨q, hq, rfl, hL⟩ := hrel
    by_cases hlt : q < n
    · obtain ⟨a, rfl, hb, hc⟩ := hA (by omega)
      have y := hc q hlt
      have hr0 := (hr q hlt).1
      clear hc
      have hb1 : (0 : Int) ≤ (q : Int) := by omega
      have hb2 : (q : Int) < (n : Int) := by omega
      by_cases h2 : 2 < f q
      · have HR := Lib.hid (allTb_no hlt h2)
        go_wp2
        go_ret
        exact ⟨Li.ret_bool HR.out.symm, rfl⟩
      · have h3 : f q ≤ 2 := by omega
        go_wp2
        go_round
        case rel => exact ⟨q + 1, by omega, by go_num, Lib.hid (fun j hj => by
          rcases Nat.lt_succ_iff_lt_or_eq.1 hj with h' | h'
          · exact hL.out j h'
          · subst h'; exact h3)⟩
        case measure => simp [intOf]; omega
    · obtain rfl : q = n := by omega
      have HR := Lib.hid (allTb_yes hL.out)
      clear hq hlt
      go_wp2
      go_ret
      exact ⟨Li.ret_bool HR.out.symm, rfl⟩

/-- a list covers another one that is as long -/
def covL (f g : Nat → Int) (n : Nat) : Bool := decide (∀ j, j < n → tcov (f j) (g j))
theorem covL_no {f g : Nat → Int} {n k : Nat} (hk : k < n) (h : ¬ tcov (f k) (g k)) : covL f g n = false := decide_eq_false fun h' => h (h' k hk)
theorem covL_yes {f g : Nat → Int} {n : Nat} (h : ∀ j, j < n → tcov (f j) (g j)) : covL f g n = true := decide_eq_true h
theorem covL_at {f g : Nat → Int} {n : Nat} (h : covL f g n = true) : ∀ j, j < n → tcov (f j) (g j) := of_decide_eq_true h

set_option maxRecDepth 100000 in
set_option maxHeartbeats 2000000 in
theorem tOver_any (A A' : Option Addr) (n k k' : Nat) (f g : Nat → Int) (B : Nat) (w : World) (hn : n ≤ 100000) (hA : TrAt w B A n f) (hA' : TrAt w B A' n g) :
    Calls Try.prog 60 #[.slice A n k, .slice A' n k'] w fun e w' => e = .returned (.bool (covL f g n)) ∧ Below w.heap.size w w' := by
  go_enter Try.func60, Try.ntmps60
  go_wp2
  go_loopw [5] (fun i wr => ∃ q : Nat, q ≤ n ∧ i = .int .i64 q ∧ Hid (∀ j, j < q → tcov (f j) (g j)) ∧ ∃ d, wr = w.drewN d) (fun i _ => n - (intOf i).toNat)
  case atStart => exact ⟨0, Nat.zero_le _, rfl, Lib.hid (fun j hj => absurd hj (Nat.not_lt_zero _)), 0, rfl⟩
  case round =>
    obtain ⟨q, hq, rfl, hL, d, rfl⟩ := hrel
    by_cases hlt : q < n
    · obtain ⟨a, rfl, hb, hc⟩ := hA (by omega)
      obtain ⟨a', rfl, hb', hc'⟩ := hA' (by omega)
      have y := hc q hlt
      have y' := hc' q hlt
      clear hc hc'
      have hb1 : (0 : Int) ≤ (q : Int) := by omega
      have hb2 : (q : Int) < (n : Int) := by omega
      obtain ⟨u, hu⟩ : ∃ u, f q = u := ⟨_, rfl⟩
      obtain ⟨u', hu'⟩ : ∃ u', g q = u' := ⟨_, rfl⟩
      rw [hu] at y
      rw [hu'] at y'
      have HU := Lib.hid hu
      have HU' := Lib.hid hu'
      clear hu hu'
      by_cases h2 : u = 2
      · have t1 : (u != 2) = false := by simp [h2]
        have HR := Lib.hid (show tcov (f q) (g q) from Or.inl (HU.out.trans h2))
        clear h2
        go_wp2
        go_quiet (fail)
        go_wp2
        go_roundw
        case rel => exact ⟨q + 1, by omega, by go_num, Lib.hid (fun j hj => by
          rcases Nat.lt_succ_iff_lt_or_eq.1 hj with h' | h'
          · exact hL.out j h'
          · subst h'; exact HR.out), _, rfl⟩
        case measure => simp [intOf]; omega
      · have t1 : (u != 2) = true := by simp [h2]
        by_cases h3 : u = u'
        · have t2 : (u != u') = false := by simp [h3]
          have HR := Lib.hid (show tcov (f q) (g q) from Or.inr (by rw [HU.out, HU'.out, h3]))
          clear h2 h3
          go_wp2
          go_quiet (fail)
          go_wp2
          go_roundw
          case rel => exact ⟨q + 1, by omega, by go_num, Lib.hid (fun j hj => by
            rcases Nat.lt_succ_iff_lt_or_eq.1 hj with h' | h'
            · exact hL.out j h'
            · subst h'; exact HR.out), _, rfl⟩
          case measure => simp [intOf]; omega
        · have t2 : (u != u') = true := by simp [h3]
          have HR := Lib.hid (covL_no (f := f) (g := g) hlt (by rw [HU.out, HU'.out]; rintro (h | h); exact h2 h; exact h3 h))
          clear h2 h3
          go_wp2
          go_quiet (fail)
          go_wp2
          go_ret
          exact ⟨Li.ret_bool HR.out.symm, below_dn (below_dn (Below.refl _ _) _) _⟩
    · obtain rfl : q = n := by omega
      have HR := Lib.hid (covL_yes hL.out)
      clear hq hlt
      go_wp2
      go_ret
      exact ⟨Li.ret_bool HR.out.symm, below_dn (Below.refl _ _) _⟩

/-- two lists of bytes that agree -/
def samT (n m : Nat) (f g : Nat → Int) : Bool := decide (n = m ∧ ∀ j, j < n → f j = g j)
theorem samT_no {n m : Nat} {f g : Nat → Int} (h : n ≠ m) : samT n m f g = false := decide_eq_false fun h' => h h'.1
theorem samT_no2 {n m k : Nat} {f g : Nat → Int} (hk : k < n) (h : f k ≠ g k) : samT n m f g = false := decide_eq_false fun h' => h (h'.2 k hk)
theorem samT_yes {n : Nat} {f g : Nat → Int} (h : ∀ j, j < n → f j = g j) : samT n n f g = true := decide_eq_true ⟨rfl, h⟩
theorem samT_at {n m : Nat} {f g : Nat → Int} (h : samT n m f g = true) : n = m ∧ ∀ j, j < n → f j = g j := of_decide_eq_true h

set_option maxRecDepth 100000 in
set_option maxHeartbeats 2000000 in
theorem samTs_any (A A' : Option Addr) (n m k k' : Nat) (f g : Nat → Int) (B : Nat) (w : World) (hn : n ≤ 100000) (hm : m ≤ 100000) (hA : TrAt w B A n f) (hA' : TrAt w B A' m g) :
    Calls Try.prog 19 #[.slice A n k, .slice A' m k'] w fun e w' => e = .returned (.bool (samT n m f g)) ∧ Below w.heap.size w w' := by
  by_cases hnm : n = m
  · subst hnm
    go_enter Try.func19, Try.ntmps19
    go_wp2
    go_loopw [5] (fun i wr => ∃ q : Nat, q ≤ n ∧ i = .int .i64 q ∧ Hid (∀ j, j < q → f j = g j) ∧ ∃ d, wr = w.drewN d) (fun i _ => n - (intOf i).toNat)
    case atStart => exact ⟨0, Nat.zero_le _, rfl, Lib.hid (fun j hj => absurd hj (Nat.not_lt_zero _)), 0, rfl⟩
    case round =>
      obtain ⟨q, hq, rfl, hL, d, rfl⟩ := hrel
      by_cases hlt : q < n
      · obtain ⟨a, rfl, hb, hc⟩ := hA (by omega)
        obtain ⟨a', rfl, hb', hc'⟩ := hA' (by omega)
        have y := hc q hlt
        have y' := hc' q hlt
        clear hc hc'
        have hb1 : (0 : Int) ≤ (q : Int) := by omega
        have hb2 : (q : Int) < (n : Int) := by omega
        obtain ⟨u, hu⟩ : ∃ u, f q = u := ⟨_, rfl⟩
        obtain ⟨u', hu'⟩ : ∃ u', g q = u' := ⟨_, rfl⟩
        rw [hu] at y
        rw [hu'] at y'
        have HU := Lib.hid hu
        have HU' := Lib.hid hu'
        clear hu hu'
        by_cases he : u = u'
        · subst he
          have h1 : (u != u) = false := by simp
          go_wp2
          go_quiet (fail)
          go_wp2
          go_roundw
          case rel => exact ⟨q + 1, by omega, by go_num, Lib.hid (fun j hj => by
            rcases Nat.lt_succ_iff_lt_or_eq.1 hj with h' | h'
            · exact hL.out j h'
            · subst h'; rw [HU.out, HU'.out]), _, rfl⟩
          case measure => simp [intOf]; omega
        · have h1 : (u != u') = true := by simp [he]
          have HR := Lib.hid (samT_no2 (f := f) (g := g) (m := n) hlt (by rw [HU.out, HU'.out]; exact he))
          clear he
          go_wp2
          go_quiet (fail)
          go_wp2
          go_ret
          exact ⟨Li.ret_bool HR.out.symm, below_dn (below_dn (Below.refl _ _) _) _⟩
      · obtain rfl : q = n := by omega
        have HR := Lib.hid (samT_yes hL.out)
        clear hq hlt
        go_wp2
        go_ret
        exact ⟨Li.ret_bool HR.out.symm, below_dn (Below.refl _ _) _⟩
  · have HR := Lib.hid (samT_no (f := f) (g := g) hnm)
    have h1 : ((n : Int) != (m : Int)) = true := by simp; omega
    clear hnm
    go_enter Try.func19, Try.ntmps19
    go_wp2
    go_ret
    exact ⟨Li.ret_bool HR.out.symm, by go_grown⟩
theorem samTs_self (A A' : Option Addr) (n k k' : Nat) (f : Nat → Int) (B : Nat) (w : World) (hn : n ≤ 100000) (hA : TrAt w B A n f) (hA' : TrAt w B A' n f) :
    Calls Try.prog 19 #[.slice A n k, .slice A' n k'] w fun e w' => e = .returned (.bool true) ∧ Below w.heap.size w w' := by
  have h := samTs_any A A' n n k k' f f B w hn hn hA hA'
  rw [samT_yes (fun _ _ => rfl)] at h
  exact h

/-- what Covers returns -/
def covV (n m : Nat) (f g : Nat → Int) : Bool := if allTb f n && allTb g m then (if n = m then covL f g n else false) else false
def covE (n m : Nat) (f g : Nat → Int) : Int := if allTb f n && allTb g m then (if n = m then 0 else 2) else 8
theorem cov_ways (n m : Nat) (f g : Nat → Int) : (allTb f n = false ∧ covV n m f g = false ∧ covE n m f g = 8) ∨ (allTb f n = true ∧ allTb g m = false ∧ covV n m f g = false ∧ covE n m f g = 8) ∨ (allTb f n = true ∧ allTb g m = true ∧ n ≠ m ∧ covV n m f g = false ∧ covE n m f g = 2) ∨ (allTb f n = true ∧ allTb g m = true ∧ n = m ∧ covV n m f g = covL f g n ∧ covE n m f g = 0) := by
  unfold covV covE
  cases allTb f n
  · exact Or.inl ⟨rfl, rfl, rfl⟩
  · cases allTb g m
    · exact Or.inr (Or.inl ⟨rfl, rfl, rfl, rfl⟩)
    · by_cases h : n = m
      · exact Or.inr (Or.inr (Or.inr ⟨rfl, rfl, h, if_pos h, if_pos h⟩))
      · exact Or.inr (Or.inr (Or.inl ⟨rfl, rfl, h, if_neg h, if_neg h⟩))

set_option maxRecDepth 100000 in
set_option maxHeartbeats 2000000 in
theorem trCovers_any (A A' : Option Addr) (n m k k' : Nat) (f g : Nat → Int) (w : World) (hn : n ≤ 100000) (hm : m ≤ 100000) (hA : TrAt w w.heap.size A n f) (hA' : TrAt w w.heap.size A' m g) (hr : ∀ j, j < n → 0 ≤ f j ∧ f j ≤ 255) (hr' : ∀ j, j < m → 0 ≤ g j ∧ g j ≤ 255) :
    Calls Try.prog 29 #[.slice A n k, .slice A' m k'] w fun e w' => e = .returned (.tuple #[.bool (covV n m f g), .int .i64 (covE n m f g)]) ∧ Below w.heap.size w w' := by
  have hB0 : Below w.heap.size w w := Below.refl _ _
  have C1 := tRight_any A n k f w.heap.size w hn hA hr
  have C2 := tRight_any A' m k' g w.heap.size w hm hA' hr'
  rcases cov_ways n m f g with ⟨a, v, x⟩ | ⟨a, b, v, x⟩ | ⟨a, b, d, v, x⟩ | ⟨a, b, d, v, x⟩
  · rw [a] at C1
    rw [v, x]
    clear a v x C2
    go_enter Try.func29, Try.ntmps29
    go_wp2_with (first
      | (go_at_call 35; (with_reducible refine C1.mono ?_); rintro e w1 ⟨rfl, rfl⟩))
    go_ret2
    exact ⟨rfl, hB0⟩
  · rw [a] at C1
    rw [b] at C2
    rw [v, x]
    clear a b v x
    go_enter Try.func29, Try.ntmps29
    go_wp2_with (first
      | (go_at_call 35; (with_reducible refine C1.mono ?_); rintro e w1 ⟨rfl, rfl⟩)
      | (go_at_call 35; (with_reducible refine C2.mono ?_); rintro e w1 ⟨rfl, rfl⟩))
    go_ret2
    exact ⟨rfl, hB0⟩
  · rw [a] at C1
    rw [b] at C2
    rw [v, x]
    have t1 : ((n : Int) != (m : Int)) = true := by simp; omega
    clear a b v x d
    go_enter Try.func29, Try.ntmps29
    go_wp2_with (first
      | (go_at_call 35; (with_reducible refine C1.mono ?_); rintro e w1 ⟨rfl, rfl⟩)
      | (go_at_call 35; (with_reducible refine C2.mono ?_); rintro e w1 ⟨rfl, rfl⟩))
    go_ret2
    exact ⟨rfl, hB0⟩
  · rw [a] at C1
    rw [b] at C2
    rw [v, x]
    subst d
    have C3 := tOver_any A A' n k k' f g w.heap.size w hn hA hA'
    have t1 : ((n : Int) != (n : Int)) = false := by simp
    clear a b v x
    go_enter Try.func29, Try.ntmps29
    go_wp2_with (first
      | (go_at_call 35; (with_reducible refine C1.mono ?_); rintro e w1 ⟨rfl, rfl⟩)
      | (go_at_call 35; (with_reducible refine C2.mono ?_); rintro e w1 ⟨rfl, rfl⟩)
      | (go_at_call 60; (with_reducible refine C3.mono ?_); rintro e w1 ⟨rfl, hb1⟩))
    go_ret2
    exact ⟨rfl, hb1⟩

/-! the program's -/

/-- the value of isNone -/
abbrev isNv : Value := .func (.func 69) #[] #[]
theorem isNone_any {a : Int} (h : 0 ≤ a) (w : World) : Calls Try.prog 69 #[.int .u8 a] w fun e w' => e = .returned (.bool (!isTb a)) ∧ w = w' := by
  go_enter Try.func69, Try.ntmps69
  go_wp2_with (go_at_call 48; (with_reducible refine (isTruth_any h w).mono ?_); rintro e w1 ⟨rfl, rfl⟩)
  go_ret
  exact ⟨rfl, rfl⟩

set_option maxRecDepth 100000 in
set_option maxHeartbeats 2000000 in
theorem indexU8_any (A : Option Addr) (n k : Nat) (f : Nat → Int) (B : Nat) (w : World) (hn : n ≤ 100000) (hA : TrAt w B A n f) (hr : ∀ j, j < n → 0 ≤ f j ∧ f j ≤ 255) :
    Calls Try.prog 80 #[.slice A n k, isNv] w fun e w' => (∃ x : Int, e = .returned (.int .i64 x) ∧ decide (0 ≤ x) = !allTb f n) ∧ w = w' := by
  go_enter Try.func80, Try.ntmps80
  go_wp2
  go_loop [8] (fun i => ∃ q : Nat, q ≤ n ∧ i = .int .i64 q ∧ Hid (∀ j, j < q → f j ≤ 2)) (fun i => n - (intOf i).toNat)
  case atStart => exact ⟨0, Nat.zero_le _, rfl, Lib.hid (fun j hj => absurd hj (Nat.not_lt_zero _))⟩
  case round =>
    obtain ⟨q, hq, rfl, hL⟩ := hrel
    by_cases hlt : q < n
    · obtain ⟨a, rfl, hab, hcs⟩ := hA (by omega)
      have y0 := hcs q hlt
      have hr0 := (hr q hlt).1
      clear hcs
      have C := isNone_any hr0 w
      cases hv : isTb (f q)
      · have HV := Lib.hid (show allTb f n = false from allTb_no hlt (by have := of_decide_eq_false hv; omega))
        rw [hv] at C
        clear hv
        go_wp2_with (go_at_call 69; (with_reducible refine C.mono ?_); rintro e w1 ⟨rfl, rfl⟩)
        go_ret
        exact ⟨⟨_, rfl, by rw [HV.out]; simp⟩, rfl⟩
      · have HW := Lib.hid (show f q ≤ 2 from of_decide_eq_true hv)
        rw [hv] at C
        clear hv
        go_wp2_with (go_at_call 69; (with_reducible refine C.mono ?_); rintro e w1 ⟨rfl, rfl⟩)
        go_round
        case rel => exact ⟨q + 1, by omega, by go_num, Lib.hid (fun j hj => by
          rcases Nat.lt_succ_iff_lt_or_eq.1 hj with h' | h'
          · exact hL.out j h'
          · subst h'; exact HW.out)⟩
        case measure => simp [intOf]; omega
    · obtain rfl : q = n := by omega
      have HV := Lib.hid (show allTb f q = true from allTb_yes hL.out)
      clear hq hlt
      go_wp2
      go_ret
      exact ⟨⟨_, rfl, by rw [HV.out]; rfl⟩, rfl⟩

set_option maxHeartbeats 1000000 in
theorem containsU8_any (A : Option Addr) (n k : Nat) (f : Nat → Int) (B : Nat) (w : World) (hn : n ≤ 100000) (hA : TrAt w B A n f) (hr : ∀ j, j < n → 0 ≤ f j ∧ f j ≤ 255) :
    Calls Try.prog 70 #[.slice A n k, isNv] w fun e w' => e = .returned (.bool (!allTb f n)) ∧ w = w' := by
  have C := indexU8_any A n k f B w hn hA hr
  go_enter Try.func70, Try.ntmps70
  go_wp2_with (go_at_call 80; (with_reducible refine C.mono ?_); rintro e w1 ⟨⟨x, rfl, hx⟩, rfl⟩)
  go_ret
  exact ⟨rfl, rfl⟩

set_option maxHeartbeats 1000000 in
theorem areTruths_any (A : Option Addr) (n k : Nat) (f : Nat → Int) (B : Nat) (w : World) (hn : n ≤ 100000) (hA : TrAt w B A n f) (hr : ∀ j, j < n → 0 ≤ f j ∧ f j ≤ 255) :
    Calls Try.prog 45 #[.slice A n k] w fun e w' => e = .returned (.bool (allTb f n)) ∧ w = w' := by
  have C := containsU8_any A n k f B w hn hA hr
  go_enter Try.func45, Try.ntmps45
  go_wp2_with (go_at_call 70; (with_reducible refine C.mono ?_); rintro e w1 ⟨rfl, rfl⟩)
  go_ret
  exact ⟨Li.ret_bool (by simp), rfl⟩

set_option maxRecDepth 100000 in
set_option maxHeartbeats 2000000 in
theorem equalU8_any (A A' : Option Addr) (n k k' : Nat) (f g : Nat → Int) (B : Nat) (w : World) (hn : n ≤ 100000) (hA : TrAt w B A n f) (hA' : TrAt w B A' n g) :
    Calls Try.prog 46 #[.slice A n k, .slice A' n k', .func (.func 47) #[] #[]] w fun e w' => e = .returned (.bool (covL f g n)) ∧ w = w' := by
  have t0 : ((n : Int) != (n : Int)) = false := by simp
  go_enter Try.func46, Try.ntmps46
  go_wp2
  go_loop [17] (fun i => ∃ q : Nat, q ≤ n ∧ i = .int .i64 q ∧ Hid (∀ j, j < q → tcov (f j) (g j))) (fun i => n - (intOf i).toNat)
  case atStart => exact ⟨0, Nat.zero_le _, rfl, Lib.hid (fun j hj => absurd hj (Nat.not_lt_zero _))⟩
  case round =>
    obtain ⟨q, hq, rfl, hL⟩ := hrel
    by_cases hlt : q < n
    · obtain ⟨a, rfl, hb, hc⟩ := hA (by omega)
      obtain ⟨a', rfl, hb', hc'⟩ := hA' (by omega)
      have y := hc q hlt
      have y' := hc' q hlt
      clear hc hc'
      have C := tIsCov_any (f q) (g q) w
      have hb1 : (0 : Int) ≤ (q : Int) := by omega
      have hb2 : (q : Int) < (n : Int) := by omega
      by_cases hv : tcov (f q) (g q)
      · have e1 : (f q == 2 || f q == g q) = true := by simpa [tcov] using hv
        have HW := Lib.hid hv
        rw [e1] at C
        clear hv e1
        go_wp2_with (go_at_call 47; (with_reducible refine C.mono ?_); rintro e w1 ⟨rfl, rfl⟩)
        go_round
        case rel => exact ⟨q + 1, by omega, by go_num, Lib.hid (fun j hj => by
          rcases Nat.lt_succ_iff_lt_or_eq.1 hj with h' | h'
          · exact hL.out j h'
          · subst h'; exact HW.out)⟩
        case measure => simp [intOf]; omega
      · have e1 : (f q == 2 || f q == g q) = false := by simpa [tcov] using hv
        have HR := Lib.hid (covL_no hlt hv)
        rw [e1] at C
        clear hv e1
        go_wp2_with (go_at_call 47; (with_reducible refine C.mono ?_); rintro e w1 ⟨rfl, rfl⟩)
        go_ret
        exact ⟨Li.ret_bool HR.out.symm, rfl⟩
    · obtain rfl : q = n := by omega
      have HR := Lib.hid (covL_yes hL.out)
      clear hq hlt
      go_wp2
      go_ret
      exact ⟨Li.ret_bool HR.out.symm, rfl⟩

set_option maxRecDepth 100000 in
set_option maxHeartbeats 2000000 in
theorem tCovers_any (A A' : Option Addr) (n m k k' : Nat) (f g : Nat → Int) (B : Nat) (w : World) (hn : n ≤ 100000) (hm : m ≤ 100000) (hA : TrAt w B A n f) (hA' : TrAt w B A' m g) (hr : ∀ j, j < n → 0 ≤ f j ∧ f j ≤ 255) (hr' : ∀ j, j < m → 0 ≤ g j ∧ g j ≤ 255) :
    Calls Try.prog 13 #[.slice A n k, .slice A' m k'] w fun e w' => e = .returned (.tuple #[.bool (covV n m f g), .int .i64 (covE n m f g)]) ∧ w = w' := by
  have C1 := areTruths_any A n k f B w hn hA hr
  have C2 := areTruths_any A' m k' g B w hm hA' hr'
  rcases cov_ways n m f g with ⟨a, v, x⟩ | ⟨a, b, v, x⟩ | ⟨a, b, d, v, x⟩ | ⟨a, b, d, v, x⟩
  · rw [a] at C1
    rw [v, x]
    clear a v x C2
    go_enter Try.func13, Try.ntmps13
    go_wp2_with (first
      | (go_at_call 45; (with_reducible refine C1.mono ?_); rintro e w1 ⟨rfl, rfl⟩))
    go_ret2
    exact ⟨rfl, rfl⟩
  · rw [a] at C1
    rw [b] at C2
    rw [v, x]
    clear a b v x
    go_enter Try.func13, Try.ntmps13
    go_wp2_with (first
      | (go_at_call 45; (with_reducible refine C1.mono ?_); rintro e w1 ⟨rfl, rfl⟩)
      | (go_at_call 45; (with_reducible refine C2.mono ?_); rintro e w1 ⟨rfl, rfl⟩))
    go_ret2
    exact ⟨rfl, rfl⟩
  · rw [a] at C1
    rw [b] at C2
    rw [v, x]
    have t1 : ((n : Int) != (m : Int)) = true := by simp; omega
    clear a b v x d
    go_enter Try.func13, Try.ntmps13
    go_wp2_with (first
      | (go_at_call 45; (with_reducible refine C1.mono ?_); rintro e w1 ⟨rfl, rfl⟩)
      | (go_at_call 45; (with_reducible refine C2.mono ?_); rintro e w1 ⟨rfl, rfl⟩))
    go_ret2
    exact ⟨rfl, rfl⟩
  · rw [a] at C1
    rw [b] at C2
    rw [v, x]
    subst d
    have C3 := equalU8_any A A' n k k' f g B w hn hA hA'
    have t1 : ((n : Int) != (n : Int)) = false := by simp
    clear a b v x
    go_enter Try.func13, Try.ntmps13
    go_wp2_with (first
      | (go_at_call 45; (with_reducible refine C1.mono ?_); rintro e w1 ⟨rfl, rfl⟩)
      | (go_at_call 45; (with_reducible refine C2.mono ?_); rintro e w1 ⟨rfl, rfl⟩)
      | (go_at_call 46; (with_reducible refine C3.mono ?_); rintro e w1 ⟨rfl, rfl⟩))
    go_ret2
    exact ⟨rfl, rfl⟩
end Go.Proofs.Ythpifibemekmcaa
