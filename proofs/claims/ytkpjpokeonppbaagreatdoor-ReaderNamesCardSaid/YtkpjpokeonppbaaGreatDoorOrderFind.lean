/- Searches of package order: contracts of IndexFunc and ContainsFunc at its closures. -/
import Derived.Test.YtkpjpokeonppbaaGreatDoorOrderProg
import Derived.Test.YtkpjpokeonppbaaGreatDoorGatesProg
namespace Go.Proofs.YtkpjpokeonppbaaGreatDoor
open Go.RowKit
set_option linter.unusedVariables false
set_option linter.unusedSimpArgs false

/-- some number of a list is such -/
def anyB (P : Int → Bool) (f : Nat → Int) (n : Nat) : Bool := decide (∃ j, j < n ∧ P (f j) = true)
theorem anyB_yes {P : Int → Bool} {f : Nat → Int} {n q : Nat} (hq : q < n) (h : P (f q) = true) : anyB P f n = true := decide_eq_true ⟨q, hq, h⟩
theorem anyB_no {P : Int → Bool} {f : Nat → Int} {n : Nat} (h : ∀ j, j < n → P (f j) = false) : anyB P f n = false := decide_eq_false fun ⟨j, hj, h'⟩ => by rw [h j hj] at h'; cases h'
theorem anyB_list {P Q : Int → Bool} {xs : List Int} (hPQ : ∀ x, P x = !Q x) : anyB P (fun j => xs.getD j 0) xs.length = !xs.all Q := by
  cases h : xs.all Q
  · by_cases hex : ∃ j, j < xs.length ∧ Q (xs.getD j 0) = false
    · obtain ⟨j, hj, hq⟩ := hex
      exact anyB_yes hj (by rw [hPQ, hq]; rfl)
    · exfalso
      rw [all_yes (f := Q) (fun j hj => by
        cases hq : Q (xs.getD j 0)
        · exact absurd ⟨j, hj, hq⟩ hex
        · rfl)] at h
      cases h
  · refine anyB_no fun j hj => ?_
    rw [hPQ]
    cases hq : Q (xs.getD j 0)
    · rw [all_no hj hq] at h; cases h
    · rfl

/-- the values of the closures -/
abbrev isWr (b : Nat) : Value := .func (.func 88) #[] #[.pointer (some ⟨b, 0, none⟩)]
abbrev cantV (b : Nat) : Value := .func (.func 89) #[] #[.pointer (some ⟨b, 0, none⟩)]
abbrev openV (b : Nat) : Value := .func (.func 94) #[] #[.pointer (some ⟨b, 0, none⟩)]
def nU (r : Rw) (x : Int) : Bool := !r.uOk x
def nD (r : Rw) (x : Int) : Bool := !r.dOk x
/-- the variable of a literal is not among those -/
def nI (I : Nat → Bool) (x : Int) : Bool := !I (x / 2).toNat

set_option maxHeartbeats 1000000 in
theorem isWr_any (r : Rw) (p : Rp) (b : Nat) (x : Int) (w : World) (h1 : r.m ≤ 1000) (h0 : 0 ≤ r.m) (hb : Has w b 26 (rc r p)) :
    Calls Tryz.prog 88 #[.int .i64 x, .pointer (some ⟨b, 0, none⟩)] w fun e w' => e = .returned (.bool (nU r x)) ∧ Below w.heap.size w w' := by
  have y0 : w.cell? ⟨b, 0, none⟩ = some (.int .i64 r.m) := hb.cell 0
  by_cases hx : x < 0
  · have HR := Lib.hid (show nU r x = true by unfold nU Rw.uOk; simp; omega)
    go_enter Tryz.func88, Tryz.ntmps88
    go_wp2
    go_ret
    exact ⟨Li.ret_bool HR.out.symm, Below.refl _ _⟩
  · by_cases hx2 : x > 2 * r.m + 1
    · have HR := Lib.hid (show nU r x = true by unfold nU Rw.uOk; simp; omega)
      go_enter Tryz.func88, Tryz.ntmps88
      go_wp2
      go_ret
      exact ⟨Li.ret_bool HR.out.symm, Below.refl _ _⟩
    · have HR := Lib.hid (show nU r x = false by unfold nU Rw.uOk; simp; omega)
      go_enter Tryz.func88, Tryz.ntmps88
      go_wp2
      go_ret
      exact ⟨Li.ret_bool HR.out.symm, Below.refl _ _⟩

set_option maxHeartbeats 2000000 in
theorem cant_any (r : Rw) (p : Rp) (b b2 : Nat) (x : Int) (w : World) (h1 : r.m ≤ 1000) (h0 : 0 ≤ r.m) (hb : Has w b 26 (rc r p)) (hb2 : Has w b2 131 #[isWr b]) :
    Calls Tryz.prog 89 #[.int .i64 x, .pointer (some ⟨b2, 0, none⟩)] w fun e w' => e = .returned (.bool (nD r x)) ∧ Below w.heap.size w w' := by
  have y0 : w.cell? ⟨b2, 0, none⟩ = some (isWr b) := hb2.cell 0
  have C := isWr_any r p b x w h1 h0 hb
  by_cases hu : 0 ≤ x ∧ x ≤ 2 * r.m + 1
  · have hv : nU r x = false := by unfold nU Rw.uOk; simp; omega
    rw [hv] at C
    clear hv
    by_cases h2 : x < 2
    · have HR := Lib.hid (show nD r x = true by unfold nD Rw.dOk; simp; omega)
      go_enter Tryz.func89, Tryz.ntmps89
      go_wp2_with (go_at_call 88; (with_reducible refine C.mono ?_); rintro e w1 ⟨rfl, hb1⟩)
      go_ret
      refine ⟨Li.ret_bool (Eq.trans ?_ HR.out.symm), hb1⟩
      first | rfl | (simp; omega) | (simp; done)
    · have hx0 := hu.1
      by_cases h3 : x % 2 = 0
      · have t3 : (x % 2 != 0) = false := by simp [h3]
        have HR := Lib.hid (show nD r x = false by unfold nD Rw.dOk; simp; omega)
        clear h3 hu
        go_enter Tryz.func89, Tryz.ntmps89
        go_wp2_with (go_at_call 88; (with_reducible refine C.mono ?_); rintro e w1 ⟨rfl, hb1⟩)
        go_ret
        refine ⟨Li.ret_bool (Eq.trans ?_ HR.out.symm), hb1⟩
        first | rfl | (simp; omega) | (simp; done)
      · have t3 : (x % 2 != 0) = true := by simp [h3]
        have HR := Lib.hid (show nD r x = true by unfold nD Rw.dOk; simp; omega)
        clear h3 hu
        go_enter Tryz.func89, Tryz.ntmps89
        go_wp2_with (go_at_call 88; (with_reducible refine C.mono ?_); rintro e w1 ⟨rfl, hb1⟩)
        go_ret
        refine ⟨Li.ret_bool (Eq.trans ?_ HR.out.symm), hb1⟩
        first | rfl | (simp; omega) | (simp; done)
  · have hv : nU r x = true := by unfold nU Rw.uOk; simp; omega
    have HR := Lib.hid (show nD r x = true by unfold nD Rw.dOk; simp; omega)
    rw [hv] at C
    clear hv hu
    go_enter Tryz.func89, Tryz.ntmps89
    go_wp2_with (go_at_call 88; (with_reducible refine C.mono ?_); rintro e w1 ⟨rfl, hb1⟩)
    go_ret
    refine ⟨Li.ret_bool (Eq.trans ?_ HR.out.symm), hb1⟩
    first | rfl | (simp; omega) | (simp; done)

set_option maxRecDepth 100000 in
set_option maxHeartbeats 2000000 in
theorem idxWrong (r : Rw) (p : Rp) (b : Nat) (h0 : 0 ≤ r.m) (A : Option Addr) (n k : Nat) (f : Nat → Int) (w : World) (hn : n ≤ 100000) (hA : IntsAt w w.heap.size A n f) (h1 : r.m ≤ 1000) (hb : Has w b 26 (rc r p)) :
    Calls Tryz.prog 110 #[.slice A n k, isWr b] w (IdxIs (anyB (nU r) f n) w) := by
  go_enter Tryz.func110, Tryz.ntmps110
  go_wp2
  go_loopw [8] (fun i wr => ∃ q : Nat, q ≤ n ∧ i = .int .i64 q ∧ Hid (∀ j, j < q → (nU r) (f j) = false) ∧ Below w.heap.size w wr) (fun i _ => n - (intOf i).toNat)
  case atStart => exact ⟨0, Nat.zero_le _, rfl, Lib.hid (fun j hj => absurd hj (Nat.not_lt_zero _)), Below.refl _ _⟩
  case round =>
    obtain ⟨q, hq, rfl, hL, hBr⟩ := hrel
    by_cases hlt : q < n
    · obtain ⟨a, rfl, hab, hcs⟩ := (hA.keep hBr) (by omega)
      have y0 := hcs q hlt
      clear hcs
      have C := isWr_any r p b (f q) wr h1 h0 (hb.keep hBr hb.lt)
      cases hv : (nU r) (f q)
      · rw [hv] at C
        have HW := Lib.hid hv
        have D := Lib.hid C
        clear C hv
        go_wp2_with (go_at_call 88; (with_reducible refine D.out.mono ?_); rintro e w1 ⟨rfl, hb1⟩)
        go_roundw
        case rel => exact ⟨q + 1, by omega, by go_num, Lib.hid (fun j hj => by
          rcases Nat.lt_succ_iff_lt_or_eq.1 hj with h' | h'
          · exact hL.out j h'
          · subst h'; exact HW.out), Below.step hBr hBr.size hb1⟩
        case measure => simp [intOf]; omega
      · rw [hv] at C
        have HV := Lib.hid (show anyB (nU r) f n = true from anyB_yes hlt hv)
        have D := Lib.hid C
        clear C hv
        go_wp2_with (go_at_call 88; (with_reducible refine D.out.mono ?_); rintro e w1 ⟨rfl, hb1⟩)
        go_ret
        exact ⟨_, rfl, by rw [HV.out]; simp, Below.step hBr hBr.size hb1⟩
    · obtain rfl : q = n := by omega
      have HV := Lib.hid (show anyB (nU r) f q = false from anyB_no hL.out)
      clear hq hlt
      go_wp2
      go_ret
      exact ⟨_, rfl, by rw [HV.out]; rfl, hBr⟩

set_option maxRecDepth 100000 in
set_option maxHeartbeats 1000000 in
theorem conWrong (r : Rw) (p : Rp) (b : Nat) (h0 : 0 ≤ r.m) (A : Option Addr) (n k : Nat) (f : Nat → Int) (w : World) (hn : n ≤ 100000) (hA : IntsAt w w.heap.size A n f) (h1 : r.m ≤ 1000) (hb : Has w b 26 (rc r p)) :
    Calls Tryz.prog 90 #[.slice A n k, isWr b] w fun e w' => e = .returned (.bool (anyB (nU r) f n)) ∧ Below w.heap.size w w' := by
  have C := idxWrong r p b h0 A n k f w hn hA h1 hb
  go_enter Tryz.func90, Tryz.ntmps90
  go_wp2_with (go_at_call 110; (with_reducible refine C.mono ?_); rintro e w1 ⟨x, rfl, hx, hb1⟩)
  go_ret
  exact ⟨rfl, hb1⟩

set_option maxRecDepth 100000 in
set_option maxHeartbeats 2000000 in
theorem idxCannot (r : Rw) (p : Rp) (b b2 : Nat) (h0 : 0 ≤ r.m) (A : Option Addr) (n k : Nat) (f : Nat → Int) (w : World) (hn : n ≤ 100000) (hA : IntsAt w w.heap.size A n f) (h1 : r.m ≤ 1000) (hb : Has w b 26 (rc r p)) (hb2 : Has w b2 131 #[isWr b]) :
    Calls Tryz.prog 110 #[.slice A n k, cantV b2] w (IdxIs (anyB (nD r) f n) w) := by
  go_enter Tryz.func110, Tryz.ntmps110
  go_wp2
  go_loopw [8] (fun i wr => ∃ q : Nat, q ≤ n ∧ i = .int .i64 q ∧ Hid (∀ j, j < q → (nD r) (f j) = false) ∧ Below w.heap.size w wr) (fun i _ => n - (intOf i).toNat)
  case atStart => exact ⟨0, Nat.zero_le _, rfl, Lib.hid (fun j hj => absurd hj (Nat.not_lt_zero _)), Below.refl _ _⟩
  case round =>
    obtain ⟨q, hq, rfl, hL, hBr⟩ := hrel
    by_cases hlt : q < n
    · obtain ⟨a, rfl, hab, hcs⟩ := (hA.keep hBr) (by omega)
      have y0 := hcs q hlt
      clear hcs
      have C := cant_any r p b b2 (f q) wr h1 h0 (hb.keep hBr hb.lt) (hb2.keep hBr hb2.lt)
      cases hv : (nD r) (f q)
      · rw [hv] at C
        have HW := Lib.hid hv
        have D := Lib.hid C
        clear C hv
        go_wp2_with (go_at_call 89; (with_reducible refine D.out.mono ?_); rintro e w1 ⟨rfl, hb1⟩)
        go_roundw
        case rel => exact ⟨q + 1, by omega, by go_num, Lib.hid (fun j hj => by
          rcases Nat.lt_succ_iff_lt_or_eq.1 hj with h' | h'
          · exact hL.out j h'
          · subst h'; exact HW.out), Below.step hBr hBr.size hb1⟩
        case measure => simp [intOf]; omega
      · rw [hv] at C
        have HV := Lib.hid (show anyB (nD r) f n = true from anyB_yes hlt hv)
        have D := Lib.hid C
        clear C hv
        go_wp2_with (go_at_call 89; (with_reducible refine D.out.mono ?_); rintro e w1 ⟨rfl, hb1⟩)
        go_ret
        exact ⟨_, rfl, by rw [HV.out]; simp, Below.step hBr hBr.size hb1⟩
    · obtain rfl : q = n := by omega
      have HV := Lib.hid (show anyB (nD r) f q = false from anyB_no hL.out)
      clear hq hlt
      go_wp2
      go_ret
      exact ⟨_, rfl, by rw [HV.out]; rfl, hBr⟩

set_option maxRecDepth 100000 in
set_option maxHeartbeats 1000000 in
theorem conCannot (r : Rw) (p : Rp) (b b2 : Nat) (h0 : 0 ≤ r.m) (A : Option Addr) (n k : Nat) (f : Nat → Int) (w : World) (hn : n ≤ 100000) (hA : IntsAt w w.heap.size A n f) (h1 : r.m ≤ 1000) (hb : Has w b 26 (rc r p)) (hb2 : Has w b2 131 #[isWr b]) :
    Calls Tryz.prog 90 #[.slice A n k, cantV b2] w fun e w' => e = .returned (.bool (anyB (nD r) f n)) ∧ Below w.heap.size w w' := by
  have C := idxCannot r p b b2 h0 A n k f w hn hA h1 hb hb2
  go_enter Tryz.func90, Tryz.ntmps90
  go_wp2_with (go_at_call 110; (with_reducible refine C.mono ?_); rintro e w1 ⟨x, rfl, hx, hb1⟩)
  go_ret
  exact ⟨rfl, hb1⟩
end Go.Proofs.YtkpjpokeonppbaaGreatDoor
