/- The reference of layer 4: All, Next, Props. -/
import Derived.Test.YtbppdifghkkooaaDoorValuesAll
namespace Go.Proofs.YtbppdifghkkooaaDoor
open Go.RowKit
set_option linter.unusedVariables false

set_option linter.unusedSimpArgs false

section
variable {c : Cr} {p : Pl} {As At : Option Addr} {ns ks ni ki : Nat} {s t : Nat → Bool}

theorem rFrame_at (hk : c.ask ns ni = 0) (w : World) (h : Arg w w.heap.size c p As ns ks s At ni ki t) :
    Calls Tryd.prog 36 #[cv c p, .slice As ns ks, .slice At ni ki] w (BoolsAt (c.fg + c.na) (c.fr s t) w) := (rFrame_any c p As At ns ks ni ki s t w h.hm h.hs h.hS h.hT h.nS h.nT hk).mono fun _ _ h => h.at

set_option maxRecDepth 100000 in
set_option maxHeartbeats 4000000 in
theorem rAfter_new (hk : c.ask ns ni = 0) (w : World) (h : Arg w w.heap.size c p As ns ks s At ni ki t) :
    Calls Tryd.prog 53 #[cv c p, .slice As ns ks, .slice At ni ki] w (BoolsIn c.nl (c.nv s t) w) := by
  obtain ⟨hc, hns, hni⟩ := Cr.ask_zero hk
  have g1 := h.hs.nl
  have hN := Cr.fg_bd hc
  have HC := Lib.hid hc
  have HK := Lib.hid hk
  obtain ⟨i0, hi0, hzz0, hs0, hy0⟩ := info_parts info_bool
  clear hc hns hni hk
  have hB0 : Below w.heap.size w w := Below.refl _ _
  go_enter Tryd.func53, Tryd.ntmps53
  go_wp2_with (first
    | (go_at_call 36; (with_reducible refine (rFrame_at HK.out (w.alloc _) (h.to (by go_grown) (by go_size))).mono ?_); rintro e w1 ⟨A, k, rfl, hi, hb1⟩; have hz1 : w.heap.size < w1.heap.size := (by have := hb1.size; (try simp at this); omega); have hB1 : Below w.heap.size w w1 := Below.step (by go_grown) (by go_size) hb1; have hA1 : Has w1 w.heap.size 26 (cc c p) := (Has.new _ _ _).keep hb1 (by go_size)))
  clear hb1
  go_loopw [8, 9] (fun v i wr => ∃ q : Nat, q ≤ c.nl ∧ i = .int .i64 q ∧ wr.ownsRow w1.heap.size 4 1 v q (bL (c.nv s t) q) ∧ Below w1.heap.size w1 wr) (fun _ i _ => c.nl - (intOf i).toNat)
  case atStart => exact ⟨0, Nat.zero_le _, rfl, World.ownsRow_nil _ _ _ _, Below.refl _ _⟩
  case round =>
    obtain ⟨q, hq, rfl, hown, hBr⟩ := hrel
    have hsz := hBr.size
    obtain ⟨x0, x1, x2, x3, x4⟩ := (hA1.keep hBr hz1).box
    by_cases hlt : q < c.nl
    · obtain ⟨b1, b2, b3⟩ := Cr.lat_ok HC.out hlt
      obtain ⟨a, hA, hab, hcs⟩ := (h.hm.la.keep (hB1.trans (hBr.mono hB1.size))) (by omega)
      obtain ⟨y0, y1⟩ := hcs q hlt
      rw [hA] at x1
      have HX := Lib.hid (show bL (c.nv s t) (q + 1) = bL (c.nv s t) q ++ [.bool (vlo (c.fr s t) (c.nx q))] from rfl)
      have hq0 : (0 : Int) ≤ (q : Int) := by omega
      have hq1 : (q : Int) < c.nl := by omega
      have hvr : BlsAt wr w1.heap.size A (c.fg + c.na) (c.fr s t) := hi.keep hBr
      clear hcs hA
      go_wp2_with (first
        | (go_at_call 38; (with_reducible refine (rValue_any A (c.fg + c.na) k (c.fr s t) (c.nx q) w1.heap.size wr hvr b1 b2 b3).mono ?_); rintro e w3 ⟨rfl, rfl⟩)
        | (at_builtin; refine wpList_append_own _ rfl _ _ 27 rfl w1.heap.size 4 i0 (.bool false) 1 1 Tryd.underlying27 hi0 hzz0 hs0 hy0 rfl (by decide) _ _ _ rfl (hown.alloc _) ⟨wr.heap.size, 0, none⟩ 1 1 [.bool (vlo (c.fr s t) (c.nx q))] rfl (by simp) (cell_one_new _ _ _) (by simp [Value.oneCell']) (by simp only [maxLen]; omega) (by omega) (by simp; omega) ?_; intro v' w8 hown' hgrow _))
      go_roundw
      case rel => exact ⟨q + 1, by omega, by go_num, by rw [HX.out]; exact hown', app_below hBr hBr.size (Nat.le_refl _) hown hgrow⟩
      case measure => simp [intOf]; omega
    · obtain rfl : q = c.nl := by omega
      clear hq hlt
      go_wp2
      go_ret
      obtain ⟨A', k', rfl, hi', hn', hf'⟩ := own_bools2 hown
      exact ⟨A', k', rfl, hi', hB1.trans (hBr.mono hB1.size), hn', fun a ha => by have := hf' a ha; omega⟩
theorem rAfter_any (hk : c.ask ns ni = 0) (w : World) (h : Arg w w.heap.size c p As ns ks s At ni ki t) :
    Calls Tryd.prog 53 #[cv c p, .slice As ns ks, .slice At ni ki] w (BoolsAt c.nl (c.nv s t) w) := (rAfter_new hk w h).mono fun _ _ h => h.at

set_option maxRecDepth 100000 in
set_option maxHeartbeats 4000000 in
theorem rHolds_any (hk : c.ask ns ni = 0) (w : World) (h : Arg w w.heap.size c p As ns ks s At ni ki t) :
    Calls Tryd.prog 52 #[cv c p, .slice As ns ks, .slice At ni ki] w fun e w' => e = .returned (.bool (c.hol s t)) ∧ Below w.heap.size w w' := by
  obtain ⟨hc, hns, hni⟩ := Cr.ask_zero hk
  have g1 := h.hs.nc
  have HC := Lib.hid hc
  have HK := Lib.hid hk
  clear hc hns hni hk
  have hB0 : Below w.heap.size w w := Below.refl _ _
  go_enter Tryd.func52, Tryd.ntmps52
  go_wp2_with (first
    | (go_at_call 36; (with_reducible refine (rFrame_at HK.out (w.alloc _) (h.to (by go_grown) (by go_size))).mono ?_); rintro e w1 ⟨A, k, rfl, hi, hb1⟩; have hz1 : w.heap.size < w1.heap.size := (by have := hb1.size; (try simp at this); omega); have hB1 : Below w.heap.size w w1 := Below.step (by go_grown) (by go_size) hb1; have hA1 : Has w1 w.heap.size 26 (cc c p) := (Has.new _ _ _).keep hb1 (by go_size)))
  clear hb1
  obtain ⟨x0, x1, x2, x3, x4⟩ := hA1.box
  clear hA1
  go_loop [8] (fun i => ∃ q : Nat, q ≤ c.nc ∧ i = .int .i64 q ∧ Hid (∀ j, j < q → vlo (c.fr s t) (c.cn j) = true)) (fun i => c.nc - (intOf i).toNat)
  case atStart => exact ⟨0, Nat.zero_le _, rfl, Lib.hid (fun j hj => absurd hj (Nat.not_lt_zero _))⟩
  case round =>
    obtain ⟨q, hq, rfl, hL⟩ := hrel
    by_cases hlt : q < c.nc
    · obtain ⟨b1, b2, b3⟩ := Cr.con_ok HC.out hlt
      obtain ⟨a, hA, hab, hcs⟩ := (h.hm.cn.keep hB1) (by omega)
      have y0 := hcs q hlt
      rw [hA] at x4
      have hq0 : (0 : Int) ≤ (q : Int) := by omega
      have hq1 : (q : Int) < c.nc := by omega
      clear hcs hA
      cases hv : vlo (c.fr s t) (c.cn q)
      · have HV := Lib.hid (Cr.hol_no hlt hv)
        have HW := Lib.hid hv
        clear hv
        go_wp2_with (go_at_call 38; (with_reducible refine (rValue_any A (c.fg + c.na) k (c.fr s t) (c.cn q) w1.heap.size w1 hi b1 b2 b3).mono ?_); rw [HW.out]; rintro e w3 ⟨rfl, rfl⟩)
        go_ret
        exact ⟨by rw [HV.out]; rfl, hB1⟩
      · have HW := Lib.hid hv
        clear hv
        go_wp2_with (go_at_call 38; (with_reducible refine (rValue_any A (c.fg + c.na) k (c.fr s t) (c.cn q) w1.heap.size w1 hi b1 b2 b3).mono ?_); rw [HW.out]; rintro e w3 ⟨rfl, rfl⟩)
        go_round
        case rel => exact ⟨q + 1, by omega, by go_num, Lib.hid (fun j hj => by
          rcases Nat.lt_succ_iff_lt_or_eq.1 hj with h' | h'
          · exact hL.out j h'
          · subst h'; exact HW.out)⟩
        case measure => simp [intOf]; omega
    · obtain rfl : q = c.nc := by omega
      have HV := Lib.hid (Cr.hol_yes hL.out)
      clear hq hlt
      go_wp2
      go_ret
      exact ⟨by rw [HV.out]; rfl, hB1⟩

end

end Go.Proofs.YtbppdifghkkooaaDoor

namespace Go.Proofs.YtbppdifghkkooaaDoor
open Go.RowKit
set_option linter.unusedVariables false

set_option linter.unusedSimpArgs false

section
variable {c : Cr} {p : Pl} {As At : Option Addr} {ns ks ni ki : Nat} {s t : Nat → Bool}

set_option maxRecDepth 100000 in
set_option maxHeartbeats 2000000 in
theorem next_no (hk : c.ask ns ni ≠ 0) (w : World) (h : Arg w w.heap.size c p As ns ks s At ni ki t) :
    Calls Tryd.prog 73 #[cv c p, .slice As ns ks, .slice At ni ki] w (BoolsErr (c.nn ns ni) (c.nv s t) (c.ask ns ni) w) := by
  have h1 : (c.ask ns ni != 0) = true := by simpa [bne] using hk
  have HF := Lib.hid (show c.nn ns ni = 0 from if_neg hk)
  rw [HF.out]
  clear HF hk
  have hB0 : Below w.heap.size w w := Below.refl _ _
  go_enter Tryd.func73, Tryd.ntmps73
  go_wp2_with (first
    | (go_at_call 74; (with_reducible refine (all_any (w.alloc _) (h.to (by go_grown) (by go_size))).mono ?_); rintro e w1 ⟨A, k, rfl, hi, hb1⟩; have hB1 : Below w.heap.size w w1 := Below.step (by go_grown) (by go_size) hb1))
  go_ret2
  exact ⟨none, 0, rfl, fun h => absurd h (Nat.not_lt_zero _), hB1⟩

set_option maxRecDepth 100000 in
set_option maxHeartbeats 4000000 in
theorem next_new (hk : c.ask ns ni = 0) (w : World) (h : Arg w w.heap.size c p As ns ks s At ni ki t) :
    Calls Tryd.prog 73 #[cv c p, .slice As ns ks, .slice At ni ki] w (BoolsNew c.nl (c.nv s t) 0 w) := by
  obtain ⟨hc, hns, hni⟩ := Cr.ask_zero hk
  have g1 := h.hs.nl
  have hN := Cr.fg_bd hc
  have HC := Lib.hid hc
  have HK := Lib.hid hk
  obtain ⟨i0, hi0, hzz0, hs0, hy0⟩ := info_parts info_bool
  clear hc hns hni hk
  have hB0 : Below w.heap.size w w := Below.refl _ _
  go_enter Tryd.func73, Tryd.ntmps73
  go_wp2_with (first
    | (go_at_call 74; (with_reducible refine (all_at HK.out (w.alloc _) (h.to (by go_grown) (by go_size))).mono ?_); rintro e w1 ⟨A, k, rfl, hi, hb1⟩; obtain ⟨hc1, hf1⟩ := bcell hb1; have hz1 : w.heap.size < w1.heap.size := (by have := hb1.size; (try simp at this); omega); have hB1 : Below w.heap.size w w1 := Below.step (by go_grown) (by go_size) hb1; have hA1 : Has w1 w.heap.size 26 (cc c p) := (Has.new _ _ _).keep hb1 (by go_size)))
  clear hc1 hf1 hb1
  go_loopw [10, 26] (fun v i wr => ∃ q : Nat, q ≤ c.nl ∧ i = .int .i64 q ∧ wr.ownsRow w1.heap.size 4 1 v q (bL (c.nv s t) q) ∧ Below w1.heap.size w1 wr) (fun _ i _ => c.nl - (intOf i).toNat)
  case atStart => exact ⟨0, Nat.zero_le _, rfl, World.ownsRow_nil _ _ _ _, Below.refl _ _⟩
  case round =>
    obtain ⟨q, hq, rfl, hown, hBr⟩ := hrel
    have hsz := hBr.size
    by_cases hlt : q < c.nl
    · obtain ⟨b1, b2, b3⟩ := Cr.lat_ok HC.out hlt
      obtain ⟨a, hA, hab, hcs⟩ := (h.hm.la.keep (hB1.trans (hBr.mono hB1.size))) (by omega)
      obtain ⟨y0, y1⟩ := hcs q hlt
      rw [hA]
      have HX := Lib.hid (show bL (c.nv s t) (q + 1) = bL (c.nv s t) q ++ [.bool (vlo (c.fr s t) (c.nx q))] from rfl)
      have hq0 : (0 : Int) ≤ (q : Int) := by omega
      have hq1 : (q : Int) < c.nl := by omega
      have hvr : ∀ o, BlsAt (wr.alloc o) w1.heap.size A (c.fg + c.na) (c.fr s t) := fun o => hi.keep (hBr.alloc hBr.size o)
      clear hcs hA
      go_wp2_with (first
        | (go_at_call 75; (with_reducible refine (valueOf_any A (c.fg + c.na) k (c.fr s t) (c.nx q) w1.heap.size (wr.alloc _) (hvr _) b1 b2 b3).mono ?_); rintro e w3 ⟨rfl, rfl⟩)
        | (at_builtin; refine wpList_append_own _ rfl _ _ 27 rfl w1.heap.size 4 i0 (.bool false) 1 1 Tryd.underlying27 hi0 hzz0 hs0 hy0 rfl (by decide) _ _ _ rfl ((hown.alloc _).alloc _) ⟨wr.heap.size + 1, 0, none⟩ 1 1 [.bool (vlo (c.fr s t) (c.nx q))] rfl (by simp) (fun j u hu => by have := cell_one_new (wr.alloc (.cells #[.int .i64 (c.nx q), .int .i64 (c.rs q)] 87)) (.bool (vlo (c.fr s t) (c.nx q))) 4 j u hu; rwa [World.size_alloc] at this) (by simp [Value.oneCell']) (by simp only [maxLen]; omega) (by omega) (by simp; omega) ?_; intro v' w8 hown' hgrow _))
      go_roundw
      case rel => exact ⟨q + 1, by omega, by go_num, by rw [HX.out]; exact hown', app_below (hBr.alloc hBr.size _) (by simp; omega) (Nat.le_refl _) (hown.alloc _) hgrow⟩
      case measure => simp [intOf]; omega
    · obtain rfl : q = c.nl := by omega
      clear hq hlt
      go_wp2
      go_ret2
      obtain ⟨A', k', rfl, hi', hn', hf'⟩ := own_bools2 hown
      exact ⟨A', k', rfl, hi', hB1.trans (hBr.mono hB1.size), hn', fun a ha => by have := hf' a ha; omega⟩
theorem next_yes (hk : c.ask ns ni = 0) (w : World) (h : Arg w w.heap.size c p As ns ks s At ni ki t) :
    Calls Tryd.prog 73 #[cv c p, .slice As ns ks, .slice At ni ki] w (BoolsErr c.nl (c.nv s t) 0 w) := (next_new hk w h).mono fun _ _ h => h.err

end

end Go.Proofs.YtbppdifghkkooaaDoor

namespace Go.Proofs.YtbppdifghkkooaaDoor
open Go.RowKit
set_option linter.unusedVariables false

set_option linter.unusedSimpArgs false

/-- all literals of a list are true -/
def allT (F : Nat → Bool) (f : Nat → Int) (n : Nat) : Bool := decide (∀ j, j < n → vlo F (f j) = true)
/-- the value of isFalse -/
abbrev isFv (b : Nat) : Value := .func (.func 76) #[] #[.pointer (some ⟨b, 0, none⟩)]
set_option maxRecDepth 100000 in
set_option maxHeartbeats 2000000 in
theorem indexFalse_any (A : Option Addr) (n k : Nat) (F : Nat → Bool) (b : Nat) (Ac : Option Addr) (nc kc : Nat) (f : Nat → Int) (B : Nat) (w : World) (hn : nc ≤ 1000) (hA : IntsAt w B Ac nc f) (hf : ∀ j, j < nc → 0 ≤ f j ∧ f j ≤ 2001 ∧ f j / 2 < (n : Int)) (hi : BlsAt w B A n F) (hb : Has w b 27 #[.slice A n k]) :
    Calls Tryd.prog 85 #[.slice Ac nc kc, isFv b] w (IdxIs (!allT F f nc) w) := by
  go_enter Tryd.func85, Tryd.ntmps85
  go_wp2
  go_loopw [8] (fun i wr => ∃ q : Nat, q ≤ nc ∧ i = .int .i64 q ∧ Hid (∀ j, j < q → vlo F (f j) = true) ∧ wr = w) (fun i _ => nc - (intOf i).toNat)
  case atStart => exact ⟨0, Nat.zero_le _, rfl, Lib.hid (fun j hj => absurd hj (Nat.not_lt_zero _)), rfl⟩
  case round =>
    obtain ⟨q, hq, rfl, hL, rfl⟩ := hrel
    by_cases hlt : q < nc
    · obtain ⟨a, rfl, hab, hcs⟩ := hA (by omega)
      have y0 := hcs q hlt
      obtain ⟨f1, f2, f3⟩ := hf q hlt
      clear hcs hf
      cases hv : vlo F (f q)
      · have HV := Lib.hid (show allT F f nc = false from decide_eq_false fun h => by rw [h q hlt] at hv; cases hv)
        have HW := Lib.hid hv
        clear hv
        go_wp2_with (go_at_call 76; (with_reducible refine (isFalse_any A n k F (f q) B b _ hi hb f1 f2 f3).mono ?_); rw [HW.out]; rintro e w1 ⟨rfl, rfl⟩)
        go_ret
        exact ⟨_, rfl, by rw [HV.out]; simp, Below.refl _ _⟩
      · have HW := Lib.hid hv
        clear hv
        go_wp2_with (go_at_call 76; (with_reducible refine (isFalse_any A n k F (f q) B b _ hi hb f1 f2 f3).mono ?_); rw [HW.out]; rintro e w1 ⟨rfl, rfl⟩)
        go_roundw
        case rel => exact ⟨q + 1, by omega, by go_num, Lib.hid (fun j hj => by
          rcases Nat.lt_succ_iff_lt_or_eq.1 hj with h' | h'
          · exact hL.out j h'
          · subst h'; exact HW.out), by trivial⟩
        case measure => simp [intOf]; omega
    · obtain rfl : q = nc := by omega
      have HV := Lib.hid (show allT F f q = true from decide_eq_true hL.out)
      clear hq hlt
      go_wp2
      go_ret
      exact ⟨_, rfl, by rw [HV.out]; rfl, Below.refl _ _⟩

set_option maxRecDepth 100000 in
set_option maxHeartbeats 2000000 in
theorem containsFalse_any (A : Option Addr) (n k : Nat) (F : Nat → Bool) (b : Nat) (Ac : Option Addr) (nc kc : Nat) (f : Nat → Int) (B : Nat) (w : World) (hn : nc ≤ 1000) (hA : IntsAt w B Ac nc f) (hf : ∀ j, j < nc → 0 ≤ f j ∧ f j ≤ 2001 ∧ f j / 2 < (n : Int)) (hi : BlsAt w B A n F) (hb : Has w b 27 #[.slice A n k]) :
    Calls Tryd.prog 66 #[.slice Ac nc kc, isFv b] w fun e w' => e = .returned (.bool (!allT F f nc)) ∧ Below w.heap.size w w' := by
  go_enter Tryd.func66, Tryd.ntmps66
  go_wp2_with (go_at_call 85; refine (indexFalse_any A n k F b Ac nc kc f B _ hn hA hf hi hb).mono ?_; rintro e w1 ⟨m, rfl, hm, hb1⟩)
  go_ret
  exact ⟨rfl, hb1⟩

section
variable {c : Cr} {p : Pl} {As At : Option Addr} {ns ks ni ki : Nat} {s t : Nat → Bool}

set_option maxRecDepth 100000 in
set_option maxHeartbeats 2000000 in
theorem props_no (hk : c.ask ns ni ≠ 0) (w : World) (h : Arg w w.heap.size c p As ns ks s At ni ki t) :
    Calls Tryd.prog 49 #[cv c p, .slice As ns ks, .slice At ni ki] w (PropsIs (c.hd s t ns ni) (c.bn ns ni) (c.bv s t) (c.ask ns ni) w) := by
  have h1 : (c.ask ns ni != 0) = true := by simpa [bne] using hk
  have HF := Lib.hid (show c.bn ns ni = 0 from if_neg hk)
  have HG := Lib.hid (show c.hd s t ns ni = false from if_neg hk)
  rw [HF.out, HG.out]
  clear HF HG hk
  have hB0 : Below w.heap.size w w := Below.refl _ _
  go_enter Tryd.func49, Tryd.ntmps49
  go_wp2_with (first
    | (go_at_call 74; (with_reducible refine (all_any (w.alloc _) (h.to (by go_grown) (by go_size))).mono ?_); rintro e w1 ⟨A, k, rfl, hi, hb1⟩; have hB1 : Below w.heap.size w w1 := Below.step (by go_grown) (by go_size) hb1))
  go_ret3
  exact ⟨none, 0, rfl, fun h => absurd h (Nat.not_lt_zero _), hB1.alloc hB1.size _⟩

set_option maxRecDepth 100000 in
set_option maxHeartbeats 4000000 in
theorem props_new (hk : c.ask ns ni = 0) (w : World) (h : Arg w w.heap.size c p As ns ks s At ni ki t) :
    Calls Tryd.prog 49 #[cv c p, .slice As ns ks, .slice At ni ki] w (PropsNew (c.hol s t) c.nb (c.bv s t) 0 w) := by
  obtain ⟨hc, hns, hni⟩ := Cr.ask_zero hk
  have g1 := h.hs.nb
  have g2 := h.hs.nc
  have hN := Cr.fg_bd hc
  have HC := Lib.hid hc
  have HK := Lib.hid hk
  obtain ⟨i0, hi0, hzz0, hs0, hy0⟩ := info_parts info_bool
  clear hc hns hni hk
  have hB0 : Below w.heap.size w w := Below.refl _ _
  go_enter Tryd.func49, Tryd.ntmps49
  go_wp2_with (first
    | (go_at_call 74; (with_reducible refine (all_at HK.out (w.alloc _) (h.to (by go_grown) (by go_size))).mono ?_); rintro e w1 ⟨A, k, rfl, hi, hb1⟩; obtain ⟨hc1, hf1⟩ := bcell hb1; have hz1 : w.heap.size < w1.heap.size := (by have := hb1.size; (try simp at this); omega); have hB1 : Below w.heap.size w w1 := Below.step (by go_grown) (by go_size) hb1; have hA1 : Has w1 w.heap.size 26 (cc c p) := (Has.new _ _ _).keep hb1 (by go_size)))
  clear hc1 hf1 hb1
  go_loopw [7, 26] (fun v i wr => ∃ q : Nat, q ≤ c.nb ∧ i = .int .i64 q ∧ wr.ownsRow (w1.heap.size + 1) 4 1 v q (bL (c.bv s t) q) ∧ Has wr w1.heap.size 27 #[.slice A (c.fg + c.na) k] ∧ Below w1.heap.size w1 wr) (fun _ i _ => c.nb - (intOf i).toNat)
  case atStart => exact ⟨0, Nat.zero_le _, rfl, World.ownsRow_nil _ _ _ _, Has.new _ _ _, (Below.refl _ _).alloc (Nat.le_refl _) _⟩
  case round =>
    obtain ⟨q, hq, rfl, hown, hX, hBr⟩ := hrel
    have hsz := hX.lt
    have xb : wr.cell? ⟨w1.heap.size, 0, none⟩ = some (.slice A (c.fg + c.na) k) := hX.cell 0
    have hvr : BlsAt wr w1.heap.size A (c.fg + c.na) (c.fr s t) := hi.keep hBr
    by_cases hlt : q < c.nb
    · obtain ⟨b1, b2, b3⟩ := Cr.bad_ok HC.out hlt
      obtain ⟨a, hA, hab, hcs⟩ := (h.hm.bd.keep (hB1.trans (hBr.mono hB1.size))) (by omega)
      have y0 := hcs q hlt
      rw [hA]
      have HX := Lib.hid (show bL (c.bv s t) (q + 1) = bL (c.bv s t) q ++ [.bool (vlo (c.fr s t) (c.bd q))] from rfl)
      have hq0 : (0 : Int) ≤ (q : Int) := by omega
      have hq1 : (q : Int) < c.nb := by omega
      clear hcs hA
      go_wp2_with (first
        | (go_at_call 75; (with_reducible refine (valueOf_any A (c.fg + c.na) k (c.fr s t) (c.bd q) w1.heap.size wr hvr b1 b2 b3).mono ?_); rintro e w3 ⟨rfl, rfl⟩)
        | (at_builtin; refine wpList_append_own _ rfl _ _ 27 rfl (w1.heap.size + 1) 4 i0 (.bool false) 1 1 Tryd.underlying27 hi0 hzz0 hs0 hy0 rfl (by decide) _ _ _ rfl (hown.alloc _) ⟨wr.heap.size, 0, none⟩ 1 1 [.bool (vlo (c.fr s t) (c.bd q))] rfl (by simp) (cell_one_new _ _ _) (by simp [Value.oneCell']) (by simp only [maxLen]; omega) (by omega) (by simp; omega) ?_; intro v' w8 hown' hgrow _))
      go_roundw
      case rel => exact ⟨q + 1, by omega, by go_num, by rw [HX.out]; exact hown', app_has hX hown hgrow (by omega), app_below hBr hBr.size (by omega) hown hgrow⟩
      case measure => simp [intOf]; omega
    · obtain rfl : q = c.nb := by omega
      have hAr := hA1.keep hBr hz1
      obtain ⟨x0, x1, x2, x3, x4⟩ := hAr.box
      have hcn := (h.hm.cn.keep (hB1.trans (hBr.mono hB1.size))).more (Nat.le_of_lt hz1)
      obtain ⟨A', k', rfl, hi', hn', hf'⟩ := own_bools2 hown
      have hconb : ∀ j, j < c.nc → 0 ≤ c.cn j ∧ c.cn j ≤ 2001 ∧ c.cn j / 2 < ((c.fg + c.na : Nat) : Int) := fun j hj => Cr.con_ok HC.out hj
      have HCB := Lib.hid hconb
      have HN := Lib.hid hn'
      have HF := Lib.hid hf'
      clear hq hlt hconb hn' hf'
      go_wp2_with (first
        | (go_at_call 66; (with_reducible refine (containsFalse_any A (c.fg + c.na) k (c.fr s t) w1.heap.size p.A4 c.nc p.k4 c.cn w1.heap.size wr g2 hcn HCB.out hvr hX).mono ?_); rintro e w3 ⟨rfl, hb3⟩))
      go_ret3
      exact ⟨A', k', by simp [allT, Cr.hol], (hi'.keep hb3).more hb3.size, (hB1.trans (hBr.mono hB1.size)).trans (hb3.mono (Nat.le_trans hB1.size (by omega))), HN.out, fun a ha => by have := HF.out a ha; omega⟩
theorem props_yes (hk : c.ask ns ni = 0) (w : World) (h : Arg w w.heap.size c p As ns ks s At ni ki t) :
    Calls Tryd.prog 49 #[cv c p, .slice As ns ks, .slice At ni ki] w (PropsIs (c.hol s t) c.nb (c.bv s t) 0 w) := (props_new hk w h).mono fun _ _ h => h.is

end

end Go.Proofs.YtbppdifghkkooaaDoor

namespace Go.Proofs.YtbppdifghkkooaaDoor
open Go.RowKit
set_option linter.unusedVariables false

set_option linter.unusedSimpArgs false

section
variable {c : Cr} {p : Pl} {As At : Option Addr} {ns ks ni ki : Nat} {s t : Nat → Bool}

theorem next_any (w : World) (h : Arg w w.heap.size c p As ns ks s At ni ki t) :
    Calls Tryd.prog 73 #[cv c p, .slice As ns ks, .slice At ni ki] w (BoolsErr (c.nn ns ni) (c.nv s t) (c.ask ns ni) w) := by
  by_cases hk : c.ask ns ni = 0
  · rw [show c.nn ns ni = c.nl from if_pos hk, hk]; exact next_yes hk w h
  · exact next_no hk w h
theorem props_any (w : World) (h : Arg w w.heap.size c p As ns ks s At ni ki t) :
    Calls Tryd.prog 49 #[cv c p, .slice As ns ks, .slice At ni ki] w (PropsIs (c.hd s t ns ni) (c.bn ns ni) (c.bv s t) (c.ask ns ni) w) := by
  by_cases hk : c.ask ns ni = 0
  · rw [show c.bn ns ni = c.nb from if_pos hk, show c.hd s t ns ni = c.hol s t from if_pos hk, hk]; exact props_yes hk w h
  · exact props_no hk w h

end

end Go.Proofs.YtbppdifghkkooaaDoor

namespace Go.Proofs.YtbppdifghkkooaaDoor
open Go.RowKit

set_option linter.unusedVariables false

theorem samBs_self (A A' : Option Addr) (n k k' : Nat) (f : Nat → Bool) (B : Nat) (w : World) (hn : n ≤ 100000) (hA : BlsAt w B A n f) (hA' : BlsAt w B A' n f) :
    Calls Tryd.prog 20 #[.slice A n k, .slice A' n k'] w fun e w' => e = .returned (.bool true) ∧ Below w.heap.size w w' := by
  have h := samBs_any A A' n n k k' f f B w hn hn hA hA'
  rw [samB_yes (fun _ _ => rfl)] at h
  exact h
theorem Cr.len_bd (c : Cr) (ns ni : Nat) (hs : Sm c) : c.fn ns ni ≤ 100000 ∧ c.nn ns ni ≤ 100000 ∧ c.bn ns ni ≤ 100000 := by
  have g1 := hs.nl
  have g2 := hs.nb
  unfold fn nn bn
  split
  · rename_i h
    have := Cr.fg_bd (Cr.ask_zero h).1
    omega
  · omega

end Go.Proofs.YtbppdifghkkooaaDoor

namespace Go.Proofs.YtbppdifghkkooaaDoor
open Go.RowKit
set_option linter.unusedVariables false

set_option linter.unusedSimpArgs false

/-- the chapter's circuit -/
def exV : Cr := ⟨2, 1, 2, 1, 1, fun _ => 10, fun _ => 0, fun j => if j = 0 then 4 else 8, fun j => if j = 0 then 2 else 7, fun _ => 11, fun _ => 2⟩
theorem exV_sm : Sm exV := ⟨i64_k 2 (by decide) (by decide), by decide, by decide, by decide, by decide, fun _ => i64_k 10 (by decide) (by decide), fun _ => i64_k 0 (by decide) (by decide), fun _ => ite_bd (i64_k 4 (by decide) (by decide)) (i64_k 8 (by decide) (by decide)), fun _ => ite_bd (i64_k 2 (by decide) (by decide)) (i64_k 7 (by decide) (by decide)), fun _ => i64_k 11 (by decide) (by decide), fun _ => i64_k 2 (by decide) (by decide)⟩
theorem lt6 {j : Nat} (h : j < 6) : j = 0 ∨ j = 1 ∨ j = 2 ∨ j = 3 ∨ j = 4 ∨ j = 5 := by omega
/-- a circuit that a call has made -/
def CircIs (c : Cr) (w : World) (e : Ending) (w' : World) : Prop := ∃ p, e = .returned (cv c p) ∧ Mem w' w'.heap.size c p ∧ Below w.heap.size w w'
theorem bls_of_has {w : World} {g : Nat} {t : TypeId} {cs : Array Value} {n : Nat} {f : Nat → Bool} (h : Has w g t cs) (hc : ∀ j, j < n → cs[j]? = some (.bool (f j))) : BlsAt w w.heap.size (some ⟨g, 0, none⟩) n f := fun _ =>
  ⟨_, rfl, h.lt, fun j hj => by
    have e : (⟨g, 0, none⟩ : Addr).add j = ⟨g, j, none⟩ := by unfold Addr.add; split <;> simp_all
    rw [e, h.cell j, hc j hj]⟩

/-- what fit says -/
def Cr.ft (c : Cr) (ns ni : Nat) : Bool := decide (c.gr = false ∧ ns ≤ 100 ∧ ni ≤ 100 ∧ c.ask ns ni = 0)
theorem Cr.ft_yes {c : Cr} {ns ni : Nat} (h : c.ft ns ni = true) : c.gr = false ∧ ns ≤ 100 ∧ ni ≤ 100 ∧ c.ask ns ni = 0 := of_decide_eq_true h

theorem exV_ask : exV.ask 1 2 = 0 := by decide +kernel
theorem exV_fn : exV.fn 1 2 = 6 := by decide +kernel
theorem exV_nn : exV.nn 1 2 = 1 := by decide +kernel
/-- the values of the chapter's example -/
def exL (j : Nat) : Bool := [false, true, true, false, true, true].getD j false
theorem exV_fr : ∀ j, j < 6 → exV.fr (fun _ => false) (fun _ => true) j = exL j := by decide +kernel
theorem exV_nv : ∀ j, j < 1 → exV.nv (fun _ => false) (fun _ => true) j = true := by decide +kernel
theorem exAll {p : Pl} {As At : Option Addr} {ks ki : Nat} (w : World) (h : Arg w w.heap.size exV p As 1 ks (fun _ => false) At 2 ki (fun _ => true)) :
    Calls Tryd.prog 74 #[cv exV p, .slice As 1 ks, .slice At 2 ki] w (BoolsErr 6 exL 0 w) := by
  have := all_any w h
  rw [exV_ask, exV_fn] at this
  exact this.mono fun e w' ⟨A, k, he, hi, hb⟩ => ⟨A, k, he, hi.congr exV_fr, hb⟩
theorem exNext {p : Pl} {As At : Option Addr} {ks ki : Nat} (w : World) (h : Arg w w.heap.size exV p As 1 ks (fun _ => false) At 2 ki (fun _ => true)) :
    Calls Tryd.prog 73 #[cv exV p, .slice As 1 ks, .slice At 2 ki] w (BoolsErr 1 (fun _ => true) 0 w) := by
  have := next_any w h
  rw [exV_ask, exV_nn] at this
  exact this.mono fun e w' ⟨A, k, he, hi, hb⟩ => ⟨A, k, he, hi.congr exV_nv, hb⟩
theorem bAt1 (x : Bool) : ∀ j, j < 1 → (#[Value.bool x] : Array Value)[j]? = some (.bool ((fun _ => x) j)) := fun j hj => by rw [Nat.lt_one_iff.1 hj]; rfl
theorem bAtt (x : Bool) : ∀ j, j < 2 → (#[Value.bool x, Value.bool x] : Array Value)[j]? = some (.bool ((fun _ => x) j)) := fun j hj => by rcases lt2 hj with rfl | rfl <;> rfl
theorem bAt2 (x y : Bool) : ∀ j, j < 2 → (#[Value.bool x, Value.bool y] : Array Value)[j]? = some (.bool ((fun j => if j = 0 then x else y) j)) := fun j hj => by rcases lt2 hj with rfl | rfl <;> rfl
theorem exL_at : ∀ j, j < 6 → (#[Value.bool false, Value.bool true, Value.bool true, Value.bool false, Value.bool true, Value.bool true] : Array Value)[j]? = some (.bool (exL j)) := fun j hj => by rcases lt6 hj with rfl | rfl | rfl | rfl | rfl | rfl <;> rfl
/-- a circuit, and two lists just laid -/
theorem arg2 {X : World} {c : Cr} {p : Pl} (hm : Mem X X.heap.size c p) (hs : Sm c) {cs1 cs2 : Array Value} {n1 n2 : Nat} {f1 f2 : Nat → Bool} (b1 : n1 ≤ 100000) (b2 : n2 ≤ 100000) (h1 : ∀ j, j < n1 → cs1[j]? = some (.bool (f1 j))) (h2 : ∀ j, j < n2 → cs2[j]? = some (.bool (f2 j))) :
    Arg ((X.alloc (.cells cs1 4)).alloc (.cells cs2 4)) ((X.alloc (.cells cs1 4)).alloc (.cells cs2 4)).heap.size c p (some ⟨X.heap.size, 0, none⟩) n1 n1 f1 (some ⟨X.heap.size + 1, 0, none⟩) n2 n2 f2 :=
  ⟨hm.to (((Below.refl _ _).alloc (Nat.le_refl _) _).alloc (by simp) _) (by simp; omega), hs, bls_of_has ((Has.new X 4 cs1).al _) h1, bls_of_has (Has.new' _ _ (by simp)) h2, (fun h => by cases h), (fun h => by cases h), b1, b2⟩

end Go.Proofs.YtbppdifghkkooaaDoor
