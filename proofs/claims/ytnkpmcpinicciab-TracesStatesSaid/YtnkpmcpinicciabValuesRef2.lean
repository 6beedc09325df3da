/- The reference of layer 4: All, Next, Props. -/
import Derived.Test.YtnkpmcpinicciabValuesAll
namespace Go.Proofs.Ytnkpmcpinicciab
open Go.RowKit
set_option linter.unusedVariables false
set_option linter.unusedSimpArgs false

section
variable {c : Cr} {p : Pl} {As At : Option Addr} {ns ks ni ki : Nat} {s t : Nat → Bool}

theorem rFrame_at (hk : c.ask ns ni = 0) (w : World) (h : Arg w w.heap.size c p As ns ks s At ni ki t) :
    Calls Try.prog 69 #[cv c p, .slice As ns ks, .slice At ni ki] w (BoolsAt (c.fg + c.na) (c.fr s t) w) := (rFrame_any c p As At ns ks ni ki s t w h.hm h.hs h.hS h.hT h.nS h.nT hk).mono fun _ _ h => h.at

set_option maxRecDepth 100000 in
set_option maxHeartbeats 4000000 in
theorem rAfter_new (hk : c.ask ns ni = 0) (w : World) (h : Arg w w.heap.size c p As ns ks s At ni ki t) :
    Calls Try.prog 54 #[cv c p, .slice As ns ks, .slice At ni ki] w (BoolsIn c.nl (c.nv s t) w) := by
  obtain ⟨hc, hns, hni⟩ := Cr.ask_zero hk
  have g1 := h.hs.nl
  have hN := Cr.fg_bd hc
  have HC := Lib.hid hc
  have HK := Lib.hid hk
  obtain ⟨i0, hi0, hzz0, hs0, hy0⟩ := info_parts info_bool
  clear hc hns hni hk
  have hB0 : Below w.heap.size w w := Below.refl _ _
  go_enter Try.func54, Try.ntmps54
  go_wp2_with (first
    | (go_at_call 69; (with_reducible refine (rFrame_at HK.out (w.alloc _) (h.to (by go_grown) (by go_size))).mono ?_); rintro e w1 ⟨A, k, rfl, hi, hb1⟩; have hz1 : w.heap.size < w1.heap.size := (by have := hb1.size; (try simp at this); omega); have hB1 : Below w.heap.size w w1 := Below.step (by go_grown) (by go_size) hb1; have hA1 : Has w1 w.heap.size 28 (cc c p) := (Has.new _ _ _).keep hb1 (by go_size)))
  clear hb1
  go_loopw [8, 9] (fun v i wr => ∃ q : Nat, q ≤ c.nl ∧ i = .int .i64 q ∧ wr.ownsRow w1.heap.size 4 1 v q (bL (c.nv s t) q) ∧ Below w1.heap.size w1 wr) (fun _ i _ => c.nl - (intOf i).toNat)
  case atStart => exact ⟨0, Nat.zero_le _, rfl, World.ownsRow_nil _ _ _ _, Below.refl _ _⟩
  case round =>
    obtain ⟨q, hq, rfl, hown, hBr⟩ := hrel
    have hsz := hBr.size
    obtain ⟨x0, x1, x2, x3, x4⟩ := (hA1.keep hBr hz1).box
    by_cases hlt : q < c.nl
    · obtain ⟨b1, b2, b3⟩ := Cr.lat_ok HC.out hlt
      obtain ⟨a, hA, hab, hcs⟩ := (h.hm.la.keep (hB1.trans (hBr.mono hB1.size))) (by omega)
      obtain ⟨y0, y1⟩ := hcs q hlt
      rw [hA] at x1
      have HX := Lib.hid (show bL (c.nv s t) (q + 1) = bL (c.nv s t) q ++ [.bool (vlo (c.fr s t) (c.nx q))] from rfl)
      have hq0 : (0 : Int) ≤ (q : Int) := by omega
      have hq1 : (q : Int) < c.nl := by omega
      have hvr : BlsAt wr w1.heap.size A (c.fg + c.na) (c.fr s t) := hi.keep hBr
      clear hcs hA
      go_wp2_with (first
        | (go_at_call 70; (with_reducible refine (rValue_any A (c.fg + c.na) k (c.fr s t) (c.nx q) w1.heap.size wr hvr b1 b2 b3).mono ?_); rintro e w3 ⟨rfl, rfl⟩)
        | (at_builtin; refine wpList_append_own _ rfl _ _ 29 rfl w1.heap.size 4 i0 (.bool false) 1 1 Try.underlying29 hi0 hzz0 hs0 hy0 rfl (by decide) _ _ _ rfl (hown.alloc _) ⟨wr.heap.size, 0, none⟩ 1 1 [.bool (vlo (c.fr s t) (c.nx q))] rfl (by simp) (cell_one_new _ _ _) (by simp [Value.oneCell']) (by simp only [maxLen]; omega) (by omega) (by simp; omega) ?_; intro v' w8 hown' hgrow _))
      go_roundw
      case rel => exact ⟨q + 1, by omega, by go_num, by rw [HX.out]; exact hown', app_below hBr hBr.size (Nat.le_refl _) hown hgrow⟩
      case measure => simp [intOf]; omega
    · obtain rfl : q = c.nl := by omega
      clear hq hlt
      go_wp2
      go_ret
      obtain ⟨A', k', rfl, hi', hn', hf'⟩ := own_bools2 hown
      exact ⟨A', k', rfl, hi', hB1.trans (hBr.mono hB1.size), hn', fun a ha => by have := hf' a ha; omega⟩
theorem rAfter_any (hk : c.ask ns ni = 0) (w : World) (h : Arg w w.heap.size c p As ns ks s At ni ki t) :
    Calls Try.prog 54 #[cv c p, .slice As ns ks, .slice At ni ki] w (BoolsAt c.nl (c.nv s t) w) := (rAfter_new hk w h).mono fun _ _ h => h.at

set_option maxRecDepth 100000 in
set_option maxHeartbeats 4000000 in
theorem rHolds_any (hk : c.ask ns ni = 0) (w : World) (h : Arg w w.heap.size c p As ns ks s At ni ki t) :
    Calls Try.prog 55 #[cv c p, .slice As ns ks, .slice At ni ki] w fun e w' => e = .returned (.bool (c.hol s t)) ∧ Below w.heap.size w w' := by
  obtain ⟨hc, hns, hni⟩ := Cr.ask_zero hk
  have g1 := h.hs.nc
  have HC := Lib.hid hc
  have HK := Lib.hid hk
  clear hc hns hni hk
  have hB0 : Below w.heap.size w w := Below.refl _ _
  go_enter Try.func55, Try.ntmps55
  go_wp2_with (first
    | (go_at_call 69; (with_reducible refine (rFrame_at HK.out (w.alloc _) (h.to (by go_grown) (by go_size))).mono ?_); rintro e w1 ⟨A, k, rfl, hi, hb1⟩; have hz1 : w.heap.size < w1.heap.size := (by have := hb1.size; (try simp at this); omega); have hB1 : Below w.heap.size w w1 := Below.step (by go_grown) (by go_size) hb1; have hA1 : Has w1 w.heap.size 28 (cc c p) := (Has.new _ _ _).keep hb1 (by go_size)))
  clear hb1
  obtain ⟨x0, x1, x2, x3, x4⟩ := hA1.box
  clear hA1
  go_loop [8] (fun i => ∃ q : Nat, q ≤ c.nc ∧ i = .int .i64 q ∧ Hid (∀ j, j < q → vlo (c.fr s t) (c.cn j) = true)) (fun i => c.nc - (intOf i).toNat)
  case atStart => exact ⟨0, Nat.zero_le _, rfl, Lib.hid (fun j hj => absurd hj (Nat.not_lt_zero _))⟩
  case round =>
    obtain ⟨q, hq, rfl, hL⟩ := hrel
    by_cases hlt : q < c.nc
    · obtain ⟨b1, b2, b3⟩ := Cr.con_ok HC.out hlt
      obtain ⟨a, hA, hab, hcs⟩ := (h.hm.cn.keep hB1) (by omega)
      have y0 := hcs q hlt
      rw [hA] at x4
      have hq0 : (0 : Int) ≤ (q : Int) := by omega
      have hq1 : (q : Int) < c.nc := by omega
      clear hcs hA
      cases hv : vlo (c.fr s t) (c.cn q)
      · have HV := Lib.hid (Cr.hol_no hlt hv)
        have HW := Lib.hid hv
        clear hv
        go_wp2_with (go_at_call 70; (with_reducible refine (rValue_any A (c.fg + c.na) k (c.fr s t) (c.cn q) w1.heap.size w1 hi b1 b2 b3).mono ?_); rw [HW.out]; rintro e w3 ⟨rfl, rfl⟩)
        go_ret
        exact ⟨by rw [HV.out]; rfl, hB1⟩
      · have HW := Lib.hid hv
        clear hv
        go_wp2_with (go_at_call 70; (with_reducible refine (rValue_any A (c.fg + c.na) k (c.fr s t) (c.cn q) w1.heap.size w1 hi b1 b2 b3).mono ?_); rw [HW.out]; rintro e w3 ⟨rfl, rfl⟩)
        go_round
        case rel => exact ⟨q + 1, by omega, by go_num, Lib.hid (fun j hj => by
          rcases Nat.lt_succ_iff_lt_or_eq.1 hj with h' | h'
          · exact hL.out j h'
          · subst h'; exact HW.out)⟩
        case measure => simp [intOf]; omega
    · obtain rfl : q = c.nc := by omega
      have HV := Lib.hid (Cr.hol_yes hL.out)
      clear hq hlt
      go_wp2
      go_ret
      exact ⟨by rw [HV.out]; rfl, hB1⟩
end
