/- The reference of layer 4: Props; what both return. -/
import Derived.Test.YtoocghecmpnjeaaValuesRef2
import Derived.Test.YtoocghecmpnjeaaValuesNext
import Derived.Test.YtoocghecmpnjeaaValuesProps
namespace Go.Proofs.Ytoocghecmpnjeaa
open Go.RowKit
set_option linter.unusedVariables false
set_option linter.unusedSimpArgs false

section
variable {c : Cr} {p : Pl} {As At : Option Addr} {ns ks ni ki : Nat} {s t : Nat → Bool}
set_option maxRecDepth 100000 in
set_option maxHeartbeats 4000000 in
theorem rProps_yes (hk : c.ask ns ni = 0) (w : World) (h : Arg w w.heap.size c p As ns ks s At ni ki t) :
    Calls Try.prog 44 #[cv c p, .slice As ns ks, .slice At ni ki] w (PropsIs (c.hol s t) c.nb (c.bv s t) 0 w) := by
  obtain ⟨hc, hns, hni⟩ := Cr.ask_zero hk
  have g1 := h.hs.nb
  have hN := Cr.fg_bd hc
  have HC := Lib.hid hc
  have HK := Lib.hid hk
  obtain ⟨i0, hi0, hzz0, hs0, hy0⟩ := info_parts info_bool
  clear hc hns hni hk
  have hB0 : Below w.heap.size w w := Below.refl _ _
  go_enter Try.func44, Try.ntmps44
  go_wp2_with (first
    | (go_at_call 72; (with_reducible refine (rAsked_ok HK.out (w.alloc _) (h.to (by go_grown) (by go_size))).mono ?_); rintro e w0 ⟨rfl, hb0⟩; obtain ⟨hc0, hf0⟩ := bcell hb0; have hz0 : w.heap.size < w0.heap.size := (by have := hb0.size; (try simp at this); omega); have hBz : Below w.heap.size w w0 := Below.step (by go_grown) (by go_size) hb0; have hA0 : Has w0 w.heap.size 26 (cc c p) := (Has.new _ _ _).keep hb0 (by go_size))
    | (go_at_call 73; (with_reducible refine (rFrame_at HK.out w0 (h.to hBz hBz.size)).mono ?_); rintro e w1 ⟨A, k, rfl, hi, hb1⟩; have hz1 : w.heap.size < w1.heap.size := (by have := hb1.size; omega); have hB1 : Below w.heap.size w w1 := Below.step hBz hBz.size hb1; have hA1 : Has w1 w.heap.size 26 (cc c p) := hA0.keep hb1 hz0))
  clear hb1 hc0 hf0 hb0 hA0
  go_loopw [10, 11] (fun v i wr => ∃ q : Nat, q ≤ c.nb ∧ i = .int .i64 q ∧ wr.ownsRow w1.heap.size 4 1 v q (bL (c.bv s t) q) ∧ Below w1.heap.size w1 wr) (fun _ i _ => c.nb - (intOf i).toNat)
  case atStart => exact ⟨0, Nat.zero_le _, rfl, World.ownsRow_nil _ _ _ _, Below.refl _ _⟩
  case round =>
    obtain ⟨q, hq, rfl, hown, hBr⟩ := hrel
    have hsz := hBr.size
    obtain ⟨x0, x1, x2, x3, x4⟩ := (hA1.keep hBr hz1).box
    by_cases hlt : q < c.nb
    · obtain ⟨b1, b2, b3⟩ := Cr.bad_ok HC.out hlt
      obtain ⟨a, hA, hab, hcs⟩ := (h.hm.bd.keep (hB1.trans (hBr.mono hB1.size))) (by omega)
      have y0 := hcs q hlt
      rw [hA] at x3
      have HX := Lib.hid (show bL (c.bv s t) (q + 1) = bL (c.bv s t) q ++ [.bool (vlo (c.fr s t) (c.bd q))] from rfl)
      have hq0 : (0 : Int) ≤ (q : Int) := by omega
      have hq1 : (q : Int) < c.nb := by omega
      have hvr : BlsAt wr w1.heap.size A (c.fg + c.na) (c.fr s t) := hi.keep hBr
      clear hcs hA
      go_wp2_with (first
        | (go_at_call 75; (with_reducible refine (rValue_any A (c.fg + c.na) k (c.fr s t) (c.bd q) w1.heap.size wr hvr b1 b2 b3).mono ?_); rintro e w3 ⟨rfl, rfl⟩)
        | (at_builtin; refine wpList_append_own _ rfl _ _ 63 rfl w1.heap.size 4 i0 (.bool false) 1 1 Try.underlying63 hi0 hzz0 hs0 hy0 rfl (by decide) _ _ _ rfl (hown.alloc _) ⟨wr.heap.size, 0, none⟩ 1 1 [.bool (vlo (c.fr s t) (c.bd q))] rfl (by simp) (cell_one_new _ _ _) (by simp [Value.oneCell']) (by simp only [maxLen]; omega) (by omega) (by simp; omega) ?_; intro v' w8 hown' hgrow _))
      go_roundw
      case rel => exact ⟨q + 1, by omega, by go_num, by rw [HX.out]; exact hown', app_below hBr hBr.size (Nat.le_refl _) hown hgrow⟩
      case measure => simp [intOf]; omega
    · obtain rfl : q = c.nb := by omega
      obtain ⟨A', k', rfl, hi', _⟩ := own_bools hown
      have hBw := hB1.trans (hBr.mono hB1.size)
      clear hq hlt
      go_wp2_with (first
        | (go_at_call 76; (with_reducible refine (rHolds_any HK.out wr (h.to hBw hBw.size)).mono ?_); rintro e w3 ⟨rfl, hb3⟩))
      go_ret3
      exact ⟨A', k', rfl, (hi'.keep hb3).more hb3.size, Below.step hBw hBw.size hb3⟩

set_option maxRecDepth 100000 in
set_option maxHeartbeats 2000000 in
theorem rProps_any (w : World) (h : Arg w w.heap.size c p As ns ks s At ni ki t) :
    Calls Try.prog 44 #[cv c p, .slice As ns ks, .slice At ni ki] w (PropsIs (c.hd s t ns ni) (c.bn ns ni) (c.bv s t) (c.ask ns ni) w) := by
  have hB0 : Below w.heap.size w w := Below.refl _ _
  by_cases hk : c.ask ns ni = 0
  · rw [show c.bn ns ni = c.nb from if_pos hk, show c.hd s t ns ni = c.hol s t from if_pos hk, hk]
    exact rProps_yes hk w h
  · have h1 : (c.ask ns ni != 0) = true := by simpa [bne] using hk
    have HF := Lib.hid (show c.bn ns ni = 0 from if_neg hk)
    have HG := Lib.hid (show c.hd s t ns ni = false from if_neg hk)
    rw [HF.out, HG.out]
    clear HF HG hk
    go_enter Try.func44, Try.ntmps44
    go_wp2_with (first
      | (go_at_call 72; (with_reducible refine (rAsked_at (w.alloc _) (h.to (by go_grown) (by go_size))).mono ?_); rintro e w1 ⟨rfl, hb1⟩; obtain ⟨hc1, hf1⟩ := bcell hb1; have hz1 : w.heap.size < w1.heap.size := (by have := hb1.size; (try simp at this); omega); have hB1 : Below w.heap.size w w1 := Below.step (by go_grown) (by go_size) hb1)
      | (go_at_call 72; (with_reducible refine (rAsked_at w1 (h.to hB1 hB1.size)).mono ?_); rintro e w2 ⟨rfl, hb2⟩; have hB2 : Below w.heap.size w w2 := Below.step hB1 hB1.size hb2))
    go_ret3
    exact ⟨none, 0, rfl, fun h => absurd h (Nat.not_lt_zero _), hB2⟩
theorem next_any (w : World) (h : Arg w w.heap.size c p As ns ks s At ni ki t) :
    Calls Try.prog 36 #[cv c p, .slice As ns ks, .slice At ni ki] w (BoolsErr (c.nn ns ni) (c.nv s t) (c.ask ns ni) w) := by
  by_cases hk : c.ask ns ni = 0
  · rw [show c.nn ns ni = c.nl from if_pos hk, hk]; exact next_yes hk w h
  · exact next_no hk w h
theorem props_any (w : World) (h : Arg w w.heap.size c p As ns ks s At ni ki t) :
    Calls Try.prog 37 #[cv c p, .slice As ns ks, .slice At ni ki] w (PropsIs (c.hd s t ns ni) (c.bn ns ni) (c.bv s t) (c.ask ns ni) w) := by
  by_cases hk : c.ask ns ni = 0
  · rw [show c.bn ns ni = c.nb from if_pos hk, show c.hd s t ns ni = c.hol s t from if_pos hk, hk]; exact props_yes hk w h
  · exact props_no hk w h
end
