/- The contract of values.Props. -/
import Derived.Test.YtpobkemgbbgolaaValuesAll
namespace Go.Proofs.Ytpobkemgbbgolaa
open Go.RowKit
set_option linter.unusedVariables false
set_option linter.unusedSimpArgs false

/-- all literals of a list are true -/
def allT (F : Nat → Bool) (f : Nat → Int) (n : Nat) : Bool := decide (∀ j, j < n → vlo F (f j) = true)
/-- the value of isFalse -/
abbrev isFv (b : Nat) : Value := .func (.func 37) #[] #[.pointer (some ⟨b, 0, none⟩)]
set_option maxRecDepth 100000 in
set_option maxHeartbeats 2000000 in
theorem indexFalse_any (A : Option Addr) (n k : Nat) (F : Nat → Bool) (b : Nat) (Ac : Option Addr) (nc kc : Nat) (f : Nat → Int) (B : Nat) (w : World) (hn : nc ≤ 1000) (hA : IntsAt w B Ac nc f) (hf : ∀ j, j < nc → 0 ≤ f j ∧ f j ≤ 2001 ∧ f j / 2 < (n : Int)) (hi : BlsAt w B A n F) (hb : Has w b 29 #[.slice A n k]) :
    Calls Try.prog 50 #[.slice Ac nc kc, isFv b] w (IdxIs (!allT F f nc) w) := by
  go_enter Try.func50, Try.ntmps50
  go_wp2
  go_loopw [8] (fun i wr => ∃ q : Nat, q ≤ nc ∧ i = .int .i64 q ∧ Hid (∀ j, j < q → vlo F (f j) = true) ∧ wr = w) (fun i _ => nc - (intOf i).toNat)
  case atStart => exact ⟨0, Nat.zero_le _, rfl, Lib.hid (fun j hj => absurd hj (Nat.not_lt_zero _)), rfl⟩
  case round =>
    obtain ⟨q, hq, rfl, hL, rfl⟩ := hrel
    by_cases hlt : q < nc
    · obtain ⟨a, rfl, hab, hcs⟩ := hA (by omega)
      have y0 := hcs q hlt
      obtain ⟨f1, f2, f3⟩ := hf q hlt
      clear hcs hf
      cases hv : vlo F (f q)
      · have HV := Lib.hid (show allT F f nc = false from decide_eq_false fun h => by rw [h q hlt] at hv; cases hv)
        have HW := Lib.hid hv
        clear hv
        go_wp2_with (go_at_call 37; (with_reducible refine (isFalse_any A n k F (f q) B b _ hi hb f1 f2 f3).mono ?_); rw [HW.out]; rintro e w1 ⟨rfl, rfl⟩)
        go_ret
        exact ⟨_, rfl, by rw [HV.out]; simp, Below.refl _ _⟩
      · have HW := Lib.hid hv
        clear hv
        go_wp2_with (go_at_call 37; (with_reducible refine (isFalse_any A n k F (f q) B b _ hi hb f1 f2 f3).mono ?_); rw [HW.out]; rintro e w1 ⟨rfl, rfl⟩)
        go_roundw
        case rel => exact ⟨q + 1, by omega, by go_num, Lib.hid (fun j hj => by
          rcases Nat.lt_succ_iff_lt_or_eq.1 hj with h' | h'
          · exact hL.out j h'
          · subst h'; exact HW.out), by trivial⟩
        case measure => simp [intOf]; omega
    · obtain rfl : q = nc := by omega
      have HV := Lib.hid (show allT F f q = true from decide_eq_true hL.out)
      clear hq hlt
      go_wp2
      go_ret
      exact ⟨_, rfl, by rw [HV.out]; rfl, Below.refl _ _⟩

set_option maxRecDepth 100000 in
set_option maxHeartbeats 2000000 in
theorem containsFalse_any (A : Option Addr) (n k : Nat) (F : Nat → Bool) (b : Nat) (Ac : Option Addr) (nc kc : Nat) (f : Nat → Int) (B : Nat) (w : World) (hn : nc ≤ 1000) (hA : IntsAt w B Ac nc f) (hf : ∀ j, j < nc → 0 ≤ f j ∧ f j ≤ 2001 ∧ f j / 2 < (n : Int)) (hi : BlsAt w B A n F) (hb : Has w b 29 #[.slice A n k]) :
    Calls Try.prog 38 #[.slice Ac nc kc, isFv b] w fun e w' => e = .returned (.bool (!allT F f nc)) ∧ Below w.heap.size w w' := by
  go_enter Try.func38, Try.ntmps38
  go_wp2_with (go_at_call 50; refine (indexFalse_any A n k F b Ac nc kc f B _ hn hA hf hi hb).mono ?_; rintro e w1 ⟨m, rfl, hm, hb1⟩)
  go_ret
  exact ⟨rfl, hb1⟩

section
variable {c : Cr} {p : Pl} {As At : Option Addr} {ns ks ni ki : Nat} {s t : Nat → Bool}

set_option maxRecDepth 100000 in
set_option maxHeartbeats 2000000 in
theorem props_no (hk : c.ask ns ni ≠ 0) (w : World) (h : Arg w w.heap.size c p As ns ks s At ni ki t) :
    Calls Try.prog 28 #[cv c p, .slice As ns ks, .slice At ni ki] w (PropsIs (c.hd s t ns ni) (c.bn ns ni) (c.bv s t) (c.ask ns ni) w) := by
  have h1 : (c.ask ns ni != 0) = true := by simpa [bne] using hk
  have HF := Lib.hid (show c.bn ns ni = 0 from if_neg hk)
  have HG := Lib.hid (show c.hd s t ns ni = false from if_neg hk)
  rw [HF.out, HG.out]
  clear HF HG hk
  have hB0 : Below w.heap.size w w := Below.refl _ _
  go_enter Try.func28, Try.ntmps28
  go_wp2_with (first
    | (go_at_call 26; (with_reducible refine (all_any (w.alloc _) (h.to (by go_grown) (by go_size))).mono ?_); rintro e w1 ⟨A, k, rfl, hi, hb1⟩; have hB1 : Below w.heap.size w w1 := Below.step (by go_grown) (by go_size) hb1))
  go_ret3
  exact ⟨none, 0, rfl, fun h => absurd h (Nat.not_lt_zero _), hB1.alloc hB1.size _⟩

set_option maxRecDepth 100000 in
set_option maxHeartbeats 4000000 in
theorem props_new (hk : c.ask ns ni = 0) (w : World) (h : Arg w w.heap.size c p As ns ks s At ni ki t) :
    Calls Try.prog 28 #[cv c p, .slice As ns ks, .slice At ni ki] w (PropsNew (c.hol s t) c.nb (c.bv s t) 0 w) := by
  obtain ⟨hc, hns, hni⟩ := Cr.ask_zero hk
  have g1 := h.hs.nb
  have g2 := h.hs.nc
  have hN := Cr.fg_bd hc
  have HC := Lib.hid hc
  have HK := Lib.hid hk
  obtain ⟨i0, hi0, hzz0, hs0, hy0⟩ := info_parts info_bool
  clear hc hns hni hk
  have hB0 : Below w.heap.size w w := Below.refl _ _
  go_enter Try.func28, Try.ntmps28
  go_wp2_with (first
    | (go_at_call 26; (with_reducible refine (all_at HK.out (w.alloc _) (h.to (by go_grown) (by go_size))).mono ?_); rintro e w1 ⟨A, k, rfl, hi, hb1⟩; obtain ⟨hc1, hf1⟩ := bcell hb1; have hz1 : w.heap.size < w1.heap.size := (by have := hb1.size; (try simp at this); omega); have hB1 : Below w.heap.size w w1 := Below.step (by go_grown) (by go_size) hb1; have hA1 : Has w1 w.heap.size 28 (cc c p) := (Has.new _ _ _).keep hb1 (by go_size)))
  clear hc1 hf1 hb1
  go_loopw [7, 26] (fun v i wr => ∃ q : Nat, q ≤ c.nb ∧ i = .int .i64 q ∧ wr.ownsRow (w1.heap.size + 1) 4 1 v q (bL (c.bv s t) q) ∧ Has wr w1.heap.size 29 #[.slice A (c.fg + c.na) k] ∧ Below w1.heap.size w1 wr) (fun _ i _ => c.nb - (intOf i).toNat)
  case atStart => exact ⟨0, Nat.zero_le _, rfl, World.ownsRow_nil _ _ _ _, Has.new _ _ _, (Below.refl _ _).alloc (Nat.le_refl _) _⟩
  case round =>
    obtain ⟨q, hq, rfl, hown, hX, hBr⟩ := hrel
    have hsz := hX.lt
    have xb : wr.cell? ⟨w1.heap.size, 0, none⟩ = some (.slice A (c.fg + c.na) k) := hX.cell 0
    have hvr : BlsAt wr w1.heap.size A (c.fg + c.na) (c.fr s t) := hi.keep hBr
    by_cases hlt : q < c.nb
    · obtain ⟨b1, b2, b3⟩ := Cr.bad_ok HC.out hlt
      obtain ⟨a, hA, hab, hcs⟩ := (h.hm.bd.keep (hB1.trans (hBr.mono hB1.size))) (by omega)
      have y0 := hcs q hlt
      rw [hA]
      have HX := Lib.hid (show bL (c.bv s t) (q + 1) = bL (c.bv s t) q ++ [.bool (vlo (c.fr s t) (c.bd q))] from rfl)
      have hq0 : (0 : Int) ≤ (q : Int) := by omega
      have hq1 : (q : Int) < c.nb := by omega
      clear hcs hA
      go_wp2_with (first
        | (go_at_call 27; (with_reducible refine (valueOf_any A (c.fg + c.na) k (c.fr s t) (c.bd q) w1.heap.size wr hvr b1 b2 b3).mono ?_); rintro e w3 ⟨rfl, rfl⟩)
        | (at_builtin; refine wpList_append_own _ rfl _ _ 29 rfl (w1.heap.size + 1) 4 i0 (.bool false) 1 1 Try.underlying29 hi0 hzz0 hs0 hy0 rfl (by decide) _ _ _ rfl (hown.alloc _) ⟨wr.heap.size, 0, none⟩ 1 1 [.bool (vlo (c.fr s t) (c.bd q))] rfl (by simp) (cell_one_new _ _ _) (by simp [Value.oneCell']) (by simp only [maxLen]; omega) (by omega) (by simp; omega) ?_; intro v' w8 hown' hgrow _))
      go_roundw
      case rel => exact ⟨q + 1, by omega, by go_num, by rw [HX.out]; exact hown', app_has hX hown hgrow (by omega), app_below hBr hBr.size (by omega) hown hgrow⟩
      case measure => simp [intOf]; omega
    · obtain rfl : q = c.nb := by omega
      have hAr := hA1.keep hBr hz1
      obtain ⟨x0, x1, x2, x3, x4⟩ := hAr.box
      have hcn := (h.hm.cn.keep (hB1.trans (hBr.mono hB1.size))).more (Nat.le_of_lt hz1)
      obtain ⟨A', k', rfl, hi', hn', hf'⟩ := own_bools2 hown
      have hconb : ∀ j, j < c.nc → 0 ≤ c.cn j ∧ c.cn j ≤ 2001 ∧ c.cn j / 2 < ((c.fg + c.na : Nat) : Int) := fun j hj => Cr.con_ok HC.out hj
      have HCB := Lib.hid hconb
      have HN := Lib.hid hn'
      have HF := Lib.hid hf'
      clear hq hlt hconb hn' hf'
      go_wp2_with (first
        | (go_at_call 38; (with_reducible refine (containsFalse_any A (c.fg + c.na) k (c.fr s t) w1.heap.size p.A4 c.nc p.k4 c.cn w1.heap.size wr g2 hcn HCB.out hvr hX).mono ?_); rintro e w3 ⟨rfl, hb3⟩))
      go_ret3
      exact ⟨A', k', by simp [allT, Cr.hol], (hi'.keep hb3).more hb3.size, (hB1.trans (hBr.mono hB1.size)).trans (hb3.mono (Nat.le_trans hB1.size (by omega))), HN.out, fun a ha => by have := HF.out a ha; omega⟩
theorem props_yes (hk : c.ask ns ni = 0) (w : World) (h : Arg w w.heap.size c p As ns ks s At ni ki t) :
    Calls Try.prog 28 #[cv c p, .slice As ns ks, .slice At ni ki] w (PropsIs (c.hol s t) c.nb (c.bv s t) 0 w) := (props_new hk w h).mono fun _ _ h => h.is
end
