/- The contracts of ternary.All, Next and First, as any caller has them. -/
import Derived.Test.YthpifibemekmcaaTernAll2
namespace Go.Proofs.Ythpifibemekmcaa
open Go.RowKit
set_option linter.unusedVariables false
set_option linter.unusedSimpArgs false

section
variable {c : Cr} {p : Pl} {As At : Option Addr} {ns ks ni ki : Nat} {s t : Nat → Int}
theorem tAll_any (w : World) (h : TArg w w.heap.size c p As ns ks s At ni ki t) :
    Calls Try.prog 16 #[cv c p, .slice As ns ks, .slice At ni ki] w (TrsErr (c.tn ns ni s t) (c.tf s t) (c.tsk ns ni s t) w) := by
  by_cases hk : c.tsk ns ni s t = 0
  · rw [Cr.tn_yes hk, hk]
    exact tAll_yes hk w h
  · exact tAll_no hk w h

set_option maxRecDepth 100000 in
set_option maxHeartbeats 4000000 in
theorem tNext_yes (hk : c.tsk ns ni s t = 0) (w : World) (h : TArg w w.heap.size c p As ns ks s At ni ki t) :
    Calls Try.prog 17 #[cv c p, .slice As ns ks, .slice At ni ki] w (TrsErr c.nl (c.tnv s t) 0 w) := by
  have HT := Lib.hid (Cr.tf_isT0 hk h.r1 h.r2)
  obtain ⟨hc, hns, hni, hts, htt⟩ := Cr.tsk_zero hk
  have g1 := h.hs.nl
  have hN := Cr.fg_bd hc
  have HC := Lib.hid hc
  have HK := Lib.hid hk
  obtain ⟨i0, hi0, hzz0, hs0, hy0⟩ := info_parts info_u8
  clear hc hns hni hk hts htt
  have hB0 : Below w.heap.size w w := Below.refl _ _
  go_enter Try.func17, Try.ntmps17
  go_wp2_with (first
    | (go_at_call 16; (with_reducible refine (tAll_yes HK.out (w.alloc _) (h.to (by go_grown) (by go_size))).mono ?_); rintro e w1 ⟨A, k, rfl, hi, hb1⟩; obtain ⟨hc1, hf1⟩ := bcell hb1; have hz1 : w.heap.size < w1.heap.size := (by have := hb1.size; (try simp at this); omega); have hB1 : Below w.heap.size w w1 := Below.step (by go_grown) (by go_size) hb1; have hA1 : Has w1 w.heap.size 38 (cc c p) := (Has.new _ _ _).keep hb1 (by go_size)))
  clear hc1 hf1 hb1
  go_loopw [10, 26] (fun v i wr => ∃ q : Nat, q ≤ c.nl ∧ i = .int .i64 q ∧ wr.ownsRow w1.heap.size 5 1 v q (tL (c.tnv s t) q) ∧ Below w1.heap.size w1 wr) (fun _ i _ => c.nl - (intOf i).toNat)
  case atStart => exact ⟨0, Nat.zero_le _, rfl, World.ownsRow_nil _ _ _ _, Below.refl _ _⟩
  case round =>
    obtain ⟨q, hq, rfl, hown, hBr⟩ := hrel
    have hsz := hBr.size
    by_cases hlt : q < c.nl
    · obtain ⟨b1, b2, b3⟩ := Cr.lat_ok HC.out hlt
      obtain ⟨a, hA, hab, hcs⟩ := (h.hm.la.keep (hB1.trans (hBr.mono hB1.size))) (by omega)
      obtain ⟨y0, y1⟩ := hcs q hlt
      rw [hA]
      have HX := Lib.hid (show tL (c.tnv s t) (q + 1) = tL (c.tnv s t) q ++ [.int .u8 (tlo (c.tf s t) (c.nx q))] from rfl)
      have hq0 : (0 : Int) ≤ (q : Int) := by omega
      have hq1 : (q : Int) < c.nl := by omega
      have hvr : ∀ o, TrAt (wr.alloc o) w1.heap.size A (c.fg + c.na) (c.tf s t) := fun o => hi.keep (hBr.alloc hBr.size o)
      clear hcs hA
      go_wp2_with (first
        | (go_at_call 51; (with_reducible refine (tvalueOf_any A (c.fg + c.na) k (c.tf s t) (c.nx q) w1.heap.size (wr.alloc _) (hvr _) b1 b2 b3 (HT.out _)).mono ?_); rintro e w3 ⟨rfl, rfl⟩)
        | (at_builtin; refine wpList_append_own _ rfl _ _ 29 rfl w1.heap.size 5 i0 (.int .u8 0) 1 1 Try.underlying29 hi0 hzz0 hs0 hy0 rfl (by decide) _ _ _ rfl ((hown.alloc _).alloc _) ⟨wr.heap.size + 1, 0, none⟩ 1 1 [.int .u8 (tlo (c.tf s t) (c.nx q))] rfl (by simp) (fun j u hu => by have := cell_one_new (wr.alloc (.cells #[.int .i64 (c.nx q), .int .i64 (c.rs q)] 33)) (.int .u8 (tlo (c.tf s t) (c.nx q))) 5 j u hu; rwa [World.size_alloc] at this) (by simp [Value.oneCell']) (by simp only [maxLen]; omega) (by omega) (by simp; omega) ?_; intro v' w8 hown' hgrow _))
      go_roundw
      case rel => exact ⟨q + 1, by omega, by go_num, by rw [HX.out]; exact hown', app_below (hBr.alloc hBr.size _) (by simp; omega) (Nat.le_refl _) (hown.alloc _) hgrow⟩
      case measure => simp [intOf]; omega
    · obtain rfl : q = c.nl := by omega
      clear hq hlt
      go_wp2
      go_ret2
      obtain ⟨A', k', rfl, hi', _⟩ := own_trs hown
      exact ⟨A', k', rfl, hi', hB1.trans (hBr.mono hB1.size)⟩

set_option maxRecDepth 100000 in
set_option maxHeartbeats 2000000 in
theorem tNext_any (w : World) (h : TArg w w.heap.size c p As ns ks s At ni ki t) :
    Calls Try.prog 17 #[cv c p, .slice As ns ks, .slice At ni ki] w (TrsErr (c.tnn ns ni s t) (c.tnv s t) (c.tsk ns ni s t) w) := by
  by_cases hk : c.tsk ns ni s t = 0
  · rw [Cr.tnn_yes hk, hk]
    exact tNext_yes hk w h
  · have h1 : (c.tsk ns ni s t != 0) = true := by simpa [bne] using hk
    have HF := Lib.hid (Cr.tnn_no (c := c) (ns := ns) (ni := ni) (s := s) (t := t) rfl hk)
    rw [HF.out]
    clear HF hk
    have hB0 : Below w.heap.size w w := Below.refl _ _
    go_enter Try.func17, Try.ntmps17
    go_wp2_with (first
      | (go_at_call 16; (with_reducible refine (tAll_any (w.alloc _) (h.to (by go_grown) (by go_size))).mono ?_); rintro e w1 ⟨A, k, rfl, hi, hb1⟩; have hB1 : Below w.heap.size w w1 := Below.step (by go_grown) (by go_size) hb1))
    go_ret2
    exact TrsErr.none hB1

set_option maxHeartbeats 1000000 in
theorem vor_any {x : Int} (h0 : 0 ≤ x) (h1 : x ≤ 2) (w : World) : Calls Try.prog 52 #[.int .i64 x] w fun e w' => e = .returned (.int .u8 x) ∧ w = w' := by
  rcases (by omega : x = 0 ∨ x = 1 ∨ x = 2) with rfl | rfl | rfl
  all_goals
    go_enter Try.func52, Try.ntmps52
    go_wp2
    go_ret
    exact ⟨rfl, rfl⟩

set_option maxRecDepth 100000 in
set_option maxHeartbeats 4000000 in
theorem tFirst_any (w : World) (hm : Mem w w.heap.size c p) (hs : Sm c) :
    Calls Try.prog 18 #[cv c p] w (TrsErr c.rsn c.rs c.chk w) := by
  have hB0 : Below w.heap.size w w := Below.refl _ _
  by_cases hk : c.chk = 0
  · have HF := Lib.hid (show c.rsn = c.nl from if_pos hk)
    have HK := Lib.hid hk
    have g1 := hs.nl
    obtain ⟨i0, hi0, hzz0, hs0, hy0⟩ := info_parts info_u8
    rw [HF.out]
    clear hk HF
    go_enter Try.func18, Try.ntmps18
    go_wp2_with (first
      | (go_at_call 49; (with_reducible refine (gCheck_at HK.out (w.alloc _) (hm.to (by go_grown) (by go_size)) hs).mono ?_); rintro e w1 ⟨rfl, hb1⟩; obtain ⟨hc1, hf1⟩ := bcell hb1; have hz1 : w.heap.size < w1.heap.size := (by have := hb1.size; (try simp at this); omega); have hB1 : Below w.heap.size w w1 := Below.step (by go_grown) (by go_size) hb1; have hA1 : Has w1 w.heap.size 38 (cc c p) := (Has.new _ _ _).keep hb1 (by go_size)))
    clear hc1 hf1 hb1
    go_loopw [5, 16] (fun v i wr => ∃ q : Nat, q ≤ c.nl ∧ i = .int .i64 q ∧ wr.ownsRow w1.heap.size 5 1 v q (tL c.rs q) ∧ Below w1.heap.size w1 wr) (fun _ i _ => c.nl - (intOf i).toNat)
    case atStart => exact ⟨0, Nat.zero_le _, rfl, World.ownsRow_nil _ _ _ _, Below.refl _ _⟩
    case round =>
      obtain ⟨q, hq, rfl, hown, hBr⟩ := hrel
      have hsz := hBr.size
      by_cases hlt : q < c.nl
      · obtain ⟨b1, b2⟩ := Cr.rs_ok HK.out hlt
        obtain ⟨a, hA, hab, hcs⟩ := (hm.la.keep (hB1.trans (hBr.mono hB1.size))) (by omega)
        obtain ⟨y0, y1⟩ := hcs q hlt
        rw [hA]
        have HX := Lib.hid (show tL c.rs (q + 1) = tL c.rs q ++ [.int .u8 (c.rs q)] from rfl)
        have hq0 : (0 : Int) ≤ (q : Int) := by omega
        have hq1 : (q : Int) < c.nl := by omega
        clear hcs hA
        go_wp2_with (first
          | (go_at_call 52; (with_reducible refine (vor_any b1 b2 (wr.alloc _)).mono ?_); rintro e w3 ⟨rfl, rfl⟩)
          | (at_builtin; refine wpList_append_own _ rfl _ _ 29 rfl w1.heap.size 5 i0 (.int .u8 0) 1 1 Try.underlying29 hi0 hzz0 hs0 hy0 rfl (by decide) _ _ _ rfl ((hown.alloc _).alloc _) ⟨wr.heap.size + 1, 0, none⟩ 1 1 [.int .u8 (c.rs q)] rfl (by simp) (fun j u hu => by have := cell_one_new (wr.alloc (.cells #[.int .i64 (c.nx q), .int .i64 (c.rs q)] 33)) (.int .u8 (c.rs q)) 5 j u hu; rwa [World.size_alloc] at this) (by simp [Value.oneCell']) (by simp only [maxLen]; omega) (by omega) (by simp; omega) ?_; intro v' w8 hown' hgrow _))
        go_roundw
        case rel => exact ⟨q + 1, by omega, by go_num, by rw [HX.out]; exact hown', app_below (hBr.alloc hBr.size _) (by simp; omega) (Nat.le_refl _) (hown.alloc _) hgrow⟩
        case measure => simp [intOf]; omega
      · obtain rfl : q = c.nl := by omega
        clear hq hlt
        go_wp2
        go_ret2
        obtain ⟨A', k', rfl, hi', _⟩ := own_trs hown
        exact ⟨A', k', by rw [HK.out]; rfl, hi', hB1.trans (hBr.mono hB1.size)⟩
  · have h1 : (c.chk != 0) = true := by simpa [bne] using hk
    have HF := Lib.hid (show c.rsn = 0 from if_neg hk)
    rw [HF.out]
    clear HF hk
    go_enter Try.func18, Try.ntmps18
    go_wp2_with (first
      | (go_at_call 49; (with_reducible refine (gCheck_any c p (w.alloc _) (hm.to (by go_grown) (by go_size)) hs).mono ?_); rintro e w1 ⟨rfl, hb1⟩; have hB1 : Below w.heap.size w w1 := Below.step (by go_grown) (by go_size) hb1))
    go_ret2
    exact TrsErr.none hB1
end
end Go.Proofs.Ythpifibemekmcaa
