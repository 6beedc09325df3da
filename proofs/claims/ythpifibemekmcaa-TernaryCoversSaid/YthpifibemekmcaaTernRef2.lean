/- The reference of layer 5: All, After, Next, Resets, First, Of. -/
import Derived.Test.YthpifibemekmcaaTernRef
import Derived.Test.YthpifibemekmcaaValuesAll
namespace Go.Proofs.Ythpifibemekmcaa
open Go.RowKit
set_option linter.unusedVariables false
set_option linter.unusedSimpArgs false

section
variable {c : Cr} {p : Pl} {As At : Option Addr} {ns ks ni ki : Nat} {s t : Nat → Int}
theorem tFrame_at (hk : c.tsk ns ni s t = 0) (w : World) (h : TArg w w.heap.size c p As ns ks s At ni ki t) :
    Calls Try.prog 53 #[cv c p, .slice As ns ks, .slice At ni ki] w (TrsAt (c.fg + c.na) (c.tf s t) w) := (tFrame_any hk w h).mono fun _ _ h => h.at
theorem Cr.tn_no {x : Int} (h : c.tsk ns ni s t = x) (hx : x ≠ 0) : c.tn ns ni s t = 0 := if_neg (by omega)
theorem Cr.tn_yes (h : c.tsk ns ni s t = 0) : c.tn ns ni s t = c.fg + c.na := if_pos h
theorem Cr.tnn_no {x : Int} (h : c.tsk ns ni s t = x) (hx : x ≠ 0) : c.tnn ns ni s t = 0 := if_neg (by omega)
theorem Cr.tnn_yes (h : c.tsk ns ni s t = 0) : c.tnn ns ni s t = c.nl := if_pos h
theorem Cr.tf_isT0 (hk : c.tsk ns ni s t = 0) (r1 : ∀ j, j < ns → 0 ≤ s j ∧ s j ≤ 255) (r2 : ∀ j, j < ni → 0 ≤ t j ∧ t j ≤ 255) : ∀ v, isT (c.tf s t v) := by
  obtain ⟨hc, hns, hni, hts, htt⟩ := Cr.tsk_zero hk
  exact Cr.tf_isT (fun j hj => allTb_at hts r1 j (by omega)) (fun j hj => allTb_at htt r2 j (by omega))
theorem TrsErr.none {f : Nat → Int} {x : Int} {w w' : World} (hb : Below w.heap.size w w') : TrsErr 0 f x w (.returned (.tuple #[.slice none 0 0, .int .i64 x])) w' := ⟨Option.none, 0, rfl, fun h => absurd h (Nat.not_lt_zero _), hb⟩

set_option maxRecDepth 100000 in
set_option maxHeartbeats 2000000 in
theorem tRAll_any (w : World) (h : TArg w w.heap.size c p As ns ks s At ni ki t) :
    Calls Try.prog 23 #[cv c p, .slice As ns ks, .slice At ni ki] w (TrsErr (c.tn ns ni s t) (c.tf s t) (c.tsk ns ni s t) w) := by
  have hB0 : Below w.heap.size w w := Below.refl _ _
  by_cases hk : c.tsk ns ni s t = 0
  · rw [Cr.tn_yes hk, hk]
    have HK := Lib.hid hk
    clear hk
    go_enter Try.func23, Try.ntmps23
    go_wp2_with (first
      | (go_at_call 30; (with_reducible refine (tAsked_ok HK.out (w.alloc _) (h.to (by go_grown) (by go_size))).mono ?_); rintro e w1 ⟨rfl, hb1⟩; obtain ⟨hc1, hf1⟩ := bcell hb1; have hz1 : w.heap.size < w1.heap.size := (by have := hb1.size; (try simp at this); omega); have hB1 : Below w.heap.size w w1 := Below.step (by go_grown) (by go_size) hb1)
      | (go_at_call 53; (with_reducible refine (tFrame_at HK.out w1 (h.to hB1 hB1.size)).mono ?_); rintro e w2 ⟨A, k, rfl, hi, hb2⟩; have hB2 : Below w.heap.size w w2 := Below.step hB1 hB1.size hb2))
    go_ret2
    exact ⟨A, k, rfl, hi, hB2⟩
  · have h1 : (c.tsk ns ni s t != 0) = true := by simpa [bne] using hk
    have HF := Lib.hid (Cr.tn_no (c := c) (ns := ns) (ni := ni) (s := s) (t := t) rfl hk)
    rw [HF.out]
    clear HF hk
    go_enter Try.func23, Try.ntmps23
    go_wp2_with (first
      | (go_at_call 30; (with_reducible refine (tAsked_any (w.alloc _) (h.to (by go_grown) (by go_size))).mono ?_); rintro e w1 ⟨rfl, hb1⟩; obtain ⟨hc1, hf1⟩ := bcell hb1; have hz1 : w.heap.size < w1.heap.size := (by have := hb1.size; (try simp at this); omega); have hB1 : Below w.heap.size w w1 := Below.step (by go_grown) (by go_size) hb1)
      | (go_at_call 30; (with_reducible refine (tAsked_any w1 (h.to hB1 hB1.size)).mono ?_); rintro e w2 ⟨rfl, hb2⟩; have hB2 : Below w.heap.size w w2 := Below.step hB1 hB1.size hb2))
    go_ret2
    exact TrsErr.none hB2

set_option maxRecDepth 100000 in
set_option maxHeartbeats 4000000 in
theorem tAfter_any (hk : c.tsk ns ni s t = 0) (w : World) (h : TArg w w.heap.size c p As ns ks s At ni ki t) :
    Calls Try.prog 54 #[cv c p, .slice As ns ks, .slice At ni ki] w (TrsAt c.nl (c.tnv s t) w) := by
  have HT := Lib.hid (Cr.tf_isT0 hk h.r1 h.r2)
  obtain ⟨hc, hns, hni, hts, htt⟩ := Cr.tsk_zero hk
  have g1 := h.hs.nl
  have hN := Cr.fg_bd hc
  have HC := Lib.hid hc
  have HK := Lib.hid hk
  obtain ⟨i0, hi0, hzz0, hs0, hy0⟩ := info_parts info_u8
  clear hc hns hni hk hts htt
  have hB0 : Below w.heap.size w w := Below.refl _ _
  go_enter Try.func54, Try.ntmps54
  go_wp2_with (first
    | (go_at_call 53; (with_reducible refine (tFrame_at HK.out (w.alloc _) (h.to (by go_grown) (by go_size))).mono ?_); rintro e w1 ⟨A, k, rfl, hi, hb1⟩; have hz1 : w.heap.size < w1.heap.size := (by have := hb1.size; (try simp at this); omega); have hB1 : Below w.heap.size w w1 := Below.step (by go_grown) (by go_size) hb1; have hA1 : Has w1 w.heap.size 38 (cc c p) := (Has.new _ _ _).keep hb1 (by go_size)))
  clear hb1
  go_loopw [8, 9] (fun v i wr => ∃ q : Nat, q ≤ c.nl ∧ i = .int .i64 q ∧ wr.ownsRow w1.heap.size 5 1 v q (tL (c.tnv s t) q) ∧ Below w1.heap.size w1 wr) (fun _ i _ => c.nl - (intOf i).toNat)
  case atStart => exact ⟨0, Nat.zero_le _, rfl, World.ownsRow_nil _ _ _ _, Below.refl _ _⟩
  case round =>
    obtain ⟨q, hq, rfl, hown, hBr⟩ := hrel
    have hsz := hBr.size
    obtain ⟨x0, x1, x2, x3, x4⟩ := (hA1.keep hBr hz1).box
    by_cases hlt : q < c.nl
    · obtain ⟨b1, b2, b3⟩ := Cr.lat_ok HC.out hlt
      obtain ⟨a, hA, hab, hcs⟩ := (h.hm.la.keep (hB1.trans (hBr.mono hB1.size))) (by omega)
      obtain ⟨y0, y1⟩ := hcs q hlt
      rw [hA] at x1
      have HX := Lib.hid (show tL (c.tnv s t) (q + 1) = tL (c.tnv s t) q ++ [.int .u8 (tlo (c.tf s t) (c.nx q))] from rfl)
      have hq0 : (0 : Int) ≤ (q : Int) := by omega
      have hq1 : (q : Int) < c.nl := by omega
      have hvr : TrAt wr w1.heap.size A (c.fg + c.na) (c.tf s t) := hi.keep hBr
      clear hcs hA
      go_wp2_with (first
        | (go_at_call 75; (with_reducible refine (trValue_any A (c.fg + c.na) k (c.tf s t) (c.nx q) w1.heap.size wr hvr b1 b2 b3 (HT.out _)).mono ?_); rintro e w3 ⟨rfl, hb3⟩; have hB3 : Below w1.heap.size w1 w3 := Below.step hBr hBr.size hb3; have hown3 := own_below hown hb3; have hsz3 := hB3.size)
        | (at_builtin; refine wpList_append_own _ rfl _ _ 29 rfl w1.heap.size 5 i0 (.int .u8 0) 1 1 Try.underlying29 hi0 hzz0 hs0 hy0 rfl (by decide) _ _ _ rfl (hown3.alloc _) ⟨w3.heap.size, 0, none⟩ 1 1 [.int .u8 (tlo (c.tf s t) (c.nx q))] rfl (by simp) (cell_one_new _ _ _) (by simp [Value.oneCell']) (by simp only [maxLen]; omega) (by omega) (by simp; omega) ?_; intro v' w8 hown' hgrow _))
      go_roundw
      case rel => exact ⟨q + 1, by omega, by go_num, by rw [HX.out]; exact hown', app_below hB3 hB3.size (Nat.le_refl _) hown3 hgrow⟩
      case measure => simp [intOf]; omega
    · obtain rfl : q = c.nl := by omega
      clear hq hlt
      go_wp2
      go_ret
      obtain ⟨A', k', rfl, hi', _⟩ := own_trs hown
      exact ⟨A', k', rfl, hi', hB1.trans (hBr.mono hB1.size)⟩

set_option maxRecDepth 100000 in
set_option maxHeartbeats 2000000 in
theorem tRNext_any (w : World) (h : TArg w w.heap.size c p As ns ks s At ni ki t) :
    Calls Try.prog 24 #[cv c p, .slice As ns ks, .slice At ni ki] w (TrsErr (c.tnn ns ni s t) (c.tnv s t) (c.tsk ns ni s t) w) := by
  have hB0 : Below w.heap.size w w := Below.refl _ _
  by_cases hk : c.tsk ns ni s t = 0
  · rw [Cr.tnn_yes hk, hk]
    have HK := Lib.hid hk
    clear hk
    go_enter Try.func24, Try.ntmps24
    go_wp2_with (first
      | (go_at_call 30; (with_reducible refine (tAsked_ok HK.out (w.alloc _) (h.to (by go_grown) (by go_size))).mono ?_); rintro e w1 ⟨rfl, hb1⟩; obtain ⟨hc1, hf1⟩ := bcell hb1; have hz1 : w.heap.size < w1.heap.size := (by have := hb1.size; (try simp at this); omega); have hB1 : Below w.heap.size w w1 := Below.step (by go_grown) (by go_size) hb1)
      | (go_at_call 54; (with_reducible refine (tAfter_any HK.out w1 (h.to hB1 hB1.size)).mono ?_); rintro e w2 ⟨A, k, rfl, hi, hb2⟩; have hB2 : Below w.heap.size w w2 := Below.step hB1 hB1.size hb2))
    go_ret2
    exact ⟨A, k, rfl, hi, hB2⟩
  · have h1 : (c.tsk ns ni s t != 0) = true := by simpa [bne] using hk
    have HF := Lib.hid (Cr.tnn_no (c := c) (ns := ns) (ni := ni) (s := s) (t := t) rfl hk)
    rw [HF.out]
    clear HF hk
    go_enter Try.func24, Try.ntmps24
    go_wp2_with (first
      | (go_at_call 30; (with_reducible refine (tAsked_any (w.alloc _) (h.to (by go_grown) (by go_size))).mono ?_); rintro e w1 ⟨rfl, hb1⟩; obtain ⟨hc1, hf1⟩ := bcell hb1; have hz1 : w.heap.size < w1.heap.size := (by have := hb1.size; (try simp at this); omega); have hB1 : Below w.heap.size w w1 := Below.step (by go_grown) (by go_size) hb1)
      | (go_at_call 30; (with_reducible refine (tAsked_any w1 (h.to hB1 hB1.size)).mono ?_); rintro e w2 ⟨rfl, hb2⟩; have hB2 : Below w.heap.size w w2 := Below.step hB1 hB1.size hb2))
    go_ret2
    exact TrsErr.none hB2

set_option maxRecDepth 100000 in
set_option maxHeartbeats 4000000 in
theorem tResets_any (hc : c.chk = 0) (w : World) (hm : Mem w w.heap.size c p) (hs : Sm c) :
    Calls Try.prog 56 #[cv c p] w (TrsAt c.nl c.rs w) := by
  have g1 := hs.nl
  have HC := Lib.hid hc
  obtain ⟨i0, hi0, hzz0, hs0, hy0⟩ := info_parts info_u8
  clear hc
  have hB0 : Below w.heap.size w w := Below.refl _ _
  have hA1 : Has (w.alloc (.cells (cc c p) 38)) w.heap.size 38 (cc c p) := Has.new _ _ _
  have hB1 : Below w.heap.size w (w.alloc (.cells (cc c p) 38)) := by go_grown
  go_enter Try.func56, Try.ntmps56
  go_wp2
  go_loopw [3, 4] (fun v i wr => ∃ q : Nat, q ≤ c.nl ∧ i = .int .i64 q ∧ wr.ownsRow (w.heap.size + 1) 5 1 v q (tL c.rs q) ∧ Has wr w.heap.size 38 (cc c p) ∧ Below w.heap.size w wr) (fun _ i _ => c.nl - (intOf i).toNat)
  case atStart => exact ⟨0, Nat.zero_le _, rfl, World.ownsRow_nil _ _ _ _, hA1, hB1⟩
  case round =>
    clear hA1 hB1
    obtain ⟨q, hq, rfl, hown, hHr, hBr⟩ := hrel
    have hsz := hHr.lt
    obtain ⟨x0, x1, x2, x3, x4⟩ := hHr.box
    by_cases hlt : q < c.nl
    · obtain ⟨b1, b2⟩ := Cr.rs_ok HC.out hlt
      obtain ⟨a, hA, hab, hcs⟩ := (hm.la.keep hBr) (by omega)
      obtain ⟨y0, y1⟩ := hcs q hlt
      rw [hA] at x1
      have HX := Lib.hid (show tL c.rs (q + 1) = tL c.rs q ++ [.int .u8 (c.rs q)] from rfl)
      have hq0 : (0 : Int) ≤ (q : Int) := by omega
      have hq1 : (q : Int) < c.nl := by omega
      have hwr : IntKind.u8.wrap (c.rs q) = c.rs q := by
        rcases (by omega : c.rs q = 0 ∨ c.rs q = 1 ∨ c.rs q = 2) with e | e | e <;> rw [e] <;> rfl
      clear hcs hA
      go_wp2_with (first
        | (at_builtin; refine wpList_append_own _ rfl _ _ 29 rfl (w.heap.size + 1) 5 i0 (.int .u8 0) 1 1 Try.underlying29 hi0 hzz0 hs0 hy0 rfl (by decide) _ _ _ rfl (hown.alloc _) ⟨wr.heap.size, 0, none⟩ 1 1 [.int .u8 (c.rs q)] rfl (by simp) (cell_one_new _ _ _) (by simp [Value.oneCell']) (by simp only [maxLen]; omega) (by omega) (by simp; omega) ?_; intro v' w8 hown' hgrow _))
      go_roundw
      case rel => exact ⟨q + 1, by omega, by go_num, by rw [HX.out]; exact hown', app_has hHr hown hgrow (by omega), app_below hBr hBr.size (by omega) hown hgrow⟩
      case measure => simp [intOf]; omega
    · obtain rfl : q = c.nl := by omega
      clear hq hlt
      go_wp2
      go_ret
      obtain ⟨A', k', rfl, hi', _⟩ := own_trs hown
      exact ⟨A', k', rfl, hi', hBr⟩

set_option maxRecDepth 100000 in
set_option maxHeartbeats 2000000 in
theorem tRFirst_any (w : World) (hm : Mem w w.heap.size c p) (hs : Sm c) :
    Calls Try.prog 25 #[cv c p] w (TrsErr c.rsn c.rs c.chk w) := by
  have hB0 : Below w.heap.size w w := Below.refl _ _
  by_cases hk : c.chk = 0
  · have h1 : (c.chk != 0) = false := by simp [bne, hk]
    have HF := Lib.hid (show c.rsn = c.nl from if_pos hk)
    have HK := Lib.hid hk
    rw [HF.out]
    clear hk HF
    go_enter Try.func25, Try.ntmps25
    go_wp2_with (first
      | (go_at_call 55; (with_reducible refine (rCheck_any c p (w.alloc _) (hm.to (by go_grown) (by go_size)) hs).mono ?_); rintro e w1 ⟨rfl, hb1⟩; obtain ⟨hc1, hf1⟩ := bcell hb1; have hz1 : w.heap.size < w1.heap.size := (by have := hb1.size; (try simp at this); omega); have hB1 : Below w.heap.size w w1 := Below.step (by go_grown) (by go_size) hb1)
      | (go_at_call 56; (with_reducible refine (tResets_any HK.out w1 (hm.to hB1 hB1.size) hs).mono ?_); rintro e w2 ⟨A, k, rfl, hi, hb2⟩; have hB2 : Below w.heap.size w w2 := Below.step hB1 hB1.size hb2))
    go_ret2
    exact ⟨A, k, by rw [HK.out]; rfl, hi, hB2⟩
  · have h1 : (c.chk != 0) = true := by simpa [bne] using hk
    have HF := Lib.hid (show c.rsn = 0 from if_neg hk)
    rw [HF.out]
    clear HF hk
    go_enter Try.func25, Try.ntmps25
    go_wp2_with (first
      | (go_at_call 55; (with_reducible refine (rCheck_any c p (w.alloc _) (hm.to (by go_grown) (by go_size)) hs).mono ?_); rintro e w1 ⟨rfl, hb1⟩; obtain ⟨hc1, hf1⟩ := bcell hb1; have hz1 : w.heap.size < w1.heap.size := (by have := hb1.size; (try simp at this); omega); have hB1 : Below w.heap.size w w1 := Below.step (by go_grown) (by go_size) hb1)
      | (go_at_call 55; (with_reducible refine (rCheck_any c p w1 (hm.to hB1 hB1.size) hs).mono ?_); rintro e w2 ⟨rfl, hb2⟩; have hB2 : Below w.heap.size w w2 := Below.step hB1 hB1.size hb2))
    go_ret2
    exact TrsErr.none hB2
end

set_option maxRecDepth 100000 in
set_option maxHeartbeats 4000000 in
theorem tOf_any (A : Option Addr) (n k : Nat) (f : Nat → Bool) (B : Nat) (w : World) (hn : n ≤ 100000) (hBB : B ≤ w.heap.size) (hA : BlsAt w B A n f) :
    Calls Try.prog 32 #[.slice A n k] w (TrsAt n (fun j => b3 (f j)) w) := by
  obtain ⟨i0, hi0, hzz0, hs0, hy0⟩ := info_parts info_u8
  go_enter Try.func32, Try.ntmps32
  go_wp2
  go_loopw [3, 4] (fun v i wr => ∃ q : Nat, q ≤ n ∧ i = .int .i64 q ∧ wr.ownsRow w.heap.size 5 1 v q (tL (fun j => b3 (f j)) q) ∧ Below w.heap.size w wr) (fun _ i _ => n - (intOf i).toNat)
  case atStart => exact ⟨0, Nat.zero_le _, rfl, World.ownsRow_nil _ _ _ _, Below.refl _ _⟩
  case round =>
    obtain ⟨q, hq, rfl, hown, hBr⟩ := hrel
    have hsz := hBr.size
    by_cases hlt : q < n
    · obtain ⟨a, rfl, hab, hcs⟩ := (hA.keep (hBr.mono hBB)) (by omega)
      have y := hcs q hlt
      have HX := Lib.hid (show tL (fun j => b3 (f j)) (q + 1) = tL (fun j => b3 (f j)) q ++ [.int .u8 (b3 (f q))] from rfl)
      have hq0 : (0 : Int) ≤ (q : Int) := by omega
      have hq1 : (q : Int) < n := by omega
      clear hcs
      cases hv : f q
      · rw [hv] at y
        have HV := Lib.hid hv
        clear hv
        go_wp2_with (first
          | (at_builtin; refine wpList_append_own _ rfl _ _ 29 rfl w.heap.size 5 i0 (.int .u8 0) 1 1 Try.underlying29 hi0 hzz0 hs0 hy0 rfl (by decide) _ _ _ rfl (hown.alloc _) ⟨wr.heap.size, 0, none⟩ 1 1 [.int .u8 0] rfl (by simp) (cell_one_new _ _ _) (by simp [Value.oneCell']) (by simp only [maxLen]; omega) (by omega) (by simp; omega) ?_; intro v' w8 hown' hgrow _))
        go_roundw
        case rel => exact ⟨q + 1, by omega, by go_num, by rw [HX.out, HV.out]; exact hown', app_below hBr hBr.size (Nat.le_refl _) hown hgrow⟩
        case measure => simp [intOf]; omega
      · rw [hv] at y
        have HV := Lib.hid hv
        clear hv
        go_wp2_with (first
          | (at_builtin; refine wpList_append_own _ rfl _ _ 29 rfl w.heap.size 5 i0 (.int .u8 0) 1 1 Try.underlying29 hi0 hzz0 hs0 hy0 rfl (by decide) _ _ _ rfl (hown.alloc _) ⟨wr.heap.size, 0, none⟩ 1 1 [.int .u8 1] rfl (by simp) (cell_one_new _ _ _) (by simp [Value.oneCell']) (by simp only [maxLen]; omega) (by omega) (by simp; omega) ?_; intro v' w8 hown' hgrow _))
        go_roundw
        case rel => exact ⟨q + 1, by omega, by go_num, by rw [HX.out, HV.out]; exact hown', app_below hBr hBr.size (Nat.le_refl _) hown hgrow⟩
        case measure => simp [intOf]; omega
    · obtain rfl : q = n := by omega
      clear hq hlt
      go_wp2
      go_ret
      obtain ⟨A', k', rfl, hi', _⟩ := own_trs hown
      exact ⟨A', k', rfl, hi', hBr⟩
end Go.Proofs.Ythpifibemekmcaa
