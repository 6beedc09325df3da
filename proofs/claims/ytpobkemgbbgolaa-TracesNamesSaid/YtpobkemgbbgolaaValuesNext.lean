/- The contracts of values.Next and Props. -/
import Derived.Test.YtpobkemgbbgolaaValuesAll
namespace Go.Proofs.Ytpobkemgbbgolaa
open Go.RowKit
set_option linter.unusedVariables false
set_option linter.unusedSimpArgs false

section
variable {c : Cr} {p : Pl} {As At : Option Addr} {ns ks ni ki : Nat} {s t : Nat → Bool}

set_option maxRecDepth 100000 in
set_option maxHeartbeats 2000000 in
theorem next_no (hk : c.ask ns ni ≠ 0) (w : World) (h : Arg w w.heap.size c p As ns ks s At ni ki t) :
    Calls Try.prog 16 #[cv c p, .slice As ns ks, .slice At ni ki] w (BoolsErr (c.nn ns ni) (c.nv s t) (c.ask ns ni) w) := by
  have h1 : (c.ask ns ni != 0) = true := by simpa [bne] using hk
  have HF := Lib.hid (show c.nn ns ni = 0 from if_neg hk)
  rw [HF.out]
  clear HF hk
  have hB0 : Below w.heap.size w w := Below.refl _ _
  go_enter Try.func16, Try.ntmps16
  go_wp2_with (first
    | (go_at_call 26; (with_reducible refine (all_any (w.alloc _) (h.to (by go_grown) (by go_size))).mono ?_); rintro e w1 ⟨A, k, rfl, hi, hb1⟩; have hB1 : Below w.heap.size w w1 := Below.step (by go_grown) (by go_size) hb1))
  go_ret2
  exact ⟨none, 0, rfl, fun h => absurd h (Nat.not_lt_zero _), hB1⟩

set_option maxRecDepth 100000 in
set_option maxHeartbeats 4000000 in
theorem next_new (hk : c.ask ns ni = 0) (w : World) (h : Arg w w.heap.size c p As ns ks s At ni ki t) :
    Calls Try.prog 16 #[cv c p, .slice As ns ks, .slice At ni ki] w (BoolsNew c.nl (c.nv s t) 0 w) := by
  obtain ⟨hc, hns, hni⟩ := Cr.ask_zero hk
  have g1 := h.hs.nl
  have hN := Cr.fg_bd hc
  have HC := Lib.hid hc
  have HK := Lib.hid hk
  obtain ⟨i0, hi0, hzz0, hs0, hy0⟩ := info_parts info_bool
  clear hc hns hni hk
  have hB0 : Below w.heap.size w w := Below.refl _ _
  go_enter Try.func16, Try.ntmps16
  go_wp2_with (first
    | (go_at_call 26; (with_reducible refine (all_at HK.out (w.alloc _) (h.to (by go_grown) (by go_size))).mono ?_); rintro e w1 ⟨A, k, rfl, hi, hb1⟩; obtain ⟨hc1, hf1⟩ := bcell hb1; have hz1 : w.heap.size < w1.heap.size := (by have := hb1.size; (try simp at this); omega); have hB1 : Below w.heap.size w w1 := Below.step (by go_grown) (by go_size) hb1; have hA1 : Has w1 w.heap.size 28 (cc c p) := (Has.new _ _ _).keep hb1 (by go_size)))
  clear hc1 hf1 hb1
  go_loopw [10, 26] (fun v i wr => ∃ q : Nat, q ≤ c.nl ∧ i = .int .i64 q ∧ wr.ownsRow w1.heap.size 4 1 v q (bL (c.nv s t) q) ∧ Below w1.heap.size w1 wr) (fun _ i _ => c.nl - (intOf i).toNat)
  case atStart => exact ⟨0, Nat.zero_le _, rfl, World.ownsRow_nil _ _ _ _, Below.refl _ _⟩
  case round =>
    obtain ⟨q, hq, rfl, hown, hBr⟩ := hrel
    have hsz := hBr.size
    by_cases hlt : q < c.nl
    · obtain ⟨b1, b2, b3⟩ := Cr.lat_ok HC.out hlt
      obtain ⟨a, hA, hab, hcs⟩ := (h.hm.la.keep (hB1.trans (hBr.mono hB1.size))) (by omega)
      obtain ⟨y0, y1⟩ := hcs q hlt
      rw [hA]
      have HX := Lib.hid (show bL (c.nv s t) (q + 1) = bL (c.nv s t) q ++ [.bool (vlo (c.fr s t) (c.nx q))] from rfl)
      have hq0 : (0 : Int) ≤ (q : Int) := by omega
      have hq1 : (q : Int) < c.nl := by omega
      have hvr : ∀ o, BlsAt (wr.alloc o) w1.heap.size A (c.fg + c.na) (c.fr s t) := fun o => hi.keep (hBr.alloc hBr.size o)
      clear hcs hA
      go_wp2_with (first
        | (go_at_call 27; (with_reducible refine (valueOf_any A (c.fg + c.na) k (c.fr s t) (c.nx q) w1.heap.size (wr.alloc _) (hvr _) b1 b2 b3).mono ?_); rintro e w3 ⟨rfl, rfl⟩)
        | (at_builtin; refine wpList_append_own _ rfl _ _ 29 rfl w1.heap.size 4 i0 (.bool false) 1 1 Try.underlying29 hi0 hzz0 hs0 hy0 rfl (by decide) _ _ _ rfl ((hown.alloc _).alloc _) ⟨wr.heap.size + 1, 0, none⟩ 1 1 [.bool (vlo (c.fr s t) (c.nx q))] rfl (by simp) (fun j u hu => by have := cell_one_new (wr.alloc (.cells #[.int .i64 (c.nx q), .int .i64 (c.rs q)] 23)) (.bool (vlo (c.fr s t) (c.nx q))) 4 j u hu; rwa [World.size_alloc] at this) (by simp [Value.oneCell']) (by simp only [maxLen]; omega) (by omega) (by simp; omega) ?_; intro v' w8 hown' hgrow _))
      go_roundw
      case rel => exact ⟨q + 1, by omega, by go_num, by rw [HX.out]; exact hown', app_below (hBr.alloc hBr.size _) (by simp; omega) (Nat.le_refl _) (hown.alloc _) hgrow⟩
      case measure => simp [intOf]; omega
    · obtain rfl : q = c.nl := by omega
      clear hq hlt
      go_wp2
      go_ret2
      obtain ⟨A', k', rfl, hi', hn', hf'⟩ := own_bools2 hown
      exact ⟨A', k', rfl, hi', hB1.trans (hBr.mono hB1.size), hn', fun a ha => by have := hf' a ha; omega⟩
theorem next_yes (hk : c.ask ns ni = 0) (w : World) (h : Arg w w.heap.size c p As ns ks s At ni ki t) :
    Calls Try.prog 16 #[cv c p, .slice As ns ks, .slice At ni ki] w (BoolsErr c.nl (c.nv s t) 0 w) := (next_new hk w h).mono fun _ _ h => h.err
end
