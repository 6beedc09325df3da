/- The reference's comparison of raw circuits, where they have the same numbers. -/
import Derived.Test.YtnkpmcpinicciaaDoorOrderMem
import Derived.Test.YtnkpmcpinicciaaDoorGatesSame
namespace Go.Proofs.YtnkpmcpinicciaaDoor
open Go.RowKit
set_option linter.unusedVariables false
set_option linter.unusedSimpArgs false

set_option maxRecDepth 100000 in
set_option maxHeartbeats 2000000 in
theorem sameDef_self (A A' : Option Addr) (n k k' : Nat) (f g h : Nat → Int) (B : Nat) (w : World) (hn : n ≤ 100000) (hA0 : TripsAt w B A n f g h) (hA0' : TripsAt w B A' n f g h) (hB : B ≤ w.heap.size) :
    Calls Tryd.prog 32 #[.slice A n k, .slice A' n k'] w fun e w' => e = .returned (.bool true) ∧ Below w.heap.size w w' := by
  go_enter Tryd.func32, Tryd.ntmps32
  go_wp2
  go_loopw [5] (fun i wr => ∃ q : Nat, q ≤ n ∧ i = .int .i64 q ∧ Below w.heap.size w wr) (fun i _ => n - (intOf i).toNat)
  case atStart => exact ⟨0, Nat.zero_le _, rfl, Below.refl _ _⟩
  case round =>
    obtain ⟨q, hq, rfl, hBr⟩ := hrel
    by_cases hlt : q < n
    · obtain ⟨a, hA, hab, hcs⟩ := (hA0.keep (hBr.mono hB)) (by omega)
      obtain ⟨a', hA', hab', hcs'⟩ := (hA0'.keep (hBr.mono hB)) (by omega)
      obtain ⟨y0, y1, y2⟩ := hcs q hlt
      obtain ⟨y0', y1', y2'⟩ := hcs' q hlt
      subst hA hA'
      clear hcs hcs'
      have hi1 : (0 : Int) ≤ (q : Int) := by omega
      have hi2 : (q : Int) < (n : Int) := by omega
      go_wp2
      go_quiet (fail)
      go_wp2
      go_roundw
      case rel => exact ⟨q + 1, by omega, by go_num, below_dn hBr _⟩
      case measure => simp [intOf]; omega
    · obtain rfl : q = n := by omega
      clear hq hlt
      go_wp2
      go_ret
      exact ⟨rfl, hBr⟩

set_option maxRecDepth 100000 in
set_option maxHeartbeats 4000000 in
theorem oSame_self (r : Rw) (p p' : Rp) (w : World) (hs : RSm r) (hm : RMem w w.heap.size r p) (hm' : RMem w w.heap.size r p') :
    Calls Tryd.prog 18 #[rv r p, rv r p'] w fun e w' => e = .returned (.bool true) ∧ Below w.heap.size w w' := by
  have g0 := hs.ni
  have g1 := hs.nl
  have g2 := hs.na
  have g3 := hs.nb
  have g4 := hs.nc
  have q0 := Has.new w 27 (rc r p)
  have q1 := (q0.keep (Below.alloc (Below.refl (w.heap.size + 1) _) (by simp) (.cells (rc r p') 27)) (Nat.lt_succ_self _))
  have q2 := Has.new (w.alloc (.cells (rc r p) 27)) 27 (rc r p')
  rw [World.size_alloc] at q2
  unfold rc at q1 q2
  have HH := Lib.hid (And.intro q1 q2)
  clear q0 q1 q2
  have hB0 : Below w.heap.size w w := Below.refl _ _
  obtain ⟨P1, P2, P3, P4, P5, k1, k2, k3, k4, k5⟩ := p
  obtain ⟨P1', P2', P3', P4', P5', k1', k2', k3', k4', k5'⟩ := p'
  go_enter Tryd.func18, Tryd.ntmps18
  go_wp2_with (first
    | (go_at_call 31; (with_reducible refine (sameInts_self P1 P1' r.ni k1 k1' r.ip w.heap.size _ (by omega) (hm.ip.keep (by go_grown)) (hm'.ip.keep (by go_grown))).mono ?_); rintro e w1 ⟨rfl, hb1⟩; obtain ⟨hc1, hf1⟩ := bcell hb1; have hz1 : w.heap.size + 1 < w1.heap.size := (by have := hb1.size; (try simp at this); omega); have hy1 : w.heap.size < w1.heap.size := (by omega); have hB1 : Below w.heap.size w w1 := Below.step (by go_grown) (by go_size) hb1)
    | (go_at_call 32; (with_reducible refine (sameDef_self P2 P2' r.nl k2 k2' r.ll r.la r.lb w.heap.size _ (by omega) (hm.la.keep (by assumption)) (hm'.la.keep (by assumption)) (by omega)).mono ?_); rintro e w2 ⟨rfl, hb2⟩; obtain ⟨hc2, hf2⟩ := bcell hb2; have hz2 : w.heap.size + 1 < w2.heap.size := (by have := hb2.size; omega); have hy2 : w.heap.size < w2.heap.size := (by omega); have hB2 : Below w.heap.size w w2 := Below.step (by assumption) (by omega) hb2)
    | (go_at_call 32; (with_reducible refine (sameDef_self P3 P3' r.na k3 k3' r.gl r.ga r.gb w.heap.size _ (by omega) (hm.an.keep (by assumption)) (hm'.an.keep (by assumption)) (by omega)).mono ?_); rintro e w3 ⟨rfl, hb3⟩; obtain ⟨hc3, hf3⟩ := bcell hb3; have hz3 : w.heap.size + 1 < w3.heap.size := (by have := hb3.size; omega); have hy3 : w.heap.size < w3.heap.size := (by omega); have hB3 : Below w.heap.size w w3 := Below.step (by assumption) (by omega) hb3)
    | (go_at_call 31; (with_reducible refine (sameInts_self P4 P4' r.nb k4 k4' r.bd w.heap.size _ (by omega) (hm.bd.keep (by assumption)) (hm'.bd.keep (by assumption))).mono ?_); rintro e w4 ⟨rfl, hb4⟩; obtain ⟨hc4, hf4⟩ := bcell hb4; have hz4 : w.heap.size + 1 < w4.heap.size := (by have := hb4.size; omega); have hy4 : w.heap.size < w4.heap.size := (by omega); have hB4 : Below w.heap.size w w4 := Below.step (by assumption) (by omega) hb4)
    | (go_at_call 31; (with_reducible refine (sameInts_self P5 P5' r.nc k5 k5' r.cn w.heap.size _ (by omega) (hm.cn.keep (by assumption)) (hm'.cn.keep (by assumption))).mono ?_); rintro e w5 ⟨rfl, hb5⟩; have hB5 : Below w.heap.size w w5 := Below.step (by assumption) (by omega) hb5))
  go_ret
  exact ⟨rfl, hB5⟩
end Go.Proofs.YtnkpmcpinicciaaDoor
