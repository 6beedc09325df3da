/- The contracts of gates.Depth and of the reference's Depth. -/
import Derived.Test.YtheekpmjcgmopaaGatesChk
import Derived.Test.YtheekpmjcgmopaaGatesFrame
import Derived.Deep.OwnRows
namespace Go.Proofs.Ytheekpmjcgmopaa
open Go.RowKit
set_option linter.unusedVariables false

namespace Cr
/-- the variable of the first gate -/
def fg (c : Cr) : Nat := 1 + c.i.toNat + c.nl
/-- the depths of the variables when k gates have been looked at, and the greatest one -/
def dpA (c : Cr) : Nat → Nat → Int
  | 0, _ => 0
  | k + 1, v => if v = c.fg + k then 1 + (if dpA c k (c.ga k / 2).toNat < dpA c k (c.gb k / 2).toNat then dpA c k (c.gb k / 2).toNat else dpA c k (c.ga k / 2).toNat) else dpA c k v
/-- the depth of gate k -/
def dpN (c : Cr) (k : Nat) : Int := 1 + (if c.dpA k (c.ga k / 2).toNat < c.dpA k (c.gb k / 2).toNat then c.dpA k (c.gb k / 2).toNat else c.dpA k (c.ga k / 2).toNat)
/-- what Depth says -/
def dpM (c : Cr) : Nat → Int
  | 0 => 0
  | k + 1 => if dpM c k < c.dpN k then c.dpN k else dpM c k
theorem dpA_bd (c : Cr) : ∀ k v, 0 ≤ c.dpA k v ∧ c.dpA k v ≤ k
  | 0, _ => ⟨Int.le_refl _, Int.le_refl _⟩
  | k + 1, v => by
    have h1 := dpA_bd c k (c.ga k / 2).toNat
    have h2 := dpA_bd c k (c.gb k / 2).toNat
    have h3 := dpA_bd c k v
    unfold dpA
    split
    · split <;> omega
    · omega
theorem dpA_step (c : Cr) (q j : Nat) (h0 : 0 ≤ c.i) : (if j = (1 + c.i + c.nl + q).toNat then Value.int .i64 (c.dpN q) else Value.int .i64 (c.dpA q j)) = Value.int .i64 (c.dpA (q + 1) j) := by
  have e : (1 + c.i + c.nl + q).toNat = c.fg + q := by unfold fg; omega
  rw [e]
  conv => rhs; unfold dpA
  split
  · rfl
  · rfl
theorem dpA_step' (c : Cr) (q j : Nat) (h0 : 0 ≤ c.i) : (if j = (c.i + c.nl + 1 + q).toNat then Value.int .i64 (c.dpN q) else Value.int .i64 (c.dpA q j)) = Value.int .i64 (c.dpA (q + 1) j) := by
  have e : (c.i + c.nl + 1 + q).toNat = (1 + c.i + c.nl + q).toNat := by omega
  rw [e]
  exact dpA_step c q j h0
theorem dpN_bd (c : Cr) (k : Nat) : 1 ≤ c.dpN k ∧ c.dpN k ≤ k + 1 := by
  have h1 := dpA_bd c k (c.ga k / 2).toNat
  have h2 := dpA_bd c k (c.gb k / 2).toNat
  unfold dpN
  split <;> omega
def dpt (c : Cr) : Int := if c.chk = 0 then c.dpM c.na else 0
theorem dpM_bd (c : Cr) : ∀ k, 0 ≤ c.dpM k ∧ c.dpM k ≤ k
  | 0 => ⟨Int.le_refl _, Int.le_refl _⟩
  | k + 1 => by
    have h1 := dpM_bd c k
    have h2 := dpN_bd c k
    unfold dpM
    split <;> omega
/-- what is known of the gate k of a valid circuit -/
theorem gate_ok {c : Cr} (h : c.chk = 0) {k : Nat} (hk : k < c.na) : 0 ≤ c.gb k ∧ c.gb k ≤ c.ga k ∧ c.ga k / 2 ≤ c.i + c.nl + k ∧ c.i + c.nl + k < 1000 ∧ 0 ≤ c.i := by
  have h1 := Cr.chk_zero h
  have h2 : c.sz = c.i + c.nl + c.na := rfl
  have h3 := (of_decide_eq_true h1.2.2.2.2.2.2.2 : ∀ j, j < c.na → _) k hk
  exact ⟨h3.1, h3.2.1, h3.2.2, by omega, h1.1⟩
end Cr

/-- the cells of an array of 1001 numbers, and of 1001 bools, as it is made -/
def zi : Array Value := Array.replicate 1001 (.int .i64 0)
def zb : Array Value := Array.replicate 1001 (.bool false)
theorem zero_zi (w : World) : (zeroValue 63).run Try.prog w = .ok (.agg zi) w := by kernel_rfl
theorem zero_zb (w : World) : (zeroValue 57).run Try.prog w = .ok (.agg zb) w := by kernel_rfl
theorem zi_at (j : Nat) (h : j < zi.size) : zi[j]? = some (.int .i64 0) := by
  rw [Array.getElem?_eq_getElem h]; simp [zi]
theorem zb_at (j : Nat) (h : j < zb.size) : zb[j]? = some (.bool false) := by
  rw [Array.getElem?_eq_getElem h]; simp [zb]

theorem varOf_any (l : Int) (w : World) (h0 : 0 ≤ l) (h1 : l ≤ 2001) : Calls Try.prog 33 #[.int .i64 l] w fun e w' => e = .returned (.int .i64 (l / 2)) ∧ w = w' := by
  go_enter Try.func33, Try.ntmps33
  go_wp2_with (go_at_call 41; refine (var_yes _ _ (Li.isL_mk h0 h1)).mono ?_; rintro e w1 ⟨rfl, rfl⟩)
  go_ret
  exact ⟨rfl, rfl⟩

set_option maxRecDepth 100000 in
set_option maxHeartbeats 1000000 in
theorem gDepth_ok (c : Cr) (p : Pl) (w : World) (hm : Mem w w.heap.size c p) (hs : Sm c) (h : (c.chk == 0) = true) :
    Calls Try.prog 14 #[cv c p] w fun e w' => e = .returned (.tuple #[.int .i64 (c.dpM c.na), .int .i64 0]) ∧ Below w.heap.size w w' := by
  have g1 := hs.nl
  have g2 := hs.na
  have h' : (c.chk != 0) = false := by simp [bne, h]
  have hb := Cr.chk_i h hs
  have hk := Lib.hid (show c.chk = 0 by simpa using h)
  have hz0 := zero_zi
  go_enter Try.func14, Try.ntmps14
  go_wp2_with (first
    | (go_at_call 15; refine (gCheck_any c p _ (mem_alloc hm _) hs).mono ?_; rintro e w1 ⟨rfl, hb1⟩; obtain ⟨hc1, hf1⟩ := bcell hb1; have hz1 : w.heap.size < w1.heap.size := (by have := hb1.size; (try simp at this); omega); have hB1 : Below w.heap.size w w1 := Below.step (by go_grown) (by go_size) hb1; have hA1 : Has w1 w.heap.size 26 (cc c p) := (Has.new _ _ _).keep hb1 (by go_size)))
  clear hc1 hf1 hb1
  go_loopw [6, 18] (fun m i wr => ∃ q : Nat, q ≤ c.na ∧ i = .int .i64 q ∧ m = .int .i64 (c.dpM q) ∧ Below w.heap.size w wr ∧ Has wr w.heap.size 26 (cc c p) ∧ wr.rowIs w1.heap.size 63 1001 (fun j => .int .i64 (c.dpA q j))) (fun _ i _ => c.na - (intOf i).toNat)
  case atStart =>
    refine ⟨0, Nat.zero_le _, rfl, rfl, by go_grown, hA1.keep ((Below.refl w1.heap.size _).alloc (Nat.le_refl _) _) hz1, ?_⟩
    have := World.rowIs_alloc w1 zi 63 (fun _ => .int .i64 0) zi_at
    exact this
  case round =>
    obtain ⟨q, hq, rfl, rfl, hBr, hH, hR⟩ := hrel
    by_cases hlt : q < c.na
    · obtain ⟨k1, k2, k3, k4, k5⟩ := Cr.gate_ok hk.out hlt
      obtain ⟨a, hA, hab, hcs⟩ := (hm.an.keep hBr) (by omega)
      obtain ⟨y0, y1⟩ := hcs q hlt
      have n1 : (c.ga q / 2).toNat < 1001 := by omega
      have n2 : (c.gb q / 2).toNat < 1001 := by omega
      have m1 : 0 ≤ c.ga q / 2 := by omega
      have m2 : c.ga q / 2 < 1001 := by omega
      have m3 : 0 ≤ c.gb q / 2 := by omega
      have m4 : c.gb q / 2 < 1001 := by omega
      have m5 : c.ga q ≤ 2001 := by omega
      have m6 : c.gb q ≤ 2001 := by omega
      have m7 : 0 ≤ c.ga q := by omega
      obtain ⟨x0', x1', x2', x3', x4'⟩ := hH.box' (.cells #[.int .i64 (c.ga q), .int .i64 (c.gb q)] 32)
      have z1 := ca (hR.cell n1)
      have z2 := ca (hR.cell n2)
      have d1 := Cr.dpA_bd c q (c.ga q / 2).toNat
      have d2 := Cr.dpA_bd c q (c.gb q / 2).toNat
      have hz2 := hH.lt
      have hz3 := hR.lt
      rw [hA]
      clear hcs hA
      go_wp2
      go_quiet ((go_at_call 33; exact qs (varOf_any _ _ (by assumption) (by assumption))))
      have HN : (1 + if c.dpA q (c.ga q / 2).toNat < c.dpA q (c.gb q / 2).toNat then c.dpA q (c.gb q / 2).toNat else c.dpA q (c.ga q / 2).toNat) = c.dpN q := rfl
      rw [HN]
      clear HN z1 z2 y0 y1 n1 n2 d1 d2
      have e1 := Cr.dpN_bd c q
      have e2 := Cr.dpM_bd c q
      have n3 : (1 + c.i + c.nl + q).toNat < 1001 := by omega
      have n4 : 0 ≤ 1 + c.i + c.nl + q := by omega
      have n5 : 1 + c.i + c.nl + q < 1001 := by omega
      have hHa : ∀ k, Has ((wr.alloc (.cells #[.int .i64 (c.ga q), .int .i64 (c.gb q)] 32)).drewN k) w.heap.size 26 (cc c p) := fun k => hH.keep (below_dn (Below.alloc (Below.refl wr.heap.size _) (Nat.le_refl _) _) k) hz2
      by_cases hx : c.dpM q < c.dpN q
      all_goals
        go_wp2_with (first
          | (go_at_call 35; (refine (firstGate_any c p _ hb.1 hb.2.1 g1).mono ?_; rintro e w2 ⟨rfl, hb2⟩; have hB2 : Below w.heap.size w w2 := Below.step (below_dn (hBr.alloc hBr.size _) _) (by go_size) hb2; have hR2 : w2.rowIs w1.heap.size 63 1001 (fun j => .int .i64 (c.dpA q j)) := (hR.alloc _).of_block (hb2.block _ (by go_size)); have z3 := hR2.cell n3; have z4 := hR2.frozen (1 + c.i + c.nl + q).toNat; have hH2 : Has w2 w.heap.size 26 (cc c p) := (hHa _).keep hb2 (by go_size))))
        go_roundw
        case rel => exact ⟨q + 1, by omega, by go_num, by first | exact congrArg _ (if_pos hx).symm | exact congrArg _ (if_neg (Int.not_lt.2 hx)).symm, hB2.setCell (by simp; omega) _, hH2.far (by simp; omega) _, (hR2.set _ _).congr fun j hj => c.dpA_step q j hb.1⟩
        case measure => simp [intOf]; omega
    · obtain rfl : q = c.na := by omega
      clear hq hlt
      have HK := Lib.hid hk.out
      go_wp2
      go_ret2
      exact ⟨rfl, hBr⟩

set_option maxRecDepth 100000 in
set_option maxHeartbeats 1000000 in
theorem gDepth_any (c : Cr) (p : Pl) (w : World) (hm : Mem w w.heap.size c p) (hs : Sm c) :
    Calls Try.prog 14 #[cv c p] w fun e w' => e = .returned (.tuple #[.int .i64 c.dpt, .int .i64 c.chk]) ∧ Below w.heap.size w w' := by
  cases h : (c.chk == 0)
  · have h' : (c.chk != 0) = true := by simp [bne, h]
    have HR : Hid (c.dpt = 0) := if_neg (by simpa using h)
    go_enter Try.func14, Try.ntmps14
    go_wp2_with (first
      | (go_at_call 15; refine (gCheck_any c p _ (mem_alloc hm _) hs).mono ?_; rintro e w1 ⟨rfl, hb1⟩; have hB1 : Below w.heap.size w w1 := Below.step (by go_grown) (by go_size) hb1))
    go_ret2
    exact ⟨by rw [HR.out]; rfl, hB1⟩
  · have h0 : c.chk = 0 := by simpa using h
    have HR : c.dpt = c.dpM c.na := if_pos h0
    rw [HR, h0]
    exact gDepth_ok c p w hm hs h

set_option maxRecDepth 100000 in
set_option maxHeartbeats 1000000 in
theorem rDepth_ok (c : Cr) (p : Pl) (w : World) (hm : Mem w w.heap.size c p) (hs : Sm c) (h : (c.chk == 0) = true) :
    Calls Try.prog 24 #[cv c p] w fun e w' => e = .returned (.tuple #[.int .i64 (c.dpM c.na), .int .i64 0]) ∧ Below w.heap.size w w' := by
  have g1 := hs.nl
  have g2 := hs.na
  have h' : (c.chk != 0) = false := by simp [bne, h]
  have hb := Cr.chk_i h hs
  have hk := Lib.hid (show c.chk = 0 by simpa using h)
  have hsz : 0 ≤ c.sz := by have : c.sz = c.i + c.nl + c.na := rfl; omega
  obtain ⟨sn, hsn⟩ : ∃ sn : Nat, c.sz = sn := ⟨c.sz.toNat, by omega⟩
  have hsn1 : sn ≤ 1000 := by omega
  have hmk : ∀ w : World, (Instr.makeSlice 24 (.int .i64 ((sn : Int) + 1)) (.int .i64 ((sn : Int) + 1))).run Try.prog w = .ok (.slice (some ⟨w.heap.size, 0, none⟩) (sn + 1) (sn + 1)) (w.alloc (.cells (madeCells #[.int .i64 0] (sn + 1)) 3)) := fun w =>
    run_make_row' 24 3 (.int .i64 0) 8 Try.underlying24 info_int rfl _ _ (sn + 1) (by omega) (by omega) w
  have HS := Lib.hid hsn
  have hB0 : Below w.heap.size w w := Below.refl _ _
  go_enter Try.func24, Try.ntmps24
  go_wp2_with (first
    | (go_at_call 21; refine (rCheck_any c p _ (hm.to (by go_grown) (by go_size)) hs).mono ?_; rintro e w1 ⟨rfl, hb1⟩; obtain ⟨hc1, hf1⟩ := bcell hb1; have hz1 : w.heap.size < w1.heap.size := (by have := hb1.size; (try simp at this); omega); have hB1 : Below w.heap.size w w1 := Below.step (by go_grown) (by go_size) hb1; have hA1 : Has w1 w.heap.size 26 (cc c p) := (Has.new _ _ _).keep hb1 (by go_size))
    | (go_at_call 26; refine (rSize_any c p _ hb.1 hb.2.1 g1 g2).mono ?_; rintro e w2 ⟨rfl, hb2⟩; rw [HS.out]; obtain ⟨hc2, hf2⟩ := bcell hb2; have hz2 : w.heap.size < w2.heap.size := (by have := hb2.size; omega); have hB2 : Below w.heap.size w w2 := Below.step hB1 hB1.size hb2; have hA2 := hA1.keep hb2 hz1))
  clear hc1 hf1 hb1 hc2 hf2 hb2 hA1 hmk
  go_loopw [5, 6] (fun m i wr => ∃ q : Nat, q ≤ c.na ∧ i = .int .i64 q ∧ m = .int .i64 (c.dpM q) ∧ Below w.heap.size w wr ∧ Has wr w.heap.size 26 (cc c p) ∧ wr.rowIs w2.heap.size 3 (sn + 1) (fun j => .int .i64 (c.dpA q j))) (fun _ i _ => c.na - (intOf i).toNat)
  case atStart =>
    exact ⟨0, Nat.zero_le _, rfl, rfl, hB2.alloc hB2.size _, hA2.keep ((Below.refl w2.heap.size _).alloc (Nat.le_refl _) _) hz2, World.rowIs_made w2 (.int .i64 0) (sn + 1) 3⟩
  case round =>
    obtain ⟨q, hq, rfl, rfl, hBr, hH, hR⟩ := hrel
    obtain ⟨x0, x1, x2, x3, x4⟩ := hH.box
    by_cases hlt : q < c.na
    · obtain ⟨k1, k2, k3, k4, k5⟩ := Cr.gate_ok hk.out hlt
      obtain ⟨a, hA, hab, hcs⟩ := (hm.an.keep hBr) (by omega)
      obtain ⟨y0, y1⟩ := hcs q hlt
      have hse : (sn : Int) = c.i + c.nl + c.na := by have := HS.out; unfold Cr.sz at this; omega
      have n1 : (c.ga q / 2).toNat < sn + 1 := by omega
      have n2 : (c.gb q / 2).toNat < sn + 1 := by omega
      have n3 : (c.i + c.nl + 1 + q).toNat < sn + 1 := by omega
      have m1 : 0 ≤ c.ga q / 2 := by omega
      have m2 : c.ga q / 2 < (sn : Int) + 1 := by omega
      have m3 : 0 ≤ c.gb q / 2 := by omega
      have m4 : c.gb q / 2 < (sn : Int) + 1 := by omega
      have m5 : c.ga q ≤ 2001 := by omega
      have m6 : c.gb q ≤ 2001 := by omega
      have m7 : 0 ≤ c.ga q := by omega
      have m8 : 0 ≤ c.i + c.nl + 1 + q := by omega
      have m9 : c.i + c.nl + 1 + q < (sn : Int) + 1 := by omega
      have mq : (q : Int) < c.na := by omega
      have z1 := hR.cell n1
      have z2 := hR.cell n2
      have z3 := hR.cell n3
      have z4 := hR.frozen (c.i + c.nl + 1 + q).toNat
      have d1 := Cr.dpA_bd c q (c.ga q / 2).toNat
      have d2 := Cr.dpA_bd c q (c.gb q / 2).toNat
      have e1 := Cr.dpN_bd c q
      have e2 := Cr.dpM_bd c q
      rw [hA] at x2
      clear hcs hA hse
      by_cases hx : c.dpM q < c.dpN q
      all_goals
        go_wp2
        go_quiet (fail)
        have HN : (1 + if c.dpA q (c.ga q / 2).toNat < c.dpA q (c.gb q / 2).toNat then c.dpA q (c.gb q / 2).toNat else c.dpA q (c.ga q / 2).toNat) = c.dpN q := rfl
        rw [HN]
        clear HN
        go_wp2
        go_roundw
        case rel => exact ⟨q + 1, by omega, by go_num, by first | exact congrArg _ (if_pos hx).symm | exact congrArg _ (if_neg (Int.not_lt.2 hx)).symm, (below_dn hBr _).setCell (by simp; omega) _, Has.far (w := wr.drewN _) hH (by simp; omega) _, ((World.rowIs.set (w := wr.drewN _) hR _ _).congr fun j hj => c.dpA_step' q j hb.1)⟩
        case measure => simp [intOf]; omega
    · obtain rfl : q = c.na := by omega
      clear hq hlt
      have HK := Lib.hid hk.out
      go_wp2
      go_ret2
      exact ⟨rfl, hBr⟩

set_option maxRecDepth 100000 in
set_option maxHeartbeats 1000000 in
theorem rDepth_any (c : Cr) (p : Pl) (w : World) (hm : Mem w w.heap.size c p) (hs : Sm c) :
    Calls Try.prog 24 #[cv c p] w fun e w' => e = .returned (.tuple #[.int .i64 c.dpt, .int .i64 c.chk]) ∧ Below w.heap.size w w' := by
  have hB0 : Below w.heap.size w w := Below.refl _ _
  cases h : (c.chk == 0)
  · have h' : (c.chk != 0) = true := by simp [bne, h]
    have HR : Hid (c.dpt = 0) := if_neg (by simpa using h)
    go_enter Try.func24, Try.ntmps24
    go_wp2_with (first
      | (go_at_call 21; refine (rCheck_any c p _ (hm.to (by go_grown) (by go_size)) hs).mono ?_; rintro e w1 ⟨rfl, hb1⟩; obtain ⟨hc1, hf1⟩ := bcell hb1; have hz1 : w.heap.size < w1.heap.size := (by have := hb1.size; (try simp at this); omega); have hB1 : Below w.heap.size w w1 := Below.step (by go_grown) (by go_size) hb1))
    go_ret2
    exact ⟨by rw [HR.out]; rfl, hB1⟩
  · have h0 : c.chk = 0 := by simpa using h
    have HR : c.dpt = c.dpM c.na := if_pos h0
    rw [HR, h0]
    exact rDepth_ok c p w hm hs h
