/- The contracts of gates.Depth and of the reference's Depth. -/
import Derived.Test.YtjpoapllbdmggaaGatesChk
import Derived.Test.YtjpoapllbdmggaaGatesFrame
import Derived.Deep.OwnRows
namespace Go.Proofs.Ytjpoapllbdmggaa
open Go.RowKit
set_option linter.unusedVariables false

namespace Cr
/-- the variable of the first gate -/
def fg (c : Cr) : Nat := 1 + c.i.toNat + c.nl
/-- the depths of the variables when k gates have been looked at, and the greatest one -/
def dpA (c : Cr) : Nat → Nat → Int
  | 0, _ => 0
  | k + 1, v => if v = c.fg + k then 1 + (if dpA c k (c.ga k / 2).toNat < dpA c k (c.gb k / 2).toNat then dpA c k (c.gb k / 2).toNat else dpA c k (c.ga k / 2).toNat) else dpA c k v
/-- the depth of gate k -/
def dpN (c : Cr) (k : Nat) : Int := 1 + (if c.dpA k (c.ga k / 2).toNat < c.dpA k (c.gb k / 2).toNat then c.dpA k (c.gb k / 2).toNat else c.dpA k (c.ga k / 2).toNat)
/-- what Depth says -/
def dpM (c : Cr) : Nat → Int
  | 0 => 0
  | k + 1 => if dpM c k < c.dpN k then c.dpN k else dpM c k
theorem dpA_bd (c : Cr) : ∀ k v, 0 ≤ c.dpA k v ∧ c.dpA k v ≤ k
  | 0, _ => ⟨Int.le_refl _, Int.le_refl _⟩
  | k + 1, v => by
    have h1 := dpA_bd c k (c.ga k / 2).toNat
    have h2 := dpA_bd c k (c.gb k / 2).toNat
    have h3 := dpA_bd c k v
    unfold dpA
    split
    · split <;> omega
    · omega
theorem dpA_step (c : Cr) (q j : Nat) (h0 : 0 ≤ c.i) : (if j = (1 + c.i + c.nl + q).toNat then Value.int .i64 (c.dpN q) else Value.int .i64 (c.dpA q j)) = Value.int .i64 (c.dpA (q + 1) j) := by
  have e : (1 + c.i + c.nl + q).toNat = c.fg + q := by unfold fg; omega
  rw [e]
  conv => rhs; unfold dpA
  split
  · rfl
  · rfl
theorem dpA_step' (c : Cr) (q j : Nat) (h0 : 0 ≤ c.i) : (if j = (c.i + c.nl + 1 + q).toNat then Value.int .i64 (c.dpN q) else Value.int .i64 (c.dpA q j)) = Value.int .i64 (c.dpA (q + 1) j) := by
  have e : (c.i + c.nl + 1 + q).toNat = (1 + c.i + c.nl + q).toNat := by omega
  rw [e]
  exact dpA_step c q j h0
theorem dpN_bd (c : Cr) (k : Nat) : 1 ≤ c.dpN k ∧ c.dpN k ≤ k + 1 := by
  have h1 := dpA_bd c k (c.ga k / 2).toNat
  have h2 := dpA_bd c k (c.gb k / 2).toNat
  unfold dpN
  split <;> omega
def dpt (c : Cr) : Int := if c.chk = 0 then c.dpM c.na else 0
theorem dpM_bd (c : Cr) : ∀ k, 0 ≤ c.dpM k ∧ c.dpM k ≤ k
  | 0 => ⟨Int.le_refl _, Int.le_refl _⟩
  | k + 1 => by
    have h1 := dpM_bd c k
    have h2 := dpN_bd c k
    unfold dpM
    split <;> omega
/-- what is known of the gate k of a valid circuit -/
theorem gate_ok {c : Cr} (h : c.chk = 0) {k : Nat} (hk : k < c.na) : 0 ≤ c.gb k ∧ c.gb k ≤ c.ga k ∧ c.ga k / 2 ≤ c.i + c.nl + k ∧ c.i + c.nl + k < 1000 ∧ 0 ≤ c.i := by
  have h1 := Cr.chk_zero h
  have h2 : c.sz = c.i + c.nl + c.na := rfl
  have h3 := (of_decide_eq_true h1.2.2.2.2.2.2.2 : ∀ j, j < c.na → _) k hk
  exact ⟨h3.1, h3.2.1, h3.2.2, by omega, h1.1⟩
end Cr

/-- the cells of an array of 1001 numbers, and of 1001 bools, as it is made -/
def zi : Array Value := Array.replicate 1001 (.int .i64 0)
def zb : Array Value := Array.replicate 1001 (.bool false)
theorem zero_zi (w : World) : (zeroValue 91).run Try.prog w = .ok (.agg zi) w := by kernel_rfl
theorem zero_zb (w : World) : (zeroValue 57).run Try.prog w = .ok (.agg zb) w := by kernel_rfl
theorem zi_at (j : Nat) (h : j < zi.size) : zi[j]? = some (.int .i64 0) := by
  rw [Array.getElem?_eq_getElem h]; simp [zi]
theorem zb_at (j : Nat) (h : j < zb.size) : zb[j]? = some (.bool false) := by
  rw [Array.getElem?_eq_getElem h]; simp [zb]

theorem varOf_any (l : Int) (w : World) (h0 : 0 ≤ l) (h1 : l ≤ 2001) : Calls Try.prog 61 #[.int .i64 l] w fun e w' => e = .returned (.int .i64 (l / 2)) ∧ w = w' := by
  go_enter Try.func61, Try.ntmps61
  go_wp2_with (go_at_call 75; refine (var_yes _ _ (Li.isL_mk h0 h1)).mono ?_; rintro e w1 ⟨rfl, rfl⟩)
  go_ret
  exact ⟨rfl, rfl⟩

set_option maxRecDepth 100000 in
set_option maxHeartbeats 1000000 in
theorem gDepth_ok (c : Cr) (p : Pl) (w : World) (hm : Mem w w.heap.size c p) (hs : Sm c) (h : (c.chk == 0) = true) :
    Calls Try.prog 36 #[cv c p] w fun e w' => e = .returned (.tuple #[.int .i64 (c.dpM c.na), .int .i64 0]) ∧ Below w.heap.size w w' := by
  have g1 := hs.nl
  have g2 := hs.na
  have h' : (c.chk != 0) = false := by simp [bne, h]
  have hb := Cr.chk_i h hs
  have hk := Lib.hid (show c.chk = 0 by simpa using h)
  have hz0 := zero_zi
  go_enter Try.func36, Try.ntmps36
  go_wp2_with (first
    | (go_at_call 26; refine (gCheck_any c p _ (mem_alloc hm _) hs).mono ?_; rintro e w1 ⟨rfl, hb1⟩; obtain ⟨hc1, hf1⟩ := bcell hb1; have hz1 : w.heap.size < w1.heap.size := (by have := hb1.size; (try simp at this); omega); have hB1 : Below w.heap.size w w1 := Below.step (by go_grown) (by go_size) hb1; have hA1 : Has w1 w.heap.size 26 (cc c p) := (Has.new _ _ _).keep hb1 (by go_size)))
  clear hc1 hf1 hb1
  go_loopw [6, 18] (fun m i wr => ∃ q : Nat, q ≤ c.na ∧ i = .int .i64 q ∧ m = .int .i64 (c.dpM q) ∧ Below w.heap.size w wr ∧ Has wr w.heap.size 26 (cc c p) ∧ wr.rowIs w1.heap.size 91 1001 (fun j => .int .i64 (c.dpA q j))) (fun _ i _ => c.na - (intOf i).toNat)
  case atStart =>
    refine ⟨0, Nat.zero_le _, rfl, rfl, by go_grown, hA1.keep ((Below.refl w1.heap.size _).alloc (Nat.le_refl _) _) hz1, ?_⟩
    have := World.rowIs_alloc w1 zi 91 (fun _ => .int .i64 0) zi_at
    exact this
  case round =>
    obtain ⟨q, hq, rfl, rfl, hBr, hH, hR⟩ := hrel
    by_cases hlt : q < c.na
    · obtain ⟨k1, k2, k3, k4, k5⟩ := Cr.gate_ok hk.out hlt
      obtain ⟨a, hA, hab, hcs⟩ := (hm.an.keep hBr) (by omega)
      obtain ⟨y0, y1⟩ := hcs q hlt
      have n1 : (c.ga q / 2).toNat < 1001 := by omega
      have n2 : (c.gb q / 2).toNat < 1001 := by omega
      have m1 : 0 ≤ c.ga q / 2 := by omega
      have m2 : c.ga q / 2 < 1001 := by omega
      have m3 : 0 ≤ c.gb q / 2 := by omega
      have m4 : c.gb q / 2 < 1001 := by omega
      have m5 : c.ga q ≤ 2001 := by omega
      have m6 : c.gb q ≤ 2001 := by omega
      have m7 : 0 ≤ c.ga q := by omega
      obtain ⟨x0', x1', x2', x3', x4'⟩ := hH.box' (.cells #[.int .i64 (c.ga q), .int .i64 (c.gb q)] 37)
      have z1 := ca (hR.cell n1)
      have z2 := ca (hR.cell n2)
      have d1 := Cr.dpA_bd c q (c.ga q / 2).toNat
      have d2 := Cr.dpA_bd c q (c.gb q / 2).toNat
      have hz2 := hH.lt
      have hz3 := hR.lt
      rw [hA]
      clear hcs hA
      go_wp2
      go_quiet ((go_at_call 61; exact qs (varOf_any _ _ (by assumption) (by assumption))))
      have HN : (1 + if c.dpA q (c.ga q / 2).toNat < c.dpA q (c.gb q / 2).toNat then c.dpA q (c.gb q / 2).toNat else c.dpA q (c.ga q / 2).toNat) = c.dpN q := rfl
      rw [HN]
      clear HN z1 z2 y0 y1 n1 n2 d1 d2
      have e1 := Cr.dpN_bd c q
      have e2 := Cr.dpM_bd c q
      have n3 : (1 + c.i + c.nl + q).toNat < 1001 := by omega
      have n4 : 0 ≤ 1 + c.i + c.nl + q := by omega
      have n5 : 1 + c.i + c.nl + q < 1001 := by omega
      have hHa : ∀ k, Has ((wr.alloc (.cells #[.int .i64 (c.ga q), .int .i64 (c.gb q)] 37)).drewN k) w.heap.size 26 (cc c p) := fun k => hH.keep (below_dn (Below.alloc (Below.refl wr.heap.size _) (Nat.le_refl _) _) k) hz2
      by_cases hx : c.dpM q < c.dpN q
      all_goals
        go_wp2_with (first
          | (go_at_call 63; (refine (firstGate_any c p _ hb.1 hb.2.1 g1).mono ?_; rintro e w2 ⟨rfl, hb2⟩; have hB2 : Below w.heap.size w w2 := Below.step (below_dn (hBr.alloc hBr.size _) _) (by go_size) hb2; have hR2 : w2.rowIs w1.heap.size 91 1001 (fun j => .int .i64 (c.dpA q j)) := (hR.alloc _).of_block (hb2.block _ (by go_size)); have z3 := hR2.cell n3; have z4 := hR2.frozen (1 + c.i + c.nl + q).toNat; have hH2 : Has w2 w.heap.size 26 (cc c p) := (hHa _).keep hb2 (by go_size))))
        go_roundw
        case rel => exact ⟨q + 1, by omega, by go_num, by first | exact congrArg _ (if_pos hx).symm | exact congrArg _ (if_neg (Int.not_lt.2 hx)).symm, hB2.setCell (by simp; omega) _, hH2.far (by simp; omega) _, (hR2.set _ _).congr fun j hj => c.dpA_step q j hb.1⟩
        case measure => simp [intOf]; omega
    · obtain rfl : q = c.na := by omega
      clear hq hlt
      have HK := Lib.hid hk.out
      go_wp2
      go_ret2
      exact ⟨rfl, hBr⟩

set_option maxRecDepth 100000 in
set_option maxHeartbeats 1000000 in
theorem gDepth_any (c : Cr) (p : Pl) (w : World) (hm : Mem w w.heap.size c p) (hs : Sm c) :
    Calls Try.prog 36 #[cv c p] w fun e w' => e = .returned (.tuple #[.int .i64 c.dpt, .int .i64 c.chk]) ∧ Below w.heap.size w w' := by
  cases h : (c.chk == 0)
  · have h' : (c.chk != 0) = true := by simp [bne, h]
    have HR : Hid (c.dpt = 0) := if_neg (by simpa using h)
    go_enter Try.func36, Try.ntmps36
    go_wp2_with (first
      | (go_at_call 26; refine (gCheck_any c p _ (mem_alloc hm _) hs).mono ?_; rintro e w1 ⟨rfl, hb1⟩; have hB1 : Below w.heap.size w w1 := Below.step (by go_grown) (by go_size) hb1))
    go_ret2
    exact ⟨by rw [HR.out]; rfl, hB1⟩
  · have h0 : c.chk = 0 := by simpa using h
    have HR : c.dpt = c.dpM c.na := if_pos h0
    rw [HR, h0]
    exact gDepth_ok c p w hm hs h