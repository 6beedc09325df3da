/- All and Next of layer 5 at two truth values, behind Of. -/
import Derived.Test.YthpifibemekmcaaTernCovKit
import Derived.Test.YthpifibemekmcaaValuesNext
import Derived.Test.YthpifibemekmcaaValuesRef2
namespace Go.Proofs.Ythpifibemekmcaa
open Go.RowKit
set_option linter.unusedVariables false
set_option linter.unusedSimpArgs false

/-- the cells of a circuit's box -/
def BoxS (c : Cr) (p : Pl) (b : Nat) (W : World) : Prop :=
  W.cell? ⟨b, 0, none⟩ = some (.int .i64 c.i) ∧ W.cell? ⟨b, 1, none⟩ = some (.slice p.A1 c.nl p.k1) ∧ W.cell? ⟨b, 2, none⟩ = some (.slice p.A2 c.na p.k2) ∧ W.cell? ⟨b, 3, none⟩ = some (.slice p.A3 c.nb p.k3) ∧ W.cell? ⟨b, 4, none⟩ = some (.slice p.A4 c.nc p.k4)
theorem boxS {c : Cr} {p : Pl} {b : Nat} {W : World} (h : Has W b 38 (cc c p)) : BoxS c p b W := ⟨h.cell 0, h.cell 1, h.cell 2, h.cell 3, h.cell 4⟩
/-- a list of bytes; where it is nil it is empty -/
def TrsNil (n : Nat) (f : Nat → Int) (w : World) (e : Ending) (w' : World) : Prop :=
  ∃ A k, e = .returned (.slice A n k) ∧ TrAt w' w'.heap.size A n f ∧ (A = none → n = 0 ∧ k = 0) ∧ Below w.heap.size w w'
theorem own_nil {w w' : World} {base : Nat} {v : Value} {n : Nat} {f : Nat → Int} (h : w'.ownsRow base 5 1 v n (tL f n)) (hb : Below w.heap.size w w') : TrsNil n f w (.returned v) w' := by
  obtain ⟨A, k, rfl, hi, _⟩ := own_trs h
  refine ⟨A, k, rfl, hi, fun hA => ?_, hb⟩
  subst hA
  rcases h.2 with ⟨hv, hn⟩ | ⟨g, cap, cur, hv, _⟩
  · injection hv with _ _ e3
    exact ⟨hn, e3⟩
  · cases hv

set_option maxRecDepth 100000 in
set_option maxHeartbeats 4000000 in
theorem tOfN_any (A : Option Addr) (n k : Nat) (f : Nat → Bool) (B : Nat) (w : World) (hn : n ≤ 100000) (hBB : B ≤ w.heap.size) (hA : BlsAt w B A n f) :
    Calls Try.prog 32 #[.slice A n k] w (TrsNil n (fun j => b3 (f j)) w) := by
  obtain ⟨i0, hi0, hzz0, hs0, hy0⟩ := info_parts info_u8
  go_enter Try.func32, Try.ntmps32
  go_wp2
  go_loopw [3, 4] (fun v i wr => ∃ q : Nat, q ≤ n ∧ i = .int .i64 q ∧ wr.ownsRow w.heap.size 5 1 v q (tL (fun j => b3 (f j)) q) ∧ Below w.heap.size w wr) (fun _ i _ => n - (intOf i).toNat)
  case atStart => exact ⟨0, Nat.zero_le _, rfl, World.ownsRow_nil _ _ _ _, Below.refl _ _⟩
  case round =>
    obtain ⟨q, hq, rfl, hown, hBr⟩ := hrel
    have hsz := hBr.size
    by_cases hlt : q < n
    · obtain ⟨a, rfl, hab, hcs⟩ := (hA.keep (hBr.mono hBB)) (by omega)
      have y := hcs q hlt
      have HX := Lib.hid (show tL (fun j => b3 (f j)) (q + 1) = tL (fun j => b3 (f j)) q ++ [.int .u8 (b3 (f q))] from rfl)
      have hq0 : (0 : Int) ≤ (q : Int) := by omega
      have hq1 : (q : Int) < n := by omega
      clear hcs
      cases hv : f q
      · rw [hv] at y
        have HV := Lib.hid hv
        clear hv
        go_wp2_with (first
          | (at_builtin; refine wpList_append_own _ rfl _ _ 29 rfl w.heap.size 5 i0 (.int .u8 0) 1 1 Try.underlying29 hi0 hzz0 hs0 hy0 rfl (by decide) _ _ _ rfl (hown.alloc _) ⟨wr.heap.size, 0, none⟩ 1 1 [.int .u8 0] rfl (by simp) (cell_one_new _ _ _) (by simp [Value.oneCell']) (by simp only [maxLen]; omega) (by omega) (by simp; omega) ?_; intro v' w8 hown' hgrow _))
        go_roundw
        case rel => exact ⟨q + 1, by omega, by go_num, by rw [HX.out, HV.out]; exact hown', app_below hBr hBr.size (Nat.le_refl _) hown hgrow⟩
        case measure => simp [intOf]; omega
      · rw [hv] at y
        have HV := Lib.hid hv
        clear hv
        go_wp2_with (first
          | (at_builtin; refine wpList_append_own _ rfl _ _ 29 rfl w.heap.size 5 i0 (.int .u8 0) 1 1 Try.underlying29 hi0 hzz0 hs0 hy0 rfl (by decide) _ _ _ rfl (hown.alloc _) ⟨wr.heap.size, 0, none⟩ 1 1 [.int .u8 1] rfl (by simp) (cell_one_new _ _ _) (by simp [Value.oneCell']) (by simp only [maxLen]; omega) (by omega) (by simp; omega) ?_; intro v' w8 hown' hgrow _))
        go_roundw
        case rel => exact ⟨q + 1, by omega, by go_num, by rw [HX.out, HV.out]; exact hown', app_below hBr hBr.size (Nat.le_refl _) hown hgrow⟩
        case measure => simp [intOf]; omega
    · obtain rfl : q = n := by omega
      clear hq hlt
      go_wp2
      go_ret
      exact own_nil hown hBr
section
variable {c : Cr} {p : Pl} {As At : Option Addr} {ns ks ni ki : Nat} {s t : Nat → Bool}
theorem allTwo (hk : c.ask ns ni = 0) {A1 A2 : Option Addr} {k1 k2 : Nat} (w : World) (hm : Mem w w.heap.size c p) (hs : Sm c) (h1 : TrAt w w.heap.size A1 ns (fun j => b3 (s j))) (h2 : TrAt w w.heap.size A2 ni (fun j => b3 (t j))) (n1 : A1 = none → ns = 0 ∧ k1 = 0) (n2 : A2 = none → ni = 0 ∧ k2 = 0) :
    Calls Try.prog 16 #[cv c p, .slice A1 ns k1, .slice A2 ni k2] w (TrsErr (c.fg + c.na) (fun v => b3 (c.fr s t v)) 0 w) := by
  obtain ⟨hc, hns, hni⟩ := Cr.ask_zero hk
  have hz := Cr.chk_i (c := c) (by simpa using hc) hs
  have gl := hs.nl
  have := tAll_yes (Cr.tsk_b3 s t hk) w ⟨hm, hs, h1, h2, n1, n2, by omega, by omega, (fun j _ => by have := (b3_isT (s j)).lo; omega), (fun j _ => by have := (b3_isT (t j)).lo; omega)⟩
  exact this.mono fun e w' ⟨A, k, he, hi, hb⟩ => ⟨A, k, he, hi.congr fun j _ => Cr.tf_two c s t j, hb⟩
theorem nextTwo (hk : c.ask ns ni = 0) {A1 A2 : Option Addr} {k1 k2 : Nat} (w : World) (hm : Mem w w.heap.size c p) (hs : Sm c) (h1 : TrAt w w.heap.size A1 ns (fun j => b3 (s j))) (h2 : TrAt w w.heap.size A2 ni (fun j => b3 (t j))) (n1 : A1 = none → ns = 0 ∧ k1 = 0) (n2 : A2 = none → ni = 0 ∧ k2 = 0) :
    Calls Try.prog 17 #[cv c p, .slice A1 ns k1, .slice A2 ni k2] w (TrsErr c.nl (fun v => b3 (c.nv s t v)) 0 w) := by
  obtain ⟨hc, hns, hni⟩ := Cr.ask_zero hk
  have hz := Cr.chk_i (c := c) (by simpa using hc) hs
  have gl := hs.nl
  have := tNext_yes (Cr.tsk_b3 s t hk) w ⟨hm, hs, h1, h2, n1, n2, by omega, by omega, (fun j _ => by have := (b3_isT (s j)).lo; omega), (fun j _ => by have := (b3_isT (t j)).lo; omega)⟩
  exact this.mono fun e w' ⟨A, k, he, hi, hb⟩ => ⟨A, k, he, hi.congr fun j _ => Cr.tnv_two c s t j, hb⟩
end
end Go.Proofs.Ythpifibemekmcaa
