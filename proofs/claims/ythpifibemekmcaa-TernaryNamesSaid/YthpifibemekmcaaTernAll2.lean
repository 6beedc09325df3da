/- The contract of ternary.All where there is no error. -/
import Derived.Test.YthpifibemekmcaaTernAll
import Derived.BigQuiet
namespace Go.Proofs.Ythpifibemekmcaa
open Go.RowKit
set_option linter.unusedVariables false
set_option linter.unusedSimpArgs false

section
variable {c : Cr} {p : Pl} {As At : Option Addr} {ns ks ni ki : Nat} {s t : Nat → Int}
/-- the three lists that All joins -/
def jA (g : Nat) (At As : Option Addr) (j : Nat) : Option Addr := if j = 0 then some ⟨g, 0, none⟩ else if j = 1 then At else As
def jn (ni ns : Nat) (j : Nat) : Nat := if j = 0 then 1 else if j = 1 then ni else ns
def jf (t s : Nat → Int) (j : Nat) : Nat → Int := if j = 0 then fun _ => 0 else if j = 1 then t else s
theorem lt3 {j : Nat} (h : j < 3) : j = 0 ∨ j = 1 ∨ j = 2 := by omega
theorem join_any (ns ks ni ki : Nat) (As At : Option Addr) (s t : Nat → Int) (w : World) (hS : TrAt w w.heap.size As ns s) (hT : TrAt w w.heap.size At ni t) (nS : As = none → ns = 0 ∧ ks = 0) (nT : At = none → ni = 0 ∧ ki = 0) (h1 : ns ≤ 1000) (h2 : ni ≤ 1000) (g : Nat)
    (w1 : World) (hg : Has w1 g 5 #[.int .u8 0]) (b : Nat) (hb : Has w1 b 29 #[.slice (some ⟨g, 0, none⟩) 1 1, .slice At ni ki, .slice As ns ks]) (hB : Below w.heap.size w w1) :
    Calls Try.prog 50 #[.slice (some ⟨b, 0, none⟩) 3 3] w1 fun e w' => ∃ v, e = .returned v ∧ w'.ownsRow w1.heap.size 5 1 v (1 + ni + ns) ([.int .u8 0] ++ tL t ni ++ tL s ns) ∧ Below w1.heap.size w1 w' := by
  have := concatU8_any b 3 (jA g At As) (jn ni ns) (fun j => if j = 0 then 1 else if j = 1 then ki else ks) (jf t s) w1.heap.size w1 (by omega) (fun j hj => by rcases lt3 hj with rfl | rfl | rfl <;> exact hb.cell _) hb.lt
    (fun j hj => by
      rcases lt3 hj with rfl | rfl | rfl
      · exact fun _ => ⟨_, rfl, hg.lt, fun i hi => by obtain rfl : i = 0 := Nat.lt_one_iff.1 hi; exact hg.cell 0⟩
      · exact (hT.keep hB).more hB.size
      · exact (hS.keep hB).more hB.size)
    (fun j hj => by
      rcases lt3 hj with rfl | rfl | rfl
      · exact fun h => by cases h
      · exact nT
      · exact nS) (by show 1 ≤ 0 + 1 + ni + ns; omega) (by show 0 + 1 + ni + ns ≤ _; omega)
  have e : psum (jn ni ns) 3 = 1 + ni + ns := by show 0 + 1 + ni + ns = _; omega
  rw [e] at this
  exact this

set_option maxRecDepth 100000 in
set_option maxHeartbeats 4000000 in
theorem tAll_yes (hk : c.tsk ns ni s t = 0) (w : World) (h : TArg w w.heap.size c p As ns ks s At ni ki t) :
    Calls Try.prog 16 #[cv c p, .slice As ns ks, .slice At ni ki] w (TrsErr (c.fg + c.na) (c.tf s t) 0 w) := by
  obtain ⟨hc, hns, hni, hts, htt⟩ := Cr.tsk_zero hk
  have hB0 : Below w.heap.size w w := Below.refl _ _
  have hs := h.hs
  have hm := h.hm
  have g1 := hs.nl
  have g2 := hs.na
  have hz := Cr.chk_i (c := c) (by simpa using hc) hs
  have HT1 := Lib.hid (Cr.tfA_isT (c := c) (s := s) (t := t) (fun j hj => allTb_at hts h.r1 j (by omega)) (fun j hj => allTb_at htt h.r2 j (by omega)))
  have CS := fun (W : World) (hb : Below w.heap.size w W) => areTruths_any As ns ks s w.heap.size W h.n1 (h.hS.keep hb) h.r1
  have CT := fun (W : World) (hb : Below w.heap.size w W) => areTruths_any At ni ki t w.heap.size W h.n2 (h.hT.keep hb) h.r2
  rw [hts] at CS
  rw [htt] at CT
  obtain ⟨i0, hi0, hzz0, hs0, hy0⟩ := info_parts info_u8
  have t1 : ((ns : Int) != (c.nl : Int)) = false := by simp; omega
  have t2 : ((ni : Int) != c.i) = false := by simp; omega
  have hfirst := Lib.hid (Cr.tfA_first (s := s) (t := t) hni hns)
  have hfg : c.fg ≤ 1001 ∧ c.fg + c.na ≤ 2001 ∧ 1 + ni + ns = c.fg + 0 := by have : c.sz = c.i + c.nl + c.na := rfl; unfold Cr.fg; omega
  have HC := Lib.hid hc
  have HA := Lib.hid hc
  have hns1 : ns ≤ 1000 := by omega
  have hni1 : ni ≤ 1000 := by omega
  have HFI := Lib.hid (show (c.fg : Int) = 1 + c.i + c.nl by unfold Cr.fg; omega)
  have hJ := fun g w1 hg b hb hB => join_any ns ks ni ki As At s t w h.hS h.hT h.nS h.nT hns1 hni1 g w1 hg b hb hB
  clear hc hns hni hk hts htt h
  go_enter Try.func16, Try.ntmps16
  go_wp2_with (first
    | (go_at_call 49; (with_reducible refine (gCheck_at HA.out (w.alloc _) (hm.to (by go_grown) (by go_size)) hs).mono ?_); rintro e w1 ⟨rfl, hb1⟩; obtain ⟨hc1, hf1⟩ := bcell hb1; have hz1 : w.heap.size < w1.heap.size := (by have := hb1.size; (try simp at this); omega); have hB1 : Below w.heap.size w w1 := Below.step (by go_grown) (by go_size) hb1; have hA1 : Has w1 w.heap.size 38 (cc c p) := (Has.new _ _ _).keep hb1 (by go_size))
    | (go_at_call 45; (with_reducible refine (CS w1 hB1).mono ?_); rintro e w2 ⟨rfl, rfl⟩)
    | (go_at_call 45; (with_reducible refine (CT w1 hB1).mono ?_); rintro e w2 ⟨rfl, rfl⟩)
    | (go_at_call 50; (with_reducible refine (hJ w1.heap.size ((w1.alloc (.cells #[.int .u8 0] 5)).alloc (.cells #[.slice (some ⟨w1.heap.size, 0, none⟩) 1 1, .slice At ni ki, .slice As ns ks] 29)) ((Has.new _ _ _).al _) (w1.heap.size + 1) (Has.new' _ _ (by simp)) ((hB1.alloc hB1.size _).alloc (by simp; omega) _)).mono ?_); rintro e w2 ⟨v2, rfl, ho2, hb2⟩
       have hB2 : Below w.heap.size w w2 := Below.step ((hB1.alloc hB1.size _).alloc (by simp; omega) _) (by simp; omega) hb2
       have hA2 : Has w2 w.heap.size 38 (cc c p) := ((hA1.al _).al _).keep hb2 (by simp; omega)
       have hz2 : w.heap.size < w2.heap.size := hA2.lt
       obtain ⟨x20, x21, x22, x23, x24⟩ := hA2.box))
  have ho3 := own_base (base' := w.heap.size + 1) ho2 (by simp; omega)
  rw [hfirst.out, hfg.2.2] at ho3
  clear ho2 hb2 hc1 hf1 hb1 hA1 hJ
  go_loopw [9, 51] (fun v i wr => ∃ q : Nat, q ≤ c.na ∧ i = .int .i64 q ∧ wr.ownsRow (w.heap.size + 1) 5 1 v (c.fg + q) (tL (c.tfA s t q) (c.fg + q)) ∧ Below w.heap.size w wr) (fun _ i _ => c.na - (intOf i).toNat)
  case atStart => exact ⟨0, Nat.zero_le _, rfl, ho3, hB2⟩
  case round =>
    clear ho3 x20 x21 x22 x23 x24
    obtain ⟨q, hq, rfl, hown, hBr⟩ := hrel
    have hsz := hBr.size
    by_cases hlt : q < c.na
    · obtain ⟨k1, k2, k3, k4, k5⟩ := Cr.gate_ok HC.out hlt
      obtain ⟨a, hA, hab, hcs⟩ := (hm.an.keep hBr) (by omega)
      obtain ⟨y0, y1⟩ := hcs q hlt
      rw [hA]
      clear hcs hA
      obtain ⟨A, k, rfl, hi, _⟩ := own_trs hown
      have HX := Lib.hid (Cr.tfA_next c s t q)
      have efg := HFI.out
      have b1 : c.ga q / 2 < ((c.fg + q : Nat) : Int) := by omega
      have b2 : c.gb q / 2 < ((c.fg + q : Nat) : Int) := by omega
      have b3 : c.ga q ≤ 2001 := by omega
      have b4 : c.gb q ≤ 2001 := by omega
      have b5 : 0 ≤ c.ga q := by omega
      have hq0 : (0 : Int) ≤ (q : Int) := by omega
      have hq1 : (q : Int) < c.na := by omega
      clear efg
      obtain ⟨X, hX⟩ : ∃ X, tlo (c.tfA s t q) (c.ga q) = X := ⟨_, rfl⟩
      obtain ⟨Y, hY⟩ : ∃ Y, tlo (c.tfA s t q) (c.gb q) = Y := ⟨_, rfl⟩
      have C1 : ∀ o d, Calls Try.prog 51 #[.slice A (c.fg + q) k, .int .i64 (c.ga q)] ((wr.alloc o).drewN d) fun e w' => e = .returned (.int .u8 X) ∧ (wr.alloc o).drewN d = w' := fun o d => by
        rw [← hX]
        exact tvalueOf_any A (c.fg + q) k (c.tfA s t q) (c.ga q) wr.heap.size _ (hi.keep (below_dn ((Below.refl _ _).alloc (Nat.le_refl _) o) d)) b5 b3 b1 (HT1.out q _)
      have C2 : ∀ o d, Calls Try.prog 51 #[.slice A (c.fg + q) k, .int .i64 (c.gb q)] ((wr.alloc o).drewN d) fun e w' => e = .returned (.int .u8 Y) ∧ (wr.alloc o).drewN d = w' := fun o d => by
        rw [← hY]
        exact tvalueOf_any A (c.fg + q) k (c.tfA s t q) (c.gb q) wr.heap.size _ (hi.keep (below_dn ((Below.refl _ _).alloc (Nat.le_refl _) o) d)) k1 b4 b2 (HT1.out q _)
      have C3 : ∀ W, Calls Try.prog 15 #[.int .u8 X, .int .u8 Y] W fun e w' => e = .returned (.tuple #[.int .u8 (tand X Y), .int .i64 0]) ∧ W = w' := fun W => by
        rw [← hX, ← hY]
        exact tAnd_yes (tlo_isT (HT1.out q _)) (tlo_isT (HT1.out q _)) W
      obtain ⟨Z, hZ⟩ : ∃ Z, tand X Y = Z := ⟨_, rfl⟩
      have HZ := Lib.hid (show tand (tlo (c.tfA s t q) (c.ga q)) (tlo (c.tfA s t q) (c.gb q)) = Z by rw [hX, hY, hZ])
      rw [hZ] at C3
      clear hX hY hZ
      have D1 := Lib.hid C1
      have D2 := Lib.hid C2
      have D3 := Lib.hid C3
      clear C1 C2 C3
      go_wp2
      go_quiet (first
        | (go_at_call 51; with_reducible exact qs (D1.out _ _))
        | (go_at_call 51; with_reducible exact qs (D2.out _ _))
        | (go_at_call 15; with_reducible exact qs (D3.out _)))
      have hownD : ((wr.alloc (.cells #[.int .i64 (c.ga q), .int .i64 (c.gb q)] 76)).drewN nq).ownsRow (w.heap.size + 1) 5 1 (.slice A (c.fg + q) k) (c.fg + q) (tL (c.tfA s t q) (c.fg + q)) := hown.alloc _
      have hBD : Below w.heap.size w ((wr.alloc (.cells #[.int .i64 (c.ga q), .int .i64 (c.gb q)] 76)).drewN nq) := below_dn (hBr.alloc hBr.size _) nq
      have hzD : w.heap.size < wr.heap.size := by obtain ⟨g0, cap0, _, q1, q2⟩ := hown.form (by unfold Cr.fg; omega); omega
      have hsD : ((wr.alloc (.cells #[.int .i64 (c.ga q), .int .i64 (c.gb q)] 76)).drewN nq).heap.size ≥ wr.heap.size := by simp
      obtain ⟨wd, hwd⟩ : ∃ wd, (wr.alloc (.cells #[.int .i64 (c.ga q), .int .i64 (c.gb q)] 76)).drewN nq = wd := ⟨_, rfl⟩
      rw [hwd] at hownD hBD hsD ⊢
      clear hwd D1 D2 D3 y0 y1
      go_wp2_with (first
        | (at_builtin; refine wpList_append_own _ rfl _ _ 29 rfl (w.heap.size + 1) 5 i0 (.int .u8 0) 1 1 Try.underlying29 hi0 hzz0 hs0 hy0 rfl (by decide) _ _ _ rfl (hownD.alloc _) ⟨wd.heap.size, 0, none⟩ 1 1 [.int .u8 Z] rfl (by simp) (cell_one_new _ _ _) (by simp [Value.oneCell']) (by simp only [maxLen]; omega) (by omega) (by simp; omega) ?_; intro v' w8 hown' hgrow _))
      go_roundw
      case rel => exact ⟨q + 1, by omega, by go_num, by rw [HX.out, HZ.out]; exact hown', app_below hBD hBD.size (by omega) hownD hgrow⟩
      case measure => simp [intOf]; omega
    · obtain rfl : q = c.na := by omega
      clear hq hlt
      go_wp2
      go_ret2
      obtain ⟨A', k', rfl, hi', _⟩ := own_trs hown
      exact ⟨A', k', rfl, hi', hBr⟩
end
end Go.Proofs.Ythpifibemekmcaa
