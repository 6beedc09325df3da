/- For all circuits that are not great, states and inputs of them: each gate is the AND of its parts, inputs and latches have their values, and 0 is false; Next and Props are values of literals. No conditions. -/
import Derived.Test.YthpifibemekmcaaValuesGatesKit
namespace Go.Proofs.Ythpifibemekmcaa.valuesGates
open Go.ChangeShapes Go.WideShapes Go.ChangeAt Go.RowKit
set_option linter.unusedVariables false
set_option linter.unusedSimpArgs false


theorem own : ownKnob Try.prog.godebug = none := by kernel_rfl

set_option maxRecDepth 100000 in
set_option maxHeartbeats 40000000 in
theorem walk (c0 : Cr) (p0 : Pl) (A1 : Option Addr) (n1 k1 : Nat) (f1 : Nat → Bool) (A2 : Option Addr) (n2 k2 : Nat) (f2 : Nat → Bool) (w : World) (hm0 : Mem w w.heap.size c0 p0) (hN0 : Nils c0 p0) (hv0 : Vals c0) (hC0 : Caps c0 p0) (hm1 : BlsAt w w.heap.size A1 n1 f1) (hN1 : A1 = none → n1 = 0 ∧ k1 = 0) (hC1 : n1 ≤ k1 ∧ k1 ≤ maxLen) (hm2 : BlsAt w w.heap.size A2 n2 f2) (hN2 : A2 = none → n2 = 0 ∧ k2 = 0) (hC2 : n2 ≤ k2 ∧ k2 ≤ maxLen) :
    Calls Try.prog 10 #[cv c0 p0, .slice A1 n1 k1, .slice A2 n2 k2] w fun e w' => e = .returned (.bool true) ∧ Below w.heap.size w w' := by
  cases hft : c0.ft n1 n2
  case false =>
    go_enter Try.func10, Try.ntmps10
    go_wp2_with (first
      | (go_at_call 36; (with_reducible refine (fit_no (s := f1) (t := f2) hft (w.alloc _) (hm0.to (by go_grown) (by go_size)) hv0).mono ?_); rintro e wa ⟨rfl, hb1⟩; have hB2 : Below w.heap.size w wa := Below.step (by go_grown) (by go_size) hb1)
      | (go_at_call 37; refine (alive4_any _).mono ?_; rintro e wz ⟨rfl, hb9⟩; have hB9 := Below.step (w := w) hB2 (Below.size hB2) hb9))
    go_ret
    exact ⟨rfl, hB9⟩
  case true =>
    obtain ⟨hg, q1, q2, hk0⟩ := Cr.ft_yes hft
    have hgr := Cr.gr_no hg
    have hs : Sm c0 := hv0.sm (by omega) (by omega) (by omega) (by omega)
    have g1 := hs.nl
    have g2 := hs.na
    have g3 := hs.nb
    have g4 := hs.nc
    have hg0 : Arg w w.heap.size c0 p0 A1 n1 k1 f1 A2 n2 k2 f2 := ⟨hm0, hs, hm1, hm2, hN1, hN2, by omega, by omega⟩
    obtain ⟨hck, hns, hni⟩ := Cr.ask_zero hk0
    subst hns
    have hb := Cr.chk_i (c := c0) (by simpa using hck) hs
    obtain ⟨sn, hsn⟩ : ∃ sn : Nat, c0.sz = sn := ⟨c0.sz.toNat, by have : c0.sz = c0.i + c0.nl + c0.na := rfl; omega⟩
    obtain ⟨N, hN⟩ : ∃ N, N = c0.fg + c0.na := ⟨_, rfl⟩
    have hNs : N ≤ sn + 1 ∧ sn + 1 ≤ N := by have : c0.sz = c0.i + c0.nl + c0.na := rfl; unfold Cr.fg at hN; omega
    have hsn1 : sn ≤ 1000 := by omega
    have hNe : ((N : Int) != (sn : Int) + 1) = false := by simp; omega
    have hne1 : ((c0.nl : Int) != (c0.nl : Int)) = false := by simp
    have hne2 : ((c0.nb : Int) != (c0.nb : Int)) = false := by simp
    obtain ⟨hb0, hhol⟩ : ∃ b, c0.hol f1 f2 = b := ⟨_, rfl⟩
    have hF0 := Lib.hid (Cr.fr_zero (c := c0) (s := f1) (t := f2))
    have HH := Lib.hid hhol
    have HK := Lib.hid hk0
    have HC := Lib.hid hck
    have HS := Lib.hid hsn
    have HN := Lib.hid hN
    have HI := Lib.hid hni
    have hkw := Lib.hid (fun v => Cr.kd_ways HC.out (s := f1) (t := f2) (ni := n2) (v := v) hni)
    clear hk0 hck hg hsn hN hni hhol hgr
    go_enter Try.func10, Try.ntmps10
    go_wp2_with (first
      | (go_at_call 36; (with_reducible refine (fit_yes hft (w.alloc _) (hg0.to (by go_grown) (by go_size))).mono ?_); rintro e wa ⟨rfl, hb1⟩; obtain ⟨hc1, hf1⟩ := bcell hb1; have hz1 : w.heap.size < wa.heap.size := (by have := hb1.size; (try simp at this); omega); have hB1 : Below w.heap.size w wa := Below.step (by go_grown) (by go_size) hb1; have hA1 : Has wa w.heap.size 38 (cc c0 p0) := (Has.new _ _ _).keep hb1 (by go_size))
      | (go_at_call 33; (with_reducible refine (all_fl HK.out wa (hg0.to hB1 hB1.size)).mono ?_); rintro e w2 ⟨g2, rfl, hi2, hb2⟩; rw [← HN.out] at hi2 ⊢; obtain ⟨hc2, hf2⟩ := bcell hb2; have hz2 : w.heap.size < w2.heap.size := (by have := hb2.size; omega); have hB2 := Below.step hB1 hB1.size hb2; have hA2 := hA1.keep hb2 hA1.lt)
      | (go_at_call 34; (with_reducible refine (next_yes HK.out w2 (hg0.to hB2 hB2.size)).mono ?_); rintro e w3 ⟨A3, k3, rfl, hi3, hb3⟩; obtain ⟨hc3, hf3⟩ := bcell hb3; have hz3 : w.heap.size < w3.heap.size := (by have := hb3.size; omega); have hB3 := Below.step hB2 hB2.size hb3; have hA3 := hA2.keep hb3 hA2.lt; have hi2 := (hi2.keep hb3).more hb3.size)
      | (go_at_call 38; (with_reducible refine (propsB HH.out HK.out w3 (hg0.to hB3 hB3.size)).mono ?_); rintro e w4 ⟨A4, k4, rfl, hi4, hb4⟩; obtain ⟨hc4, hf4⟩ := bcell hb4; have hz4 : w.heap.size < w4.heap.size := (by have := hb4.size; omega); have hB4 := Below.step hB3 hB3.size hb4; have hA4 := hA3.keep hb4 hA3.lt; have hi2 := (hi2.keep hb4).more hb4.size; have hi3 := (hi3.keep hb4).more hb4.size)
      | (go_at_call 39; (with_reducible refine (vars0 HC.out HS.out p0 w4 (hm0.to hB4 hB4.size) hs).mono ?_); rintro e w5 ⟨rfl, hb5⟩; obtain ⟨hc5, hf5⟩ := bcell hb5; have hz5 : w.heap.size < w5.heap.size := (by have := hb5.size; omega); have hB5 := Below.step hB4 hB4.size hb5; have hA5 := hA4.keep hb5 hA4.lt; have hi2 := (hi2.keep hb5).more hb5.size; have hi3 := (hi3.keep hb5).more hb5.size; have hi4 := (hi4.keep hb5).more hb5.size; have z0 := (hi2.cell (j := 0) (by omega)).2; rw [hF0.out] at z0))
    clear hc1 hc2 hc3 hc4 hc5 hf1 hf2 hf3 hf4 hf5 hb1 hb2 hb3 hb4 hb5 hA1 hA2 hA3 hA4 z0 hB1 hB2 hB3 hB4 hz1 hz2 hz3 hz4
    go_loopw [16] (fun i wr => ∃ v : Nat, 1 ≤ v ∧ v ≤ N ∧ i = .int .i64 v ∧ Below w5.heap.size w5 wr) (fun i _ => N - (intOf i).toNat)
    case atStart => exact ⟨1, by omega, by omega, rfl, Below.refl _ _⟩
    case round =>
      obtain ⟨v, hv1, hvN, rfl, hBr⟩ := hrel
      have hBw := Below.step hB5 hB5.size hBr
      have hAr := hA5.keep hBr hA5.lt
      obtain ⟨x0, x1, x2, x3, x4⟩ := hAr.box
      by_cases hlt : v < N
      · have hle : (v : Int) ≤ (sn : Int) := by omega
        have hv0' : (0 : Int) ≤ (v : Int) := by omega
        have hvl : (v : Int) < (N : Int) := by omega
        rcases hkw.out v hv1 (by have := HN.out; omega) with ⟨m, hm, hX, hY⟩ | ⟨m, hm, hX, hY⟩ | ⟨m, hm, hX, hY⟩
        · have HX := Lib.hid hX
          have HY := Lib.hid hY
          have hmz : (0 : Int) ≤ (m : Int) := by omega
          have hml : (m : Int) < (n2 : Int) := by omega
          have hmd : decide (n2 ≤ m) = false := by simp; omega
          have hmd3 : decide ((m : Int) < 0) = false := decide_eq_false (by omega)
          have hmd2 : decide ((n2 : Int) ≤ (m : Int)) = false := by simp; omega
          obtain ⟨aa, rfl, hab, hcs⟩ := hm2 (by omega)
          have yi := hcs m hm
          have yl := (hi2.cell hlt)
          rw [HY.out] at yl
          obtain ⟨b, hb'⟩ : ∃ b, f2 m = b := ⟨_, rfl⟩
          rw [hb'] at yi yl
          have y1 : ∀ w', Below wr.heap.size wr w' → w'.cell? (aa.add m) = some (.bool b) ∧ w'.cell? ⟨g2, v, none⟩ = some (.bool b) := fun w' h' => ⟨((Below.step hBw hBw.size h').cell (by rw [add_block]; exact hab)).trans yi, ((Below.step hBr hBr.size h').cell (p := ⟨g2, v, none⟩) yl.1).trans yl.2⟩
          have Y1 := Lib.hid y1
          clear hX hY hcs yi yl hb' y1
          go_wp2_with (first
            | (go_at_call 40; (with_reducible refine (kindAt HX.out p0 wr (hm0.to hBw hBw.size) hs (by omega)).mono ?_); rintro e w7 ⟨rfl, hb7⟩; obtain ⟨hc7, hf7⟩ := bcell hb7; have hB7 := Below.step hBr hBr.size hb7; obtain ⟨t1, t2⟩ := Y1.out w7 hb7))
          have hbb : (b != b) = false := by simp
          clear hc7 hf7 hb7
          go_quiet (fail)
          go_wp2
          go_roundw
          case rel => exact ⟨v + 1, by omega, by omega, by go_num, below_dn hB7 _⟩
          case measure => simp [intOf]; omega
        · have HX := Lib.hid hX
          have HY := Lib.hid hY
          have hmz : (0 : Int) ≤ (m : Int) := by omega
          have hml : (m : Int) < (c0.nl : Int) := by omega
          have hmd : decide (c0.nl ≤ m) = false := by simp; omega
          have hmd3 : decide ((m : Int) < 0) = false := decide_eq_false (by omega)
          have hmd2 : decide ((c0.nl : Int) ≤ (m : Int)) = false := by simp; omega
          obtain ⟨aa, rfl, hab, hcs⟩ := hm1 (by omega)
          have yi := hcs m hm
          have yl := (hi2.cell hlt)
          rw [HY.out] at yl
          obtain ⟨b, hb'⟩ : ∃ b, f1 m = b := ⟨_, rfl⟩
          rw [hb'] at yi yl
          have y1 : ∀ w', Below wr.heap.size wr w' → w'.cell? (aa.add m) = some (.bool b) ∧ w'.cell? ⟨g2, v, none⟩ = some (.bool b) := fun w' h' => ⟨((Below.step hBw hBw.size h').cell (by rw [add_block]; exact hab)).trans yi, ((Below.step hBr hBr.size h').cell (p := ⟨g2, v, none⟩) yl.1).trans yl.2⟩
          have Y1 := Lib.hid y1
          clear hX hY hcs yi yl hb' y1
          go_wp2_with (first
            | (go_at_call 40; (with_reducible refine (kindAt HX.out p0 wr (hm0.to hBw hBw.size) hs (by omega)).mono ?_); rintro e w7 ⟨rfl, hb7⟩; obtain ⟨hc7, hf7⟩ := bcell hb7; have hB7 := Below.step hBr hBr.size hb7; obtain ⟨t1, t2⟩ := Y1.out w7 hb7))
          have hbb : (b != b) = false := by simp
          clear hc7 hf7 hb7
          go_quiet (fail)
          go_wp2
          go_roundw
          case rel => exact ⟨v + 1, by omega, by omega, by go_num, below_dn hB7 _⟩
          case measure => simp [intOf]; omega
        · have HX := Lib.hid hX
          obtain ⟨k1, k2, k3', k4, k5⟩ := Cr.gate_ok HC.out hm
          obtain ⟨ag, hAg, hagb, hgs⟩ := (hm0.an.keep hBw) (by omega)
          obtain ⟨y0, y1⟩ := hgs m hm
          have hfg : (c0.fg : Int) = 1 + c0.i + c0.nl := by unfold Cr.fg; omega
          have b1 : c0.ga m / 2 < (N : Int) := by have := HN.out; omega
          have b2 : c0.gb m / 2 < (N : Int) := by omega
          have b3 : c0.ga m ≤ 2001 := by omega
          have b4 : c0.gb m ≤ 2001 := by omega
          have b5 : 0 ≤ c0.ga m := by omega
          have hmz : (0 : Int) ≤ (m : Int) := by omega
          have hml : (m : Int) < (c0.na : Int) := by omega
          have hmd : decide (c0.na ≤ m) = false := by simp; omega
          have hmd2 : decide ((c0.na : Int) ≤ (m : Int)) = false := by simp; omega
          have hmd3 : decide ((m : Int) < 0) = false := decide_eq_false (by omega)
          obtain ⟨x, hx⟩ : ∃ x, vlo (c0.fr f1 f2) (c0.ga m) = x := ⟨_, rfl⟩
          obtain ⟨y, hy⟩ : ∃ y, vlo (c0.fr f1 f2) (c0.gb m) = y := ⟨_, rfl⟩
          have yl := (hi2.cell hlt)
          rw [hY, hx, hy] at yl
          have HXa := Lib.hid hx
          have HYb := Lib.hid hy
          have hAr2 := hAr
          have hZ : ∀ w', Below wr.heap.size wr w' → w'.cell? ⟨g2, v, none⟩ = some (.bool (x && y)) ∧ w'.cell? ⟨w.heap.size, 2, none⟩ = some (.slice (some ag) c0.na p0.k2) ∧ w'.cell? (ag.add (m * 2)) = some (.int .i64 (c0.ga m)) ∧ w'.cell? ⟨(ag.add (m * 2)).block, (ag.add (m * 2)).off + 1, none⟩ = some (.int .i64 (c0.gb m)) := fun w' h' => by
            have e2 := (hAr2.keep h' hAr2.lt).box.2.2.1
            rw [hAg] at e2
            have hbs := hBw.size
            exact ⟨((Below.step hBr hBr.size h').cell (p := ⟨g2, v, none⟩) yl.1).trans yl.2, e2, (h'.cell (by rw [add_block]; omega)).trans y0, (h'.cell (p := ⟨(ag.add (m * 2)).block, (ag.add (m * 2)).off + 1, none⟩) (by show (ag.add (m * 2)).block < _; rw [add_block]; omega)).trans y1⟩
          have HZ := Lib.hid hZ
          have hi7 := hi2.keep hBr
          have D1 := Lib.hid (fun (W : World) (hW : Below wr.heap.size wr W) (d : Nat) => isQ (k := N) hx ((hi7.keep (hW.mono hBr.size)).dn d) b5 b3 b1)
          have D2 := Lib.hid (fun (W : World) (hW : Below wr.heap.size wr W) (d : Nat) => isQ (k := N) hy ((hi7.keep (hW.mono hBr.size)).dn d) k1 b4 b2)
          clear hX hY hgs yl hx hy hZ hfg hAr2 y0 y1 hAg HXa HYb hi7 b1 b2 b3 b4 b5 k1 k2 k3' k4 k5
          cases x
          all_goals
            go_wp2_with (first
              | (go_at_call 40; (with_reducible refine (kindAt HX.out p0 wr (hm0.to hBw hBw.size) hs (by omega)).mono ?_); rintro e w7 ⟨rfl, hb7⟩; obtain ⟨hc7, hf7⟩ := bcell hb7; have hB7 := Below.step hBr hBr.size hb7; obtain ⟨t1, t2, t3, t4⟩ := HZ.out w7 hb7; have E1 := Lib.hid (D1.out w7 hb7); have E2 := Lib.hid (D2.out w7 hb7)))
            simp only [Bool.false_and, Bool.true_and] at t1
            have hyy : (y != y) = false := by simp
            clear hc7 hf7 hb7 x0 x1 x2 x3 x4
            go_quiet (fail)
            go_wp2
            go_quiet ((go_at_call 41; first | with_reducible exact qs2 (E1.out _) | with_reducible exact qs2 (E2.out _)))
            go_wp2
            go_roundw
            case rel => exact ⟨v + 1, by omega, by omega, by go_num, below_dn hB7 _⟩
            case measure => simp [intOf]; omega
      · obtain rfl : v = N := by omega
        have hvs : decide (v ≤ sn) = false := decide_eq_false (by omega)
        have hvs2 : decide ((v : Int) ≤ (sn : Int)) = false := decide_eq_false (by omega)
        clear hvN hlt hv1
        go_wp2
        clear x0 x1 x2 x3 x4 hBw hAr
        go_loopw [20] (fun i ws => ∃ q : Nat, q ≤ c0.nl ∧ i = .int .i64 q ∧ Below w5.heap.size w5 ws) (fun i _ => c0.nl - (intOf i).toNat)
        case atStart => exact ⟨0, Nat.zero_le _, rfl, hBr⟩
        case round =>
          obtain ⟨q, hq, rfl, hBs⟩ := hrel
          have hBw := Below.step hB5 hB5.size hBs
          have hAr := hA5.keep hBs hA5.lt
          obtain ⟨x0, x1, x2, x3, x4⟩ := hAr.box
          by_cases hlt : q < c0.nl
          · obtain ⟨b1, b2, b3⟩ := Cr.lat_ok HC.out hlt
            have b3' : c0.nx q / 2 < (v : Int) := by rw [HN.out]; exact b3
            obtain ⟨ag, hAg, hagb, hgs⟩ := (hm0.la.keep hBw) (by omega)
            obtain ⟨y0, y1⟩ := hgs q hlt
            rw [hAg] at x1
            obtain ⟨a3, rfl, ha3, hcs⟩ := (hi3.keep hBs) (by omega)
            have y3 := hcs q hlt
            obtain ⟨b, hb'⟩ : ∃ b, c0.nv f1 f2 q = b := ⟨_, rfl⟩
            rw [hb'] at y3
            have HB := Lib.hid (show vlo (c0.fr f1 f2) (c0.nx q) = b from hb')
            have hq0 : (0 : Int) ≤ (q : Int) := by omega
            have hq1 : (q : Int) < (c0.nl : Int) := by omega
            have hbb : (b != b) = false := by simp
            have hA7 := hi2.keep hBs
            clear hgs hcs hb' hAg b3
            go_wp2
            go_quiet ((go_at_call 41; exact qs (isQ HB.out (hA7.dn _) b1 b2 b3')))
            go_wp2
            go_roundw
            case rel => exact ⟨q + 1, by omega, by go_num, below_dn hBs _⟩
            case measure => simp [intOf]; omega
          · obtain rfl : q = c0.nl := by omega
            clear hq hlt
            go_wp2
            clear x0 x1 x2 x3 x4 hBw hAr
            go_loopw [21] (fun i ws => ∃ q : Nat, q ≤ c0.nb ∧ i = .int .i64 q ∧ Below w5.heap.size w5 ws) (fun i _ => c0.nb - (intOf i).toNat)
            case atStart => exact ⟨0, Nat.zero_le _, rfl, hBs⟩
            case round =>
              obtain ⟨q, hq, rfl, hBt⟩ := hrel
              have hBw := Below.step hB5 hB5.size hBt
              have hAr := hA5.keep hBt hA5.lt
              obtain ⟨x0, x1, x2, x3, x4⟩ := hAr.box
              by_cases hlt : q < c0.nb
              · obtain ⟨b1, b2, b3⟩ := Cr.bad_ok HC.out hlt
                have b3' : c0.bd q / 2 < (v : Int) := by rw [HN.out]; exact b3
                obtain ⟨ag, hAg, hagb, hgs⟩ := (hm0.bd.keep hBw) (by omega)
                have y0 := hgs q hlt
                rw [hAg] at x3
                obtain ⟨a4, rfl, ha4, hcs⟩ := (hi4.keep hBt) (by omega)
                have y3 := hcs q hlt
                obtain ⟨b, hb'⟩ : ∃ b, c0.bv f1 f2 q = b := ⟨_, rfl⟩
                rw [hb'] at y3
                have HB := Lib.hid (show vlo (c0.fr f1 f2) (c0.bd q) = b from hb')
                have hq0 : (0 : Int) ≤ (q : Int) := by omega
                have hq1 : (q : Int) < (c0.nb : Int) := by omega
                have hbb : (b != b) = false := by simp
                have hA7 := hi2.keep hBt
                clear hgs hcs hb' hAg b3
                go_wp2
                go_quiet ((go_at_call 41; exact qs (isQ HB.out (hA7.dn _) b1 b2 b3')))
                go_wp2
                go_roundw
                case rel => exact ⟨q + 1, by omega, by go_num, below_dn hBt _⟩
                case measure => simp [intOf]; omega
              · obtain rfl : q = c0.nb := by omega
                clear hq hlt
                go_wp2
                clear x0 x1 x2 x3 x4 hBw hAr
                go_loopw [22] (fun i ws => ∃ q : Nat, q ≤ c0.nc ∧ i = .int .i64 q ∧ Below w5.heap.size w5 ws) (fun i _ => c0.nc - (intOf i).toNat)
                case atStart => exact ⟨0, Nat.zero_le _, rfl, hBt⟩
                case round =>
                  clear hBt
                  obtain ⟨q, hq, rfl, hBu⟩ := hrel
                  have hBw := Below.step hB5 hB5.size hBu
                  have hAr := hA5.keep hBu hA5.lt
                  obtain ⟨x0, x1, x2, x3, x4⟩ := hAr.box
                  by_cases hlt : q < c0.nc
                  · have hq0 : (0 : Int) ≤ (q : Int) := by omega
                    have hq1 : (q : Int) < (c0.nc : Int) := by omega
                    cases hb0
                    · go_wp2
                      go_roundw
                      case rel => exact ⟨q + 1, by omega, by go_num, hBu⟩
                      case measure => simp [intOf]; omega
                    · obtain ⟨b1, b2, b3⟩ := Cr.con_ok HC.out hlt
                      have b3' : c0.cn q / 2 < (v : Int) := by rw [HN.out]; exact b3
                      obtain ⟨ag, hAg, hagb, hgs⟩ := (hm0.cn.keep hBw) (by omega)
                      have y0 := hgs q hlt
                      rw [hAg] at x4
                      have hA7 := hi2.keep hBu
                      have HB := Lib.hid (isQ (k := v) (of_decide_eq_true HH.out q hlt) hA7 b1 b2 b3')
                      clear hgs hAg b3
                      go_wp2_with (go_at_call 41; (with_reducible refine HB.out.mono ?_); rintro e x1 ⟨rfl, rfl⟩)
                      go_roundw
                      case rel => exact ⟨q + 1, by omega, by go_num, hBu⟩
                      case measure => simp [intOf]; omega
                  · obtain rfl : q = c0.nc := by omega
                    clear hq hlt
                    go_wp2_with (go_at_call 37; (with_reducible refine (alive4_any _).mono ?_); rintro e wz ⟨rfl, hbz⟩; have hBz := Below.step hBw hBw.size hbz)
                    go_ret
                    exact ⟨rfl, hBz⟩

set_option maxRecDepth 100000 in
theorem lifted (os : Os) (started : os.Started) (H : Type) (enc : TypeId × Value → H) :
    ReturnsInHanded {} Try.checked os 10 .any (Rows.valuesGatesSpec.pre6 enc Try.prog Try.f10 Rows.valuesGatesRow.domain false) (Rows.valuesGatesSpec.post enc Try.prog Try.f10 false true false false) := by
  refine returnsInHanded_of_change (C := Try.checked) own started (by kernel_rfl) Try.func10
    (ChangeSpec.witness6 (enc := enc) (C := Try.checked) false ⟨#[], #[.agg #[.int .i64 0, .slice none 0 0, .slice none 0 0, .slice none 0 0, .slice none 0 0], .slice none 0 0, .slice none 0 0], []⟩ 12 (by kernel_rfl) (by kernel_rfl) (by kernel_rfl) (by kernel_rfl)) ?_
  intro W base args ds gs before hval0 hW hcnd _
  have hval : ∀ (j : Nat) t v, Try.f10.params[j]? = some t → args[j]? = some v → Value.okWide Try.prog W .any base t v := hval0
  have hW' := hW
  have hlt : ∀ x ∈ before, x.block < W.heap.size := fun x hx => by simpa using hW'.lt x hx
  obtain ⟨p, q, hA0, hV, rfl, hfz, hnd⟩ := hW
  have hA : DataW.TrodAll enc Try.prog W 0 (fun _ => true) true Try.f10.params.toList args.toList ds p := hA0
  rw [Try.params10] at hA hval
  obtain ⟨v0, vs0, d0, ds0, b0, q0, hargs, rfl, rfl, h0, r0⟩ := trodAll_cons hA
  obtain ⟨v1, vs1, d1, ds1, b1, q1, rfl, rfl, rfl, h1, r1⟩ := trodAll_cons r0
  obtain ⟨v2, vs2, d2, ds2, b2, q2, rfl, rfl, rfl, h2, r2⟩ := trodAll_cons r1
  obtain ⟨rfl, rfl, rfl⟩ := trodAll_nil r2
  obtain rfl : args = #[v0, v1, v2] := by cases args; simp_all
  obtain ⟨rfl, rfl⟩ := trodVars_none hV
  obtain ⟨c0, p0, rfl, hm0, hN0, hv0, hC0⟩ := open_circ (hval 0 38 v0 rfl rfl) h0
  obtain ⟨A1, n1, k1, f1, rfl, hm1, hN1, hC1⟩ := open_bl (hval 1 59 v1 rfl rfl) h1
  obtain ⟨A2, n2, k2, f2, rfl, hm2, hN2, hC2⟩ := open_bl (hval 2 59 v2 rfl rfl) h2
  have hlo : laidOutB Try.prog = true := by kernel_rfl
  clear hA0 hval0
  simp only [List.append_nil] at hW' hlt
  refine (walk c0 p0 A1 n1 k1 f1 A2 n2 k2 f2 W hm0 hN0 hv0 hC0 hm1 hN1 hC1 hm2 hN2 hC2).mono fun e W' ⟨he, hb⟩ => ?_
  subst he
  have hback := (trodAll_cons_mk (arg_back (W' := W') hlo (by kernel_rfl) (of_decide_eq_true (by kernel_rfl)) h0 hb (fun x hx => hlt x (by simp [hx]))) (trodAll_cons_mk (arg_back (W' := W') hlo (by kernel_rfl) (of_decide_eq_true (by kernel_rfl)) h1 hb (fun x hx => hlt x (by simp [hx]))) (trodAll_cons_mk (arg_back (W' := W') hlo (by kernel_rfl) (of_decide_eq_true (by kernel_rfl)) h2 hb (fun x hx => hlt x (by simp [hx]))) trodAll_mk0)))
  simp only [List.append_nil, List.nil_append] at hback
  exact ⟨_, rfl, law_post hW' (trodAll_cons_mk (shut_bool Try.underlying4 _) trodAll_mk0) hback rfl hb⟩

theorem over : Rows.valuesGatesRow.holds Try.pinned (OpenSpec.ofChange Rows.valuesGatesSpec) :=
  OpenClaim.holds_of_wide 10 Try.f10 rfl rfl rfl rfl rfl rfl rfl ⟨rfl, rfl, rfl, rfl, rfl⟩ rfl rfl rfl rfl rfl (by kernel_rfl) Try.func10 (by kernel_rfl)
    (of_decide_eq_true (by kernel_rfl)) (by unfold Func.isWrapper; first | (rw [if_pos (by decide +kernel)]; kernel_rfl) | (rw [if_neg (by decide +kernel)]; exact ⟨rfl, rfl⟩))
    (fun os started H enc _ => lifted os started H enc)

theorem proved : Rows.ValuesGatesSaid :=
  over
end Go.Proofs.Ythpifibemekmcaa.valuesGates
