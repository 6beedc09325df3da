/- For all circuits that are not great, states and inputs of them and literals: a literal's negation has the other value; other resets, and the bad literals in the other order, change nothing but the order of what Props returns. No conditions. -/
import Derived.Test.YthpifibemekmcaaValuesNotKit
namespace Go.Proofs.Ythpifibemekmcaa.valuesNot
open Go.ChangeShapes Go.WideShapes Go.ChangeAt Go.RowKit
set_option linter.unusedVariables false
set_option linter.unusedSimpArgs false


theorem own : ownKnob Try.prog.godebug = none := by kernel_rfl

set_option maxRecDepth 100000 in
set_option maxHeartbeats 40000000 in
theorem walk (c0 : Cr) (p0 : Pl) (A1 : Option Addr) (n1 k1 : Nat) (f1 : Nat → Bool) (A2 : Option Addr) (n2 k2 : Nat) (f2 : Nat → Bool) (a3 : Int) (w : World) (hm0 : Mem w w.heap.size c0 p0) (hN0 : Nils c0 p0) (hv0 : Vals c0) (hC0 : Caps c0 p0) (hm1 : BlsAt w w.heap.size A1 n1 f1) (hN1 : A1 = none → n1 = 0 ∧ k1 = 0) (hC1 : n1 ≤ k1 ∧ k1 ≤ maxLen) (hm2 : BlsAt w w.heap.size A2 n2 f2) (hN2 : A2 = none → n2 = 0 ∧ k2 = 0) (hC2 : n2 ≤ k2 ∧ k2 ≤ maxLen) (w3 : (Lit.int .i64 a3).wf = true) :
    Calls Try.prog 11 #[cv c0 p0, .slice A1 n1 k1, .slice A2 n2 k2, .int .i64 a3] w fun e w' => e = .returned (.bool true) ∧ Below w.heap.size w w' := by
  have hv3 := (i64_of w3)
  unfold I64 at hv3
  clear w3
  cases hft : c0.ft n1 n2
  case false =>
    go_enter Try.func11, Try.ntmps11
    go_wp2_with (first
      | (go_at_call 36; (with_reducible refine (fit_no (s := f1) (t := f2) hft (w.alloc _) (hm0.to (by go_grown) (by go_size)) hv0).mono ?_); rintro e wa ⟨rfl, hb1⟩; have hB1 : Below w.heap.size w wa := Below.step (by go_grown) (by go_size) hb1)
      | (go_at_call 37; (with_reducible refine (alive4_any wa).mono ?_); rintro e wz ⟨rfl, hbz⟩; have hBz := Below.step hB1 hB1.size hbz))
    go_ret
    exact ⟨rfl, hBz⟩
  obtain ⟨hg, q1, q2, hk0⟩ := Cr.ft_yes hft
  have hgr := Cr.gr_no hg
  have hs : Sm c0 := hv0.sm (by omega) (by omega) (by omega) (by omega)
  have g1 := hs.nl
  have g2 := hs.na
  have g3 := hs.nb
  have hg0 : Arg w w.heap.size c0 p0 A1 n1 k1 f1 A2 n2 k2 f2 := ⟨hm0, hs, hm1, hm2, hN1, hN2, by omega, by omega⟩
  obtain ⟨hck, hns, hni⟩ := Cr.ask_zero hk0
  have hb := Cr.chk_i (c := c0) (by simpa using hck) hs
  by_cases x0 : a3 < 0
  · clear hk0 hck hg hns hni
    go_enter Try.func11, Try.ntmps11
    go_wp2_with (first
      | (go_at_call 36; (with_reducible refine (fit_yes hft (w.alloc _) (hg0.to (by go_grown) (by go_size))).mono ?_); rintro e wa ⟨rfl, hb1⟩; obtain ⟨hc1, hf1⟩ := bcell hb1; have hz1 : w.heap.size < wa.heap.size := (by have := hb1.size; (try simp at this); omega); have hB1 : Below w.heap.size w wa := Below.step (by go_grown) (by go_size) hb1; have hA1 : Has wa w.heap.size 38 (cc c0 p0) := (Has.new _ _ _).keep hb1 (by go_size))
      | (go_at_call 37; (with_reducible refine (alive4_any wa).mono ?_); rintro e wz ⟨rfl, hbz⟩; have hBz := Below.step hB1 hB1.size hbz))
    go_ret
    exact ⟨rfl, hBz⟩
  have x1 : 0 ≤ a3 := by omega
  clear x0
  by_cases x2 : a3 / 2 > c0.sz
  · clear hk0 hck hg hns hni
    go_enter Try.func11, Try.ntmps11
    go_wp2_with (first
      | (go_at_call 36; (with_reducible refine (fit_yes hft (w.alloc _) (hg0.to (by go_grown) (by go_size))).mono ?_); rintro e wa ⟨rfl, hb1⟩; obtain ⟨hc1, hf1⟩ := bcell hb1; have hz1 : w.heap.size < wa.heap.size := (by have := hb1.size; (try simp at this); omega); have hB1 : Below w.heap.size w wa := Below.step (by go_grown) (by go_size) hb1; have hA1 : Has wa w.heap.size 38 (cc c0 p0) := (Has.new _ _ _).keep hb1 (by go_size))
      | (go_at_call 42; refine (rSize_any c0 p0 wa hb.1 hb.2.1 g1 g2).mono ?_; rintro e wb ⟨rfl, hb2⟩; obtain ⟨hc2, hf2⟩ := bcell hb2; have hz2 : w.heap.size < wb.heap.size := (by have := hb2.size; omega); have hB2 := Below.step hB1 hB1.size hb2; have hA2 := hA1.keep hb2 hA1.lt)
      | (go_at_call 37; (with_reducible refine (alive4_any wb).mono ?_); rintro e wz ⟨rfl, hbz⟩; have hBz := Below.step hB2 hB2.size hbz))
    go_ret
    exact ⟨rfl, hBz⟩
  have hsz : c0.sz = c0.i + c0.nl + c0.na := rfl
  have b1 : a3 ≤ 2001 := by omega
  have hng := Li.xor_ng x1 b1
  have hn2 : Li.ng a3 / 2 = a3 / 2 ∧ 0 ≤ Li.ng a3 ∧ Li.ng a3 ≤ 2001 := by unfold Li.ng; split <;> omega
  obtain ⟨y, hy⟩ : ∃ y, Li.ng a3 = y := ⟨_, rfl⟩
  rw [hy] at hng hn2
  obtain ⟨e2, e3, e4⟩ := hn2
  have hfg : ((c0.fg + c0.na : Nat) : Int) = c0.sz + 1 := by unfold Cr.fg; omega
  obtain ⟨N, hN⟩ : ∃ N, N = c0.fg + c0.na := ⟨_, rfl⟩
  have b2 : a3 / 2 < (N : Int) := by rw [hN]; omega
  have b3 : y / 2 < (N : Int) := by rw [hN]; omega
  have b4 : N ≤ 100000 := by omega
  obtain ⟨va, hva⟩ : ∃ b, vlo (c0.fr f1 f2) a3 = b := ⟨_, rfl⟩
  have hvb : vlo (c0.fr f1 f2) y = !va := by rw [← hy, vlo_ng x1, hva]
  have V1 := Lib.hid (fun (A : Option Addr) (k : Nat) (B : Nat) (W : World) (hA : BlsAt W B A N (c0.fr f1 f2)) => ofAt hva B W (A := A) (n := N) (k := k) hA x1 b1 b2)
  have V2 := Lib.hid (fun (A : Option Addr) (k : Nat) (B : Nat) (W : World) (hA : BlsAt W B A N (c0.fr f1 f2)) => ofAt hvb B W (A := A) (n := N) (k := k) hA e3 e4 b3)
  have hne : (va == !va) = false := by cases va <;> rfl
  obtain ⟨hb0, hhol⟩ : ∃ b, c0.hol f1 f2 = b := ⟨_, rfl⟩
  have hbb : (hb0 != hb0) = false := by simp
  have hnb : ((c0.nb : Int) != (c0.nb : Int)) = false := by simp
  have HH := Lib.hid hhol
  have HK := Lib.hid hk0
  have HC := Lib.hid hck
  have HN := Lib.hid hN
  have HRO := Lib.hid (Cr.rq_ok hck)
  clear hk0 hck hg hns hni hy hN hva hvb hhol hfg e2 e3 e4 hgr
  go_enter Try.func11, Try.ntmps11
  go_wp2_with (first
    | (go_at_call 36; (with_reducible refine (fit_yes hft (w.alloc _) (hg0.to (by go_grown) (by go_size))).mono ?_); rintro e wa ⟨rfl, hb1⟩; obtain ⟨hc1, hf1⟩ := bcell hb1; have hz1 : w.heap.size < wa.heap.size := (by have := hb1.size; (try simp at this); omega); have hB1 : Below w.heap.size w wa := Below.step (by go_grown) (by go_size) hb1; have hA1 : Has wa w.heap.size 38 (cc c0 p0) := (Has.new _ _ _).keep hb1 (by go_size))
    | (go_at_call 42; refine (rSize_any c0 p0 wa hb.1 hb.2.1 g1 g2).mono ?_; rintro e wb ⟨rfl, hb2⟩; obtain ⟨hc2, hf2⟩ := bcell hb2; have hz2 : w.heap.size < wb.heap.size := (by have := hb2.size; omega); have hB2 := Below.step hB1 hB1.size hb2; have hA2 := hA1.keep hb2 hA1.lt)
    | (go_at_call 33; (with_reducible refine (all_at HK.out wb (hg0.to hB2 hB2.size)).mono ?_); rintro e w3 ⟨A3, k3, rfl, hi3, hb3⟩; rw [← HN.out] at hi3 ⊢; obtain ⟨hc3, hf3⟩ := bcell hb3; have hz3 : w.heap.size < w3.heap.size := (by have := hb3.size; omega); have hB3 := Below.step hB2 hB2.size hb3; have hA3 := hA2.keep hb3 hA2.lt)
    | (go_at_call 43; (with_reducible refine (V1.out A3 k3 w3.heap.size w3 hi3).mono ?_); rintro e wx ⟨rfl, rfl⟩)
    | (go_at_call 43; (with_reducible refine (V2.out A3 k3 w3.heap.size w3 hi3).mono ?_); rintro e wx ⟨rfl, rfl⟩)
    | (go_at_call 22; (refine (twin_ne c0 p0 w3 hs (hm0.to hB3 hB3.size) hN0).mono ?_; rintro e w4 ⟨⟨P1, P2, P3, P4, K1, K2, K3, K4⟩, rfl, hO4, hb4, hne4⟩; have hOO := hO4; obtain ⟨⟨gl, el, ol⟩, ⟨gn, en, on⟩, ⟨gd, ed, od⟩, gc, ec, oc⟩ := hO4; dsimp only at el en ed ec hne4; subst el en ed ec; obtain ⟨hc4, hf4⟩ := bcell hb4; have hz4 : w.heap.size < w4.heap.size := (by have := hb4.size; omega); have hB4 := Below.step hB3 hB3.size hb4; have hA4 := hA3.keep hb4 hA3.lt)))
  have hO0 := own0 hOO (.cells (cc c0 (mP gl gn gd gc K1 K2 K3 K4)) 38)
  have hgne : gc ≠ gd := fun h => hne4 (by rw [h])
  have hs4 := hb4.size
  clear ol on od oc hc1 hc2 hc3 hc4 hf1 hf2 hf3 hf4 hb1 hb2 hne4 V1 V2
  go_loopw [16] (fun i wr => ∃ q : Nat, q ≤ c0.nl ∧ i = .int .i64 q ∧ OwnC wr (w3.heap.size + 2) (c0.nq q 0) (mP gl gn gd gc K1 K2 K3 K4) ∧ Has wr w.heap.size 38 (cc c0 p0) ∧ Has wr w4.heap.size 38 (cc c0 (mP gl gn gd gc K1 K2 K3 K4)) ∧ Below w3.heap.size w3 wr) (fun i _ => c0.nl - (intOf i).toNat)
  case atStart => exact ⟨0, Nat.zero_le _, rfl, hO0, hA4.al _, Has.new _ _ _, hb4.alloc hb4.size _⟩
  case round =>
    clear hO0
    obtain ⟨q, hq, rfl, hO, hH, hX, hBr⟩ := hrel
    obtain ⟨u0, u1, u2, u3, u4⟩ := hX.box
    by_cases hlt : q < c0.nl
    · obtain ⟨z1, z2, z3⟩ := nr_cells hO hlt
      have hr := HRO.out q hlt
      have n1 : (q : Int) < c0.nl := by omega
      have n2 : decide ((q : Int) < c0.nl) = true := decide_eq_true n1
      have hmul : IntKind.i64.wrap (c0.rs q + 1) = c0.rs q + 1 := IntWalk.i64_in _ (by omega)
      have hmod : 0 ≤ c0.rs q + 1 := by omega
      go_wp2
      go_region
      go_wp2
      go_roundw
      case rel => exact ⟨q + 1, by omega, by go_num, (nr_step hO hlt).1.drw, nr_has hH hO (by decide) _, nr_has hX hO (by decide) _, below_dn (hBr.setCell (by have := (nr_step hO hlt).2.1; simp; omega) _) 1⟩
      case measure => simp [intOf]; omega
    · obtain rfl : q = c0.nl := by omega
      clear hq hlt
      go_wp2
      clear u0 u1 u2 u3 u4
      go_loopw [17] (fun i wr => ∃ q : Nat, q ≤ c0.nb ∧ i = .int .i64 q ∧ OwnC wr (w3.heap.size + 2) (c0.nq c0.nl q) (mP gl gn gd gc K1 K2 K3 K4) ∧ Has wr w.heap.size 38 (cc c0 p0) ∧ Has wr w4.heap.size 38 (cc c0 (mP gl gn gd gc K1 K2 K3 K4)) ∧ Below w3.heap.size w3 wr) (fun i _ => c0.nb - (intOf i).toNat)
      case atStart => exact ⟨0, Nat.zero_le _, rfl, hO, hH, hX, hBr⟩
      case round =>
        clear hO hH hX hBr
        obtain ⟨q, hq, rfl, hO, hH, hX, hBr⟩ := hrel
        obtain ⟨u0, u1, u2, u3, u4⟩ := hX.box
        obtain ⟨o0, o1, o2, o3, o4⟩ := hH.box
        have hBw := Below.step hB3 hB3.size hBr
        by_cases hlt : q < c0.nb
        · obtain ⟨z1, z2⟩ := nb_cells hO hlt
          obtain ⟨ab, hAb, hab, y1⟩ := bd_rev (hm0.bd.keep hBw) hlt
          obtain ⟨r, hr⟩ : ∃ r, c0.nb - 1 - q = r := ⟨_, rfl⟩
          rw [hr] at y1
          rw [hAb] at o3
          have hri : (c0.nb : Int) - 1 - (q : Int) = (r : Int) := by omega
          have hrl : (r : Int) < (c0.nb : Int) := by omega
          have hr0 : (0 : Int) ≤ (r : Int) := by omega
          have HR := Lib.hid hr
          have n1 : (q : Int) < c0.nb := by omega
          have n2 : decide ((q : Int) < c0.nb) = true := decide_eq_true n1
          have m1 : IntKind.i64.wrap ((c0.nb : Int) - 1) = (c0.nb : Int) - 1 := IntWalk.i64_in _ (by omega)
          have m2 : IntKind.i64.wrap (r : Int) = (r : Int) := IntWalk.i64_in _ (by omega)
          clear hr hAb
          go_wp2
          go_region
          go_wp2
          go_roundw
          case rel => exact ⟨q + 1, by omega, by go_num, by rw [← HR.out]; exact (nb_step hO hgne hlt).1.drw, nb_has hH hO (by decide) _, nb_has hX hO (by decide) _, below_dn (hBr.setCell (by have := (nb_step hO hgne hlt).2.1; simp; omega) _) 1⟩
          case measure => simp [intOf]; omega
        · obtain rfl : q = c0.nb := by omega
          clear hq hlt
          have hMo := hO.mem
          have hi3 := (hi3.keep hBr).more hBr.size
          have hsr := hBr.size
          have hO5 := Lib.hid hMo
          clear hO hMo
          go_wp2_with (first
            | (go_at_call 33; (with_reducible refine (allOther HK.out wr hO5.out (hg0.to hBw hBw.size)).mono ?_); rintro e w5 ⟨A5, k5, rfl, hi5, hb5⟩; rw [← HN.out] at hi5 ⊢; have hB5 := Below.step hBw hBw.size hb5; have hA5 := hH.keep hb5 hH.lt; have hX5 := hX.keep hb5 hX.lt; have hM5 := hO5.out.to hb5 hb5.size; have hi3 := (hi3.keep hb5).more hb5.size; obtain ⟨o0, o1, o2, o3, o4⟩ := hA5.box; obtain ⟨u0, u1, u2, u3, u4⟩ := hX5.box)
            | (go_at_call 38; (with_reducible refine (propsB HH.out HK.out w5 (hg0.to hB5 hB5.size)).mono ?_); rintro e w6 ⟨A6, k6, rfl, hi6, hb6⟩; have hB6 := Below.step hB5 hB5.size hb6; have hX6 := hX5.keep hb6 hX5.lt; have hM6 := hM5.to hb6 hb6.size; have hi3 := (hi3.keep hb6).more hb6.size; have hi5 := (hi5.keep hb6).more hb6.size; obtain ⟨u0, u1, u2, u3, u4⟩ := hX6.box)
            | (go_at_call 38; (with_reducible refine (propsOther HH.out HK.out w6 hM6 (hg0.to hB6 hB6.size)).mono ?_); rintro e w7 ⟨A7, k7, rfl, hi7, hb7⟩; have hB7 := Below.step hB6 hB6.size hb7; have hi3 := (hi3.keep hb7).more hb7.size; have hi5 := (hi5.keep hb7).more hb7.size; have hi6 := (hi6.keep hb7).more hb7.size)
            | (go_at_call 44; (with_reducible refine (samBs_self A3 A5 N k3 k5 (c0.fr f1 f2) w7.heap.size w7 b4 hi3 hi5).mono ?_); rintro e w8 ⟨rfl, hb8⟩; have hB8 := Below.step hB7 hB7.size hb8; have hi6 := (hi6.keep hb8).more hb8.size; have hi7 := (hi7.keep hb8).more hb8.size))
          clear o0 o1 o2 o3 o4 u0 u1 u2 u3 u4
          go_loopw [26] (fun i ws => ∃ q : Nat, q ≤ c0.nb ∧ i = .int .i64 q ∧ Below w8.heap.size w8 ws) (fun i _ => c0.nb - (intOf i).toNat)
          case atStart => exact ⟨0, Nat.zero_le _, rfl, Below.refl _ _⟩
          case round =>
            obtain ⟨q, hq, rfl, hBs⟩ := hrel
            by_cases hlt : q < c0.nb
            · obtain ⟨r, hr⟩ : ∃ r, c0.nb - 1 - q = r := ⟨_, rfl⟩
              obtain ⟨a6, rfl, h6, hc6⟩ := (hi6.keep hBs) (by omega)
              obtain ⟨a7, rfl, h7, hc7⟩ := (hi7.keep hBs) (by omega)
              have y6 := hc6 q hlt
              have y7 := hc7 r (by omega)
              have ev := Cr.nq_bv c0 c0.nl f1 f2 hlt
              rw [hr] at ev
              rw [ev] at y7
              obtain ⟨b, hbv⟩ : ∃ b, c0.bv f1 f2 q = b := ⟨_, rfl⟩
              rw [hbv] at y6 y7
              have hri : (c0.nb : Int) - 1 - (q : Int) = (r : Int) := by omega
              have hrl : (r : Int) < (c0.nb : Int) := by omega
              have hr0 : (0 : Int) ≤ (r : Int) := by omega
              have n1 : (q : Int) < c0.nb := by omega
              have n0 : (0 : Int) ≤ (q : Int) := by omega
              have m1 : IntKind.i64.wrap ((c0.nb : Int) - 1) = (c0.nb : Int) - 1 := IntWalk.i64_in _ (by omega)
              have m2 : IntKind.i64.wrap (r : Int) = (r : Int) := IntWalk.i64_in _ (by omega)
              have hvv : (b != b) = false := by simp
              clear hr hc6 hc7 ev hbv
              go_wp2
              go_quiet (fail)
              go_wp2
              go_roundw
              case rel => exact ⟨q + 1, by omega, by go_num, below_dn hBs _⟩
              case measure => simp [intOf]; omega
            · obtain rfl : q = c0.nb := by omega
              clear hq hlt
              have hB9 := Below.step hB8 hB8.size hBs
              go_wp2_with (go_at_call 37; (with_reducible refine (alive4_any _).mono ?_); rintro e wz ⟨rfl, hbz⟩; have hBz := Below.step hB9 hB9.size hbz)
              go_ret
              exact ⟨rfl, hBz⟩

set_option maxRecDepth 100000 in
theorem lifted (os : Os) (started : os.Started) (H : Type) (enc : TypeId × Value → H) :
    ReturnsInHanded {} Try.checked os 11 .any (Rows.valuesNotSpec.pre6 enc Try.prog Try.f11 Rows.valuesNotRow.domain false) (Rows.valuesNotSpec.post enc Try.prog Try.f11 false true false false) := by
  refine returnsInHanded_of_change (C := Try.checked) own started (by kernel_rfl) Try.func11
    (ChangeSpec.witness6 (enc := enc) (C := Try.checked) false ⟨#[], #[.agg #[.int .i64 0, .slice none 0 0, .slice none 0 0, .slice none 0 0, .slice none 0 0], .slice none 0 0, .slice none 0 0, .int .i64 0], []⟩ 12 (by kernel_rfl) (by kernel_rfl) (by kernel_rfl) (by kernel_rfl)) ?_
  intro W base args ds gs before hval0 hW hcnd _
  have hval : ∀ (j : Nat) t v, Try.f11.params[j]? = some t → args[j]? = some v → Value.okWide Try.prog W .any base t v := hval0
  have hW' := hW
  have hlt : ∀ x ∈ before, x.block < W.heap.size := fun x hx => by simpa using hW'.lt x hx
  obtain ⟨p, q, hA0, hV, rfl, hfz, hnd⟩ := hW
  have hA : DataW.TrodAll enc Try.prog W 0 (fun _ => true) true Try.f11.params.toList args.toList ds p := hA0
  rw [Try.params11] at hA hval
  obtain ⟨v0, vs0, d0, ds0, b0, q0, hargs, rfl, rfl, h0, r0⟩ := trodAll_cons hA
  obtain ⟨v1, vs1, d1, ds1, b1, q1, rfl, rfl, rfl, h1, r1⟩ := trodAll_cons r0
  obtain ⟨v2, vs2, d2, ds2, b2, q2, rfl, rfl, rfl, h2, r2⟩ := trodAll_cons r1
  obtain ⟨v3, vs3, d3, ds3, b3, q3, rfl, rfl, rfl, h3, r3⟩ := trodAll_cons r2
  obtain ⟨rfl, rfl, rfl⟩ := trodAll_nil r3
  obtain rfl : args = #[v0, v1, v2, v3] := by cases args; simp_all
  obtain ⟨rfl, rfl⟩ := trodVars_none hV
  obtain ⟨c0, p0, rfl, hm0, hN0, hv0, hC0⟩ := open_circ (hval 0 38 v0 rfl rfl) h0
  obtain ⟨A1, n1, k1, f1, rfl, hm1, hN1, hC1⟩ := open_bl (hval 1 59 v1 rfl rfl) h1
  obtain ⟨A2, n2, k2, f2, rfl, hm2, hN2, hC2⟩ := open_bl (hval 2 59 v2 rfl rfl) h2
  obtain ⟨a3, rfl, rfl, rfl, w3⟩ := open_int Try.underlying3 (hval 3 3 v3 rfl rfl) h3
  have hlo : laidOutB Try.prog = true := by kernel_rfl
  clear hA0 hval0
  simp only [List.append_nil] at hW' hlt
  refine (walk c0 p0 A1 n1 k1 f1 A2 n2 k2 f2 a3 W hm0 hN0 hv0 hC0 hm1 hN1 hC1 hm2 hN2 hC2 w3).mono fun e W' ⟨he, hb⟩ => ?_
  subst he
  have hback := (trodAll_cons_mk (arg_back (W' := W') hlo (by kernel_rfl) (of_decide_eq_true (by kernel_rfl)) h0 hb (fun x hx => hlt x (by simp [hx]))) (trodAll_cons_mk (arg_back (W' := W') hlo (by kernel_rfl) (of_decide_eq_true (by kernel_rfl)) h1 hb (fun x hx => hlt x (by simp [hx]))) (trodAll_cons_mk (arg_back (W' := W') hlo (by kernel_rfl) (of_decide_eq_true (by kernel_rfl)) h2 hb (fun x hx => hlt x (by simp [hx]))) (trodAll_cons_mk (shut_int (enc := enc) (w := W') (base := 0) (spare := fun b => decide (b < W.heap.size)) (held := true) Try.underlying3 w3) trodAll_mk0))))
  simp only [List.append_nil, List.nil_append] at hback
  exact ⟨_, rfl, law_post hW' (trodAll_cons_mk (shut_bool Try.underlying4 _) trodAll_mk0) hback rfl hb⟩

theorem over : Rows.valuesNotRow.holds Try.pinned (OpenSpec.ofChange Rows.valuesNotSpec) :=
  OpenClaim.holds_of_wide 11 Try.f11 rfl rfl rfl rfl rfl rfl rfl ⟨rfl, rfl, rfl, rfl, rfl⟩ rfl rfl rfl rfl rfl (by kernel_rfl) Try.func11 (by kernel_rfl)
    (of_decide_eq_true (by kernel_rfl)) (by unfold Func.isWrapper; first | (rw [if_pos (by decide +kernel)]; kernel_rfl) | (rw [if_neg (by decide +kernel)]; exact ⟨rfl, rfl⟩))
    (fun os started H enc _ => lifted os started H enc)

theorem proved : Rows.ValuesNotSaid :=
  over
end Go.Proofs.Ythpifibemekmcaa.valuesNot
