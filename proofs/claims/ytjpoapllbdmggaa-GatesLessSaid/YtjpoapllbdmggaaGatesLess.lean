/- For all circuits that are not great and all literals: other resets, and a gate less. No conditions. -/
import Derived.Test.YtjpoapllbdmggaaGatesFrame
import Derived.Test.YtjpoapllbdmggaaGatesLessKit
import Derived.Test.YtjpoapllbdmggaaGatesAlive
import Derived.Test.YtjpoapllbdmggaaGatesRef2
import Derived.Test.YtjpoapllbdmggaaGatesTwin
namespace Go.Proofs.Ytjpoapllbdmggaa.gatesLess
open Go.ChangeShapes Go.WideShapes Go.ChangeAt Go.RowKit
set_option linter.unusedVariables false
set_option linter.unusedSimpArgs false


theorem own : ownKnob Try.prog.godebug = none := by kernel_rfl

set_option maxRecDepth 100000 in
set_option maxHeartbeats 4000000 in
theorem walk (c0 : Cr) (p0 : Pl) (a1 : Int) (w : World) (hm0 : Mem w w.heap.size c0 p0) (hN0 : Nils c0 p0) (hv0 : Vals c0) (hC0 : Caps c0 p0) (w1 : (Lit.int .i64 a1).wf = true) :
    Calls Try.prog 11 #[cv c0 p0, .int .i64 a1] w fun e w' => e = .returned (.bool true) ∧ Below w.heap.size w w' := by
  have hv1 := (i64_of w1)
  unfold I64 at hv1
  have hB0 : Below w.heap.size w w := Below.refl _ _
  cases hg : c0.gr
  · have hgr := Cr.gr_no hg
    have hs : Sm c0 := hv0.sm (by omega) (by omega) (by omega) (by omega)
    have g1 := hs.nl
    have g2 := hs.na
    cases h : (c0.chk == 0)
    · have h' : (c0.chk != 0) = true := by simp [bne, h]
      go_enter Try.func11, Try.ntmps11
      go_wp2_with (first
        | (go_at_call 24; refine (rGreat_any c0 p0 _).mono ?_; rintro e w1 ⟨rfl, hb1⟩; obtain ⟨hc1, hf1⟩ := bcell hb1; have hz1 : w.heap.size < w1.heap.size := (by have := hb1.size; (try simp at this); omega); have hB1 : Below w.heap.size w w1 := Below.step (by go_grown) (by go_size) hb1; have hA1 : Has w1 w.heap.size 26 (cc c0 p0) := (Has.new _ _ _).keep hb1 (by go_size))
        | (go_at_call 29; refine (rCheck_any c0 p0 _ (hm0.to hB1 hB1.size) hs).mono ?_; rintro e w2 ⟨rfl, hb2⟩; obtain ⟨hc2, hf2⟩ := bcell hb2; have hz2 : w.heap.size < w2.heap.size := (by have := hb2.size; omega); have hB2 := Below.step hB1 hB1.size hb2; have hA2 := hA1.keep hb2 hA1.lt)
        | (go_at_call 37; refine (alive_any _).mono ?_; rintro e w9 ⟨rfl, hb9⟩; have hB9 := Below.step (w := w) hB2 (Below.size hB2) hb9))
      go_ret
      exact ⟨rfl, hB9⟩
    · have h' : (c0.chk != 0) = false := by simp [bne, h]
      have hb := Cr.chk_i h hs
      have hk0 : c0.chk = 0 := by simpa using h
      have hro := Cr.rq_ok hk0
      have hdb := dpt_le hk0
      have HK := Lib.hid hk0
      clear hk0
      go_enter Try.func11, Try.ntmps11
      go_wp2_with (first
        | (go_at_call 24; refine (rGreat_any c0 p0 _).mono ?_; rintro e w1 ⟨rfl, hb1⟩; obtain ⟨hc1, hf1⟩ := bcell hb1; have hz1 : w.heap.size < w1.heap.size := (by have := hb1.size; (try simp at this); omega); have hB1 : Below w.heap.size w w1 := Below.step (by go_grown) (by go_size) hb1; have hA1 : Has w1 w.heap.size 26 (cc c0 p0) := (Has.new _ _ _).keep hb1 (by go_size))
        | (go_at_call 29; refine (rCheck_any c0 p0 _ (hm0.to hB1 hB1.size) hs).mono ?_; rintro e w2 ⟨rfl, hb2⟩; obtain ⟨hc2, hf2⟩ := bcell hb2; have hz2 : w.heap.size < w2.heap.size := (by have := hb2.size; omega); have hB2 := Below.step hB1 hB1.size hb2; have hA2 := hA1.keep hb2 hA1.lt)
        | (go_at_call 38; (refine (twin_any c0 p0 _ hs (hm0.to hB2 hB2.size) hN0).mono ?_; rintro e w4 ⟨⟨A1, A2, A3, A4, K1, K2, K3, K4⟩, rfl, hO4, hb4⟩; have hOO := hO4; obtain ⟨⟨gl, el, ol⟩, ⟨gn, en, on⟩, ⟨gd, ed, od⟩, gc, ec, oc⟩ := hO4; dsimp only at el en ed ec; subst el en ed ec; have hz4 : w.heap.size < w4.heap.size := (by have := hb4.size; omega); have hB4 := Below.step hB2 hB2.size hb4; have hA4 := hA2.keep hb4 hA2.lt; have hsz2 := hB2.size)))
      clear ol on od oc hc1 hc2 hf1 hf2 hb1 hb2 hb4
      have hOb : OwnC (w4.alloc (.cells (cc c0 (mP gl gn gd gc K1 K2 K3 K4)) 26)) (w2.heap.size + 2) (c0.res (c0.rq 0)) (mP gl gn gd gc K1 K2 K3 K4) := by
        rw [Cr.rq_0]
        obtain ⟨⟨gl', el, ol⟩, ⟨gn', en, on⟩, ⟨gd', ed, od⟩, gc', ec, oc⟩ := hOO
        exact ⟨⟨gl', el, ol.alloc _⟩, ⟨gn', en, on.alloc _⟩, ⟨gd', ed, od.alloc _⟩, gc', ec, oc.alloc _⟩
      clear hOO
      go_loopw [6] (fun i wr => ∃ q : Nat, q ≤ c0.nl ∧ i = .int .i64 q ∧ OwnC wr (w2.heap.size + 2) (c0.res (c0.rq q)) (mP gl gn gd gc K1 K2 K3 K4) ∧ Has wr w.heap.size 26 (cc c0 p0) ∧ Has wr w4.heap.size 26 (cc c0 (mP gl gn gd gc K1 K2 K3 K4)) ∧ Below w.heap.size w wr) (fun i _ => c0.nl - (intOf i).toNat)
      case atStart => exact ⟨0, Nat.zero_le _, rfl, hOb, hA4.al _, Has.new _ _ _, hB4.alloc hB4.size _⟩
      case round =>
        clear hOb
        obtain ⟨q, hq, rfl, hO, hH, hX, hBr⟩ := hrel
        obtain ⟨u0, u1, u2, u3, u4⟩ := hX.box
        by_cases hlt : q < c0.nl
        · obtain ⟨z1, z2, z3⟩ := rq_cells hO hlt
          have hr := hro q hlt
          have n1 : (q : Int) < c0.nl := by omega
          have n2 : decide ((q : Int) < c0.nl) = true := decide_eq_true n1
          have hmul : IntKind.i64.wrap (2 - c0.rs q) = 2 - c0.rs q := IntWalk.i64_in _ (by omega)
          go_wp2
          go_region
          go_wp2
          go_roundw
          case rel => exact ⟨q + 1, by omega, by go_num, (rq_step hO hlt).1.drew, rq_has hH hO (by decide) _, rq_has hX hO (by decide) _, below_dn (hBr.setCell (by have := (rq_step hO hlt).2.1; simp; omega) _) 1⟩
          case measure => simp [intOf]; omega
        · obtain rfl : q = c0.nl := by omega
          clear hq hlt
          obtain ⟨x0, x1, x2, x3, x4⟩ := hH.box
          have hM0 := hm0.to hBr hBr.size
          have hMr := hO.mem
          have hzr : w.heap.size < wr.heap.size := hH.lt
          have hHH := Lib.hid hH
          have hXX := Lib.hid hX
          have hl1 := Cr.cone_len c0 a1 hs
          clear hO hH hX hro
          have hne : (c0.cE a1 != c0.cE a1) = false := by simp
          have hne2 : (c0.dpt != c0.dpt) = false := by simp
          have hdd : decide ((c0.na : Int) < c0.dpt) = false := decide_eq_false (by omega)
          have hnn : ((c0.na : Int) == 0) = decide (c0.na = 0) := by rw [Bool.eq_iff_iff]; simp
          obtain ⟨z, hz⟩ : ∃ z, decide (c0.na = 0) = z := ⟨_, rfl⟩
          rw [hz] at hnn
          cases z
          all_goals
           go_wp2_with (first
            | (go_at_call 35; (with_reducible refine (gCone_out c0 p0 a1 _ hM0 hs).mono ?_); rintro e w5 ⟨A5, k5, rfl, hi5, hb5⟩; have hB5 := Below.step hBr hBr.size hb5; have hH5 := hHH.out.keep hb5 hHH.out.lt; have hX5 := hXX.out.keep hb5 hXX.out.lt; obtain ⟨y0, y1, y2, y3, y4⟩ := hX5.box; obtain ⟨q0, q1, q2, q3, q4⟩ := hH5.box; have hMr := hMr.to hb5 hb5.size)
            | (go_at_call 35; (with_reducible refine (cone_res HK.out a1 (mP gl gn gd gc K1 K2 K3 K4) _ hMr hs).mono ?_); rintro e w6 ⟨A6, k6, rfl, hi6, hb6⟩; have hB6 := Below.step hB5 hB5.size hb6; have hH6 := hH5.keep hb6 hH5.lt; have hX6 := hX5.keep hb6 hX5.lt; obtain ⟨r0, r1, r2, r3, r4⟩ := hX6.box; obtain ⟨s0, s1, s2, s3, s4⟩ := hH6.box; have hMr := hMr.to hb6 hb6.size; have hi5 := (hi5.keep hb6).more hb6.size)
            | (go_at_call 36; (with_reducible refine (depth0 HK.out p0 _ (hm0.to hB6 hB6.size) hs).mono ?_); rintro e w7 ⟨rfl, hb7⟩; have hB7 := Below.step hB6 hB6.size hb7; have hH7 := hH6.keep hb7 hH6.lt; have hX7 := hX6.keep hb7 hX6.lt; obtain ⟨t0, t1, t2, t3, t4⟩ := hX7.box; have hMr := hMr.to hb7 hb7.size; have hi6 := (hi6.keep hb7).more hb7.size; have hi5 := (hi5.keep hb7).more hb7.size)
            | (go_at_call 36; (with_reducible refine (depth_res HK.out (mP gl gn gd gc K1 K2 K3 K4) _ hMr hs).mono ?_); rintro e w8 ⟨rfl, hb8⟩; have hB8 := Below.step hB7 hB7.size hb8; have hH8 := hH7.keep hb8 hH7.lt; have hi6 := (hi6.keep hb8).more hb8.size; have hi5 := (hi5.keep hb8).more hb8.size)
            | (go_at_call 15; refine (sameInts_self A5 A6 _ k5 k6 _ _ _ (by omega) hi5 hi6).mono ?_; rintro e w9 ⟨rfl, hb9⟩; have hB9 := Below.step hB8 hB8.size hb9; have hH9 := hH8.keep hb9 hH8.lt; obtain ⟨a0, a1', a2, a3, a4⟩ := hH9.box)
            | (go_at_call 37; refine (alive_any _).mono ?_; rintro e wA ⟨rfl, hbA⟩; have hBA := Below.step (w := w) hB9 (Below.size hB9) hbA)
            | (go_at_call 30; refine (rSize_any c0 p0 _ hb.1 hb.2.1 g1 g2).mono ?_; rintro e wB ⟨rfl, hbB⟩; have hBB := Below.step hB9 hB9.size hbB; have hHB := hH9.keep hbB hH9.lt; obtain ⟨b0, b1, b2, b3, b4⟩ := hHB.box))
          · have hn : 0 < c0.na := by have := of_decide_eq_false hz; omega
            obtain ⟨k1, k2, k3, k4, k5, k6, k7, k8⟩ := Cr.chk_zero HK.out
            have f5 : ∀ j, j < c0.nb → 0 ≤ c0.bd j ∧ c0.bd j / 2 ≤ c0.sz := of_decide_eq_true k5
            have f6 : ∀ j, j < c0.nc → 0 ≤ c0.cn j ∧ c0.cn j / 2 ≤ c0.sz := of_decide_eq_true k6
            have f7 : ∀ j, j < c0.nl → 0 ≤ c0.nx j ∧ c0.nx j / 2 ≤ c0.sz ∧ 0 ≤ c0.rs j ∧ c0.rs j ≤ 2 := of_decide_eq_true k7
            have hMB := hm0.to hBB hBB.size
            clear k1 k2 k3 k4 k5 k6 k7 k8 hnn hdd hne hne2 hi5 hi6 hMr
            go_loopw [16, 17] (fun u i wr => ∃ q : Nat, q ≤ c0.nl ∧ i = .int .i64 q ∧ u = .bool (c0.hit c0.nx q) ∧ wB = wr) (fun _ i _ => c0.nl - (intOf i).toNat)
            case atStart => exact ⟨0, Nat.zero_le _, rfl, by rw [Cr.hit_0], rfl⟩
            case round =>
              obtain ⟨q, hq, rfl, rfl, rfl⟩ := hrel
              by_cases hlt : q < c0.nl
              · obtain ⟨a, hA, hab, hcs⟩ := hMB.la (by omega)
                have hc1 := hcs q hlt
                obtain ⟨c1, c2⟩ := hc1
                have hf := f7 q hlt
                rw [hA] at b1
                clear hcs
                cases hu : c0.hit c0.nx q
                · go_wp2
                  go_roundw
                  case rel => exact ⟨q + 1, by omega, by go_num, Cr.hit_f hu, trivial⟩
                  case measure => simp [intOf]; omega
                · go_wp2
                  go_roundw
                  case rel => exact ⟨q + 1, by omega, by go_num, Cr.hit_t hu, trivial⟩
                  case measure => simp [intOf]; omega
              · obtain rfl : q = c0.nl := by omega
                clear hq hlt
                go_wp2
                go_loopw [16, 18] (fun u i wr => ∃ q : Nat, q ≤ c0.nb ∧ i = .int .i64 q ∧ u = .bool (c0.hit c0.nx c0.nl || c0.hit c0.bd q) ∧ wB = wr) (fun _ i _ => c0.nb - (intOf i).toNat)
                case atStart => exact ⟨0, Nat.zero_le _, rfl, by rw [Cr.hit_0]; simp, rfl⟩
                case round =>
                  obtain ⟨q, hq, rfl, rfl, rfl⟩ := hrel
                  by_cases hlt : q < c0.nb
                  · obtain ⟨a, hA, hab, hcs⟩ := hMB.bd (by omega)
                    have hc1 := hcs q hlt
                    have hf := f5 q hlt
                    rw [hA] at b3
                    clear hcs
                    cases hp : (c0.hit c0.nx c0.nl)
                    · cases hu : c0.hit c0.bd q
                      · simp only [Bool.false_or, Bool.true_or]
                        go_wp2
                        go_roundw
                        case rel => exact ⟨q + 1, by omega, by go_num, Cr.hit_f hu, trivial⟩
                        case measure => simp [intOf]; omega
                      · simp only [Bool.false_or, Bool.true_or]
                        go_wp2
                        go_roundw
                        case rel => exact ⟨q + 1, by omega, by go_num, Cr.hit_t hu, trivial⟩
                        case measure => simp [intOf]; omega
                    · simp only [Bool.false_or, Bool.true_or]
                      go_wp2
                      go_roundw
                      case rel => exact ⟨q + 1, by omega, by go_num, rfl, trivial⟩
                      case measure => simp [intOf]; omega
                  · obtain rfl : q = c0.nb := by omega
                    clear hq hlt
                    go_wp2
                    go_loopw [16, 19] (fun u i wr => ∃ q : Nat, q ≤ c0.nc ∧ i = .int .i64 q ∧ u = .bool (c0.hit c0.nx c0.nl || c0.hit c0.bd c0.nb || c0.hit c0.cn q) ∧ wB = wr) (fun _ i _ => c0.nc - (intOf i).toNat)
                    case atStart => exact ⟨0, Nat.zero_le _, rfl, by rw [Cr.hit_0]; simp, rfl⟩
                    case round =>
                      obtain ⟨q, hq, rfl, rfl, rfl⟩ := hrel
                      by_cases hlt : q < c0.nc
                      · obtain ⟨a, hA, hab, hcs⟩ := hMB.cn (by omega)
                        have hc1 := hcs q hlt
                        have hf := f6 q hlt
                        rw [hA] at b4
                        clear hcs
                        cases hp : (c0.hit c0.nx c0.nl || c0.hit c0.bd c0.nb)
                        · cases hu : c0.hit c0.cn q
                          · simp only [Bool.false_or, Bool.true_or]
                            go_wp2
                            go_roundw
                            case rel => exact ⟨q + 1, by omega, by go_num, Cr.hit_f hu, trivial⟩
                            case measure => simp [intOf]; omega
                          · simp only [Bool.false_or, Bool.true_or]
                            go_wp2
                            go_roundw
                            case rel => exact ⟨q + 1, by omega, by go_num, Cr.hit_t hu, trivial⟩
                            case measure => simp [intOf]; omega
                        · simp only [Bool.false_or, Bool.true_or]
                          go_wp2
                          go_roundw
                          case rel => exact ⟨q + 1, by omega, by go_num, rfl, trivial⟩
                          case measure => simp [intOf]; omega
                      · obtain rfl : q = c0.nc := by omega
                        clear hq hlt
                        obtain ⟨U, hUU⟩ : ∃ U, (c0.hit c0.nx c0.nl || c0.hit c0.bd c0.nb || c0.hit c0.cn c0.nc) = U := ⟨_, rfl⟩
                        have hUse : U = true ↔ c0.used := by rw [← hUU]; exact Cr.hit_used c0
                        rw [hUU]
                        obtain ⟨a, hA, hab, hcs⟩ := hMB.an (by omega)
                        have hcap := hC0.an
                        unfold maxLen at hcap
                        rw [hA] at b2
                        have hwr : IntKind.i64.wrap ((c0.na : Int) - 1) = ((c0.na - 1 : Nat) : Int) := by rw [IntWalk.i64_in _ (by omega)]; omega
                        clear hcs hUU
                        have hz9 := hHB.lt
                        have hff := eql_ff
                        have HU := Lib.hid hUse
                        clear hUse
                        clear hMB hH9 hH8 hH7 hH6 hH5 hX7 hX6 hX5 hi5 hi6 hbB hb9 hb8 hb7 hb6 hb5 hA1 hA2 hA4 hB1 hB2 hB4 hBr hB5 hB6 hB7 hB8 hB9 hHH hXX f5 f6 f7 a0 a1' a2 a3 a4 hl1 hdb hzr
                        cases U
                        all_goals
                          go_wp2_with (first
                            | (go_at_call 26; refine (less_any (p := p0) _ HK.out hn hA (hm0.to (hBB.alloc (Below.size hBB) _) (by simp; omega)) hs HU.out _ (by omega)).mono ?_; rintro e wC ⟨x, rfl, hx, hbC⟩; simp only [Bool.not_true, Bool.not_false] at hx; have hLs := (Has.new wB 26 #[.int .i64 c0.i, .slice p0.A1 c0.nl p0.k1, .slice (some a) (c0.na - 1) p0.k2, .slice p0.A3 c0.nb p0.k3, .slice p0.A4 c0.nc p0.k4]).keep hbC (by simp); have l0 : wC.cell? ⟨wB.heap.size, 0, none⟩ = some (.int .i64 c0.i) := hLs.cell 0; have l1 : wC.cell? ⟨wB.heap.size, 1, none⟩ = some (.slice p0.A1 c0.nl p0.k1) := hLs.cell 1; have l2 : wC.cell? ⟨wB.heap.size, 2, none⟩ = some (.slice (some a) (c0.na - 1) p0.k2) := hLs.cell 2; have l3 : wC.cell? ⟨wB.heap.size, 3, none⟩ = some (.slice p0.A3 c0.nb p0.k3) := hLs.cell 3; have l4 : wC.cell? ⟨wB.heap.size, 4, none⟩ = some (.slice p0.A4 c0.nc p0.k4) := hLs.cell 4; have hBC := Below.step (hBB.alloc (Below.size hBB) _) (by simp; omega) hbC)
                            | (go_at_call 26; refine (less_any (p := p0) wC HK.out hn hA (hm0.to hBC hBC.size) hs HU.out _ (by omega)).mono ?_; rintro e wD ⟨y, rfl, hy, hbD⟩; simp only [Bool.not_true, Bool.not_false] at hy; have hBC := Below.step hBC hBC.size hbD)
                            | (go_at_call 37; refine (alive_any _).mono ?_; rintro e wE ⟨rfl, hbE⟩; have hBE := Below.step (w := w) hBC (Below.size hBC) hbE))
                          all_goals try (rename_i hfz; simp at hfz; done)
                          all_goals first | (go_ret; exact ⟨rfl, hBE⟩) | (exfalso; simp_all; done)
          · go_ret
            exact ⟨rfl, hBA⟩
  · go_enter Try.func11, Try.ntmps11
    go_wp2_with (first
      | (go_at_call 24; refine (rGreat_any c0 p0 _).mono ?_; rintro e w1 ⟨rfl, hb1⟩; obtain ⟨hc1, hf1⟩ := bcell hb1; have hz1 : w.heap.size < w1.heap.size := (by have := hb1.size; (try simp at this); omega); have hB1 : Below w.heap.size w w1 := Below.step (by go_grown) (by go_size) hb1; have hA1 : Has w1 w.heap.size 26 (cc c0 p0) := (Has.new _ _ _).keep hb1 (by go_size))
      | (go_at_call 37; refine (alive_any _).mono ?_; rintro e w9 ⟨rfl, hb9⟩; have hB9 := Below.step (w := w) hB1 (Below.size hB1) hb9))
    go_ret
    exact ⟨rfl, hB9⟩

set_option maxRecDepth 100000 in
theorem lifted (os : Os) (started : os.Started) (H : Type) (enc : TypeId × Value → H) :
    ReturnsInHanded {} Try.checked os 11 .any (Rows.gatesLessSpec.pre6 enc Try.prog Try.f11 Rows.gatesLessRow.domain false) (Rows.gatesLessSpec.post enc Try.prog Try.f11 false true false false) := by
  refine returnsInHanded_of_change (C := Try.checked) own started (by kernel_rfl) Try.func11
    (ChangeSpec.witness6 (enc := enc) (C := Try.checked) false ⟨#[], #[.agg #[.int .i64 0, .slice none 0 0, .slice none 0 0, .slice none 0 0, .slice none 0 0], .int .i64 0], []⟩ 12 (by kernel_rfl) (by kernel_rfl) (by kernel_rfl) (by kernel_rfl)) ?_
  intro W base args ds gs before hval0 hW hcnd _
  have hval : ∀ (j : Nat) t v, Try.f11.params[j]? = some t → args[j]? = some v → Value.okWide Try.prog W .any base t v := hval0
  have hW' := hW
  have hlt : ∀ x ∈ before, x.block < W.heap.size := fun x hx => by simpa using hW'.lt x hx
  obtain ⟨p, q, hA0, hV, rfl, hfz, hnd⟩ := hW
  have hA : DataW.TrodAll enc Try.prog W 0 (fun _ => true) true Try.f11.params.toList args.toList ds p := hA0
  rw [Try.params11] at hA hval
  obtain ⟨v0, vs0, d0, ds0, b0, q0, hargs, rfl, rfl, h0, r0⟩ := trodAll_cons hA
  obtain ⟨v1, vs1, d1, ds1, b1, q1, rfl, rfl, rfl, h1, r1⟩ := trodAll_cons r0
  obtain ⟨rfl, rfl, rfl⟩ := trodAll_nil r1
  obtain rfl : args = #[v0, v1] := by cases args; simp_all
  obtain ⟨rfl, rfl⟩ := trodVars_none hV
  obtain ⟨c0, p0, rfl, hm0, hN0, hv0, hC0⟩ := open_circ (hval 0 26 v0 rfl rfl) h0
  obtain ⟨a1, rfl, rfl, rfl, w1⟩ := open_int Try.underlying3 (hval 1 3 v1 rfl rfl) h1
  have hlo : laidOutB Try.prog = true := by kernel_rfl
  clear hA0 hval0
  simp only [List.append_nil] at hW' hlt
  refine (walk c0 p0 a1 W hm0 hN0 hv0 hC0 w1).mono fun e W' ⟨he, hb⟩ => ?_
  subst he
  have hback := (trodAll_cons_mk (arg_back (W' := W') hlo (by kernel_rfl) (of_decide_eq_true (by kernel_rfl)) h0 hb (fun x hx => hlt x (by simp [hx]))) (trodAll_cons_mk (shut_int (enc := enc) (w := W') (base := 0) (spare := fun b => decide (b < W.heap.size)) (held := true) Try.underlying3 w1) trodAll_mk0))
  simp only [List.append_nil, List.nil_append] at hback
  exact ⟨_, rfl, law_post hW' (trodAll_cons_mk (shut_bool Try.underlying4 _) trodAll_mk0) hback rfl hb⟩

theorem over : Rows.gatesLessRow.holds Try.pinned (OpenSpec.ofChange Rows.gatesLessSpec) :=
  OpenClaim.holds_of_wide 11 Try.f11 rfl rfl rfl rfl rfl rfl rfl ⟨rfl, rfl, rfl, rfl, rfl⟩ rfl rfl rfl rfl rfl (by kernel_rfl) Try.func11 (by kernel_rfl)
    (of_decide_eq_true (by kernel_rfl)) (by unfold Func.isWrapper; first | (rw [if_pos (by decide +kernel)]; kernel_rfl) | (rw [if_neg (by decide +kernel)]; exact ⟨rfl, rfl⟩))
    (fun os started H enc _ => lifted os started H enc)

theorem proved : Rows.GatesLessSaid :=
  over
end Go.Proofs.Ytjpoapllbdmggaa.gatesLess
