/- For all raw circuits that are not great: where one is valid, its circuit is, has as many inputs, latches and gates, and each variable stands for one of them, with the parts of its own. No conditions. -/
import Derived.Test.YtpdfdbnmohippaaOrderFrame
import Derived.Test.YtpdfdbnmohippaaOrderBeforeKit
import Derived.Test.YtpdfdbnmohippaaOrderSameKit
import Derived.Test.YtpdfdbnmohippaaHeadTail
namespace Go.Proofs.Ytpdfdbnmohippaa.orderBefore
open Go.ChangeShapes Go.WideShapes Go.ChangeAt Go.RowKit
set_option linter.unusedVariables false
set_option linter.unusedSimpArgs false


theorem own : ownKnob Try.prog.godebug = none := by kernel_rfl

set_option maxRecDepth 100000 in
set_option maxHeartbeats 40000000 in
theorem walk (c0 : Rw) (p0 : Rp) (w : World) (hm0 : RMem w w.heap.size c0 p0) (hN0 : RNils c0 p0) (hv0 : RVals c0) (hC0 : RCaps c0 p0) :
    Calls Try.prog 5 #[rv c0 p0] w fun e w' => e = .returned (.bool true) ∧ Below w.heap.size w w' := by
  have HM := Lib.hid hm0
  have HN := Lib.hid hN0
  have AL : Hid (∀ W, Calls Try.prog 15 #[] W fun e w' => e = .returned (.bool true) ∧ Below W.heap.size W w') := fun W => alive3_any W
  cases hg : c0.gr
  · have hs : RSm c0 := hv0.sm hg
    have HS := Lib.hid hs
    have G0 : Hid (∀ W, Calls Try.prog 16 #[rv c0 p0] W fun e w' => e = .returned (.bool false) ∧ Below W.heap.size W w') := fun W => by have := oGreat_any c0 p0 W; rwa [hg] at this
    by_cases hk : c0.chk = 0
    · have K0 : Hid (∀ W, Below w.heap.size w W → Calls Try.prog 19 #[rv c0 p0] W fun e w' => e = .returned (.int .i64 0) ∧ Below W.heap.size W w') := fun W hb => by rw [← hk]; exact oRCheck_any c0 p0 W HS.out (HM.out.to hb hb.size) HN.out
      obtain ⟨hm0', hbig, _⟩ := Rw.chk_parts hk
      have hbg := of_decide_eq_false hbig
      obtain ⟨mn, hmn⟩ : ∃ mn : Nat, c0.m = (mn : Int) := ⟨c0.m.toNat, by omega⟩
      have C1 : Hid (∀ W, Below w.heap.size w W → Calls Try.prog 9 #[rv c0 p0] W fun e w' => ∃ (p' : Pl) (g : Nat), e = .returned (.tuple #[.agg #[.int .i64 (c0.ni : Int), .slice p'.A1 c0.nl p'.k1, .slice p'.A2 c0.na p'.k2, .slice p'.A3 c0.nb p'.k3, .slice p'.A4 c0.nc p'.k4], .slice (some ⟨g, 0, none⟩) (mn + 1) (mn + 1), .int .i64 0]) ∧ Mem w' w'.heap.size c0.cir.cut p' ∧ w'.rowIs g 3 (mn + 1) (fun v => .int .i64 (c0.nw (v : Int))) ∧ Below W.heap.size W w') := fun W hb => circ_bef c0 p0 W mn hmn HS.out (HM.out.to hb hb.size) HN.out hk
      have GC : Hid (∀ W p, Mem W W.heap.size c0.cir.cut p → Calls Try.prog 21 #[.agg #[.int .i64 (c0.ni : Int), .slice p.A1 c0.nl p.k1, .slice p.A2 c0.na p.k2, .slice p.A3 c0.nb p.k3, .slice p.A4 c0.nc p.k4]] W fun e w' => e = .returned (.int .i64 0) ∧ Below W.heap.size W w') := fun W p hm => gcheck_bef c0 p W hk hm
      have DF : Hid (∀ W, Below w.heap.size w W → Calls Try.prog 22 #[rv c0 p0] W (ListAt c0.dL W)) := fun W hb => (oDefined_any c0 p0 W HS.out (HM.out.to hb hb.size) HN.out).mono fun e w' h => h.at
      have TO : Hid (∀ W g x, W.rowIs g 3 (mn + 1) (fun v => .int .i64 (c0.nw (v : Int))) → x ∈ c0.uL → Calls Try.prog 23 #[.slice (some ⟨g, 0, none⟩) (mn + 1) (mn + 1), .int .i64 x] W fun e w' => e = .returned (.int .i64 (c0.told x)) ∧ Below W.heap.size W w') := fun W g x hR hx => told_all c0 mn g W hk hmn hR hx
      obtain ⟨L, hL⟩ : ∃ L, mn + 1 = L := ⟨_, rfl⟩
      rw [hL] at C1 TO
      have HL := Lib.hid hL
      have HMN := Lib.hid hmn
      have HK := Lib.hid hk
      have HBG := Lib.hid (show c0.m ≤ 1000 ∧ c0.ni + c0.nl + c0.na ≤ 1000 by omega)
      have HM0 := Lib.hid hm0'
      have hws : IntKind.i64.wrap (c0.m + 1) = c0.m + 1 := IntWalk.i64_in _ (by omega)
      have hne1 : ((L : Int) != c0.m + 1) = false := by simp; omega
      have g1 : c0.ni ≤ 1000 := by omega
      have g2 : c0.nl ≤ 1000 := by omega
      have g3 : c0.na ≤ 1000 := by omega
      have hw2 : IntKind.i64.wrap ((c0.ni : Int) + (c0.nl : Int)) = (c0.ni : Int) + (c0.nl : Int) := IntWalk.i64_in _ (by omega)
      have hzb := zero_zb
      clear hs hm0 hN0 hv0 hC0 hg hm0' hbig hbg hmn hL hk
      go_enter Try.func5, Try.ntmps5
      go_wp2_with (go_at_call 16; (with_reducible refine (G0.out _).mono ?_); rintro e w1 ⟨rfl, hb1⟩; have hB1 : Below w.heap.size w w1 := Below.step (by go_grown) (by go_size) hb1; have hA1 : Has w1 w.heap.size 32 (rc c0 p0) := (Has.new w 32 (rc c0 p0)).keep hb1 (by simp); obtain ⟨x0, x1, x2, x3, x4, x5⟩ := hA1.rbox)
      go_wp2_with (go_at_call 19; (with_reducible refine (K0.out _ hB1).mono ?_); rintro e w2 ⟨rfl, hb2⟩; have hB2 := Below.step hB1 hB1.size hb2; have hA2 := hA1.keep hb2 hA1.lt; clear x0 x1 x2 x3 x4 x5; obtain ⟨x0, x1, x2, x3, x4, x5⟩ := hA2.rbox)
      go_wp2_with (go_at_call 9; (with_reducible refine (C1.out _ hB2).mono ?_); rintro e w3 ⟨⟨Q1, Q2, Q3, Q4, l1, l2, l3, l4⟩, g, rfl, hm3, hR3, hb3⟩; have hB3 := Below.step hB2 hB2.size hb3; have hA3 := hA2.keep hb3 hA2.lt; have hz3 := hA3.lt; clear x0 x1 x2 x3 x4 x5; obtain ⟨x0, x1, x2, x3, x4, x5⟩ := hA3.rbox)
      have hb3x : Below w3.heap.size w3 (w3.alloc (.cells #[.int .i64 (c0.ni : Int), .slice Q1 c0.nl l1, .slice Q2 c0.na l2, .slice Q3 c0.nb l3, .slice Q4 c0.nc l4] 26)) := (Below.refl _ _).alloc (Nat.le_refl _) _
      have hB3x := Below.step hB3 hB3.size hb3x
      have hC3x : Has (w3.alloc (.cells #[.int .i64 (c0.ni : Int), .slice Q1 c0.nl l1, .slice Q2 c0.na l2, .slice Q3 c0.nb l3, .slice Q4 c0.nc l4] 26)) w3.heap.size 26 (bc c0 ⟨Q1, Q2, Q3, Q4, l1, l2, l3, l4⟩) := Has.new w3 26 (bc c0 ⟨Q1, Q2, Q3, Q4, l1, l2, l3, l4⟩)
      have hm3x := hm3.to hb3x hb3x.size
      have hR3x := hR3.of_block (hb3x.block g hR3.lt)
      have hA3x := hA3.keep hb3x hA3.lt
      clear hb1 hb2 hb3 hB1 hB2 hB3 hA1 hA2 hA3 hm3 hR3 K0 G0 C1
      go_wp2_with (go_at_call 21; (with_reducible refine (GC.out _ ⟨Q1, Q2, Q3, Q4, l1, l2, l3, l4⟩ hm3x).mono ?_); rintro e w4 ⟨rfl, hb4⟩; have hB4 := Below.step hB3x hB3x.size hb4; have hA4 := hA3x.keep hb4 hA3x.lt; have hC4 := hC3x.keep hb4 hC3x.lt; have hm4 := hm3x.to hb4 hb4.size; have hR4 := hR3x.of_block (hb4.block g hR3x.lt); clear x0 x1 x2 x3 x4 x5; obtain ⟨x0, x1, x2, x3, x4, x5⟩ := hA4.rbox; have q0 := hC4.cell 0; have q1 := hC4.cell 1; have q2 := hC4.cell 2; have q3 := hC4.cell 3; have q4 := hC4.cell 4)
      go_wp2_with (go_at_call 22; (with_reducible refine (DF.out _ hB4).mono ?_); rintro e w5 ⟨A6, k6, rfl, hi5, hb5⟩)
      have hB5 := Below.step hB4 hB4.size hb5
      have hA5 := hA4.keep hb5 hA4.lt
      have hC5 := hC4.keep hb5 hC4.lt
      have hm5 := hm4.to hb5 hb5.size
      have hR5 := hR4.of_block (hb5.block g hR4.lt)
      have hr5 := HM.out.to hB5 hB5.size
      have hF5 : Bf w w5 w3.heap.size w5.heap.size g mn c0 p0 ⟨Q1, Q2, Q3, Q4, l1, l2, l3, l4⟩ A6 := ⟨hB5, Nat.le_refl _, hB5.size, ⟨hA5, hA5.lt⟩, ⟨hC5, hC5.lt⟩, ⟨by rw [HL.out]; exact hR5, hR5.lt⟩, hm5, hi5, hr5⟩
      have hF6 := hF5.call ((Below.refl w5.heap.size w5).alloc (Nat.le_refl _) (.cells zb 54))
      have hW6 : (w5.alloc (.cells zb 54)).rowIs w5.heap.size 54 1001 (fun v => .bool (c0.seen 0 v)) := by
        have := World.rowIs_alloc w5 zb 54 (fun v => .bool (c0.seen 0 v)) (fun i hi => by rw [Rw.seen_0]; exact zb_at i hi)
        exact this
      have HF6 := Lib.hid (And.intro hF6 hW6)
      obtain ⟨n6, hn6⟩ : ∃ n, c0.dL.length = n := ⟨_, rfl⟩
      have HN6 := Lib.hid hn6
      rw [hn6]
      clear hn6 hF5 hF6 hW6 hB3x hC3x hm3x hR3x hA3x hB4 hA4 hC4 hm4 hR4 hB5 hA5 hC5 hm5 hR5 hr5 hi5 hb4 hb5 hb3x x0 x1 x2 x3 x4 x5 q0 q1 q2 q3 q4 GC DF hne1 hws
      obtain ⟨b7, hb7⟩ : ∃ b, w5.heap.size = b := ⟨_, rfl⟩
      go_wp2
      go_loopw [8] (fun i wr => ∃ q : Nat, q ≤ n6 ∧ i = .int .i64 (q : Int) ∧ Bf w wr w3.heap.size b7 g mn c0 p0 ⟨Q1, Q2, Q3, Q4, l1, l2, l3, l4⟩ A6 ∧ wr.rowIs b7 54 1001 (fun v => .bool (c0.seen q v))) (fun i _ => n6 - (intOf i).toNat)
      case atStart => exact ⟨0, Nat.zero_le _, rfl, hb7 ▸ HF6.out.1, hb7 ▸ HF6.out.2⟩
      case round =>
        obtain ⟨q, hq, rfl, hF, hW⟩ := hrel
        have HF := Lib.hid hF
        have HW := Lib.hid hW
        clear hF hW
        by_cases hlt : q < n6
        · have hq0 : (0 : Int) ≤ (q : Int) := by omega
          have hq1 : (q : Int) < (n6 : Int) := by omega
          have hql : q < c0.dL.length := by rw [HN6.out]; exact hlt
          obtain ⟨x0, x1, x2, x3, x4, x5⟩ := HF.out.h1.1.rbox
          obtain ⟨a, hA, hab, hcs⟩ := HF.out.i6 (by omega)
          subst hA
          have y0 := hcs q hql
          obtain ⟨d1, d2⟩ := Rw.dL_bd HK.out hql
          obtain ⟨e1, e2, e3⟩ := Rw.place HK.out hql
          obtain ⟨X, hX⟩ : ∃ X, c0.dL.getD q 0 = X := ⟨_, rfl⟩
          have hSN := fun u => Rw.seen_no HK.out hql (u := u)
          have hSS := fun u => Rw.seen_succ (r := c0) (q := q) (u := u)
          have y9 : wr.cell? (a.add q) = some (.int .i64 X) := by rw [← hX]; exact y0
          clear y0
          rw [hX] at d1 d2 e1 e2 e3
          simp only [hX] at hSN hSS
          have hmn := HMN.out
          have hLL := HL.out
          have hbg := HBG.out
          have hll := dL_len c0
          have hnn := HN6.out
          have n1 : (X / 2).toNat < mn + 1 := by omega
          have m1 : 0 ≤ X / 2 := by omega
          have m2 : X / 2 < (L : Int) := by omega
          have m3 : 0 ≤ X := by omega
          have m4 : X ≤ 2001 := by omega
          have z1 := HF.out.r4.1.cell n1
          rw [show (((X / 2).toNat : Nat) : Int) = X / 2 by omega] at z1
          obtain ⟨v, hv⟩ : ∃ v : Nat, c0.nw (X / 2) = (v : Int) := ⟨(c0.nw (X / 2)).toNat, by omega⟩
          rw [hv] at z1 e1 e2 e3
          have hqb : (q : Int) < 1001 := by omega
          have v1 : ¬ (v : Int) < 1 := by omega
          have v2 : ¬ (n6 : Int) < (v : Int) := by omega
          have v3 : (0 : Int) ≤ (v : Int) := by omega
          have v4 : (v : Int) < 1001 := by omega
          have v5 : v < 1001 := by omega
          have z2 := HW.out.cell v5
          rw [hSN v hv] at z2
          have z3 := HW.out.frozen v
          have hF' := HF.out.put v (.bool true)
          have hW' : (wr.setCell ⟨b7, v, none⟩ (.bool true)).rowIs b7 54 1001 (fun u => .bool (c0.seen (q + 1) u)) := (World.rowIs.set HW.out v (.bool true)).congr fun u hu => by
            rw [hSS v hv]
            by_cases huv : u = v
            · rw [if_pos huv, if_pos huv]
            · rw [if_neg huv, if_neg huv]
          have HR := Lib.hid (And.intro hF' hW')
          have HV3 := Lib.hid e3
          clear hF' hW' hcs hab d1 d2 e1 e2 e3 hmn hLL hbg hll hnn n1 hv v5 hX hSN hSS hql
          by_cases hp : q < c0.ni + c0.nl
          · have hp' : (q : Int) < (c0.ni : Int) + (c0.nl : Int) := by omega
            have hve : v = q + 1 := by have := HV3.out hp; omega
            subst hve
            go_wp2
            go_roundw
            case rel => exact ⟨q + 1, by omega, by go_num, HR.out.1, HR.out.2⟩
            case measure => simp [intOf]; omega
          · have hp' : ¬ (q : Int) < (c0.ni : Int) + (c0.nl : Int) := by omega
            go_wp2
            go_roundw
            case rel => exact ⟨q + 1, by omega, by go_num, HR.out.1, HR.out.2⟩
            case measure => simp [intOf]; omega
        · have hq1 : ¬ (q : Int) < (n6 : Int) := by omega
          clear hlt hq HW
          go_wp2
          go_loopw [10] (fun i wr => ∃ q : Nat, q ≤ c0.na ∧ i = .int .i64 (q : Int) ∧ Bf w wr w3.heap.size b7 g mn c0 p0 ⟨Q1, Q2, Q3, Q4, l1, l2, l3, l4⟩ A6) (fun i _ => c0.na - (intOf i).toNat)
          case atStart => exact ⟨0, Nat.zero_le _, rfl, HF.out⟩
          case round =>
            clear hq1 HF
            obtain ⟨q, hq, rfl, hF⟩ := hrel
            have HF := Lib.hid hF
            clear hF
            obtain ⟨x0, x1, x2, x3, x4, x5⟩ := HF.out.h1.1.rbox
            by_cases hlt : q < c0.na
            · have hq0 : (0 : Int) ≤ (q : Int) := by omega
              have hq1 : (q : Int) < (c0.na : Int) := by omega
              obtain ⟨ad, hA, hab, hcs⟩ := (HF.out.rm.an) (by omega)
              obtain ⟨y0, y1, y2⟩ := hcs q hlt
              obtain ⟨gg, e1, e2, e3, e4⟩ := Rw.gate_at HK.out hlt
              obtain ⟨d1, d2⟩ := Rw.gl_bd HK.out hlt
              have hmn := HMN.out
              have hLL := HL.out
              have hbg := HBG.out
              obtain ⟨X, hX⟩ : ∃ X, c0.gl q = X := ⟨_, rfl⟩
              rw [hX] at y0 e2 d1 d2
              have n1 : (X / 2).toNat < mn + 1 := by omega
              have m1 : 0 ≤ X / 2 := by omega
              have m2 : X / 2 < (L : Int) := by omega
              have m3 : 0 ≤ X := by omega
              have m4 : X ≤ 2001 := by omega
              have z1 := HF.out.r4.1.cell n1
              obtain ⟨Y, hY⟩ : ∃ Y : Int, c0.nw (X / 2) = Y := ⟨_, rfl⟩
              obtain ⟨Y1, hY1⟩ : ∃ Y1 : Int, Y - 1 = Y1 := ⟨_, rfl⟩
              obtain ⟨Y2, hY2⟩ : ∃ Y2 : Int, Y1 - (c0.ni : Int) = Y2 := ⟨_, rfl⟩
              rw [hY] at e2
              rw [show (((X / 2).toNat : Nat) : Int) = X / 2 by omega, hY] at z1
              have wX : IntKind.i64.wrap (X.tdiv 2) = X / 2 := by rw [Int.tdiv_eq_ediv_of_nonneg m3]; exact IntWalk.i64_in _ (by omega)
              have w1 : IntKind.i64.wrap (Y - 1) = Y1 := (IntWalk.i64_in _ (by omega)).trans (by omega)
              have w2 : IntKind.i64.wrap (Y1 - (c0.ni : Int)) = Y2 := (IntWalk.i64_in _ (by omega)).trans (by omega)
              have w3' : IntKind.i64.wrap (Y2 - (c0.nl : Int)) = (gg : Int) := (IntWalk.i64_in _ (by omega)).trans (by omega)
              have hYY := Lib.hid hY
              clear hY1 hY2 hY
              have ma : c0.ga q ∈ c0.uL := by unfold Rw.uL; simp only [List.mem_append]; exact Or.inr (mem_twos.2 ⟨q, hlt, Or.inl rfl⟩)
              have mb : c0.gb q ∈ c0.uL := by unfold Rw.uL; simp only [List.mem_append]; exact Or.inr (mem_twos.2 ⟨q, hlt, Or.inr rfl⟩)
              have TA : Hid (∀ W, Bf w W w3.heap.size b7 g mn c0 p0 ⟨Q1, Q2, Q3, Q4, l1, l2, l3, l4⟩ A6 → Calls Try.prog 23 #[.slice (some ⟨g, 0, none⟩) L L, .int .i64 (c0.ga q)] W fun e w' => e = .returned (.int .i64 (c0.told (c0.ga q))) ∧ Below W.heap.size W w') := fun W hW => by
                have := TO.out W g _ (by have := hW.r4.1; rwa [HL.out] at this) ma
                exact this
              have TB : Hid (∀ W, Bf w W w3.heap.size b7 g mn c0 p0 ⟨Q1, Q2, Q3, Q4, l1, l2, l3, l4⟩ A6 → Calls Try.prog 23 #[.slice (some ⟨g, 0, none⟩) L L, .int .i64 (c0.gb q)] W fun e w' => e = .returned (.int .i64 (c0.told (c0.gb q))) ∧ Below W.heap.size W w') := fun W hW => by
                have := TO.out W g _ (by have := hW.r4.1; rwa [HL.out] at this) mb
                exact this
              rw [hA] at x3
              have HC : Hid (∀ W, Bf w W w3.heap.size b7 g mn c0 p0 ⟨Q1, Q2, Q3, Q4, l1, l2, l3, l4⟩ A6 → (W.cell? ⟨w.heap.size, 1, none⟩ = some (.slice p0.A1 c0.ni p0.k1) ∧ W.cell? ⟨w.heap.size, 2, none⟩ = some (.slice p0.A2 c0.nl p0.k2) ∧ W.cell? ⟨w.heap.size, 3, none⟩ = some (.slice (some ad) c0.na p0.k3)) ∧ W.cell? (ad.add (q * 3)) = some (.int .i64 X) ∧ W.cell? ⟨(ad.add (q * 3)).block, (ad.add (q * 3)).off + 1, none⟩ = some (.int .i64 (c0.ga q)) ∧ W.cell? ⟨(ad.add (q * 3)).block, (ad.add (q * 3)).off + 2, none⟩ = some (.int .i64 (c0.gb q)) ∧ W.cell? ⟨g, (X / 2).toNat, none⟩ = some (.int .i64 Y)) := fun W hW => by
                obtain ⟨t0, t1, t2, t3, t4, t5⟩ := hW.h1.1.rbox
                obtain ⟨a', hA', _, hcs'⟩ := (hW.rm.an) (by omega)
                rw [hA] at hA'
                cases hA'
                obtain ⟨u0, u1, u2⟩ := hcs' q hlt
                rw [hX] at u0
                have v1 := hW.r4.1.cell n1
                rw [show (((X / 2).toNat : Nat) : Int) = X / 2 by omega, hYY.out] at v1
                rw [hA] at t3
                exact ⟨⟨t1, t2, t3⟩, u0, u1, u2, v1⟩
              obtain ⟨aq, hAq, habq, hcq⟩ := (HF.out.m3.an) (show 0 < (c0.ord.length) by rw [(Rw.ord_all HK.out).1]; omega)
              have hE : Hid (∀ W, Bf w W w3.heap.size b7 g mn c0 p0 ⟨Q1, Q2, Q3, Q4, l1, l2, l3, l4⟩ A6 → W.cell? ⟨w3.heap.size, 2, none⟩ = some (.slice (some aq) c0.na l2) ∧ W.cell? (aq.add (gg * 2)) = some (.int .i64 (max (c0.told (c0.ga q)) (c0.told (c0.gb q)))) ∧ W.cell? ⟨(aq.add (gg * 2)).block, (aq.add (gg * 2)).off + 1, none⟩ = some (.int .i64 (min (c0.told (c0.ga q)) (c0.told (c0.gb q))))) := fun W hW => by
                obtain ⟨a', hA', _, hcs'⟩ := (hW.m3.an) (show 0 < (c0.ord.length) by rw [(Rw.ord_all HK.out).1]; omega)
                rw [hAq] at hA'
                cases hA'
                obtain ⟨u0, u1⟩ := hcs' gg (show gg < c0.ord.length by rw [(Rw.ord_all HK.out).1]; omega)
                rw [e3] at u0
                rw [e4] at u1
                have q2 := hW.h3.1.cell 2
                rw [show (Q2 : Option Addr) = some aq from hAq] at q2
                exact ⟨q2, u0, u1⟩
              have HGG := Lib.hid e1
              clear hcs hcq hAq habq hA hab y0 y1 y2 z1 e1 e2 e3 e4 d1 d2 hmn hLL hbg n1 hX ma mb hlt
              go_wp2
              have hQd := HF.out.dn
              refine wp_slots (fun f => Sz f 229 ∧ Slot f 1 (.pointer (some ⟨w.heap.size, 0, none⟩)) ∧ Slot f 4 (.slice (some ⟨g, 0, none⟩) L L) ∧ Slot f 10 (.int .i64 (q : Int))) ⟨⟨rfl, rfl⟩, ⟨rfl⟩, ⟨rfl⟩, ⟨rfl⟩⟩ fun a0' hA0 hR => ?_
              obtain ⟨hZ, hs1, hs4, hs10⟩ := hR
              have HA := Lib.hid hA0
              clear hA0 x0 x1 x2 x3 x4 x5
              have hS0 := HC.out wr.drew hQd
              refine wp_region_T (fun W : World => (W.cell? ⟨w.heap.size, 1, none⟩ = some (.slice p0.A1 c0.ni p0.k1) ∧ W.cell? ⟨w.heap.size, 2, none⟩ = some (.slice p0.A2 c0.nl p0.k2) ∧ W.cell? ⟨w.heap.size, 3, none⟩ = some (.slice (some ad) c0.na p0.k3)) ∧ W.cell? (ad.add (q * 3)) = some (.int .i64 X) ∧ W.cell? ⟨(ad.add (q * 3)).block, (ad.add (q * 3)).off + 1, none⟩ = some (.int .i64 (c0.ga q)) ∧ W.cell? ⟨(ad.add (q * 3)).block, (ad.add (q * 3)).off + 2, none⟩ = some (.int .i64 (c0.gb q)) ∧ W.cell? ⟨g, (X / 2).toNat, none⟩ = some (.int .i64 Y)) 20 (by kernel_rfl) ?_
              refine WT.h ?_
              (refine wt_move 0 4 rfl rfl (by kernel_rfl) (by kernel_rfl) (by kernel_rfl) (by kernel_rfl) (fun _ _ _ h => h) rfl hS0 (by (repeat (first | (refine slot_hit (N := 229) ?_ (by rfl); (repeat (refine sz_put ?_)); assumption; done) | (apply slot_miss; focus rfl))); all_goals assumption) rfl ?_); (refine wt_take1 1 1 (v := ?_) rfl rfl (by kernel_rfl) (by kernel_rfl) (by kernel_rfl) (by kernel_rfl) (fun _ _ _ h => h) rfl hS0 (by (repeat (first | (refine slot_hit (N := 229) ?_ (by rfl); (repeat (refine sz_put ?_)); assumption; done) | (apply slot_miss; focus rfl))); all_goals assumption) (fun ev hk hv0 w hS => ?_) ?_; rotate_left; focus (obtain ⟨⟨j1, j2, j3⟩, k0, k1, k2, k3⟩ := hS; go_simp; rfl)); (refine wt_take1 2 144 (v := ?_) rfl rfl (by kernel_rfl) (by kernel_rfl) (by kernel_rfl) (by kernel_rfl) (fun _ _ _ h => h) rfl hS0 (by (repeat (first | (refine slot_hit (N := 229) ?_ (by rfl); (repeat (refine sz_put ?_)); assumption; done) | (apply slot_miss; focus rfl))); all_goals assumption) (fun ev hk hv0 w hS => ?_) ?_; rotate_left; focus (obtain ⟨⟨j1, j2, j3⟩, k0, k1, k2, k3⟩ := hS; go_simp; rfl)); (refine wt_move 3 10 rfl rfl (by kernel_rfl) (by kernel_rfl) (by kernel_rfl) (by kernel_rfl) (fun _ _ _ h => h) rfl hS0 (by (repeat (first | (refine slot_hit (N := 229) ?_ (by rfl); (repeat (refine sz_put ?_)); assumption; done) | (apply slot_miss; focus rfl))); all_goals assumption) rfl ?_); (refine wt_take2 4 145 146 (v := ?_) rfl rfl (by kernel_rfl) (by kernel_rfl) (by kernel_rfl) (by kernel_rfl) (fun _ _ _ h => h) rfl hS0 (by (repeat (first | (refine slot_hit (N := 229) ?_ (by rfl); (repeat (refine sz_put ?_)); assumption; done) | (apply slot_miss; focus rfl))); all_goals assumption) (by (repeat (first | (refine slot_hit (N := 229) ?_ (by rfl); (repeat (refine sz_put ?_)); assumption; done) | (apply slot_miss; focus rfl))); all_goals assumption) (fun ev hk hv0 hv1 w hS => ?_) ?_; rotate_left; focus (obtain ⟨⟨j1, j2, j3⟩, k0, k1, k2, k3⟩ := hS; go_simp; rfl)); (refine wt_take1 5 147 (v := ?_) rfl rfl (by kernel_rfl) (by kernel_rfl) (by kernel_rfl) (by kernel_rfl) (fun _ _ _ h => h) rfl hS0 (by (repeat (first | (refine slot_hit (N := 229) ?_ (by rfl); (repeat (refine sz_put ?_)); assumption; done) | (apply slot_miss; focus rfl))); all_goals assumption) (fun ev hk hv0 w hS => ?_) ?_; rotate_left; focus (obtain ⟨⟨j1, j2, j3⟩, k0, k1, k2, k3⟩ := hS; go_simp; rfl)); (refine wt_take1 6 148 (v := ?_) rfl rfl (by kernel_rfl) (by kernel_rfl) (by kernel_rfl) (by kernel_rfl) (fun _ _ _ h => h) rfl hS0 (by (repeat (first | (refine slot_hit (N := 229) ?_ (by rfl); (repeat (refine sz_put ?_)); assumption; done) | (apply slot_miss; focus rfl))); all_goals assumption) (fun ev hk hv0 w hS => ?_) ?_; rotate_left; focus (obtain ⟨⟨j1, j2, j3⟩, k0, k1, k2, k3⟩ := hS; go_simp; rfl)); (refine wt_take1 7 149 (v := ?_) rfl rfl (by kernel_rfl) (by kernel_rfl) (by kernel_rfl) (by kernel_rfl) (fun _ _ _ h => h) rfl hS0 (by (repeat (first | (refine slot_hit (N := 229) ?_ (by rfl); (repeat (refine sz_put ?_)); assumption; done) | (apply slot_miss; focus rfl))); all_goals assumption) (fun ev hk hv0 w hS => ?_) ?_; rotate_left; focus (obtain ⟨⟨j1, j2, j3⟩, k0, k1, k2, k3⟩ := hS; go_simp; rfl)); (refine wt_take2 8 143 150 (v := ?_) rfl rfl (by kernel_rfl) (by kernel_rfl) (by kernel_rfl) (by kernel_rfl) (fun _ _ _ h => h) rfl hS0 (by (repeat (first | (refine slot_hit (N := 229) ?_ (by rfl); (repeat (refine sz_put ?_)); assumption; done) | (apply slot_miss; focus rfl))); all_goals assumption) (by (repeat (first | (refine slot_hit (N := 229) ?_ (by rfl); (repeat (refine sz_put ?_)); assumption; done) | (apply slot_miss; focus rfl))); all_goals assumption) (fun ev hk hv0 hv1 w hS => ?_) ?_; rotate_left; focus (obtain ⟨⟨j1, j2, j3⟩, k0, k1, k2, k3⟩ := hS; go_simp; rfl)); (refine wt_take1 9 151 (v := ?_) rfl rfl (by kernel_rfl) (by kernel_rfl) (by kernel_rfl) (by kernel_rfl) (fun _ _ _ h => h) rfl hS0 (by (repeat (first | (refine slot_hit (N := 229) ?_ (by rfl); (repeat (refine sz_put ?_)); assumption; done) | (apply slot_miss; focus rfl))); all_goals assumption) (fun ev hk hv0 w hS => ?_) ?_; rotate_left; focus (obtain ⟨⟨j1, j2, j3⟩, k0, k1, k2, k3⟩ := hS; go_simp; rfl)); (refine wt_take1 10 152 (v := ?_) rfl rfl (by kernel_rfl) (by kernel_rfl) (by kernel_rfl) (by kernel_rfl) (fun _ _ _ h => h) rfl hS0 (by (repeat (first | (refine slot_hit (N := 229) ?_ (by rfl); (repeat (refine sz_put ?_)); assumption; done) | (apply slot_miss; focus rfl))); all_goals assumption) (fun ev hk hv0 w hS => ?_) ?_; rotate_left; focus (obtain ⟨⟨j1, j2, j3⟩, k0, k1, k2, k3⟩ := hS; go_simp; rfl)); (refine wt_take1 11 1 (v := ?_) rfl rfl (by kernel_rfl) (by kernel_rfl) (by kernel_rfl) (by kernel_rfl) (fun _ _ _ h => h) rfl hS0 (by (repeat (first | (refine slot_hit (N := 229) ?_ (by rfl); (repeat (refine sz_put ?_)); assumption; done) | (apply slot_miss; focus rfl))); all_goals assumption) (fun ev hk hv0 w hS => ?_) ?_; rotate_left; focus (obtain ⟨⟨j1, j2, j3⟩, k0, k1, k2, k3⟩ := hS; go_simp; rfl)); (refine wt_take1 12 154 (v := ?_) rfl rfl (by kernel_rfl) (by kernel_rfl) (by kernel_rfl) (by kernel_rfl) (fun _ _ _ h => h) rfl hS0 (by (repeat (first | (refine slot_hit (N := 229) ?_ (by rfl); (repeat (refine sz_put ?_)); assumption; done) | (apply slot_miss; focus rfl))); all_goals assumption) (fun ev hk hv0 w hS => ?_) ?_; rotate_left; focus (obtain ⟨⟨j1, j2, j3⟩, k0, k1, k2, k3⟩ := hS; go_simp; rfl)); (refine wt_take1 13 155 (v := ?_) rfl rfl (by kernel_rfl) (by kernel_rfl) (by kernel_rfl) (by kernel_rfl) (fun _ _ _ h => h) rfl hS0 (by (repeat (first | (refine slot_hit (N := 229) ?_ (by rfl); (repeat (refine sz_put ?_)); assumption; done) | (apply slot_miss; focus rfl))); all_goals assumption) (fun ev hk hv0 w hS => ?_) ?_; rotate_left; focus (obtain ⟨⟨j1, j2, j3⟩, k0, k1, k2, k3⟩ := hS; go_simp; rfl)); (refine wt_take2 14 153 156 (v := ?_) rfl rfl (by kernel_rfl) (by kernel_rfl) (by kernel_rfl) (by kernel_rfl) (fun _ _ _ h => h) rfl hS0 (by (repeat (first | (refine slot_hit (N := 229) ?_ (by rfl); (repeat (refine sz_put ?_)); assumption; done) | (apply slot_miss; focus rfl))); all_goals assumption) (by (repeat (first | (refine slot_hit (N := 229) ?_ (by rfl); (repeat (refine sz_put ?_)); assumption; done) | (apply slot_miss; focus rfl))); all_goals assumption) (fun ev hk hv0 hv1 w hS => ?_) ?_; rotate_left; focus (obtain ⟨⟨j1, j2, j3⟩, k0, k1, k2, k3⟩ := hS; go_simp; rfl)); (refine wt_take1 15 1 (v := ?_) rfl rfl (by kernel_rfl) (by kernel_rfl) (by kernel_rfl) (by kernel_rfl) (fun _ _ _ h => h) rfl hS0 (by (repeat (first | (refine slot_hit (N := 229) ?_ (by rfl); (repeat (refine sz_put ?_)); assumption; done) | (apply slot_miss; focus rfl))); all_goals assumption) (fun ev hk hv0 w hS => ?_) ?_; rotate_left; focus (obtain ⟨⟨j1, j2, j3⟩, k0, k1, k2, k3⟩ := hS; go_simp; rfl)); (refine wt_take1 16 158 (v := ?_) rfl rfl (by kernel_rfl) (by kernel_rfl) (by kernel_rfl) (by kernel_rfl) (fun _ _ _ h => h) rfl hS0 (by (repeat (first | (refine slot_hit (N := 229) ?_ (by rfl); (repeat (refine sz_put ?_)); assumption; done) | (apply slot_miss; focus rfl))); all_goals assumption) (fun ev hk hv0 w hS => ?_) ?_; rotate_left; focus (obtain ⟨⟨j1, j2, j3⟩, k0, k1, k2, k3⟩ := hS; go_simp; rfl)); (refine wt_take1 17 159 (v := ?_) rfl rfl (by kernel_rfl) (by kernel_rfl) (by kernel_rfl) (by kernel_rfl) (fun _ _ _ h => h) rfl hS0 (by (repeat (first | (refine slot_hit (N := 229) ?_ (by rfl); (repeat (refine sz_put ?_)); assumption; done) | (apply slot_miss; focus rfl))); all_goals assumption) (fun ev hk hv0 w hS => ?_) ?_; rotate_left; focus (obtain ⟨⟨j1, j2, j3⟩, k0, k1, k2, k3⟩ := hS; go_simp; rfl)); (refine wt_take2 18 157 160 (v := ?_) rfl rfl (by kernel_rfl) (by kernel_rfl) (by kernel_rfl) (by kernel_rfl) (fun _ _ _ h => h) rfl hS0 (by (repeat (first | (refine slot_hit (N := 229) ?_ (by rfl); (repeat (refine sz_put ?_)); assumption; done) | (apply slot_miss; focus rfl))); all_goals assumption) (by (repeat (first | (refine slot_hit (N := 229) ?_ (by rfl); (repeat (refine sz_put ?_)); assumption; done) | (apply slot_miss; focus rfl))); all_goals assumption) (fun ev hk hv0 hv1 w hS => ?_) ?_; rotate_left; focus (obtain ⟨⟨j1, j2, j3⟩, k0, k1, k2, k3⟩ := hS; go_simp; rfl)); (refine wt_assign 19 161 rfl rfl (by kernel_rfl) (by kernel_rfl) (by kernel_rfl) (by kernel_rfl) (fun _ _ _ h => h) rfl hS0 (by (repeat (first | (refine slot_hit (N := 229) ?_ (by rfl); (repeat (refine sz_put ?_)); assumption; done) | (apply slot_miss; focus rfl))); all_goals assumption) rfl ?_)
              refine wt_done (by kernel_rfl) (NoPanic.normal ?_) _
              have ha := HA.out
              subst ha
              clear hS0 hs1 hs4 hs10 hZ
              have g1' : ¬ (gg : Int) < 0 := by omega
              have g2' : ¬ (c0.na : Int) ≤ (gg : Int) := by have := HGG.out; omega
              have g3' : (0 : Int) ≤ (gg : Int) := by omega
              have g4' : (gg : Int) < (c0.na : Int) := by have := HGG.out; omega
              obtain ⟨q2, q2a, q2b⟩ := hE.out _ hQd
              go_wp2
              have hQe := hQd.dn
              refine wp_slots (fun f => Sz f 229 ∧ Slot f 1 (.pointer (some ⟨w.heap.size, 0, none⟩)) ∧ Slot f 4 (.slice (some ⟨g, 0, none⟩) L L) ∧ Slot f 10 (.int .i64 (q : Int))) ⟨⟨rfl, rfl⟩, ⟨rfl⟩, ⟨rfl⟩, ⟨rfl⟩⟩ fun a0' hA0 hR => ?_
              obtain ⟨hZ, hs1, hs4, hs10⟩ := hR
              have HA := Lib.hid hA0
              clear hA0 q2 q2a q2b
              have hS0 := HC.out wr.drew.drew hQe
              refine wp_region_T (fun W : World => (W.cell? ⟨w.heap.size, 1, none⟩ = some (.slice p0.A1 c0.ni p0.k1) ∧ W.cell? ⟨w.heap.size, 2, none⟩ = some (.slice p0.A2 c0.nl p0.k2) ∧ W.cell? ⟨w.heap.size, 3, none⟩ = some (.slice (some ad) c0.na p0.k3)) ∧ W.cell? (ad.add (q * 3)) = some (.int .i64 X) ∧ W.cell? ⟨(ad.add (q * 3)).block, (ad.add (q * 3)).off + 1, none⟩ = some (.int .i64 (c0.ga q)) ∧ W.cell? ⟨(ad.add (q * 3)).block, (ad.add (q * 3)).off + 2, none⟩ = some (.int .i64 (c0.gb q)) ∧ W.cell? ⟨g, (X / 2).toNat, none⟩ = some (.int .i64 Y)) 18 (by kernel_rfl) ?_
              refine WT.h ?_
              (refine wt_move 0 4 rfl rfl (by kernel_rfl) (by kernel_rfl) (by kernel_rfl) (by kernel_rfl) (fun _ _ _ h => h) rfl hS0 (by (repeat (first | (refine slot_hit (N := 229) ?_ (by rfl); (repeat (refine sz_put ?_)); assumption; done) | (apply slot_miss; focus rfl))); all_goals assumption) rfl ?_); (refine wt_take1 1 1 (v := ?_) rfl rfl (by kernel_rfl) (by kernel_rfl) (by kernel_rfl) (by kernel_rfl) (fun _ _ _ h => h) rfl hS0 (by (repeat (first | (refine slot_hit (N := 229) ?_ (by rfl); (repeat (refine sz_put ?_)); assumption; done) | (apply slot_miss; focus rfl))); all_goals assumption) (fun ev hk hv0 w hS => ?_) ?_; rotate_left; focus (obtain ⟨⟨j1, j2, j3⟩, k0, k1, k2, k3⟩ := hS; go_simp; rfl)); (refine wt_take1 2 172 (v := ?_) rfl rfl (by kernel_rfl) (by kernel_rfl) (by kernel_rfl) (by kernel_rfl) (fun _ _ _ h => h) rfl hS0 (by (repeat (first | (refine slot_hit (N := 229) ?_ (by rfl); (repeat (refine sz_put ?_)); assumption; done) | (apply slot_miss; focus rfl))); all_goals assumption) (fun ev hk hv0 w hS => ?_) ?_; rotate_left; focus (obtain ⟨⟨j1, j2, j3⟩, k0, k1, k2, k3⟩ := hS; go_simp; rfl)); (refine wt_move 3 10 rfl rfl (by kernel_rfl) (by kernel_rfl) (by kernel_rfl) (by kernel_rfl) (fun _ _ _ h => h) rfl hS0 (by (repeat (first | (refine slot_hit (N := 229) ?_ (by rfl); (repeat (refine sz_put ?_)); assumption; done) | (apply slot_miss; focus rfl))); all_goals assumption) rfl ?_); (refine wt_take2 4 173 174 (v := ?_) rfl rfl (by kernel_rfl) (by kernel_rfl) (by kernel_rfl) (by kernel_rfl) (fun _ _ _ h => h) rfl hS0 (by (repeat (first | (refine slot_hit (N := 229) ?_ (by rfl); (repeat (refine sz_put ?_)); assumption; done) | (apply slot_miss; focus rfl))); all_goals assumption) (by (repeat (first | (refine slot_hit (N := 229) ?_ (by rfl); (repeat (refine sz_put ?_)); assumption; done) | (apply slot_miss; focus rfl))); all_goals assumption) (fun ev hk hv0 hv1 w hS => ?_) ?_; rotate_left; focus (obtain ⟨⟨j1, j2, j3⟩, k0, k1, k2, k3⟩ := hS; go_simp; rfl)); (refine wt_take1 5 175 (v := ?_) rfl rfl (by kernel_rfl) (by kernel_rfl) (by kernel_rfl) (by kernel_rfl) (fun _ _ _ h => h) rfl hS0 (by (repeat (first | (refine slot_hit (N := 229) ?_ (by rfl); (repeat (refine sz_put ?_)); assumption; done) | (apply slot_miss; focus rfl))); all_goals assumption) (fun ev hk hv0 w hS => ?_) ?_; rotate_left; focus (obtain ⟨⟨j1, j2, j3⟩, k0, k1, k2, k3⟩ := hS; go_simp; rfl)); (refine wt_take1 6 176 (v := ?_) rfl rfl (by kernel_rfl) (by kernel_rfl) (by kernel_rfl) (by kernel_rfl) (fun _ _ _ h => h) rfl hS0 (by (repeat (first | (refine slot_hit (N := 229) ?_ (by rfl); (repeat (refine sz_put ?_)); assumption; done) | (apply slot_miss; focus rfl))); all_goals assumption) (fun ev hk hv0 w hS => ?_) ?_; rotate_left; focus (obtain ⟨⟨j1, j2, j3⟩, k0, k1, k2, k3⟩ := hS; go_simp; rfl)); (refine wt_move 8 4 rfl rfl (by kernel_rfl) (by kernel_rfl) (by kernel_rfl) (by kernel_rfl) (fun _ _ _ h => h) rfl hS0 (by (repeat (first | (refine slot_hit (N := 229) ?_ (by rfl); (repeat (refine sz_put ?_)); assumption; done) | (apply slot_miss; focus rfl))); all_goals assumption) rfl ?_); (refine wt_take1 9 1 (v := ?_) rfl rfl (by kernel_rfl) (by kernel_rfl) (by kernel_rfl) (by kernel_rfl) (fun _ _ _ h => h) rfl hS0 (by (repeat (first | (refine slot_hit (N := 229) ?_ (by rfl); (repeat (refine sz_put ?_)); assumption; done) | (apply slot_miss; focus rfl))); all_goals assumption) (fun ev hk hv0 w hS => ?_) ?_; rotate_left; focus (obtain ⟨⟨j1, j2, j3⟩, k0, k1, k2, k3⟩ := hS; go_simp; rfl)); (refine wt_take1 10 180 (v := ?_) rfl rfl (by kernel_rfl) (by kernel_rfl) (by kernel_rfl) (by kernel_rfl) (fun _ _ _ h => h) rfl hS0 (by (repeat (first | (refine slot_hit (N := 229) ?_ (by rfl); (repeat (refine sz_put ?_)); assumption; done) | (apply slot_miss; focus rfl))); all_goals assumption) (fun ev hk hv0 w hS => ?_) ?_; rotate_left; focus (obtain ⟨⟨j1, j2, j3⟩, k0, k1, k2, k3⟩ := hS; go_simp; rfl)); (refine wt_move 11 10 rfl rfl (by kernel_rfl) (by kernel_rfl) (by kernel_rfl) (by kernel_rfl) (fun _ _ _ h => h) rfl hS0 (by (repeat (first | (refine slot_hit (N := 229) ?_ (by rfl); (repeat (refine sz_put ?_)); assumption; done) | (apply slot_miss; focus rfl))); all_goals assumption) rfl ?_); (refine wt_take2 12 181 182 (v := ?_) rfl rfl (by kernel_rfl) (by kernel_rfl) (by kernel_rfl) (by kernel_rfl) (fun _ _ _ h => h) rfl hS0 (by (repeat (first | (refine slot_hit (N := 229) ?_ (by rfl); (repeat (refine sz_put ?_)); assumption; done) | (apply slot_miss; focus rfl))); all_goals assumption) (by (repeat (first | (refine slot_hit (N := 229) ?_ (by rfl); (repeat (refine sz_put ?_)); assumption; done) | (apply slot_miss; focus rfl))); all_goals assumption) (fun ev hk hv0 hv1 w hS => ?_) ?_; rotate_left; focus (obtain ⟨⟨j1, j2, j3⟩, k0, k1, k2, k3⟩ := hS; go_simp; rfl)); (refine wt_take1 13 183 (v := ?_) rfl rfl (by kernel_rfl) (by kernel_rfl) (by kernel_rfl) (by kernel_rfl) (fun _ _ _ h => h) rfl hS0 (by (repeat (first | (refine slot_hit (N := 229) ?_ (by rfl); (repeat (refine sz_put ?_)); assumption; done) | (apply slot_miss; focus rfl))); all_goals assumption) (fun ev hk hv0 w hS => ?_) ?_; rotate_left; focus (obtain ⟨⟨j1, j2, j3⟩, k0, k1, k2, k3⟩ := hS; go_simp; rfl)); (refine wt_take1 14 184 (v := ?_) rfl rfl (by kernel_rfl) (by kernel_rfl) (by kernel_rfl) (by kernel_rfl) (fun _ _ _ h => h) rfl hS0 (by (repeat (first | (refine slot_hit (N := 229) ?_ (by rfl); (repeat (refine sz_put ?_)); assumption; done) | (apply slot_miss; focus rfl))); all_goals assumption) (fun ev hk hv0 w hS => ?_) ?_; rotate_left; focus (obtain ⟨⟨j1, j2, j3⟩, k0, k1, k2, k3⟩ := hS; go_simp; rfl))
              refine wt_one 7 (by kernel_rfl) ?_
              refine wb_call2 7 171 177 rfl rfl rfl (by (repeat (first | (refine slot_hit (N := 229) ?_ (by rfl); (repeat (refine sz_put ?_)); assumption; done) | (apply slot_miss; focus rfl))); all_goals assumption) (by (repeat (first | (refine slot_hit (N := 229) ?_ (by rfl); (repeat (refine sz_put ?_)); assumption; done) | (apply slot_miss; focus rfl))); all_goals assumption) (f := ?_) (args := ?_) (fun ev hk hkf hv0 hv1 => ?_) ?_
              rotate_left 2
              focus (go_simp; first | rfl | (constructor <;> rfl))
              (with_reducible refine (TA.out _ hQe).mono ?_)
              rintro e Va ⟨rfl, hba⟩
              have hQa := hQe.call hba
              clear hS0
              have hS0 := HC.out Va hQa
              refine ⟨_, rfl, fun _ => hS0, ?_⟩
              refine wt_one 15 (by kernel_rfl) ?_
              refine wb_call2 15 179 185 rfl rfl rfl (by (repeat (first | (refine slot_hit (N := 229) ?_ (by rfl); (repeat (refine sz_put ?_)); assumption; done) | (apply slot_miss; focus rfl))); all_goals assumption) (by (repeat (first | (refine slot_hit (N := 229) ?_ (by rfl); (repeat (refine sz_put ?_)); assumption; done) | (apply slot_miss; focus rfl))); all_goals assumption) (f := ?_) (args := ?_) (fun ev hk hkf hv0 hv1 => ?_) ?_
              rotate_left 2
              focus (go_simp; first | rfl | (constructor <;> rfl))
              (with_reducible refine (TB.out _ hQa).mono ?_)
              rintro e Vb ⟨rfl, hbb⟩
              have hQb := hQa.call hbb
              clear hS0
              have hS0 := HC.out Vb hQb
              refine ⟨_, rfl, fun _ => hS0, ?_⟩
              (refine wt_assign 16 178 rfl rfl (by kernel_rfl) (by kernel_rfl) (by kernel_rfl) (by kernel_rfl) (fun _ _ _ h => h) rfl hS0 (by (repeat (first | (refine slot_hit (N := 229) ?_ (by rfl); (repeat (refine sz_put ?_)); assumption; done) | (apply slot_miss; focus rfl))); all_goals assumption) rfl ?_); (refine wt_assign 17 186 rfl rfl (by kernel_rfl) (by kernel_rfl) (by kernel_rfl) (by kernel_rfl) (fun _ _ _ h => h) rfl hS0 (by (repeat (first | (refine slot_hit (N := 229) ?_ (by rfl); (repeat (refine sz_put ?_)); assumption; done) | (apply slot_miss; focus rfl))); all_goals assumption) rfl ?_)
              refine wt_done (by kernel_rfl) (NoPanic.normal ?_) _
              have ha := HA.out
              subst ha
              have HQb := Lib.hid hQb
              obtain ⟨q2, q2a, q2b⟩ := hE.out _ hQb
              clear hS0 hs1 hs4 hs10 hZ hQb hQa hQe hQd hba hbb
              go_wp2
              go_roundw
              case rel => exact ⟨q + 1, by omega, by go_num, HQb.out⟩
              case measure => simp [intOf]; omega
            · have hq1 : ¬ (q : Int) < (c0.na : Int) := by omega
              clear hlt hq
              go_wp2
              go_loopw [14] (fun i wr => ∃ q : Nat, q ≤ c0.nl ∧ i = .int .i64 (q : Int) ∧ Bf w wr w3.heap.size b7 g mn c0 p0 ⟨Q1, Q2, Q3, Q4, l1, l2, l3, l4⟩ A6) (fun i _ => c0.nl - (intOf i).toNat)
              case atStart => exact ⟨0, Nat.zero_le _, rfl, HF.out⟩
              case round =>
                clear hq1 HF x0 x1 x2 x3 x4 x5
                obtain ⟨q, hq, rfl, hF⟩ := hrel
                have HF := Lib.hid hF
                clear hF
                obtain ⟨x0, x1, x2, x3, x4, x5⟩ := HF.out.h1.1.rbox
                by_cases hlt : q < c0.nl
                · have hq0 : (0 : Int) ≤ (q : Int) := by omega
                  have hq1 : (q : Int) < (c0.nl : Int) := by omega
                  obtain ⟨ad, hA, hab, hcs⟩ := (HF.out.rm.la) (by omega)
                  have ma : c0.la q ∈ c0.uL := by unfold Rw.uL; simp only [List.mem_append]; exact Or.inl (Or.inr (mem_lst.2 ⟨q, hlt, rfl⟩))
                  obtain ⟨V, hV⟩ : ∃ V, c0.told (c0.la q) = V := ⟨_, rfl⟩
                  obtain ⟨U, hU⟩ : ∃ U, c0.lb q = U := ⟨_, rfl⟩
                  obtain ⟨Z, hZZ⟩ : ∃ Z, c0.la q = Z := ⟨_, rfl⟩
                  have TA : Hid (∀ W, Bf w W w3.heap.size b7 g mn c0 p0 ⟨Q1, Q2, Q3, Q4, l1, l2, l3, l4⟩ A6 → Calls Try.prog 23 #[.slice (some ⟨g, 0, none⟩) L L, .int .i64 Z] W fun e w' => e = .returned (.int .i64 V) ∧ Below W.heap.size W w') := fun W hW => by
                    have := TO.out W g _ (by have := hW.r4.1; rwa [HL.out] at this) ma
                    rw [hV] at this; rw [hZZ] at this
                    exact this
                  obtain ⟨aq, hAq, habq, hcq⟩ := (HF.out.m3.la) (show 0 < c0.nl by omega)
                  rw [hA] at x2
                  have HC : Hid (∀ W, Bf w W w3.heap.size b7 g mn c0 p0 ⟨Q1, Q2, Q3, Q4, l1, l2, l3, l4⟩ A6 → W.cell? ⟨w.heap.size, 2, none⟩ = some (.slice (some ad) c0.nl p0.k2) ∧ W.cell? ⟨(ad.add (q * 3)).block, (ad.add (q * 3)).off + 1, none⟩ = some (.int .i64 Z) ∧ W.cell? ⟨(ad.add (q * 3)).block, (ad.add (q * 3)).off + 2, none⟩ = some (.int .i64 U) ∧ W.cell? ⟨w3.heap.size, 1, none⟩ = some (.slice (some aq) c0.nl l1) ∧ W.cell? (aq.add (q * 2)) = some (.int .i64 V) ∧ W.cell? ⟨(aq.add (q * 2)).block, (aq.add (q * 2)).off + 1, none⟩ = some (.int .i64 U)) := fun W hW => by
                    obtain ⟨t0, t1, t2, t3, t4, t5⟩ := hW.h1.1.rbox
                    obtain ⟨a', hA', _, hcs'⟩ := (hW.rm.la) (by omega)
                    rw [hA] at hA'
                    cases hA'
                    obtain ⟨u0, u1, u2⟩ := hcs' q hlt
                    obtain ⟨a2, hA2, _, hcs2⟩ := (hW.m3.la) (show 0 < c0.nl by omega)
                    rw [hAq] at hA2
                    cases hA2
                    obtain ⟨v0, v1⟩ := hcs2 q hlt
                    rw [show c0.cir.cut.nx q = c0.told (c0.la q) from cut_if hlt, hV] at v0
                    rw [show c0.cir.cut.rs q = c0.lb q from cut_if hlt, hU] at v1
                    have q1 := hW.h3.1.cell 1
                    rw [show (Q1 : Option Addr) = some aq from hAq] at q1
                    rw [hA] at t2
                    rw [hZZ] at u1
                    rw [hU] at u2
                    exact ⟨t2, u1, u2, q1, v0, v1⟩
                  have TQ : Hid (∀ n, Calls Try.prog 23 #[.slice (some ⟨g, 0, none⟩) L L, .int .i64 Z] (wr.drewN n) fun e w' => e = .returned (.int .i64 V) ∧ wr.drewN n = w') := fun n => by
                    have h1 : (wr.drewN n).rowIs g 3 (mn + 1) (fun v => .int .i64 (c0.nw (v : Int))) := HF.out.r4.1
                    have := told_same c0 mn g (wr.drewN n) HK.out HMN.out h1 ma
                    rw [hV, HL.out] at this
                    rw [hZZ] at this
                    exact this
                  obtain ⟨t2, u1, u2, t1, v0, v1⟩ := HC.out wr HF.out
                  clear hcs hcq hAq habq hA hab ma hlt hV hU hZZ TA HC x2
                  go_wp2
                  go_quiet ((go_at_call 23; (with_reducible exact qs (TQ.out _))))
                  clear t2 u1 u2 t1 v0 v1
                  go_wp2
                  go_roundw
                  case rel => exact ⟨q + 1, by omega, by go_num, HF.out.call (below_dn (Below.refl _ _) _)⟩
                  case measure => simp [intOf]; omega
                · have hq1 : ¬ (q : Int) < (c0.nl : Int) := by omega
                  have hBz := HF.out.B
                  clear hlt hq
                  go_wp2_with (go_at_call 15; (with_reducible refine (AL.out _).mono ?_); rintro e w9 ⟨rfl, hb9⟩; have hB9 := Below.step hBz hBz.size hb9)
                  go_ret
                  exact ⟨rfl, hB9⟩
    · have hk' : (c0.chk != 0) = true := by simpa using hk
      have K0 : Hid (∀ W, Below w.heap.size w W → Calls Try.prog 19 #[rv c0 p0] W fun e w' => e = .returned (.int .i64 c0.chk) ∧ Below W.heap.size W w') := fun W hb => oRCheck_any c0 p0 W HS.out (HM.out.to hb hb.size) HN.out
      clear hk hg hv0 hm0 hN0 hC0 hs
      go_enter Try.func5, Try.ntmps5
      go_wp2_with (go_at_call 16; (with_reducible refine (G0.out _).mono ?_); rintro e w1 ⟨rfl, hb1⟩; have hB1 : Below w.heap.size w w1 := Below.step (by go_grown) (by go_size) hb1; have hA1 : Has w1 w.heap.size 32 (rc c0 p0) := (Has.new w 32 (rc c0 p0)).keep hb1 (by simp); obtain ⟨x0, x1, x2, x3, x4, x5⟩ := hA1.rbox)
      go_wp2_with (go_at_call 19; (with_reducible refine (K0.out _ hB1).mono ?_); rintro e w2 ⟨rfl, hb2⟩; have hB2 := Below.step hB1 hB1.size hb2)
      go_wp2_with (go_at_call 15; (with_reducible refine (AL.out _).mono ?_); rintro e w3 ⟨rfl, hb3⟩; have hB3 := Below.step hB2 hB2.size hb3)
      go_ret
      exact ⟨rfl, hB3⟩
  · go_enter Try.func5, Try.ntmps5
    go_wp2_with (go_at_call 16; refine (oGreat_any c0 p0 _).mono ?_; rintro e w1 ⟨rfl, hb1⟩; have hB1 : Below w.heap.size w w1 := Below.step (by go_grown) (by go_size) hb1; have hA1 : Has w1 w.heap.size 32 (rc c0 p0) := (Has.new w 32 (rc c0 p0)).keep hb1 (by simp); obtain ⟨x0, x1, x2, x3, x4, x5⟩ := hA1.rbox)
    go_wp2_with (go_at_call 15; (with_reducible refine (AL.out _).mono ?_); rintro e w2 ⟨rfl, hb2⟩; have hB2 := Below.step hB1 hB1.size hb2)
    go_ret
    exact ⟨rfl, hB2⟩

set_option maxRecDepth 100000 in
theorem lifted (os : Os) (started : os.Started) (H : Type) (enc : TypeId × Value → H) :
    ReturnsInHanded {} Try.checked os 5 .any (Rows.orderBeforeSpec.pre6 enc Try.prog Try.f5 Rows.orderBeforeRow.domain false) (Rows.orderBeforeSpec.post enc Try.prog Try.f5 false true false false) := by
  refine returnsInHanded_of_change (C := Try.checked) own started (by kernel_rfl) Try.func5
    (ChangeSpec.witness6 (enc := enc) (C := Try.checked) false ⟨#[], #[.agg #[.int .i64 0, .slice none 0 0, .slice none 0 0, .slice none 0 0, .slice none 0 0, .slice none 0 0]], []⟩ 12 (by kernel_rfl) (by kernel_rfl) (by kernel_rfl) (by kernel_rfl)) ?_
  intro W base args ds gs before hval0 hW hcnd _
  have hval : ∀ (j : Nat) t v, Try.f5.params[j]? = some t → args[j]? = some v → Value.okWide Try.prog W .any base t v := hval0
  have hW' := hW
  have hlt : ∀ x ∈ before, x.block < W.heap.size := fun x hx => by simpa using hW'.lt x hx
  obtain ⟨p, q, hA0, hV, rfl, hfz, hnd⟩ := hW
  have hA : DataW.TrodAll enc Try.prog W 0 (fun _ => true) true Try.f5.params.toList args.toList ds p := hA0
  rw [Try.params5] at hA hval
  obtain ⟨v0, vs0, d0, ds0, b0, q0, hargs, rfl, rfl, h0, r0⟩ := trodAll_cons hA
  obtain ⟨rfl, rfl, rfl⟩ := trodAll_nil r0
  obtain rfl : args = #[v0] := by cases args; simp_all
  obtain ⟨rfl, rfl⟩ := trodVars_none hV
  obtain ⟨c0, p0, rfl, hm0, hN0, hv0, hC0⟩ := open_raw (hval 0 32 v0 rfl rfl) h0
  have hlo : laidOutB Try.prog = true := by kernel_rfl
  clear hA0 hval0
  simp only [List.append_nil] at hW' hlt
  refine (walk c0 p0 W hm0 hN0 hv0 hC0).mono fun e W' ⟨he, hb⟩ => ?_
  subst he
  have hback := (trodAll_cons_mk (arg_back (W' := W') hlo (by kernel_rfl) (of_decide_eq_true (by kernel_rfl)) h0 hb (fun x hx => hlt x (by simp [hx]))) trodAll_mk0)
  simp only [List.append_nil, List.nil_append] at hback
  exact ⟨_, rfl, law_post hW' (trodAll_cons_mk (shut_bool Try.underlying4 _) trodAll_mk0) hback rfl hb⟩

theorem over : Rows.orderBeforeRow.holds Try.pinned (OpenSpec.ofChange Rows.orderBeforeSpec) :=
  OpenClaim.holds_of_wide 5 Try.f5 rfl rfl rfl rfl rfl rfl rfl ⟨rfl, rfl, rfl, rfl, rfl⟩ rfl rfl rfl rfl rfl (by kernel_rfl) Try.func5 (by kernel_rfl)
    (of_decide_eq_true (by kernel_rfl)) (by unfold Func.isWrapper; first | (rw [if_pos (by decide +kernel)]; kernel_rfl) | (rw [if_neg (by decide +kernel)]; exact ⟨rfl, rfl⟩))
    (fun os started H enc _ => lifted os started H enc)

theorem proved : Rows.OrderBeforeSaid :=
  over
end Go.Proofs.Ytpdfdbnmohippaa.orderBefore
