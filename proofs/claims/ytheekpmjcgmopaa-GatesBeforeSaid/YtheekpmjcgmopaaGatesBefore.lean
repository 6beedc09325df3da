/- For all circuits that are not great and all literals: in a valid circuit both parts of a gate have lesser variables, and the greatest variable of a cone is that of its literal. No conditions. -/
import Derived.Test.YtheekpmjcgmopaaGatesFrame
import Derived.Test.YtheekpmjcgmopaaGatesMath
import Derived.Test.YtheekpmjcgmopaaGatesKind
import Derived.Test.YtheekpmjcgmopaaGatesAlive
import Derived.Test.YtheekpmjcgmopaaGatesRef2
namespace Go.Proofs.Ytheekpmjcgmopaa.gatesBefore
open Go.ChangeShapes Go.WideShapes Go.ChangeAt Go.RowKit
set_option linter.unusedVariables false
set_option linter.unusedSimpArgs false

/-- Cone, by its numbers alone -/
theorem cone_out {c : Cr} {l : Int} (h : ConeOk c l) (hs : Sm c) : ∃ (n : Nat) (f : Nat → Int), (∀ p w, Mem w w.heap.size c p → Calls Try.prog 13 #[cv c p, .int .i64 l] w fun e w' => ∃ A k, e = .returned (.tuple #[.slice A n k, .int .i64 0]) ∧ IntsAt w' w'.heap.size A n f ∧ Below w.heap.size w w') ∧
    0 < n ∧ n ≤ 10000 ∧ f (n - 1) = l / 2 ∧ (∀ i j, i < j → j < n → f i < f j) ∧ ∀ j, j < n → 1 ≤ f j ∧ f j ≤ c.sz :=
  ⟨(c.cL l).length, fun j => (c.cL l).getD j 0, fun p w hm => (gCone_out c p l w hm hs).mono fun e w' ⟨A, k, he, hi, hb⟩ => ⟨A, k, by rw [he, h.err], hi, hb⟩, h.pos, Cr.cone_len c l hs, h.last, h.inc, fun j hj => ⟨(h.mem j hj).1, (h.mem j hj).2.1⟩⟩
theorem kind_at {c : Cr} {v k x : Int} (h : c.kd v = (k, x, 0)) (p : Pl) (w : World) (hm : Mem w w.heap.size c p) (hs : Sm c) (hv : v ≤ 9223372036854775807) : Calls Try.prog 12 #[cv c p, .int .i64 v] w fun e w' => e = .returned (.tuple #[.int .i64 k, .int .i64 x, .int .i64 0]) ∧ Below w.heap.size w w' := by
  have := gKind_any c p v w hm hs hv
  rwa [h] at this

theorem own : ownKnob Try.prog.godebug = none := by kernel_rfl

set_option maxRecDepth 100000 in
set_option maxHeartbeats 4000000 in
theorem walk (c0 : Cr) (p0 : Pl) (a1 : Int) (w : World) (hm0 : Mem w w.heap.size c0 p0) (hN0 : Nils c0 p0) (hv0 : Vals c0) (w1 : (Lit.int .i64 a1).wf = true) :
    Calls Try.prog 6 #[cv c0 p0, .int .i64 a1] w fun e w' => e = .returned (.bool true) ∧ Below w.heap.size w w' := by
  have hv1 := (i64_of w1)
  unfold I64 at hv1
  have hB0 : Below w.heap.size w w := Below.refl _ _
  cases hg : c0.gr
  · have hgr := Cr.gr_no hg
    have hs : Sm c0 := hv0.sm (by omega) (by omega) (by omega) (by omega)
    have g1 := hs.nl
    have g2 := hs.na
    cases h : (c0.chk == 0)
    · have h' : (c0.chk != 0) = true := by simp [bne, h]
      go_enter Try.func6, Try.ntmps6
      go_wp2_with (first
        | (go_at_call 17; refine (rGreat_any c0 p0 _).mono ?_; rintro e w1 ⟨rfl, hb1⟩; obtain ⟨hc1, hf1⟩ := bcell hb1; have hz1 : w.heap.size < w1.heap.size := (by have := hb1.size; (try simp at this); omega); have hB1 : Below w.heap.size w w1 := Below.step (by go_grown) (by go_size) hb1)
        | (go_at_call 21; refine (rCheck_any c0 p0 _ (hm0.to hB1 hB1.size) hs).mono ?_; rintro e w2 ⟨rfl, hb2⟩; have hB2 := Below.step hB1 hB1.size hb2)
        | (go_at_call 16; refine (alive_any _).mono ?_; rintro e w3 ⟨rfl, hb3⟩; have hB3 := Below.step hB2 hB2.size hb3))
      go_ret
      exact ⟨rfl, hB3⟩
    · have h' : (c0.chk != 0) = false := by simp [bne, h]
      have hb := Cr.chk_i h hs
      have hk0 : c0.chk = 0 := by simpa using h
      have hc3 : a1 < 2 ∨ (2 ≤ a1 ∧ c0.sz < a1 / 2) ∨ (2 ≤ a1 ∧ a1 / 2 ≤ c0.sz) := by omega
      have HK := Lib.hid hk0
      clear hk0
      rcases hc3 with hc3 | ⟨hc3, hc4⟩ | ⟨hc3, hc4⟩
      case inl =>
        go_enter Try.func6, Try.ntmps6
        go_wp2_with (first
          | (go_at_call 17; refine (rGreat_any c0 p0 _).mono ?_; rintro e w1 ⟨rfl, hb1⟩; obtain ⟨hc1, hf1⟩ := bcell hb1; have hz1 : w.heap.size < w1.heap.size := (by have := hb1.size; (try simp at this); omega); have hB1 : Below w.heap.size w w1 := Below.step (by go_grown) (by go_size) hb1)
          | (go_at_call 21; refine (rCheck_any c0 p0 _ (hm0.to hB1 hB1.size) hs).mono ?_; rintro e w2 ⟨rfl, hb2⟩; have hB2 := Below.step hB1 hB1.size hb2)
          | (go_at_call 16; refine (alive_any _).mono ?_; rintro e w3 ⟨rfl, hb3⟩; have hB3 := Below.step hB2 hB2.size hb3))
        go_ret
        exact ⟨rfl, hB3⟩
      case inr.inl =>
        go_enter Try.func6, Try.ntmps6
        go_wp2_with (first
          | (go_at_call 17; refine (rGreat_any c0 p0 _).mono ?_; rintro e w1 ⟨rfl, hb1⟩; obtain ⟨hc1, hf1⟩ := bcell hb1; have hz1 : w.heap.size < w1.heap.size := (by have := hb1.size; (try simp at this); omega); have hB1 : Below w.heap.size w w1 := Below.step (by go_grown) (by go_size) hb1)
          | (go_at_call 21; refine (rCheck_any c0 p0 _ (hm0.to hB1 hB1.size) hs).mono ?_; rintro e w2 ⟨rfl, hb2⟩; obtain ⟨hc2, hf2⟩ := bcell hb2; have hz2 : w.heap.size < w2.heap.size := (by have := hb2.size; omega); have hB2 := Below.step hB1 hB1.size hb2)
          | (go_at_call 26; refine (rSize_any c0 p0 _ hb.1 hb.2.1 g1 g2).mono ?_; rintro e w2 ⟨rfl, hb3⟩; have hB2 := Below.step hB2 hB2.size hb3)
          | (go_at_call 16; refine (alive_any _).mono ?_; rintro e w3 ⟨rfl, hb3⟩; have hB3 := Below.step hB2 hB2.size hb3))
        go_ret
        exact ⟨rfl, hB3⟩
      case inr.inr =>
        obtain ⟨n, f, hout, npos, nle, nlast, ninc, nmem⟩ := cone_out (cone_ok HK.out hc3 hc4) hs
        have HO := Lib.hid hout
        have NL := Lib.hid nlast
        have NI := Lib.hid ninc
        have NM := Lib.hid nmem
        clear hout nlast ninc nmem
        have hn0 : ((n : Int) == 0) = false := by simp; omega
        go_enter Try.func6, Try.ntmps6
        go_wp2_with (first
          | (go_at_call 17; refine (rGreat_any c0 p0 _).mono ?_; rintro e w1 ⟨rfl, hb1⟩; obtain ⟨hc1, hf1⟩ := bcell hb1; have hz1 : w.heap.size < w1.heap.size := (by have := hb1.size; (try simp at this); omega); have hB1 : Below w.heap.size w w1 := Below.step (by go_grown) (by go_size) hb1; have hA1 : Has w1 w.heap.size 26 (cc c0 p0) := (Has.new _ _ _).keep hb1 (by go_size))
          | (go_at_call 21; refine (rCheck_any c0 p0 _ (hm0.to hB1 hB1.size) hs).mono ?_; rintro e w2 ⟨rfl, hb2⟩; obtain ⟨hc2, hf2⟩ := bcell hb2; have hz2 : w.heap.size < w2.heap.size := (by have := hb2.size; omega); have hB2 := Below.step hB1 hB1.size hb2; have hA2 := hA1.keep hb2 hA1.lt)
          | (go_at_call 26; refine (rSize_any c0 p0 _ hb.1 hb.2.1 g1 g2).mono ?_; rintro e w3 ⟨rfl, hb3⟩; obtain ⟨hc3, hf3⟩ := bcell hb3; have hz3 : w.heap.size < w3.heap.size := (by have := hb3.size; omega); have hB3 := Below.step hB2 hB2.size hb3; have hA3 := hA2.keep hb3 hA2.lt)
          | (go_at_call 13; refine (HO.out p0 _ (hm0.to hB3 hB3.size)).mono ?_; rintro e w4 ⟨A4, k4, rfl, hi4, hb4⟩; obtain ⟨ad, rfl, had, hcs⟩ := hi4 npos; have hB4 := Below.step hB3 hB3.size hb4; have hA4 := hA3.keep hb4 hA3.lt; have z4 := hcs (n - 1) (by omega); rw [NL.out] at z4; have HC := Lib.hid hcs; clear hcs))
        clear hc1 hf1 hc2 hf2 hc3 hf3 hb1 hb2 hb3 hb4 z4 hA1 hA2 hA3 hB1 hB2 hB3 hz1 hz2 hz3 h h' hn0 HO
        go_loopw [7] (fun i wr => ∃ q : Nat, q ≤ n ∧ i = .int .i64 q ∧ Below w.heap.size w wr ∧ Below w4.heap.size w4 wr ∧ Has wr w.heap.size 26 (cc c0 p0)) (fun i _ => n - (intOf i).toNat)
        case atStart => exact ⟨0, Nat.zero_le _, rfl, hB4, Below.refl _ _, hA4⟩
        case round =>
          obtain ⟨q, hq, rfl, hBr, hDr, hHr⟩ := hrel
          by_cases hlt : q < n
          · obtain ⟨m1, m2⟩ := NM.out q hlt
            have y := (hDr.cell (by rw [add_block]; exact had)).trans (HC.out q hlt)
            have mq : (q : Int) < n := by omega
            have hinc : 0 < q → f (q - 1) < f q := fun h0 => NI.out (q - 1) q (by omega) hlt
            have hpre : 0 < q → wr.cell? (ad.add (q - 1)) = some (.int .i64 (f (q - 1))) := fun h0 => (hDr.cell (by rw [add_block]; exact had)).trans (HC.out (q - 1) (by omega))
            have HS : Hid (∀ w', Below wr.heap.size wr w' → Below wr.heap.size wr w' ∧ w'.cell? ⟨w.heap.size, 0, none⟩ = some (.int .i64 c0.i) ∧ w'.cell? ⟨w.heap.size, 1, none⟩ = some (.slice p0.A1 c0.nl p0.k1) ∧ w'.cell? ⟨w.heap.size, 2, none⟩ = some (.slice p0.A2 c0.na p0.k2) ∧ w'.cell? ⟨w.heap.size, 3, none⟩ = some (.slice p0.A3 c0.nb p0.k3) ∧ w'.cell? ⟨w.heap.size, 4, none⟩ = some (.slice p0.A4 c0.nc p0.k4) ∧ w'.cell? (ad.add q) = some (.int .i64 (f q))) := fun w' hb' => by
              have h1 := hHr.keep hb' hHr.lt
              exact ⟨hb', h1.cell 0, h1.cell 1, h1.cell 2, h1.cell 3, h1.cell 4, (hb'.cell (by rw [add_block]; have := hDr.size; omega)).trans y⟩
            have hsz : c0.sz = c0.i + c0.nl + c0.na := rfl
            have hkd : (∃ x, Hid (c0.kd (f q) = (1, x, 0))) ∨ (∃ x, Hid (c0.kd (f q) = (2, x, 0))) ∨ (∃ j : Nat, j < c0.na ∧ Hid (c0.kd (f q) = (3, (j : Int), 0)) ∧ c0.ga j / 2 < f q ∧ c0.gb j / 2 < f q ∧ 0 ≤ c0.gb j ∧ 0 ≤ c0.ga j ∧ c0.ga j ≤ 2001 ∧ c0.gb j ≤ 2001) := by
              by_cases e1 : f q ≤ c0.i
              · exact Or.inl ⟨_, Cr.kd_1 HK.out (by omega) (by omega) e1⟩
              · by_cases e2 : f q ≤ c0.i + c0.nl
                · exact Or.inr (Or.inl ⟨_, Cr.kd_2 HK.out (by omega) (by omega) e1 e2⟩)
                · obtain ⟨j, hj⟩ : ∃ j : Nat, (j : Int) = f q - 1 - c0.i - c0.nl := ⟨(f q - 1 - c0.i - c0.nl).toNat, by omega⟩
                  have hjn : j < c0.na := by omega
                  obtain ⟨k1, k2, k3, k4, k5⟩ := Cr.gate_ok HK.out hjn
                  exact Or.inr (Or.inr ⟨j, hjn, by show _ = _; rw [Cr.kd_3 HK.out (by omega) (by omega) e1 e2, hj], by omega, by omega, by omega, by omega, by omega, by omega⟩)
            clear hsz y
            rcases Nat.eq_zero_or_pos q with hq0 | hq0
            · have hq3 : ¬ (0 : Int) < (q : Int) := by omega
              have hq4 : decide ((0 : Int) < (q : Int)) = false := by simp; omega
              have hq5 : decide (0 < q) = false := by simp; omega
              clear hinc hpre hq0
              rcases hkd with ⟨x, HX⟩ | ⟨x, HX⟩ | ⟨j, hjn, HX, b1, b2, b3, b4, b5, b6⟩
              · obtain ⟨_, x0, x1, x2, x3, x4, y⟩ := HS.out wr (Below.refl _ _)
                go_wp2
                go_region_held3 (fun w' => Below wr.heap.size wr w' ∧ w'.cell? ⟨w.heap.size, 0, none⟩ = some (.int .i64 c0.i) ∧ w'.cell? ⟨w.heap.size, 1, none⟩ = some (.slice p0.A1 c0.nl p0.k1) ∧ w'.cell? ⟨w.heap.size, 2, none⟩ = some (.slice p0.A2 c0.na p0.k2) ∧ w'.cell? ⟨w.heap.size, 3, none⟩ = some (.slice p0.A3 c0.nb p0.k3) ∧ w'.cell? ⟨w.heap.size, 4, none⟩ = some (.slice p0.A4 c0.nc p0.k4) ∧ w'.cell? (ad.add q) = some (.int .i64 (f q)))
                  (exact HS.out _ (by go_grown))
                  (first | (go_at_call 12; refine (kind_at HX.out p0 _ (hm0.to2 hBr hBr.size (by first | assumption | go_grown)) hs (by omega)).mono ?_; rintro e w7 ⟨rfl, hb7⟩; have hB7 : Below wr.heap.size wr w7 := Below.next (by first | assumption | go_grown) hb7))
                obtain ⟨_, z0, z1, z2, z3, z4, zy⟩ := HS.out w7 hB7
                go_wp2
                go_quiet (fail)
                go_wp2
                go_roundw
                case rel => exact ⟨q + 1, by omega, by go_num, below_dn (Below.step hBr hBr.size hB7) _, below_dn (Below.step hDr hDr.size hB7) _, hHr.keep (below_dn hB7 _) hHr.lt⟩
                case measure => simp [intOf]; omega
              · obtain ⟨_, x0, x1, x2, x3, x4, y⟩ := HS.out wr (Below.refl _ _)
                go_wp2
                go_region_held3 (fun w' => Below wr.heap.size wr w' ∧ w'.cell? ⟨w.heap.size, 0, none⟩ = some (.int .i64 c0.i) ∧ w'.cell? ⟨w.heap.size, 1, none⟩ = some (.slice p0.A1 c0.nl p0.k1) ∧ w'.cell? ⟨w.heap.size, 2, none⟩ = some (.slice p0.A2 c0.na p0.k2) ∧ w'.cell? ⟨w.heap.size, 3, none⟩ = some (.slice p0.A3 c0.nb p0.k3) ∧ w'.cell? ⟨w.heap.size, 4, none⟩ = some (.slice p0.A4 c0.nc p0.k4) ∧ w'.cell? (ad.add q) = some (.int .i64 (f q)))
                  (exact HS.out _ (by go_grown))
                  (first | (go_at_call 12; refine (kind_at HX.out p0 _ (hm0.to2 hBr hBr.size (by first | assumption | go_grown)) hs (by omega)).mono ?_; rintro e w7 ⟨rfl, hb7⟩; have hB7 : Below wr.heap.size wr w7 := Below.next (by first | assumption | go_grown) hb7))
                obtain ⟨_, z0, z1, z2, z3, z4, zy⟩ := HS.out w7 hB7
                go_wp2
                go_quiet (fail)
                go_wp2
                go_roundw
                case rel => exact ⟨q + 1, by omega, by go_num, below_dn (Below.step hBr hBr.size hB7) _, below_dn (Below.step hDr hDr.size hB7) _, hHr.keep (below_dn hB7 _) hHr.lt⟩
                case measure => simp [intOf]; omega
              · obtain ⟨_, x0, x1, x2, x3, x4, y⟩ := HS.out wr (Below.refl _ _)
                go_wp2
                go_region_held3 (fun w' => Below wr.heap.size wr w' ∧ w'.cell? ⟨w.heap.size, 0, none⟩ = some (.int .i64 c0.i) ∧ w'.cell? ⟨w.heap.size, 1, none⟩ = some (.slice p0.A1 c0.nl p0.k1) ∧ w'.cell? ⟨w.heap.size, 2, none⟩ = some (.slice p0.A2 c0.na p0.k2) ∧ w'.cell? ⟨w.heap.size, 3, none⟩ = some (.slice p0.A3 c0.nb p0.k3) ∧ w'.cell? ⟨w.heap.size, 4, none⟩ = some (.slice p0.A4 c0.nc p0.k4) ∧ w'.cell? (ad.add q) = some (.int .i64 (f q)))
                  (exact HS.out _ (by go_grown))
                  (first | (go_at_call 12; refine (kind_at HX.out p0 _ (hm0.to2 hBr hBr.size (by first | assumption | go_grown)) hs (by omega)).mono ?_; rintro e w7 ⟨rfl, hb7⟩; have hB7 : Below wr.heap.size wr w7 := Below.next (by first | assumption | go_grown) hb7))
                obtain ⟨_, z0, z1, z2, z3, z4, zy⟩ := HS.out w7 hB7
                go_wp2
                go_quiet (fail)
                obtain ⟨ag, hAg, hagb, hgs⟩ := (hm0.an.keep (Below.step hBr hBr.size hB7)) (by omega)
                obtain ⟨v0, v1⟩ := hgs j hjn
                rw [hAg] at z2
                clear hgs
                have hjb : (j : Int) < c0.na := by omega
                have hj0 : (0 : Int) ≤ (j : Int) := by omega
                have hj1 : decide (c0.na ≤ j) = false := by simp; omega
                have hj4 : decide ((j : Int) < 0) = false := decide_eq_false (by omega)
                have hd1 : IntKind.i64.wrap ((c0.ga j).tdiv 2) = c0.ga j / 2 := by rw [Int.tdiv_eq_ediv_of_nonneg b4]; exact IntWalk.i64_in _ (by omega)
                have hd2 : IntKind.i64.wrap ((c0.gb j).tdiv 2) = c0.gb j / 2 := by rw [Int.tdiv_eq_ediv_of_nonneg b3]; exact IntWalk.i64_in _ (by omega)
                have hj2 : decide (f q ≤ c0.ga j / 2) = false := by simp; omega
                have hj3 : decide (f q ≤ c0.gb j / 2) = false := by simp; omega
                go_wp2
                go_quiet (fail)
                go_wp2
                go_roundw
                case rel => exact ⟨q + 1, by omega, by go_num, below_dn (Below.step hBr hBr.size hB7) _, below_dn (Below.step hDr hDr.size hB7) _, hHr.keep (below_dn hB7 _) hHr.lt⟩
                case measure => simp [intOf]; omega
            · have hi1 := hinc hq0
              have yp := hpre hq0
              have YP := Lib.hid yp
              clear hinc hpre yp
              have hq1 : (0 : Int) ≤ (q : Int) - 1 := by omega
              have hq2 : (q : Int) - 1 < n := by omega
              have hq3 : (0 : Int) < (q : Int) := by omega
              rcases hkd with ⟨x, HX⟩ | ⟨x, HX⟩ | ⟨j, hjn, HX, b1, b2, b3, b4, b5, b6⟩
              · obtain ⟨_, x0, x1, x2, x3, x4, y⟩ := HS.out wr (Below.refl _ _)
                go_wp2
                go_region_held3 (fun w' => Below wr.heap.size wr w' ∧ w'.cell? ⟨w.heap.size, 0, none⟩ = some (.int .i64 c0.i) ∧ w'.cell? ⟨w.heap.size, 1, none⟩ = some (.slice p0.A1 c0.nl p0.k1) ∧ w'.cell? ⟨w.heap.size, 2, none⟩ = some (.slice p0.A2 c0.na p0.k2) ∧ w'.cell? ⟨w.heap.size, 3, none⟩ = some (.slice p0.A3 c0.nb p0.k3) ∧ w'.cell? ⟨w.heap.size, 4, none⟩ = some (.slice p0.A4 c0.nc p0.k4) ∧ w'.cell? (ad.add q) = some (.int .i64 (f q)))
                  (exact HS.out _ (by go_grown))
                  (first | (go_at_call 12; refine (kind_at HX.out p0 _ (hm0.to2 hBr hBr.size (by first | assumption | go_grown)) hs (by omega)).mono ?_; rintro e w7 ⟨rfl, hb7⟩; have hB7 : Below wr.heap.size wr w7 := Below.next (by first | assumption | go_grown) hb7))
                obtain ⟨_, z0, z1, z2, z3, z4, zy⟩ := HS.out w7 hB7
                have zp := (hB7.cell (by rw [add_block]; have := hDr.size; omega)).trans YP.out
                go_wp2
                go_quiet (fail)
                go_wp2
                go_roundw
                case rel => exact ⟨q + 1, by omega, by go_num, below_dn (Below.step hBr hBr.size hB7) _, below_dn (Below.step hDr hDr.size hB7) _, hHr.keep (below_dn hB7 _) hHr.lt⟩
                case measure => simp [intOf]; omega
              · obtain ⟨_, x0, x1, x2, x3, x4, y⟩ := HS.out wr (Below.refl _ _)
                go_wp2
                go_region_held3 (fun w' => Below wr.heap.size wr w' ∧ w'.cell? ⟨w.heap.size, 0, none⟩ = some (.int .i64 c0.i) ∧ w'.cell? ⟨w.heap.size, 1, none⟩ = some (.slice p0.A1 c0.nl p0.k1) ∧ w'.cell? ⟨w.heap.size, 2, none⟩ = some (.slice p0.A2 c0.na p0.k2) ∧ w'.cell? ⟨w.heap.size, 3, none⟩ = some (.slice p0.A3 c0.nb p0.k3) ∧ w'.cell? ⟨w.heap.size, 4, none⟩ = some (.slice p0.A4 c0.nc p0.k4) ∧ w'.cell? (ad.add q) = some (.int .i64 (f q)))
                  (exact HS.out _ (by go_grown))
                  (first | (go_at_call 12; refine (kind_at HX.out p0 _ (hm0.to2 hBr hBr.size (by first | assumption | go_grown)) hs (by omega)).mono ?_; rintro e w7 ⟨rfl, hb7⟩; have hB7 : Below wr.heap.size wr w7 := Below.next (by first | assumption | go_grown) hb7))
                obtain ⟨_, z0, z1, z2, z3, z4, zy⟩ := HS.out w7 hB7
                have zp := (hB7.cell (by rw [add_block]; have := hDr.size; omega)).trans YP.out
                go_wp2
                go_quiet (fail)
                go_wp2
                go_roundw
                case rel => exact ⟨q + 1, by omega, by go_num, below_dn (Below.step hBr hBr.size hB7) _, below_dn (Below.step hDr hDr.size hB7) _, hHr.keep (below_dn hB7 _) hHr.lt⟩
                case measure => simp [intOf]; omega
              · obtain ⟨_, x0, x1, x2, x3, x4, y⟩ := HS.out wr (Below.refl _ _)
                go_wp2
                go_region_held3 (fun w' => Below wr.heap.size wr w' ∧ w'.cell? ⟨w.heap.size, 0, none⟩ = some (.int .i64 c0.i) ∧ w'.cell? ⟨w.heap.size, 1, none⟩ = some (.slice p0.A1 c0.nl p0.k1) ∧ w'.cell? ⟨w.heap.size, 2, none⟩ = some (.slice p0.A2 c0.na p0.k2) ∧ w'.cell? ⟨w.heap.size, 3, none⟩ = some (.slice p0.A3 c0.nb p0.k3) ∧ w'.cell? ⟨w.heap.size, 4, none⟩ = some (.slice p0.A4 c0.nc p0.k4) ∧ w'.cell? (ad.add q) = some (.int .i64 (f q)))
                  (exact HS.out _ (by go_grown))
                  (first | (go_at_call 12; refine (kind_at HX.out p0 _ (hm0.to2 hBr hBr.size (by first | assumption | go_grown)) hs (by omega)).mono ?_; rintro e w7 ⟨rfl, hb7⟩; have hB7 : Below wr.heap.size wr w7 := Below.next (by first | assumption | go_grown) hb7))
                obtain ⟨_, z0, z1, z2, z3, z4, zy⟩ := HS.out w7 hB7
                have zp := (hB7.cell (by rw [add_block]; have := hDr.size; omega)).trans YP.out
                go_wp2
                go_quiet (fail)
                obtain ⟨ag, hAg, hagb, hgs⟩ := (hm0.an.keep (Below.step hBr hBr.size hB7)) (by omega)
                obtain ⟨v0, v1⟩ := hgs j hjn
                rw [hAg] at z2
                clear hgs
                have hjb : (j : Int) < c0.na := by omega
                have hj0 : (0 : Int) ≤ (j : Int) := by omega
                have hj1 : decide (c0.na ≤ j) = false := by simp; omega
                have hj4 : decide ((j : Int) < 0) = false := decide_eq_false (by omega)
                have hd1 : IntKind.i64.wrap ((c0.ga j).tdiv 2) = c0.ga j / 2 := by rw [Int.tdiv_eq_ediv_of_nonneg b4]; exact IntWalk.i64_in _ (by omega)
                have hd2 : IntKind.i64.wrap ((c0.gb j).tdiv 2) = c0.gb j / 2 := by rw [Int.tdiv_eq_ediv_of_nonneg b3]; exact IntWalk.i64_in _ (by omega)
                have hj2 : decide (f q ≤ c0.ga j / 2) = false := by simp; omega
                have hj3 : decide (f q ≤ c0.gb j / 2) = false := by simp; omega
                go_wp2
                go_quiet (fail)
                go_wp2
                go_roundw
                case rel => exact ⟨q + 1, by omega, by go_num, below_dn (Below.step hBr hBr.size hB7) _, below_dn (Below.step hDr hDr.size hB7) _, hHr.keep (below_dn hB7 _) hHr.lt⟩
                case measure => simp [intOf]; omega
          · obtain rfl : q = n := by omega
            clear hq hlt
            go_wp2_with (go_at_call 16; refine (alive_any _).mono ?_; rintro e w8 ⟨rfl, hb8⟩; have hB8 := Below.step hBr hBr.size hb8)
            go_ret
            exact ⟨rfl, hB8⟩
  · go_enter Try.func6, Try.ntmps6
    go_wp2_with (first
      | (go_at_call 17; refine (rGreat_any c0 p0 _).mono ?_; rintro e w1 ⟨rfl, hb1⟩; have hB1 : Below w.heap.size w w1 := Below.step (by go_grown) (by go_size) hb1)
      | (go_at_call 16; refine (alive_any _).mono ?_; rintro e w3 ⟨rfl, hb3⟩; have hB3 := Below.step hB1 hB1.size hb3))
    go_ret
    exact ⟨rfl, hB3⟩

set_option maxRecDepth 100000 in
theorem lifted (os : Os) (started : os.Started) (H : Type) (enc : TypeId × Value → H) :
    ReturnsInHanded {} Try.checked os 6 .any (Rows.gatesBeforeSpec.pre6 enc Try.prog Try.f6 Rows.gatesBeforeRow.domain false) (Rows.gatesBeforeSpec.post enc Try.prog Try.f6 false true false false) := by
  refine returnsInHanded_of_change (C := Try.checked) own started (by kernel_rfl) Try.func6
    (ChangeSpec.witness6 (enc := enc) (C := Try.checked) false ⟨#[], #[.agg #[.int .i64 0, .slice none 0 0, .slice none 0 0, .slice none 0 0, .slice none 0 0], .int .i64 0], []⟩ 12 (by kernel_rfl) (by kernel_rfl) (by kernel_rfl) (by kernel_rfl)) ?_
  intro W base args ds gs before hval0 hW hcnd _
  have hval : ∀ (j : Nat) t v, Try.f6.params[j]? = some t → args[j]? = some v → Value.okWide Try.prog W .any base t v := hval0
  have hW' := hW
  have hlt : ∀ x ∈ before, x.block < W.heap.size := fun x hx => by simpa using hW'.lt x hx
  obtain ⟨p, q, hA0, hV, rfl, hfz, hnd⟩ := hW
  have hA : DataW.TrodAll enc Try.prog W 0 (fun _ => true) true Try.f6.params.toList args.toList ds p := hA0
  rw [Try.params6] at hA hval
  obtain ⟨v0, vs0, d0, ds0, b0, q0, hargs, rfl, rfl, h0, r0⟩ := trodAll_cons hA
  obtain ⟨v1, vs1, d1, ds1, b1, q1, rfl, rfl, rfl, h1, r1⟩ := trodAll_cons r0
  obtain ⟨rfl, rfl, rfl⟩ := trodAll_nil r1
  obtain rfl : args = #[v0, v1] := by cases args; simp_all
  obtain ⟨rfl, rfl⟩ := trodVars_none hV
  obtain ⟨c0, p0, rfl, hm0, hN0, hv0⟩ := open_circ (hval 0 26 v0 rfl rfl) h0
  obtain ⟨a1, rfl, rfl, rfl, w1⟩ := open_int Try.underlying3 (hval 1 3 v1 rfl rfl) h1
  have hlo : laidOutB Try.prog = true := by kernel_rfl
  clear hA0 hval0
  simp only [List.append_nil] at hW' hlt
  refine (walk c0 p0 a1 W hm0 hN0 hv0 w1).mono fun e W' ⟨he, hb⟩ => ?_
  subst he
  have hback := (trodAll_cons_mk (arg_back (W' := W') hlo (by kernel_rfl) (of_decide_eq_true (by kernel_rfl)) h0 hb (fun x hx => hlt x (by simp [hx]))) (trodAll_cons_mk (shut_int (enc := enc) (w := W') (base := 0) (spare := fun b => decide (b < W.heap.size)) (held := true) Try.underlying3 w1) trodAll_mk0))
  simp only [List.append_nil, List.nil_append] at hback
  exact ⟨_, rfl, law_post hW' (trodAll_cons_mk (shut_bool Try.underlying4 _) trodAll_mk0) hback rfl hb⟩

theorem over : Rows.gatesBeforeRow.holds Try.pinned (OpenSpec.ofChange Rows.gatesBeforeSpec) :=
  OpenClaim.holds_of_wide 6 Try.f6 rfl rfl rfl rfl rfl rfl rfl ⟨rfl, rfl, rfl, rfl, rfl⟩ rfl rfl rfl rfl rfl (by kernel_rfl) Try.func6 (by kernel_rfl)
    (of_decide_eq_true (by kernel_rfl)) (by unfold Func.isWrapper; first | (rw [if_pos (by decide +kernel)]; kernel_rfl) | (rw [if_neg (by decide +kernel)]; exact ⟨rfl, rfl⟩))
    (fun os started H enc _ => lifted os started H enc)

theorem proved : Rows.GatesBeforeSaid :=
  over
end Go.Proofs.Ytheekpmjcgmopaa.gatesBefore
