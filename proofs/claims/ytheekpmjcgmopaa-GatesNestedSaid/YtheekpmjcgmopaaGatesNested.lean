/- For all circuits that are not great, literals and indices: the cone of a literal is that of its negation, has that of each of its variables in it, and with a gate's variable those of its parts, and nothing else. No conditions. -/
import Derived.Test.YtheekpmjcgmopaaGatesFrame
import Derived.Test.YtheekpmjcgmopaaGatesNest
import Derived.Test.YtheekpmjcgmopaaGatesAlive
import Derived.Test.YtheekpmjcgmopaaGatesRef2
namespace Go.Proofs.Ytheekpmjcgmopaa.gatesNested
open Go.ChangeShapes Go.WideShapes Go.ChangeAt Go.RowKit
set_option linter.unusedVariables false
set_option linter.unusedSimpArgs false


theorem own : ownKnob Try.prog.godebug = none := by kernel_rfl

set_option maxRecDepth 100000 in
set_option maxHeartbeats 4000000 in
theorem walk (c0 : Cr) (p0 : Pl) (a1 : Int) (a2 : Int) (w : World) (hm0 : Mem w w.heap.size c0 p0) (hN0 : Nils c0 p0) (hv0 : Vals c0) (w1 : (Lit.int .i64 a1).wf = true) (w2 : (Lit.int .i64 a2).wf = true) :
    Calls Try.prog 7 #[cv c0 p0, .int .i64 a1, .int .i64 a2] w fun e w' => e = .returned (.bool true) ∧ Below w.heap.size w w' := by
  have hv1 := (i64_of w1)
  have hv2 := (i64_of w2)
  unfold I64 at hv1 hv2
  have hB0 : Below w.heap.size w w := Below.refl _ _
  cases hg : c0.gr
  · have hgr := Cr.gr_no hg
    have hs : Sm c0 := hv0.sm (by omega) (by omega) (by omega) (by omega)
    have g1 := hs.nl
    have g2 := hs.na
    cases h : (c0.chk == 0)
    · have h' : (c0.chk != 0) = true := by simp [bne, h]
      go_enter Try.func7, Try.ntmps7
      go_wp2_with (first
        | (go_at_call 17; refine (rGreat_any c0 p0 _).mono ?_; rintro e w1 ⟨rfl, hb1⟩; obtain ⟨hc1, hf1⟩ := bcell hb1; have hz1 : w.heap.size < w1.heap.size := (by have := hb1.size; (try simp at this); omega); have hB1 : Below w.heap.size w w1 := Below.step (by go_grown) (by go_size) hb1; have hA1 : Has w1 w.heap.size 26 (cc c0 p0) := (Has.new _ _ _).keep hb1 (by go_size))
        | (go_at_call 21; refine (rCheck_any c0 p0 _ (hm0.to hB1 hB1.size) hs).mono ?_; rintro e w2 ⟨rfl, hb2⟩; obtain ⟨hc2, hf2⟩ := bcell hb2; have hz2 : w.heap.size < w2.heap.size := (by have := hb2.size; omega); have hB2 := Below.step hB1 hB1.size hb2; have hA2 := hA1.keep hb2 hA1.lt)
        | (go_at_call 16; refine (alive_any _).mono ?_; rintro e w9 ⟨rfl, hb9⟩; have hB9 := Below.step (w := w) hB2 (Below.size hB2) hb9))
      go_ret
      exact ⟨rfl, hB9⟩
    · have h' : (c0.chk != 0) = false := by simp [bne, h]
      have hb := Cr.chk_i h hs
      have hk0 : c0.chk = 0 := by simpa using h
      have hcase : (a1 < 2) ∨ (2 ≤ a1 ∧ c0.sz < a1 / 2) ∨ (2 ≤ a1 ∧ a1 / 2 ≤ c0.sz ∧ a2 < 0) ∨ (2 ≤ a1 ∧ a1 / 2 ≤ c0.sz ∧ 0 ≤ a2) := by omega
      have HK := Lib.hid hk0
      clear hk0
      rcases hcase with a | ⟨a, b⟩ | ⟨a, b, d⟩ | ⟨a, b, d⟩
      case inr.inr.inr =>
        have ok := cone_ok HK.out a b
        obtain ⟨hng, hngE⟩ := Cr.cL_half HK.out (l := a1) (l' := Li.ng a1) (by omega) (Li.ng_bd (by omega) (by omega)).1 b (ng_half a1).symm
        have hx := Li.xor_ng (l := a1) (by omega) (by omega)
        have hlen := Cr.cone_len c0 a1 hs
        obtain ⟨xs, hxs⟩ : ∃ xs, c0.cL a1 = xs := ⟨_, rfl⟩
        have hpos := ok.pos
        rw [hxs] at hng hlen hpos
        obtain ⟨t, ht⟩ : ∃ t, t = (a2 % (xs.length : Int)).toNat := ⟨_, rfl⟩
        have hm1 := Int.emod_nonneg a2 (b := (xs.length : Int)) (by omega)
        have hm2 := Int.emod_lt_of_pos a2 (b := (xs.length : Int)) (by omega)
        have htn : t < xs.length := by omega
        have hr2 : a2 % (xs.length : Int) = (t : Int) := by omega
        have hr1 : a2.tmod (xs.length : Int) = (t : Int) := by rw [Int.tmod_eq_emod_of_nonneg d]; exact hr2
        obtain ⟨v, hv⟩ : ∃ v, xs.getD t 0 = v := ⟨_, rfl⟩
        obtain ⟨v1, v2, v3⟩ := ok.mem t (by rw [hxs]; exact htn)
        rw [hxs, hv] at v1 v2 v3
        have ev : (2 * v) / 2 = v := by omega
        obtain ⟨zsub, zE⟩ := Cr.cL_sub HK.out (l := a1) (l' := 2 * v) (by omega) (by omega) b (by omega) (by rw [ev]; exact v3)
        have zlen := Cr.cone_len c0 (2 * v) hs
        obtain ⟨zs, hzs⟩ : ∃ zs, c0.cL (2 * v) = zs := ⟨_, rfl⟩
        rw [hzs] at zsub zlen
        rw [hxs] at zsub
        have hmul : IntKind.i64.wrap (2 * v) = 2 * v := IntWalk.i64_in _ (by omega)
        have hone : a1 / 2 - 1 - c0.i - c0.nl < 0 → xs.length = 1 := fun hh => by rw [← hxs]; exact Cr.cone_one HK.out a b hh
        have hpar : ∀ j : Nat, a1 / 2 - 1 - c0.i - c0.nl = j → (j < c0.na ∧ 0 ≤ c0.ga j ∧ c0.ga j ≤ 2001 ∧ 0 ≤ c0.gb j ∧ c0.gb j ≤ 2001) ∧ (List.Sublist (c0.cL (c0.ga j)) xs ∧ c0.cE (c0.ga j) = 0) ∧ (List.Sublist (c0.cL (c0.gb j)) xs ∧ c0.cE (c0.gb j) = 0) ∧ ∀ k, k + 1 < xs.length → List.Sublist [xs.getD k 0] (c0.cL (c0.ga j)) ∨ List.Sublist [xs.getD k 0] (c0.cL (c0.gb j)) := fun j e => by
          have hsz : c0.sz = c0.i + c0.nl + c0.na := rfl
          have hj : j < c0.na := by omega
          obtain ⟨q1, q2, q3, q4, q5⟩ := Cr.gate_ok HK.out hj
          have := Cr.cone_parts HK.out a b hj (by omega)
          rw [hxs] at this
          exact ⟨⟨hj, by omega, by omega, q1, by omega⟩, this⟩
        have HX := Lib.hid hxs
        have HN := Lib.hid hng
        have HNE := Lib.hid hngE
        have HE := Lib.hid ok.err
        have HV := Lib.hid hv
        have HZ := Lib.hid hzs
        have HZE := Lib.hid zE
        have HO := Lib.hid hone
        have HP := Lib.hid hpar
        have hn0 : ((xs.length : Int) == 0) = false := bq (by omega)
        have ht0 : (0 : Int) ≤ (t : Int) := by omega
        have ht1 : (t : Int) < (xs.length : Int) := by omega
        clear ok hng hngE hxs hv hzs zE hone hpar ht hm1 hm2 v3 ev
        obtain ⟨P1, P2, P3, P4, Q1, Q2, Q3, Q4⟩ := p0
        by_cases hgt : a1 / 2 - 1 - c0.i - c0.nl < 0
        · have h1l := HO.out hgt
          have h1 : ((xs.length : Int) == 1) = true := bt (by omega)
          clear h1l
          go_enter Try.func7, Try.ntmps7
          go_wp2_with (first
            | (go_at_call 17; refine (rGreat_any c0 ⟨P1, P2, P3, P4, Q1, Q2, Q3, Q4⟩ _).mono ?_; rintro e w1 ⟨rfl, hb1⟩; obtain ⟨hc1, hf1⟩ := bcell hb1; have hz1 : w.heap.size < w1.heap.size := (by have := hb1.size; (try simp at this); omega); have hB1 : Below w.heap.size w w1 := Below.step (by go_grown) (by go_size) hb1; have hA1 : Has w1 w.heap.size 26 (cc c0 ⟨P1, P2, P3, P4, Q1, Q2, Q3, Q4⟩) := (Has.new _ _ _).keep hb1 (by go_size))
            | (go_at_call 21; refine (rCheck_any c0 ⟨P1, P2, P3, P4, Q1, Q2, Q3, Q4⟩ _ (hm0.to hB1 hB1.size) hs).mono ?_; rintro e w2 ⟨rfl, hb2⟩; obtain ⟨hc2, hf2⟩ := bcell hb2; have hz2 : w.heap.size < w2.heap.size := (by have := hb2.size; omega); have hB2 := Below.step hB1 hB1.size hb2; have hA2 := hA1.keep hb2 hA1.lt)
            | (go_at_call 26; refine (rSize_any c0 ⟨P1, P2, P3, P4, Q1, Q2, Q3, Q4⟩ _ hb.1 hb.2.1 g1 g2).mono ?_; rintro e w3 ⟨rfl, hb3⟩; obtain ⟨hc3, hf3⟩ := bcell hb3; have hz3 : w.heap.size < w3.heap.size := (by have := hb3.size; omega); have hB2 := Below.step hB2 hB2.size hb3; have hA2 := hA2.keep hb3 hA2.lt)
            | (go_at_call 13; (with_reducible refine (coneAs HE.out HX.out ⟨P1, P2, P3, P4, Q1, Q2, Q3, Q4⟩ _ (hm0.to hB2 hB2.size) hs).mono ?_); rintro e w4 ⟨A4, k4, rfl, hi4, hcap, hb4⟩; obtain ⟨hc4, hf4⟩ := bcell hb4; have hz4 : w.heap.size < w4.heap.size := (by have := hb4.size; omega); have hB4 := Below.step hB2 hB2.size hb4; have hA4 := hA2.keep hb4 hA2.lt)
            | (go_at_call 13; (with_reducible refine (coneAs HNE.out HN.out ⟨P1, P2, P3, P4, Q1, Q2, Q3, Q4⟩ _ (hm0.to hB4 hB4.size) hs).mono ?_); rintro e w5 ⟨A5, k5, rfl, hi5, hcap5, hb5⟩; obtain ⟨hc5, hf5⟩ := bcell hb5; have hz5 : w.heap.size < w5.heap.size := (by have := hb5.size; omega); have hB5 := Below.step hB4 hB4.size hb5; have hA5 := hA4.keep hb5 hA4.lt; have hi4 := (hi4.keep hb5).more hb5.size)
            | (go_at_call 25; (with_reducible refine (sameInts_self A4 A5 xs.length k4 k5 (fun j => xs.getD j 0) _ _ (by omega) hi4 hi5).mono ?_); rintro e w6 ⟨rfl, hb6⟩; obtain ⟨hc6, hf6⟩ := bcell hb6; have hz6 : w.heap.size < w6.heap.size := (by have := hb6.size; omega); have hB6 := Below.step hB5 hB5.size hb6; have hA6 := hA5.keep hb6 hA5.lt; have hi4 := (hi4.keep hb6).more hb6.size))
          have hi4' := hi4
          obtain ⟨a4, rfl, had, hcs⟩ := hi4 hpos
          have y4 : w6.cell? (a4.add t) = some (.int .i64 (xs.getD t 0)) := hcs t htn
          rw [HV.out] at y4
          have HS : Hid (∀ w', Below w6.heap.size w6 w' → Below w6.heap.size w6 w' ∧ w'.cell? ⟨w.heap.size, 0, none⟩ = some (.int .i64 c0.i) ∧ w'.cell? ⟨w.heap.size, 1, none⟩ = some (.slice P1 c0.nl Q1) ∧ w'.cell? ⟨w.heap.size, 2, none⟩ = some (.slice P2 c0.na Q2) ∧ w'.cell? ⟨w.heap.size, 3, none⟩ = some (.slice P3 c0.nb Q3) ∧ w'.cell? ⟨w.heap.size, 4, none⟩ = some (.slice P4 c0.nc Q4) ∧ w'.cell? (a4.add t) = some (.int .i64 v)) := fun w' hb' => by
            have q1 := (hA6.keep hb' hA6.lt).box
            exact ⟨hb', q1.1, q1.2.1, q1.2.2.1, q1.2.2.2.1, q1.2.2.2.2, (hb'.cell (by rw [add_block]; exact had)).trans y4⟩
          have hne : xs ≠ [] := fun e => by rw [e] at hpos; exact absurd hpos (Nat.lt_irrefl 0)
          have hne2 : ¬ (xs.length : Int) = 0 := by omega
          clear hcs y4 hc1 hc2 hc3 hc4 hc5 hc6 hf1 hf2 hf3 hf4 hf5 hf6 hb1 hb2 hb3 hb4 hb5 hb6 hA1 hA2 hA4 hA5
          go_region_held3 (fun w' => Below w6.heap.size w6 w' ∧ w'.cell? ⟨w.heap.size, 0, none⟩ = some (.int .i64 c0.i) ∧ w'.cell? ⟨w.heap.size, 1, none⟩ = some (.slice P1 c0.nl Q1) ∧ w'.cell? ⟨w.heap.size, 2, none⟩ = some (.slice P2 c0.na Q2) ∧ w'.cell? ⟨w.heap.size, 3, none⟩ = some (.slice P3 c0.nb Q3) ∧ w'.cell? ⟨w.heap.size, 4, none⟩ = some (.slice P4 c0.nc Q4) ∧ w'.cell? (a4.add t) = some (.int .i64 v))
            (exact HS.out _ (by go_grown))
            (first | (go_at_call 13; refine (coneAs HZE.out HZ.out ⟨P1, P2, P3, P4, Q1, Q2, Q3, Q4⟩ _ (hm0.to2 hB6 hB6.size (by first | assumption | go_grown)) hs).mono ?_; rintro e w7 ⟨A7, k7, rfl, hi7, hcap7, hb7⟩; have hC7 : Below w6.heap.size w6 w7 := Below.next (by first | assumption | go_grown) hb7))
          have hB7 := Below.step hB6 hB6.size hC7
          have hA7 := hA6.keep hC7 hA6.lt
          have hz7 := hA7.lt
          have hi4 := (hi4'.keep hC7).more hC7.size
          obtain ⟨x0, x1, x2, x3, x4⟩ := hA7.box
          go_wp2_with (first
            | (go_at_call 27; (with_reducible refine (has_sub (some a4) A7 k4 k7 xs zs _ _ (by omega) (by omega) hi4 hi7 zsub).mono ?_); rintro e w8 ⟨rfl, hb8⟩; obtain ⟨hc8, hf8⟩ := bcell hb8; have hz8 : w.heap.size < w8.heap.size := (by have := hb8.size; omega); have hB8 := Below.step hB7 hB7.size hb8; have hA8 := hA7.keep hb8 hA7.lt)
            | (go_at_call 28; (with_reducible refine (rGate_any c0 ⟨P1, P2, P3, P4, Q1, Q2, Q3, Q4⟩ (a1 / 2) _ hb.1 hb.2.1 g1 (by omega) (by omega)).mono ?_); rintro e w9 ⟨rfl, hb9⟩; obtain ⟨hc9, hf9⟩ := bcell hb9; have hz9 : w.heap.size < w9.heap.size := (by have := hb9.size; omega); have hB9 := Below.step hB8 hB8.size hb9; have hA9 := hA8.keep hb9 hA8.lt)
            | (go_at_call 16; refine (alive_any _).mono ?_; rintro e wD ⟨rfl, hbD⟩; have hBD := Below.step hB9 hB9.size hbD))
          go_ret
          exact ⟨rfl, hBD⟩
        · obtain ⟨j, hj⟩ : ∃ j : Nat, a1 / 2 - 1 - c0.i - c0.nl = j := ⟨(a1 / 2 - 1 - c0.i - c0.nl).toNat, by omega⟩
          obtain ⟨⟨p1, p2, p3, p4, p5⟩, ⟨xsub, xE⟩, ⟨ysub, yE⟩, hel⟩ := HP.out j hj
          have xlen := Cr.cone_len c0 (c0.ga j) hs
          have ylen := Cr.cone_len c0 (c0.gb j) hs
          obtain ⟨xa, hxa⟩ : ∃ l, c0.cL (c0.ga j) = l := ⟨_, rfl⟩
          obtain ⟨ya, hya⟩ : ∃ l, c0.cL (c0.gb j) = l := ⟨_, rfl⟩
          rw [hxa] at xsub xlen hel
          rw [hya] at ysub ylen hel
          obtain ⟨ag, e, hagb, hgs⟩ := hm0.an (by omega)
          dsimp only at e
          subst e
          have hgj := hgs j p1
          have HJ := Lib.hid hj
          have HXA := Lib.hid hxa
          have HYA := Lib.hid hya
          have HXE := Lib.hid xE
          have HYE := Lib.hid yE
          have HEL := Lib.hid hel
          have HGJ := Lib.hid hgj
          have hj0 : (0 : Int) ≤ (j : Int) := by omega
          have hj1 : (j : Int) < c0.na := by omega
          clear hj hxa hya xE yE hel hgj hgs
          go_enter Try.func7, Try.ntmps7
          go_wp2_with (first
            | (go_at_call 17; refine (rGreat_any c0 ⟨P1, some ag, P3, P4, Q1, Q2, Q3, Q4⟩ _).mono ?_; rintro e w1 ⟨rfl, hb1⟩; obtain ⟨hc1, hf1⟩ := bcell hb1; have hz1 : w.heap.size < w1.heap.size := (by have := hb1.size; (try simp at this); omega); have hB1 : Below w.heap.size w w1 := Below.step (by go_grown) (by go_size) hb1; have hA1 : Has w1 w.heap.size 26 (cc c0 ⟨P1, some ag, P3, P4, Q1, Q2, Q3, Q4⟩) := (Has.new _ _ _).keep hb1 (by go_size))
            | (go_at_call 21; refine (rCheck_any c0 ⟨P1, some ag, P3, P4, Q1, Q2, Q3, Q4⟩ _ (hm0.to hB1 hB1.size) hs).mono ?_; rintro e w2 ⟨rfl, hb2⟩; obtain ⟨hc2, hf2⟩ := bcell hb2; have hz2 : w.heap.size < w2.heap.size := (by have := hb2.size; omega); have hB2 := Below.step hB1 hB1.size hb2; have hA2 := hA1.keep hb2 hA1.lt)
            | (go_at_call 26; refine (rSize_any c0 ⟨P1, some ag, P3, P4, Q1, Q2, Q3, Q4⟩ _ hb.1 hb.2.1 g1 g2).mono ?_; rintro e w3 ⟨rfl, hb3⟩; obtain ⟨hc3, hf3⟩ := bcell hb3; have hz3 : w.heap.size < w3.heap.size := (by have := hb3.size; omega); have hB2 := Below.step hB2 hB2.size hb3; have hA2 := hA2.keep hb3 hA2.lt)
            | (go_at_call 13; (with_reducible refine (coneAs HE.out HX.out ⟨P1, some ag, P3, P4, Q1, Q2, Q3, Q4⟩ _ (hm0.to hB2 hB2.size) hs).mono ?_); rintro e w4 ⟨A4, k4, rfl, hi4, hcap, hb4⟩; obtain ⟨hc4, hf4⟩ := bcell hb4; have hz4 : w.heap.size < w4.heap.size := (by have := hb4.size; omega); have hB4 := Below.step hB2 hB2.size hb4; have hA4 := hA2.keep hb4 hA2.lt)
            | (go_at_call 13; (with_reducible refine (coneAs HNE.out HN.out ⟨P1, some ag, P3, P4, Q1, Q2, Q3, Q4⟩ _ (hm0.to hB4 hB4.size) hs).mono ?_); rintro e w5 ⟨A5, k5, rfl, hi5, hcap5, hb5⟩; obtain ⟨hc5, hf5⟩ := bcell hb5; have hz5 : w.heap.size < w5.heap.size := (by have := hb5.size; omega); have hB5 := Below.step hB4 hB4.size hb5; have hA5 := hA4.keep hb5 hA4.lt; have hi4 := (hi4.keep hb5).more hb5.size)
            | (go_at_call 25; (with_reducible refine (sameInts_self A4 A5 xs.length k4 k5 (fun j => xs.getD j 0) _ _ (by omega) hi4 hi5).mono ?_); rintro e w6 ⟨rfl, hb6⟩; obtain ⟨hc6, hf6⟩ := bcell hb6; have hz6 : w.heap.size < w6.heap.size := (by have := hb6.size; omega); have hB6 := Below.step hB5 hB5.size hb6; have hA6 := hA5.keep hb6 hA5.lt; have hi4 := (hi4.keep hb6).more hb6.size))
          have hi4' := hi4
          obtain ⟨a4, rfl, had, hcs⟩ := hi4 hpos
          have y4 : w6.cell? (a4.add t) = some (.int .i64 (xs.getD t 0)) := hcs t htn
          rw [HV.out] at y4
          have HS : Hid (∀ w', Below w6.heap.size w6 w' → Below w6.heap.size w6 w' ∧ w'.cell? ⟨w.heap.size, 0, none⟩ = some (.int .i64 c0.i) ∧ w'.cell? ⟨w.heap.size, 1, none⟩ = some (.slice P1 c0.nl Q1) ∧ w'.cell? ⟨w.heap.size, 2, none⟩ = some (.slice (some ag) c0.na Q2) ∧ w'.cell? ⟨w.heap.size, 3, none⟩ = some (.slice P3 c0.nb Q3) ∧ w'.cell? ⟨w.heap.size, 4, none⟩ = some (.slice P4 c0.nc Q4) ∧ w'.cell? (a4.add t) = some (.int .i64 v)) := fun w' hb' => by
            have q1 := (hA6.keep hb' hA6.lt).box
            exact ⟨hb', q1.1, q1.2.1, q1.2.2.1, q1.2.2.2.1, q1.2.2.2.2, (hb'.cell (by rw [add_block]; exact had)).trans y4⟩
          have hne : xs ≠ [] := fun e => by rw [e] at hpos; exact absurd hpos (Nat.lt_irrefl 0)
          have hne2 : ¬ (xs.length : Int) = 0 := by omega
          clear hcs y4 hc1 hc2 hc3 hc4 hc5 hc6 hf1 hf2 hf3 hf4 hf5 hf6 hb1 hb2 hb3 hb4 hb5 hb6 hA1 hA2 hA4 hA5
          go_region_held3 (fun w' => Below w6.heap.size w6 w' ∧ w'.cell? ⟨w.heap.size, 0, none⟩ = some (.int .i64 c0.i) ∧ w'.cell? ⟨w.heap.size, 1, none⟩ = some (.slice P1 c0.nl Q1) ∧ w'.cell? ⟨w.heap.size, 2, none⟩ = some (.slice (some ag) c0.na Q2) ∧ w'.cell? ⟨w.heap.size, 3, none⟩ = some (.slice P3 c0.nb Q3) ∧ w'.cell? ⟨w.heap.size, 4, none⟩ = some (.slice P4 c0.nc Q4) ∧ w'.cell? (a4.add t) = some (.int .i64 v))
            (exact HS.out _ (by go_grown))
            (first | (go_at_call 13; refine (coneAs HZE.out HZ.out ⟨P1, some ag, P3, P4, Q1, Q2, Q3, Q4⟩ _ (hm0.to2 hB6 hB6.size (by first | assumption | go_grown)) hs).mono ?_; rintro e w7 ⟨A7, k7, rfl, hi7, hcap7, hb7⟩; have hC7 : Below w6.heap.size w6 w7 := Below.next (by first | assumption | go_grown) hb7))
          have hB7 := Below.step hB6 hB6.size hC7
          have hA7 := hA6.keep hC7 hA6.lt
          have hz7 := hA7.lt
          have hi4 := (hi4'.keep hC7).more hC7.size
          obtain ⟨x0, x1, x2, x3, x4⟩ := hA7.box
          go_wp2_with (first
            | (go_at_call 27; (with_reducible refine (has_sub (some a4) A7 k4 k7 xs zs _ _ (by omega) (by omega) hi4 hi7 zsub).mono ?_); rintro e w8 ⟨rfl, hb8⟩; obtain ⟨hc8, hf8⟩ := bcell hb8; have hz8 : w.heap.size < w8.heap.size := (by have := hb8.size; omega); have hB8 := Below.step hB7 hB7.size hb8; have hA8 := hA7.keep hb8 hA7.lt; have hi4 := (hi4.keep hb8).more hb8.size)
            | (go_at_call 28; (with_reducible refine (gateAs HJ.out ⟨P1, some ag, P3, P4, Q1, Q2, Q3, Q4⟩ _ hb.1 hb.2.1 g1 (by omega) (by omega)).mono ?_); rintro e w9 ⟨rfl, hb9⟩; obtain ⟨hc9, hf9⟩ := bcell hb9; have hz9 : w.heap.size < w9.heap.size := (by have := hb9.size; omega); have hB9 := Below.step hB8 hB8.size hb9; have hA9 := hA8.keep hb9 hA8.lt; have hi4 := (hi4.keep hb9).more hb9.size))
          have HS3 : Hid (∀ w', Below w9.heap.size w9 w' → Below w9.heap.size w9 w' ∧ w'.cell? ⟨w.heap.size, 0, none⟩ = some (.int .i64 c0.i) ∧ w'.cell? ⟨w.heap.size, 1, none⟩ = some (.slice P1 c0.nl Q1) ∧ w'.cell? ⟨w.heap.size, 2, none⟩ = some (.slice (some ag) c0.na Q2) ∧ w'.cell? ⟨w.heap.size, 3, none⟩ = some (.slice P3 c0.nb Q3) ∧ w'.cell? ⟨w.heap.size, 4, none⟩ = some (.slice P4 c0.nc Q4) ∧ w'.cell? (ag.add (j * 2)) = some (.int .i64 (c0.ga j))) := fun w' hb' => by
            have q1 := (hA9.keep hb' hA9.lt).box
            exact ⟨hb', q1.1, q1.2.1, q1.2.2.1, q1.2.2.2.1, q1.2.2.2.2, ((Below.step hB9 hB9.size hb').cell (by rw [add_block]; exact hagb)).trans HGJ.out.1⟩
          clear hc8 hc9 hf8 hf9 hb8 hb9 x0 x1 x2 x3 x4
          go_region_held3 (fun w' => Below w9.heap.size w9 w' ∧ w'.cell? ⟨w.heap.size, 0, none⟩ = some (.int .i64 c0.i) ∧ w'.cell? ⟨w.heap.size, 1, none⟩ = some (.slice P1 c0.nl Q1) ∧ w'.cell? ⟨w.heap.size, 2, none⟩ = some (.slice (some ag) c0.na Q2) ∧ w'.cell? ⟨w.heap.size, 3, none⟩ = some (.slice P3 c0.nb Q3) ∧ w'.cell? ⟨w.heap.size, 4, none⟩ = some (.slice P4 c0.nc Q4) ∧ w'.cell? (ag.add (j * 2)) = some (.int .i64 (c0.ga j)))
            (exact HS3.out _ (by go_grown))
            (first | (go_at_call 13; refine (coneAs HXE.out HXA.out ⟨P1, some ag, P3, P4, Q1, Q2, Q3, Q4⟩ _ (hm0.to2 hB9 hB9.size (by first | assumption | go_grown)) hs).mono ?_; rintro e w10 ⟨A10, k10, rfl, hi10, hcap10, hb10⟩; have hC10 : Below w9.heap.size w9 w10 := Below.next (by first | assumption | go_grown) hb10))
          have hB10 := Below.step hB9 hB9.size hC10
          have hA10 := hA9.keep hC10 hA9.lt
          have hi4 := (hi4.keep hC10).more hC10.size
          have HS4 : Hid (∀ w', Below w10.heap.size w10 w' → Below w10.heap.size w10 w' ∧ w'.cell? ⟨w.heap.size, 0, none⟩ = some (.int .i64 c0.i) ∧ w'.cell? ⟨w.heap.size, 1, none⟩ = some (.slice P1 c0.nl Q1) ∧ w'.cell? ⟨w.heap.size, 2, none⟩ = some (.slice (some ag) c0.na Q2) ∧ w'.cell? ⟨w.heap.size, 3, none⟩ = some (.slice P3 c0.nb Q3) ∧ w'.cell? ⟨w.heap.size, 4, none⟩ = some (.slice P4 c0.nc Q4) ∧ w'.cell? ⟨(ag.add (j * 2)).block, (ag.add (j * 2)).off + 1, none⟩ = some (.int .i64 (c0.gb j))) := fun w' hb' => by
            have q1 := (hA10.keep hb' hA10.lt).box
            exact ⟨hb', q1.1, q1.2.1, q1.2.2.1, q1.2.2.2.1, q1.2.2.2.2, ((Below.step hB10 hB10.size hb').cell (by simp only [add_block]; exact hagb)).trans HGJ.out.2⟩
          go_wp2
          go_region_held3 (fun w' => Below w10.heap.size w10 w' ∧ w'.cell? ⟨w.heap.size, 0, none⟩ = some (.int .i64 c0.i) ∧ w'.cell? ⟨w.heap.size, 1, none⟩ = some (.slice P1 c0.nl Q1) ∧ w'.cell? ⟨w.heap.size, 2, none⟩ = some (.slice (some ag) c0.na Q2) ∧ w'.cell? ⟨w.heap.size, 3, none⟩ = some (.slice P3 c0.nb Q3) ∧ w'.cell? ⟨w.heap.size, 4, none⟩ = some (.slice P4 c0.nc Q4) ∧ w'.cell? ⟨(ag.add (j * 2)).block, (ag.add (j * 2)).off + 1, none⟩ = some (.int .i64 (c0.gb j)))
            (exact HS4.out _ (by go_grown))
            (first | (go_at_call 13; refine (coneAs HYE.out HYA.out ⟨P1, some ag, P3, P4, Q1, Q2, Q3, Q4⟩ _ (hm0.to2 hB10 hB10.size (by first | assumption | go_grown)) hs).mono ?_; rintro e w11 ⟨A11, k11, rfl, hi11, hcap11, hb11⟩; have hC11 : Below w10.heap.size w10 w11 := Below.next (by first | assumption | go_grown) hb11))
          have hB11 := Below.step hB10 hB10.size hC11
          have hA11 := hA10.keep hC11 hA10.lt
          have hz11 := hA11.lt
          have hi4 := (hi4.keep hC11).more hC11.size
          have hi10 := (hi10.keep hC11).more hC11.size
          go_wp2_with (first
            | (go_at_call 27; (with_reducible refine (has_sub (some a4) A10 k4 k10 xs xa _ _ (by omega) (by omega) hi4 hi10 xsub).mono ?_); rintro e w12 ⟨rfl, hb12⟩; obtain ⟨hc12, hf12⟩ := bcell hb12; have hz12 : w.heap.size < w12.heap.size := (by have := hb12.size; omega); have hB12 := Below.step hB11 hB11.size hb12; have hA12 := hA11.keep hb12 hA11.lt; have hi4 := (hi4.keep hb12).more hb12.size; have hi10 := (hi10.keep hb12).more hb12.size; have hi11 := (hi11.keep hb12).more hb12.size)
            | (go_at_call 27; (with_reducible refine (has_sub (some a4) A11 k4 k11 xs ya _ _ (by omega) (by omega) hi4 hi11 ysub).mono ?_); rintro e w13 ⟨rfl, hb13⟩; obtain ⟨hc13, hf13⟩ := bcell hb13; have hz13 : w.heap.size < w13.heap.size := (by have := hb13.size; omega); have hB13 := Below.step hB12 hB12.size hb13; have hA13 := hA12.keep hb13 hA12.lt; have hi4 := (hi4.keep hb13).more hb13.size; have hi10 := (hi10.keep hb13).more hb13.size; have hi11 := (hi11.keep hb13).more hb13.size))
          clear hc12 hc13 hf12 hf13 hb12 hb13 HS HS3 HS4 hA6 hA7 hA8 hA9 hA10 hA11 hA12 hA13
          obtain ⟨a4', e4, had4, hcs4⟩ := hi4 hpos
          obtain rfl : a4 = a4' := by injection e4
          have HC4 := Lib.hid hcs4
          clear hcs4 e4
          go_loopw [18] (fun i wr => ∃ q : Nat, q + 1 ≤ xs.length ∧ i = .int .i64 q ∧ Below w.heap.size w wr ∧ Below w13.heap.size w13 wr) (fun i _ => xs.length - (intOf i).toNat)
          case atStart => exact ⟨0, by omega, rfl, hB13, Below.refl _ _⟩
          case round =>
            obtain ⟨q, hq, rfl, hBr, hDr⟩ := hrel
            by_cases hlt : q + 1 < xs.length
            · obtain ⟨u, hu⟩ : ∃ u, xs.getD q 0 = u := ⟨_, rfl⟩
              have y : wr.cell? (a4.add q) = some (.int .i64 (xs.getD q 0)) := (hDr.cell (by rw [add_block]; exact had4)).trans (HC4.out q (by omega))
              have hel := HEL.out q hlt
              rw [hu] at y hel
              have c1 : (q : Int) + 1 ≤ (k4 : Int) := by omega
              have c2 : (q : Int) < (xs.length : Int) - 1 := by omega
              have c3 : (0 : Int) ≤ (q : Int) := by omega
              have hj10 := (hi10.keep hDr).more hDr.size
              have hj11 := (hi11.keep hDr).more hDr.size
              have hab : (a4.add q).block < wr.heap.size := by rw [add_block]; have := hDr.size; omega
              have HY := Lib.hid y
              clear hu y
              cases hb1 : decide (met xa [u] xa.length = 1)
              · have hy2 : List.Sublist [u] ya := by
                  rcases hel with hel | hel
                  · rw [one_met hel] at hb1; cases hb1
                  · exact hel
                have HB1 := Lib.hid hb1
                have HB2 := Lib.hid (one_met hy2)
                clear hb1 hel hy2
                go_wp2_with (first
                  | (go_at_call 27; (with_reducible refine (has_one A10 (a4.add q) k10 _ xa u false _ _ (by omega) hj10 hab HY.out HB1.out).mono ?_); rintro e w14 ⟨rfl, hb14⟩; have hB14 := Below.step hBr hBr.size hb14; have hD14 := Below.step hDr hDr.size hb14; have hk11 := (hj11.keep hb14).more hb14.size; have hab2 := Nat.lt_of_lt_of_le hab hb14.size; have y14 := (hb14.cell hab).trans HY.out)
                  | (go_at_call 27; (with_reducible refine (has_one A11 (a4.add q) k11 _ ya u true _ _ (by omega) hk11 hab2 y14 HB2.out).mono ?_); rintro e w15 ⟨rfl, hb15⟩; have hB15 := Below.step hB14 hB14.size hb15; have hD15 := Below.step hD14 hD14.size hb15))
                go_roundw
                case rel => exact ⟨q + 1, by omega, by go_num, hB15, hD15⟩
                case measure => simp [intOf]; omega
              · have HB1 := Lib.hid hb1
                clear hb1 hel
                go_wp2_with (go_at_call 27; (with_reducible refine (has_one A10 (a4.add q) k10 _ xa u true _ _ (by omega) hj10 hab HY.out HB1.out).mono ?_); rintro e w14 ⟨rfl, hb14⟩; have hB14 := Below.step hBr hBr.size hb14; have hD14 := Below.step hDr hDr.size hb14; have hk11 := (hj11.keep hb14).more hb14.size; have hab2 := Nat.lt_of_lt_of_le hab hb14.size; have y14 := (hb14.cell hab).trans HY.out)
                go_roundw
                case rel => exact ⟨q + 1, by omega, by go_num, hB14, hD14⟩
                case measure => simp [intOf]; omega
            · have c4 : ¬ (q : Int) < (xs.length : Int) - 1 := by omega
              go_wp2_with (go_at_call 16; refine (alive_any _).mono ?_; rintro e wD ⟨rfl, hbD⟩; have hBD := Below.step hBr hBr.size hbD)
              go_ret
              exact ⟨rfl, hBD⟩
      all_goals
        go_enter Try.func7, Try.ntmps7
        go_wp2_with (first
          | (go_at_call 17; refine (rGreat_any c0 p0 _).mono ?_; rintro e w1 ⟨rfl, hb1⟩; obtain ⟨hc1, hf1⟩ := bcell hb1; have hz1 : w.heap.size < w1.heap.size := (by have := hb1.size; (try simp at this); omega); have hB1 : Below w.heap.size w w1 := Below.step (by go_grown) (by go_size) hb1; have hA1 : Has w1 w.heap.size 26 (cc c0 p0) := (Has.new _ _ _).keep hb1 (by go_size))
          | (go_at_call 21; refine (rCheck_any c0 p0 _ (hm0.to hB1 hB1.size) hs).mono ?_; rintro e w2 ⟨rfl, hb2⟩; obtain ⟨hc2, hf2⟩ := bcell hb2; have hz2 : w.heap.size < w2.heap.size := (by have := hb2.size; omega); have hB2 := Below.step hB1 hB1.size hb2; have hA2 := hA1.keep hb2 hA1.lt)
          | (go_at_call 26; refine (rSize_any c0 p0 _ hb.1 hb.2.1 g1 g2).mono ?_; rintro e w3 ⟨rfl, hb3⟩; obtain ⟨hc3, hf3⟩ := bcell hb3; have hz3 : w.heap.size < w3.heap.size := (by have := hb3.size; omega); have hB2 := Below.step hB2 hB2.size hb3; have hA2 := hA2.keep hb3 hA2.lt)
          | (go_at_call 16; refine (alive_any _).mono ?_; rintro e w9 ⟨rfl, hb9⟩; have hB9 := Below.step (w := w) hB2 (Below.size hB2) hb9))
        go_ret
        exact ⟨rfl, hB9⟩
  · go_enter Try.func7, Try.ntmps7
    go_wp2_with (first
      | (go_at_call 17; refine (rGreat_any c0 p0 _).mono ?_; rintro e w1 ⟨rfl, hb1⟩; obtain ⟨hc1, hf1⟩ := bcell hb1; have hz1 : w.heap.size < w1.heap.size := (by have := hb1.size; (try simp at this); omega); have hB1 : Below w.heap.size w w1 := Below.step (by go_grown) (by go_size) hb1; have hA1 : Has w1 w.heap.size 26 (cc c0 p0) := (Has.new _ _ _).keep hb1 (by go_size))
      | (go_at_call 16; refine (alive_any _).mono ?_; rintro e w9 ⟨rfl, hb9⟩; have hB9 := Below.step (w := w) hB1 (Below.size hB1) hb9))
    go_ret
    exact ⟨rfl, hB9⟩

set_option maxRecDepth 100000 in
theorem lifted (os : Os) (started : os.Started) (H : Type) (enc : TypeId × Value → H) :
    ReturnsInHanded {} Try.checked os 7 .any (Rows.gatesNestedSpec.pre6 enc Try.prog Try.f7 Rows.gatesNestedRow.domain false) (Rows.gatesNestedSpec.post enc Try.prog Try.f7 false true false false) := by
  refine returnsInHanded_of_change (C := Try.checked) own started (by kernel_rfl) Try.func7
    (ChangeSpec.witness6 (enc := enc) (C := Try.checked) false ⟨#[], #[.agg #[.int .i64 0, .slice none 0 0, .slice none 0 0, .slice none 0 0, .slice none 0 0], .int .i64 0, .int .i64 0], []⟩ 12 (by kernel_rfl) (by kernel_rfl) (by kernel_rfl) (by kernel_rfl)) ?_
  intro W base args ds gs before hval0 hW hcnd _
  have hval : ∀ (j : Nat) t v, Try.f7.params[j]? = some t → args[j]? = some v → Value.okWide Try.prog W .any base t v := hval0
  have hW' := hW
  have hlt : ∀ x ∈ before, x.block < W.heap.size := fun x hx => by simpa using hW'.lt x hx
  obtain ⟨p, q, hA0, hV, rfl, hfz, hnd⟩ := hW
  have hA : DataW.TrodAll enc Try.prog W 0 (fun _ => true) true Try.f7.params.toList args.toList ds p := hA0
  rw [Try.params7] at hA hval
  obtain ⟨v0, vs0, d0, ds0, b0, q0, hargs, rfl, rfl, h0, r0⟩ := trodAll_cons hA
  obtain ⟨v1, vs1, d1, ds1, b1, q1, rfl, rfl, rfl, h1, r1⟩ := trodAll_cons r0
  obtain ⟨v2, vs2, d2, ds2, b2, q2, rfl, rfl, rfl, h2, r2⟩ := trodAll_cons r1
  obtain ⟨rfl, rfl, rfl⟩ := trodAll_nil r2
  obtain rfl : args = #[v0, v1, v2] := by cases args; simp_all
  obtain ⟨rfl, rfl⟩ := trodVars_none hV
  obtain ⟨c0, p0, rfl, hm0, hN0, hv0⟩ := open_circ (hval 0 26 v0 rfl rfl) h0
  obtain ⟨a1, rfl, rfl, rfl, w1⟩ := open_int Try.underlying3 (hval 1 3 v1 rfl rfl) h1
  obtain ⟨a2, rfl, rfl, rfl, w2⟩ := open_int Try.underlying3 (hval 2 3 v2 rfl rfl) h2
  have hlo : laidOutB Try.prog = true := by kernel_rfl
  clear hA0 hval0
  simp only [List.append_nil] at hW' hlt
  refine (walk c0 p0 a1 a2 W hm0 hN0 hv0 w1 w2).mono fun e W' ⟨he, hb⟩ => ?_
  subst he
  have hback := (trodAll_cons_mk (arg_back (W' := W') hlo (by kernel_rfl) (of_decide_eq_true (by kernel_rfl)) h0 hb (fun x hx => hlt x (by simp [hx]))) (trodAll_cons_mk (shut_int (enc := enc) (w := W') (base := 0) (spare := fun b => decide (b < W.heap.size)) (held := true) Try.underlying3 w1) (trodAll_cons_mk (shut_int (enc := enc) (w := W') (base := 0) (spare := fun b => decide (b < W.heap.size)) (held := true) Try.underlying3 w2) trodAll_mk0)))
  simp only [List.append_nil, List.nil_append] at hback
  exact ⟨_, rfl, law_post hW' (trodAll_cons_mk (shut_bool Try.underlying4 _) trodAll_mk0) hback rfl hb⟩

theorem over : Rows.gatesNestedRow.holds Try.pinned (OpenSpec.ofChange Rows.gatesNestedSpec) :=
  OpenClaim.holds_of_wide 7 Try.f7 rfl rfl rfl rfl rfl rfl rfl ⟨rfl, rfl, rfl, rfl, rfl⟩ rfl rfl rfl rfl rfl (by kernel_rfl) Try.func7 (by kernel_rfl)
    (of_decide_eq_true (by kernel_rfl)) (by unfold Func.isWrapper; first | (rw [if_pos (by decide +kernel)]; kernel_rfl) | (rw [if_neg (by decide +kernel)]; exact ⟨rfl, rfl⟩))
    (fun os started H enc _ => lifted os started H enc)

theorem proved : Rows.GatesNestedSaid :=
  over
end Go.Proofs.Ytheekpmjcgmopaa.gatesNested
