/- For all circuits that are not great, states and inputs of them, literals x and variables v: with an input or a latch outside of the cone of x that has the other value, x has the same value. No conditions. -/
import Derived.Test.YtoocghecmpnjeaaValuesConeKit
namespace Go.Proofs.Ytoocghecmpnjeaa.valuesCone
open Go.ChangeShapes Go.WideShapes Go.ChangeAt Go.RowKit
set_option linter.unusedVariables false
set_option linter.unusedSimpArgs false


theorem own : ownKnob Try.prog.godebug = none := by kernel_rfl

set_option maxRecDepth 100000 in
set_option maxHeartbeats 4000000 in
theorem walk (c0 : Cr) (p0 : Pl) (A1 : Option Addr) (n1 k1 : Nat) (f1 : Nat → Bool) (A2 : Option Addr) (n2 k2 : Nat) (f2 : Nat → Bool) (a3 : Int) (a4 : Int) (w : World) (hm0 : Mem w w.heap.size c0 p0) (hN0 : Nils c0 p0) (hv0 : Vals c0) (hC0 : Caps c0 p0) (hm1 : BlsAt w w.heap.size A1 n1 f1) (hN1 : A1 = none → n1 = 0 ∧ k1 = 0) (hC1 : n1 ≤ k1 ∧ k1 ≤ maxLen) (hm2 : BlsAt w w.heap.size A2 n2 f2) (hN2 : A2 = none → n2 = 0 ∧ k2 = 0) (hC2 : n2 ≤ k2 ∧ k2 ≤ maxLen) (w3 : (Lit.int .i64 a3).wf = true) (w4 : (Lit.int .i64 a4).wf = true) :
    Calls Try.prog 12 #[cv c0 p0, .slice A1 n1 k1, .slice A2 n2 k2, .int .i64 a3, .int .i64 a4] w fun e w' => e = .returned (.bool true) ∧ Below w.heap.size w w' := by
  have hv3 := (i64_of w3)
  have hv4 := (i64_of w4)
  unfold I64 at hv3 hv4
  clear w3 w4
  cases hft : c0.ft n1 n2
  case false =>
    go_enter Try.func12, Try.ntmps12
    go_wp2_with (first
      | (go_at_call 45; (with_reducible refine (fit_no (s := f1) (t := f2) hft (w.alloc _) (hm0.to (by go_grown) (by go_size)) hv0).mono ?_); rintro e wa ⟨rfl, hb1⟩; have hB2 : Below w.heap.size w wa := Below.step (by go_grown) (by go_size) hb1)
      | (go_at_call 40; refine (alive4_any _).mono ?_; rintro e wz ⟨rfl, hb9⟩; have hB9 := Below.step (w := w) hB2 (Below.size hB2) hb9))
    go_ret
    exact ⟨rfl, hB9⟩
  case true =>
    obtain ⟨hg, q1, q2, hk0⟩ := Cr.ft_yes hft
    have hgr := Cr.gr_no hg
    have hs : Sm c0 := hv0.sm (by omega) (by omega) (by omega) (by omega)
    have g1 := hs.nl
    have g2 := hs.na
    have hg0 : Arg w w.heap.size c0 p0 A1 n1 k1 f1 A2 n2 k2 f2 := ⟨hm0, hs, hm1, hm2, hN1, hN2, by omega, by omega⟩
    obtain ⟨hck, hns, hni⟩ := Cr.ask_zero hk0
    have hb := Cr.chk_i (c := c0) (by simpa using hck) hs
    have hcase : (a3 < 2) ∨ (2 ≤ a3 ∧ c0.sz < a3 / 2) ∨ (2 ≤ a3 ∧ a3 / 2 ≤ c0.sz ∧ a4 < 1) ∨ (2 ≤ a3 ∧ a3 / 2 ≤ c0.sz ∧ 1 ≤ a4 ∧ (n2 : Int) + n1 < a4) ∨ (2 ≤ a3 ∧ a3 / 2 ≤ c0.sz ∧ 1 ≤ a4 ∧ a4 ≤ (n2 : Int) + n1) := by omega
    have HK := Lib.hid hk0
    have HC := Lib.hid hck
    have HFG := Lib.hid (show ((c0.fg + c0.na : Nat) : Int) = c0.sz + 1 by have : c0.sz = c0.i + c0.nl + c0.na := rfl; unfold Cr.fg; omega)
    have HNS := Lib.hid (And.intro hns hni)
    clear hk0 hck hg
    rcases hcase with a | ⟨a, b⟩ | ⟨a, b, d⟩ | ⟨a, b, d, f⟩ | ⟨a, b, d, f⟩
    case inr.inr.inr.inr =>
      obtain ⟨m, rfl⟩ : ∃ m : Nat, a4 = (m : Int) + 1 := ⟨(a4 - 1).toNat, by omega⟩
      have hsz4 : ((m : Int) + 1) ≤ c0.sz := by have : c0.sz = c0.i + c0.nl + c0.na := rfl; omega
      have hE := (Cr.cL_eq HC.out (l := a3) (by omega) b).2
      obtain ⟨xs, hxs⟩ : ∃ xs, c0.cL a3 = xs := ⟨_, rfl⟩
      have hlen := Cr.cone_len c0 a3 hs
      rw [hxs] at hlen
      have HX := Lib.hid hxs
      have HE := Lib.hid hE
      obtain ⟨N, hN⟩ : ∃ N, N = c0.fg + c0.na := ⟨_, rfl⟩
      have b1 : a3 ≤ 2001 := by omega
      have b3 : 0 ≤ a3 := by omega
      have b4 : a3 / 2 < (N : Int) := by have := HFG.out; omega
      have HN := Lib.hid hN
      clear hxs hE hN hns hni
      obtain ⟨i0, hi0, hzz0, hs0, hy0⟩ := info_parts info_bool
      go_enter Try.func12, Try.ntmps12
      go_wp2_with (first
        | (go_at_call 45; (with_reducible refine (fit_yes hft (w.alloc _) (hg0.to (by go_grown) (by go_size))).mono ?_); rintro e wa ⟨rfl, hb1⟩; obtain ⟨hc1, hf1⟩ := bcell hb1; have hz1 : w.heap.size < wa.heap.size := (by have := hb1.size; (try simp at this); omega); have hB1 : Below w.heap.size w wa := Below.step (by go_grown) (by go_size) hb1; have hA1 : Has wa w.heap.size 26 (cc c0 p0) := (Has.new _ _ _).keep hb1 (by go_size); have hB2 := hB1; have hA2 := hA1)
        | (go_at_call 32; refine (rSize_any c0 p0 _ hb.1 hb.2.1 g1 g2).mono ?_; rintro e wb ⟨rfl, hb3⟩; obtain ⟨hc3, hf3⟩ := bcell hb3; have hz3 : w.heap.size < wb.heap.size := (by have := hb3.size; omega); have hB2 := Below.step hB2 hB2.size hb3; have hA2 := hA2.keep hb3 hA2.lt)
        | (go_at_call 49; (with_reducible refine (coneV HX.out HE.out p0 _ (hm0.to hB2 hB2.size) hs).mono ?_); rintro e w4 ⟨A4, K4, rfl, hi4, hb4⟩; obtain ⟨hc4, hf4⟩ := bcell hb4; have hz4 : w.heap.size < w4.heap.size := (by have := hb4.size; omega); have hB4 := Below.step hB2 hB2.size hb4; have hA4 := hA2.keep hb4 hA2.lt))
      clear hc1 hc3 hc4 hf1 hf3 hf4 hb1 hb3 hb4
      go_loop [13] (fun i => ∃ q : Nat, q ≤ xs.length ∧ i = .int .i64 q ∧ Hid (∀ j, j < q → xs.getD j 0 ≠ ((m : Int) + 1))) (fun i => xs.length - (intOf i).toNat)
      case atStart => exact ⟨0, Nat.zero_le _, rfl, Lib.hid (fun j hj => absurd hj (Nat.not_lt_zero _))⟩
      case round =>
        obtain ⟨q, hq, rfl, hL⟩ := hrel
        obtain ⟨x0, x1, x2, x3, x4⟩ := hA4.box
        by_cases hlt : q < xs.length
        · obtain ⟨aa, rfl, hab, hcs⟩ := hi4 (by omega)
          have y0 : w4.cell? (aa.add q) = some (.int .i64 (xs.getD q 0)) := hcs q hlt
          have hq0 : (0 : Int) ≤ (q : Int) := by omega
          have hq1 : (q : Int) < xs.length := by omega
          obtain ⟨u, hu⟩ : ∃ u, xs.getD q 0 = u := ⟨_, rfl⟩
          rw [hu] at y0
          have HU := Lib.hid hu
          clear hcs hu hi4
          by_cases he : u = ((m : Int) + 1)
          · have h1 : (u == ((m : Int) + 1)) = true := by simp [he]
            clear he
            go_wp2_with (go_at_call 40; refine (alive4_any _).mono ?_; rintro e wz ⟨rfl, hb9⟩; have hB9 := Below.step (w := w) hB4 (Below.size hB4) hb9)
            go_ret
            exact ⟨rfl, hB9⟩
          · have h1 : (u == ((m : Int) + 1)) = false := by simp [he]
            have HNE := Lib.hid he
            clear he
            go_wp2
            go_round
            case rel => exact ⟨q + 1, by omega, by go_num, Lib.hid (fun j hj => by
              rcases Nat.lt_succ_iff_lt_or_eq.1 hj with h' | h'
              · exact hL.out j h'
              · subst h'; rw [HU.out]; exact HNE.out)⟩
            case measure => simp [intOf]; omega
        · obtain rfl : q = xs.length := by omega
          have hnr : Hid (¬ Cr.Rc c0 (a3 / 2).toNat (m + 1)) := Cr.not_rc HC.out b3 b (by omega) (by omega) (by rw [HX.out]; intro j hj; have := hL.out j hj; omega)
          clear hq hlt hL
          have hE0 := (Has.new w4 4 #[])
          have hBx : Below w.heap.size w (w4.alloc (.cells #[] 4)) := hB4.alloc hB4.size _
          have hz4' := hA4.lt
          by_cases hin : ((m : Int) + 1) ≤ (n2 : Int)
          · go_wp2_with (first
              | (at_builtin
                 (refine append_to_new rfl (.tmp 75) (.tmp 76) _ rfl (w.heap.size + 1) 4 i0 _ 1 1 Try.underlying63 hi0 hzz0 hs0 hy0 rfl (by decide) w4.heap.size rfl (by omega) (Has.new w4 4 #[]) A1 n1 k1 (bL f1 n1) rfl (bL_len _ _) ((hm1.keep hBx).src hN1) (bL_one _ _) (by simp only [maxLen]; omega) (by omega) (by simp; omega) ?_)
                 intro g1 kk1 w5 ho1 hg5 hat5
                 have hA5 : Has w5 w.heap.size 26 (cc c0 p0) := (hA4.al _).grow hg5 (by omega)
                 have hB5 : Below w.heap.size w w5 := hBx.grown hg5 (by simp; omega) (fun k hk => by cases hk; omega)
                 have hz5 := hA5.lt
                 have hl1 := own_lt ho1
                 have hge1 := own_ge ho1
                 have hBy : Below w.heap.size w (w5.alloc (.cells #[] 4)) := hB5.alloc hB5.size _)
              | (at_builtin
                 (refine append_to_new rfl (.tmp 78) (.tmp 79) _ rfl (w.heap.size + 1) 4 i0 _ 1 1 Try.underlying63 hi0 hzz0 hs0 hy0 rfl (by decide) w5.heap.size rfl (by omega) (Has.new w5 4 #[]) A2 n2 k2 (bL f2 n2) rfl (bL_len _ _) ((hm2.keep hBy).src hN2) (bL_one _ _) (by simp only [maxLen]; omega) (by omega) (by simp; omega) ?_)
                 intro g2 kk2 w6 ho2 hg6 hat6
                 have hA6 : Has w6 w.heap.size 26 (cc c0 p0) := (hA5.al _).grow hg6 (by omega)
                 have hB6 : Below w.heap.size w w6 := hBy.grown hg6 (by simp; omega) (fun k hk => by cases hk; omega)
                 have hz6 := hA6.lt
                 have hge2 : w5.heap.size ≤ g2 := (by rcases hat6 with h | h; · omega
                                                      · rw [h]; simp)
                 have hl2 := own_lt ho2
                 have ho1' := own_keep ho1 (show w6.heap[g1]? = w5.heap[g1]? by rw [hg6.block g1 (by simp; omega) (by simp; omega)]; exact Below.heap_alloc _ _ _ hl1)
                 have hst := own_store ho2 (j0 := m) (by omega)
                 obtain ⟨hs1, hs2, hs3⟩ := hst
                 have hG1 := own_bls (own_keep ho1' (Below.heap_setCell w6 ⟨g2, m, none⟩ (.bool (!f2 m)) g1 (by simp; omega)))
                 have hBs : Below w.heap.size w (w6.setCell ⟨g2, m, none⟩ (.bool (!f2 m))) := hB6.setCell (by simp; omega) _
                 have hAs : Has (w6.setCell ⟨g2, m, none⟩ (.bool (!f2 m))) w.heap.size 26 (cc c0 p0) := hA6.far (by simp; omega) _
                 have hgN : Arg _ _ c0 p0 (some ⟨g1, 0, none⟩) n1 kk1 f1 (some ⟨g2, 0, none⟩) n2 kk2 (flip1 f2 m) := ⟨hm0.to hBs hBs.size, hs, hG1, hs3, (fun h => by cases h), (fun h => by cases h), by omega, by omega⟩
                 obtain ⟨e0, e1, e2, e3, e4⟩ := hAs.box
                 have HV := Lib.hid (show vlo (c0.fr f1 (flip1 f2 m)) a3 = vlo (c0.fr f1 f2) a3 from vlo_congr (Cr.fr_cone HC.out (r := (a3 / 2).toNat) (v0 := (m + 1)) hnr.out (fun j hj hj2 => rfl) (fun j hj hj2 => by unfold flip1; rw [if_neg (by omega)]) _ .base (by have := HFG.out; omega)).symm)
                 obtain ⟨y, hy⟩ : ∃ y, vlo (c0.fr f1 f2) a3 = y := ⟨_, rfl⟩
                 rw [hy] at HV
                 have HY := Lib.hid hy
                 clear hy ho1 ho1' hg5 hg6 hat5 hat6)
              | (go_at_call 34; (with_reducible refine (all_fl HK.out _ (hg0.to hBs hBs.size)).mono ?_); rintro e w7 ⟨g7, rfl, hi7, hb7⟩; rw [← HN.out] at hi7 ⊢; have hB7 := Below.step hBs hBs.size hb7; have hA7 := hAs.keep hb7 hAs.lt; have hgN7 := hgN.to hb7 hb7.size; obtain ⟨u0, u1, u2, u3, u4⟩ := hA7.box)
              | (go_at_call 34; (with_reducible refine (all_fl HK.out w7 hgN7).mono ?_); rintro e w8 ⟨g8, rfl, hi8, hb8⟩; rw [← HN.out] at hi8 ⊢; have hB8 := Below.step hB7 hB7.size hb8; have hi7 := (hi7.keep hb8).more hb8.size)
              | (go_at_call 38; (with_reducible refine (of_at HY.out w8.heap.size w8 hi7 b3 b1 b4).mono ?_); rintro e w9 ⟨rfl, rfl⟩)
              | (go_at_call 38; (with_reducible refine (of_at HV.out w8.heap.size w8 hi8 b3 b1 b4).mono ?_); rintro e w9 ⟨rfl, rfl⟩)
              | (go_at_call 40; refine (alive4_any _).mono ?_; rintro e wz ⟨rfl, hb9⟩; have hB9 := Below.step hB8 hB8.size hb9))
            go_ret
            exact ⟨rfl, hB9⟩
          · go_wp2_with (first
              | (at_builtin
                 (refine append_to_new rfl (.tmp 75) (.tmp 76) _ rfl (w.heap.size + 1) 4 i0 _ 1 1 Try.underlying63 hi0 hzz0 hs0 hy0 rfl (by decide) w4.heap.size rfl (by omega) (Has.new w4 4 #[]) A1 n1 k1 (bL f1 n1) rfl (bL_len _ _) ((hm1.keep hBx).src hN1) (bL_one _ _) (by simp only [maxLen]; omega) (by omega) (by simp; omega) ?_)
                 intro g1 kk1 w5 ho1 hg5 hat5
                 have hA5 : Has w5 w.heap.size 26 (cc c0 p0) := (hA4.al _).grow hg5 (by omega)
                 have hB5 : Below w.heap.size w w5 := hBx.grown hg5 (by simp; omega) (fun k hk => by cases hk; omega)
                 have hz5 := hA5.lt
                 have hl1 := own_lt ho1
                 have hge1 := own_ge ho1
                 have hBy : Below w.heap.size w (w5.alloc (.cells #[] 4)) := hB5.alloc hB5.size _)
              | (at_builtin
                 (refine append_to_new rfl (.tmp 78) (.tmp 79) _ rfl (w.heap.size + 1) 4 i0 _ 1 1 Try.underlying63 hi0 hzz0 hs0 hy0 rfl (by decide) w5.heap.size rfl (by omega) (Has.new w5 4 #[]) A2 n2 k2 (bL f2 n2) rfl (bL_len _ _) ((hm2.keep hBy).src hN2) (bL_one _ _) (by simp only [maxLen]; omega) (by omega) (by simp; omega) ?_)
                 intro g2 kk2 w6 ho2 hg6 hat6
                 have hA6 : Has w6 w.heap.size 26 (cc c0 p0) := (hA5.al _).grow hg6 (by omega)
                 have hB6 : Below w.heap.size w w6 := hBy.grown hg6 (by simp; omega) (fun k hk => by cases hk; omega)
                 have hz6 := hA6.lt
                 have hge2 : w5.heap.size ≤ g2 := (by rcases hat6 with h | h; · omega
                                                      · rw [h]; simp)
                 have hl2 := own_lt ho2
                 have ho1' := own_keep ho1 (show w6.heap[g1]? = w5.heap[g1]? by rw [hg6.block g1 (by simp; omega) (by simp; omega)]; exact Below.heap_alloc _ _ _ hl1)
                 have hst := own_store ho1' (j0 := (m - n2)) (by omega)
                 obtain ⟨hs1, hs2, hs3⟩ := hst
                 have hG2 := own_bls (own_keep ho2 (Below.heap_setCell w6 ⟨g1, (m - n2), none⟩ (.bool (!f1 (m - n2))) g2 (by simp; omega)))
                 have hBs : Below w.heap.size w (w6.setCell ⟨g1, (m - n2), none⟩ (.bool (!f1 (m - n2)))) := hB6.setCell (by simp; omega) _
                 have hAs : Has (w6.setCell ⟨g1, (m - n2), none⟩ (.bool (!f1 (m - n2)))) w.heap.size 26 (cc c0 p0) := hA6.far (by simp; omega) _
                 have hgN : Arg _ _ c0 p0 (some ⟨g1, 0, none⟩) n1 kk1 (flip1 f1 (m - n2)) (some ⟨g2, 0, none⟩) n2 kk2 f2 := ⟨hm0.to hBs hBs.size, hs, hs3, hG2, (fun h => by cases h), (fun h => by cases h), by omega, by omega⟩
                 obtain ⟨e0, e1, e2, e3, e4⟩ := hAs.box
                 have HV := Lib.hid (show vlo (c0.fr (flip1 f1 (m - n2)) f2) a3 = vlo (c0.fr f1 f2) a3 from vlo_congr (Cr.fr_cone HC.out (r := (a3 / 2).toNat) (v0 := (m + 1)) hnr.out (fun j hj hj2 => by have hh := HNS.out.2; unfold flip1; rw [if_neg (by omega)]) (fun j hj hj2 => rfl) _ .base (by have := HFG.out; omega)).symm)
                 obtain ⟨y, hy⟩ : ∃ y, vlo (c0.fr f1 f2) a3 = y := ⟨_, rfl⟩
                 rw [hy] at HV
                 have HY := Lib.hid hy
                 clear hy ho1 ho1' hg5 hg6 hat5 hat6)
              | (go_at_call 34; (with_reducible refine (all_fl HK.out _ (hg0.to hBs hBs.size)).mono ?_); rintro e w7 ⟨g7, rfl, hi7, hb7⟩; rw [← HN.out] at hi7 ⊢; have hB7 := Below.step hBs hBs.size hb7; have hA7 := hAs.keep hb7 hAs.lt; have hgN7 := hgN.to hb7 hb7.size; obtain ⟨u0, u1, u2, u3, u4⟩ := hA7.box)
              | (go_at_call 34; (with_reducible refine (all_fl HK.out w7 hgN7).mono ?_); rintro e w8 ⟨g8, rfl, hi8, hb8⟩; rw [← HN.out] at hi8 ⊢; have hB8 := Below.step hB7 hB7.size hb8; have hi7 := (hi7.keep hb8).more hb8.size)
              | (go_at_call 38; (with_reducible refine (of_at HY.out w8.heap.size w8 hi7 b3 b1 b4).mono ?_); rintro e w9 ⟨rfl, rfl⟩)
              | (go_at_call 38; (with_reducible refine (of_at HV.out w8.heap.size w8 hi8 b3 b1 b4).mono ?_); rintro e w9 ⟨rfl, rfl⟩)
              | (go_at_call 40; refine (alive4_any _).mono ?_; rintro e wz ⟨rfl, hb9⟩; have hB9 := Below.step hB8 hB8.size hb9))
            go_ret
            exact ⟨rfl, hB9⟩
    all_goals
      clear hns hni
      go_enter Try.func12, Try.ntmps12
      go_wp2_with (first
        | (go_at_call 45; (with_reducible refine (fit_yes hft (w.alloc _) (hg0.to (by go_grown) (by go_size))).mono ?_); rintro e wa ⟨rfl, hb1⟩; obtain ⟨hc1, hf1⟩ := bcell hb1; have hz1 : w.heap.size < wa.heap.size := (by have := hb1.size; (try simp at this); omega); have hB1 : Below w.heap.size w wa := Below.step (by go_grown) (by go_size) hb1; have hA1 : Has wa w.heap.size 26 (cc c0 p0) := (Has.new _ _ _).keep hb1 (by go_size); have hB2 := hB1; have hA2 := hA1)
        | (go_at_call 32; refine (rSize_any c0 p0 _ hb.1 hb.2.1 g1 g2).mono ?_; rintro e wb ⟨rfl, hb3⟩; obtain ⟨hc3, hf3⟩ := bcell hb3; have hz3 : w.heap.size < wb.heap.size := (by have := hb3.size; omega); have hB2 := Below.step hB2 hB2.size hb3; have hA2 := hA2.keep hb3 hA2.lt)
        | (go_at_call 40; refine (alive4_any _).mono ?_; rintro e wz ⟨rfl, hb9⟩; have hB9 := Below.step (w := w) hB2 (Below.size hB2) hb9))
      go_ret
      exact ⟨rfl, hB9⟩

set_option maxRecDepth 100000 in
theorem lifted (os : Os) (started : os.Started) (H : Type) (enc : TypeId × Value → H) :
    ReturnsInHanded {} Try.checked os 12 .any (Rows.valuesConeSpec.pre6 enc Try.prog Try.f12 Rows.valuesConeRow.domain false) (Rows.valuesConeSpec.post enc Try.prog Try.f12 false true false false) := by
  refine returnsInHanded_of_change (C := Try.checked) own started (by kernel_rfl) Try.func12
    (ChangeSpec.witness6 (enc := enc) (C := Try.checked) false ⟨#[], #[.agg #[.int .i64 0, .slice none 0 0, .slice none 0 0, .slice none 0 0, .slice none 0 0], .slice none 0 0, .slice none 0 0, .int .i64 0, .int .i64 0], []⟩ 12 (by kernel_rfl) (by kernel_rfl) (by kernel_rfl) (by kernel_rfl)) ?_
  intro W base args ds gs before hval0 hW hcnd _
  have hval : ∀ (j : Nat) t v, Try.f12.params[j]? = some t → args[j]? = some v → Value.okWide Try.prog W .any base t v := hval0
  have hW' := hW
  have hlt : ∀ x ∈ before, x.block < W.heap.size := fun x hx => by simpa using hW'.lt x hx
  obtain ⟨p, q, hA0, hV, rfl, hfz, hnd⟩ := hW
  have hA : DataW.TrodAll enc Try.prog W 0 (fun _ => true) true Try.f12.params.toList args.toList ds p := hA0
  rw [Try.params12] at hA hval
  obtain ⟨v0, vs0, d0, ds0, b0, q0, hargs, rfl, rfl, h0, r0⟩ := trodAll_cons hA
  obtain ⟨v1, vs1, d1, ds1, b1, q1, rfl, rfl, rfl, h1, r1⟩ := trodAll_cons r0
  obtain ⟨v2, vs2, d2, ds2, b2, q2, rfl, rfl, rfl, h2, r2⟩ := trodAll_cons r1
  obtain ⟨v3, vs3, d3, ds3, b3, q3, rfl, rfl, rfl, h3, r3⟩ := trodAll_cons r2
  obtain ⟨v4, vs4, d4, ds4, b4, q4, rfl, rfl, rfl, h4, r4⟩ := trodAll_cons r3
  obtain ⟨rfl, rfl, rfl⟩ := trodAll_nil r4
  obtain rfl : args = #[v0, v1, v2, v3, v4] := by cases args; simp_all
  obtain ⟨rfl, rfl⟩ := trodVars_none hV
  obtain ⟨c0, p0, rfl, hm0, hN0, hv0, hC0⟩ := open_circ (hval 0 26 v0 rfl rfl) h0
  obtain ⟨A1, n1, k1, f1, rfl, hm1, hN1, hC1⟩ := open_bl (hval 1 63 v1 rfl rfl) h1
  obtain ⟨A2, n2, k2, f2, rfl, hm2, hN2, hC2⟩ := open_bl (hval 2 63 v2 rfl rfl) h2
  obtain ⟨a3, rfl, rfl, rfl, w3⟩ := open_int Try.underlying3 (hval 3 3 v3 rfl rfl) h3
  obtain ⟨a4, rfl, rfl, rfl, w4⟩ := open_int Try.underlying3 (hval 4 3 v4 rfl rfl) h4
  have hlo : laidOutB Try.prog = true := by kernel_rfl
  clear hA0 hval0
  simp only [List.append_nil] at hW' hlt
  refine (walk c0 p0 A1 n1 k1 f1 A2 n2 k2 f2 a3 a4 W hm0 hN0 hv0 hC0 hm1 hN1 hC1 hm2 hN2 hC2 w3 w4).mono fun e W' ⟨he, hb⟩ => ?_
  subst he
  have hback := (trodAll_cons_mk (arg_back (W' := W') hlo (by kernel_rfl) (of_decide_eq_true (by kernel_rfl)) h0 hb (fun x hx => hlt x (by simp [hx]))) (trodAll_cons_mk (arg_back (W' := W') hlo (by kernel_rfl) (of_decide_eq_true (by kernel_rfl)) h1 hb (fun x hx => hlt x (by simp [hx]))) (trodAll_cons_mk (arg_back (W' := W') hlo (by kernel_rfl) (of_decide_eq_true (by kernel_rfl)) h2 hb (fun x hx => hlt x (by simp [hx]))) (trodAll_cons_mk (shut_int (enc := enc) (w := W') (base := 0) (spare := fun b => decide (b < W.heap.size)) (held := true) Try.underlying3 w3) (trodAll_cons_mk (shut_int (enc := enc) (w := W') (base := 0) (spare := fun b => decide (b < W.heap.size)) (held := true) Try.underlying3 w4) trodAll_mk0)))))
  simp only [List.append_nil, List.nil_append] at hback
  exact ⟨_, rfl, law_post hW' (trodAll_cons_mk (shut_bool Try.underlying4 _) trodAll_mk0) hback rfl hb⟩

theorem over : Rows.valuesConeRow.holds Try.pinned (OpenSpec.ofChange Rows.valuesConeSpec) :=
  OpenClaim.holds_of_wide 12 Try.f12 rfl rfl rfl rfl rfl rfl rfl ⟨rfl, rfl, rfl, rfl, rfl⟩ rfl rfl rfl rfl rfl (by kernel_rfl) Try.func12 (by kernel_rfl)
    (of_decide_eq_true (by kernel_rfl)) (by unfold Func.isWrapper; first | (rw [if_pos (by decide +kernel)]; kernel_rfl) | (rw [if_neg (by decide +kernel)]; exact ⟨rfl, rfl⟩))
    (fun os started H enc _ => lifted os started H enc)

theorem proved : Rows.ValuesConeSaid :=
  over
end Go.Proofs.Ytoocghecmpnjeaa.valuesCone
