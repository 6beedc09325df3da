/- For all numbers of variables up to 8, two clauses and a variable: their resolvent is true under all values under which both are, and has no literal of the variable. No conditions. -/
import Derived.Test.YtigfdfbjpelcaaaClVals
namespace Go.Proofs.Ytigfdfbjpelcaaa.clauseFollows
open Go.ChangeShapes Go.WideShapes Go.ChangeAt Go.RowKit
set_option linter.unusedVariables false
set_option linter.unusedSimpArgs false


theorem own : ownKnob Try.prog.godebug = none := by kernel_rfl

set_option maxRecDepth 100000 in
set_option maxHeartbeats 4000000 in
theorem walk (a0 : Int) (A1 : Option Addr) (l1 : List Int) (k1 : Nat) (A2 : Option Addr) (l2 : List Int) (k2 : Nat) (a3 : Int) (w : World) (w0 : (Lit.int .i64 a0).wf = true) (hm1 : Ia w w.heap.size A1 l1 k1) (hr1 : ∀ x ∈ l1, I64 x) (hK1 : k1 ≤ maxLen) (hm2 : Ia w w.heap.size A2 l2 k2) (hr2 : ∀ x ∈ l2, I64 x) (hK2 : k2 ≤ maxLen) (w3 : (Lit.int .i64 a3).wf = true) :
    Calls Try.prog 7 #[.int .i64 a0, .slice A1 l1.length k1, .slice A2 l2.length k2, .int .i64 a3] w fun e w' => e = .returned (.bool true) ∧ Below w.heap.size w w' := by
  have hv0 := (i64_of w0)
  have hv3 := (i64_of w3)
  unfold I64 at hv0
  clear w0 w3
  by_cases hg : a0 < 0
  · clear hm1 hr1 hm2 hr2 hv3
    go_enter Try.func7, Try.ntmps7
    go_wp2_with (first | (go_at_call 21; (with_reducible refine (alive13_any _).mono ?_); rintro e w1 ⟨rfl, hb1⟩))
    go_ret
    exact ⟨rfl, hb1⟩
  · by_cases hg2 : 8 < a0
    · clear hm1 hr1 hm2 hr2 hv3
      go_enter Try.func7, Try.ntmps7
      go_wp2_with (first | (go_at_call 21; (with_reducible refine (alive13_any _).mono ?_); rintro e w1 ⟨rfl, hb1⟩))
      go_ret
      exact ⟨rfl, hb1⟩
    · obtain ⟨n, rfl⟩ : ∃ n : Nat, a0 = n := ⟨a0.toNat, by omega⟩
      have hn8 : n ≤ 8 := by omega
      have hkm : k1 ≤ 9223372036854775807 ∧ k2 ≤ 9223372036854775807 := ⟨hK1, hK2⟩
      have hl1 : l1.length ≤ 9223372036854775807 := Nat.le_trans hm1.c hkm.1
      have hl2 : l2.length ≤ 9223372036854775807 := Nat.le_trans hm2.c hkm.2
      have D1 := fun (W : World) (hb : Below w.heap.size w W) => rCheck_any n A1 l1 k1 W (hm1.on hb) hl1 hr1
      have D2 := fun (W : World) (hb : Below w.heap.size w W) => rCheck_any n A2 l2 k2 W (hm2.on hb) hl2 hr2
      by_cases h1 : ckE n l1 = 0
      · by_cases h2 : ckE n l2 = 0
        · obtain ⟨_, _, ho1⟩ := ckE_0 h1
          obtain ⟨_, _, ho2⟩ := ckE_0 h2
          have ll1 := ho1.len2 (by omega)
          have ll2 := ho2.len2 (by omega)
          have e1 : imE n l1 l2 = 0 := imE_iff.2 ⟨by omega, by omega, ho1, ho2⟩
          have D3 := fun (W : World) (hb : Below w.heap.size w W) => resolve_any n A1 l1 k1 A2 l2 k2 a3 W (hm1.on hb) (by omega) hr1 (hm2.on hb) (by omega) hr2
          have hg' : ¬ ((n : Int) < 0) := by omega
          have hg2' : ¬ (8 : Int) < (n : Int) := by omega
          cases hrv : rvOk l1 l2 a3 with
          | false =>
            obtain ⟨r1, r2, r3⟩ := rv_no e1 hrv
            rw [r1, r2, r3] at D3
            simp only [h1, h2] at D1 D2
            obtain ⟨m1, hm1'⟩ : ∃ m, m = l1.length := ⟨_, rfl⟩
            obtain ⟨m2, hm2'⟩ : ∃ m, m = l2.length := ⟨_, rfl⟩
            rw [← hm1'] at D1 D3 ⊢
            rw [← hm2'] at D2 D3 ⊢
            clear hm1 hr1 hm2 hr2 hK1 hK2 hkm hl1 hl2 h1 h2 ho1 ho2 ll1 ll2 e1 hm1' hm2' hg hg2 hrv r1 r2 r3 hv3
            go_enter Try.func7, Try.ntmps7
            go_wp2_with (first
              | (go_at_call 21; (with_reducible refine (alive13_any _).mono ?_); rintro e w1 ⟨rfl, hb1⟩)
              | (go_at_call 16; (with_reducible refine (D1 w1 hb1).mono ?_); rintro e w2 ⟨rfl, d1, rfl⟩)
              | (go_at_call 16; (with_reducible refine (D2 _ (below_dn hb1 d1)).mono ?_); rintro e w3 ⟨rfl, d2, rfl⟩)
              | (go_at_call 19; (with_reducible refine (D3 _ (below_dn hb1 _)).mono ?_); rintro e w4 ⟨A4, k4, rfl, hI4, hb4⟩))
            go_ret
            exact ⟨rfl, bn (below_dn hb1 _) hb4⟩
          | true =>
            obtain ⟨r1, r2, r3⟩ := rv_yes e1 hrv
            rw [r1, r2, r3] at D3
            have hmk := rv_mk r1
            have hlr : (rvL l1 l2 a3).length ≤ 100000 := Nat.le_trans (List.length_filter_le _ _) (by rw [List.length_append]; omega)
            cases hal : alw (rvL l1 l2 a3) with
            | true =>
              obtain ⟨q1, q2⟩ := mk_alw hmk hal
              rw [q1, q2] at D3
              simp only [h1, h2] at D1 D2
              obtain ⟨m1, hm1'⟩ : ∃ m, m = l1.length := ⟨_, rfl⟩
              obtain ⟨m2, hm2'⟩ : ∃ m, m = l2.length := ⟨_, rfl⟩
              rw [← hm1'] at D1 D3 ⊢
              rw [← hm2'] at D2 D3 ⊢
              clear hm1 hr1 hm2 hr2 hK1 hK2 hkm hl1 hl2 h1 h2 ho1 ho2 ll1 ll2 e1 hm1' hm2' hg hg2 hrv r1 r2 r3 hv3 hmk hlr hal q1 q2
              go_enter Try.func7, Try.ntmps7
              go_wp2_with (first
                | (go_at_call 21; (with_reducible refine (alive13_any _).mono ?_); rintro e w1 ⟨rfl, hb1⟩)
                | (go_at_call 16; (with_reducible refine (D1 w1 hb1).mono ?_); rintro e w2 ⟨rfl, d1, rfl⟩)
                | (go_at_call 16; (with_reducible refine (D2 _ (below_dn hb1 d1)).mono ?_); rintro e w3 ⟨rfl, d2, rfl⟩)
                | (go_at_call 19; (with_reducible refine (D3 _ (below_dn hb1 _)).mono ?_); rintro e w4 ⟨A4, k4, rfl, hI4, hb4⟩))
              go_ret
              exact ⟨rfl, bn (below_dn hb1 _) hb4⟩
            | false =>
              obtain ⟨q1, q2⟩ := mk_yes hmk hal
              rw [q1, q2] at D3
              have hol : ∀ x ∈ rvL l1 l2 a3, isL n x = true := (mkE_iff.1 hmk).2.2
              have hoc : OkC n (srt (rvL l1 l2 a3)) := (OkC_srt hol).2 hal
              have hcl := hoc.len2 (by omega)
              have h3 : ckE n (srt (rvL l1 l2 a3)) = 0 := ckE_yes (by omega) (by omega) hoc
              have hxb : 1 ≤ a3 ∧ a3 ≤ 8 := by
                rcases rvOk_iff.1 hrv with ⟨p, _⟩ | ⟨p, _⟩
                · have := isL_iff.1 (ho1.1 _ p); omega
                · have := isL_iff.1 (ho1.1 _ p); omega
              have hn1 : hs (srt (rvL l1 l2 a3)) (2 * a3) = false := hs_no.2 fun h => (mem_rvL.1 ((mem_srt _ _).1 h)).2 (by omega)
              have hn2 : hs (srt (rvL l1 l2 a3)) (2 * a3 + 1) = false := hs_no.2 fun h => (mem_rvL.1 ((mem_srt _ _).1 h)).2 (by omega)
              have hci : ∀ x ∈ srt (rvL l1 l2 a3), I64 x := fun x hx => by have := isL_iff.1 (hoc.1 x hx); unfold I64; omega
              have htr : ∀ k, trs (vals n k) l1 = true → trs (vals n k) l2 = true → trs (vals n k) (srt (rvL l1 l2 a3)) = true := fun k p q => by
                rw [trs_congr (mem_srt (rvL l1 l2 a3))]
                exact rv_true r1 p q
              generalize srt (rvL l1 l2 a3) = c at D3 hoc hcl h3 hn1 hn2 hci htr
              obtain ⟨x0, x1⟩ := hxb
              have T1 := fun (k : Nat) (A3 : Option Addr) (k3 : Nat) (W : World) (hb : Below w.heap.size w W) (h3 : BlsAt W W.heap.size A3 n (vals n k)) => true_any A1 l1 k1 A3 n k3 (vals n k) W (hm1.on hb) (by omega) hr1 h3 (by omega)
              have T2 := fun (k : Nat) (A3 : Option Addr) (k3 : Nat) (W : World) (hb : Below w.heap.size w W) (h3 : BlsAt W W.heap.size A3 n (vals n k)) => true_any A2 l2 k2 A3 n k3 (vals n k) W (hm2.on hb) (by omega) hr2 h3 (by omega)
              have T3 := fun (k : Nat) (A3 : Option Addr) (k3 : Nat) (A4 : Option Addr) (k4 : Nat) (W : World) (h4 : Ia W W.heap.size A4 c k4) (h3 : BlsAt W W.heap.size A3 n (vals n k)) => true_any A4 c k4 A3 n k3 (vals n k) W h4 (by omega) hci h3 (by omega)
              have G1 := fun (A4 : Option Addr) (k4 : Nat) (W : World) (h4 : Ia W W.heap.size A4 c k4) => rHas_any A4 c k4 (2 * a3) W.heap.size W h4 (by omega)
              have G2 := fun (A4 : Option Addr) (k4 : Nat) (W : World) (h4 : Ia W W.heap.size A4 c k4) => rHas_any A4 c k4 (2 * a3 + 1) W.heap.size W h4 (by omega)
              have t1 : ∀ k, trB n (vals n k) l1 = trs (vals n k) l1 := fun k => by unfold trB; simp [h1]
              have t2 : ∀ k, trB n (vals n k) l2 = trs (vals n k) l2 := fun k => by unfold trB; simp [h2]
              have t3 : ∀ k, trB n (vals n k) c = trs (vals n k) c := fun k => by unfold trB; simp [h3]
              simp only [t1, t2, t3, h1, h2, h3, hn1, hn2] at D1 D2 T1 T2 T3 G1 G2
              have hpow : 2 ^ n ≤ 256 := Nat.le_trans (Nat.pow_le_pow_right (by decide) hn8) (by decide)
              obtain ⟨M, hM⟩ : ∃ M, M = 2 ^ n := ⟨_, rfl⟩
              rw [← hM] at hpow
              have hsh : (2 : Int) ^ n = (M : Int) := by rw [hM]; simp
              have hmin : min n 64 = n := by omega
              have HT := Lib.hid htr
              obtain ⟨m1, hm1'⟩ : ∃ m, m = l1.length := ⟨_, rfl⟩
              obtain ⟨m2, hm2'⟩ : ∃ m, m = l2.length := ⟨_, rfl⟩
              obtain ⟨mc, hmc'⟩ : ∃ m, m = c.length := ⟨_, rfl⟩
              rw [← hm1'] at D1 D3 T1 ⊢
              rw [← hm2'] at D2 D3 T2 ⊢
              rw [← hmc'] at T3 G1 G2
              have hD3 : ∀ (W : World), Below w.heap.size w W → Calls Try.prog 19 #[.int .i64 (n : Int), .slice A1 m1 k1, .slice A2 m2 k2, .int .i64 a3] W fun e w' => ∃ A k, e = .returned (.tuple #[.slice A mc k, .bool false, .int .i64 0]) ∧ Ia w' w'.heap.size A c k ∧ Below W.heap.size W w' := fun W hb => by rw [hmc']; exact D3 W hb
              clear hm1 hr1 hm2 hr2 hK1 hK2 hkm hl1 hl2 h1 h2 ho1 ho2 ll1 ll2 e1 hm1' hm2' hmc' hg hg2 hrv r1 r2 r3 hv3 hmk hlr hal q1 q2 hol hoc hcl h3 hn1 hn2 hci htr t1 t2 t3 hM D3
              go_enter Try.func7, Try.ntmps7
              go_wp2_with (first
                | (go_at_call 21; (with_reducible refine (alive13_any _).mono ?_); rintro e w1 ⟨rfl, hb1⟩)
                | (go_at_call 16; (with_reducible refine (D1 w1 hb1).mono ?_); rintro e w2 ⟨rfl, d1, rfl⟩)
                | (go_at_call 16; (with_reducible refine (D2 _ (below_dn hb1 d1)).mono ?_); rintro e w3 ⟨rfl, d2, rfl⟩)
                | (go_at_call 19; (with_reducible refine (hD3 _ (below_dn hb1 _)).mono ?_); rintro e w4 ⟨A4, k4, rfl, hI4, hb4⟩
                   have hB4 := bn (below_dn hb1 _) hb4))
              go_loopw [13] (fun kk wr => ∃ k : Nat, k ≤ M ∧ kk = .int .i64 (k : Int) ∧ Below w.heap.size w wr ∧ Ia wr wr.heap.size A4 c k4) (fun kk _ => M - (intOf kk).toNat)
              case atStart => exact ⟨0, Nat.zero_le _, rfl, hB4, hI4⟩
              case round =>
                clear hb1 hb4 D1 D2 hD3 hI4 hB4
                obtain ⟨k, hk, rfl, hB, hI⟩ := hrel
                by_cases hlt : k < M
                · have hk1 : (k : Int) < (M : Int) := by omega
                  have hk0 : (0 : Int) ≤ (k : Int) := by omega
                  have hV := values_any n k hn8 (by omega) wr
                  have T1' := T1 k
                  have T2' := T2 k
                  have T3' := T3 k
                  have hPs := HT.out k
                  obtain ⟨x, hx⟩ : ∃ x, x = trs (vals n k) l1 := ⟨_, rfl⟩
                  obtain ⟨y, hy⟩ : ∃ y, y = trs (vals n k) l2 := ⟨_, rfl⟩
                  obtain ⟨z, hz⟩ : ∃ z, z = trs (vals n k) c := ⟨_, rfl⟩
                  rw [← hx] at T1' hPs
                  rw [← hy] at T2' hPs
                  rw [← hz] at T3' hPs
                  have HP := Lib.hid hPs
                  clear hx hy hz hPs
                  have hcase : x = false ∨ (x = true ∧ y = false) ∨ (x = true ∧ y = true ∧ z = true) := by
                    cases x
                    · exact Or.inl rfl
                    · cases y
                      · exact Or.inr (Or.inl ⟨rfl, rfl⟩)
                      · exact Or.inr (Or.inr ⟨rfl, rfl, HP.out rfl rfl⟩)
                  rcases hcase with rfl | ⟨rfl, rfl⟩ | ⟨rfl, rfl, rfl⟩
                  all_goals
                    clear HP
                    go_wp2_with (first
                      | (go_at_call 22; (with_reducible refine hV.mono ?_); rintro e w5 ⟨A5, k5, rfl, hm5, hb5⟩
                         have hB5 := bn hB hb5)
                      | (go_at_call 12; (with_reducible refine (T1' A5 k5 w5 hB5 hm5).mono ?_); rintro e w6 ⟨rfl, hb6⟩
                         have hB6 := bn hB5 hb6)
                      | (go_at_call 12; (with_reducible refine (T2' A5 k5 w6 hB6 (hm5.to hb6 hb6.size)).mono ?_); rintro e w7 ⟨rfl, hb7⟩
                         have hB7 := bn hB6 hb7
                         have hI7 := ((hI.on hb5).on hb6).on hb7
                         have hm7 := (hm5.to hb6 hb6.size).to hb7 hb7.size)
                      | (go_at_call 12; (with_reducible refine (T3' A5 k5 A4 k4 w7 hI7 hm7).mono ?_); rintro e w8 ⟨rfl, hb8⟩
                         have hB8 := bn hB7 hb8))
                    go_roundw
                    case rel => exact ⟨k + 1, by omega, by go_num, hB8, hI7.on hb8⟩
                    case measure => simp [intOf]; omega
                · obtain rfl : k = M := by omega
                  have hkn : ¬ (k : Int) < (k : Int) := by omega
                  have g1 := G1 A4 k4 wr hI
                  have g2 := G2 A4 k4 wr hI
                  clear T1 T2 T3 G1 G2
                  go_wp2_with (first
                    | (go_at_call 23; (with_reducible refine g1.mono ?_); rintro e w5 ⟨rfl, rfl⟩)
                    | (go_at_call 23; (with_reducible refine g2.mono ?_); rintro e w5 ⟨rfl, rfl⟩))
                  go_ret
                  exact ⟨rfl, hB⟩
        · have e2 : (ckE n l2 != 0) = true := by simpa using h2
          obtain ⟨u, hu⟩ : ∃ u, u = ckE n l2 := ⟨_, rfl⟩
          rw [← hu] at D2 e2
          rw [h1] at D1
          obtain ⟨m1, hm1'⟩ : ∃ m, m = l1.length := ⟨_, rfl⟩
          obtain ⟨m2, hm2'⟩ : ∃ m, m = l2.length := ⟨_, rfl⟩
          rw [← hm1'] at D1 ⊢
          rw [← hm2'] at D2 ⊢
          clear hm1 hr1 hm2 hr2 hK1 hK2 hkm hl1 hl2 h1 h2 hm1' hm2' hu hg hg2
          have hg : ¬ ((n : Int) < 0) := by omega
          have hg2 : ¬ (8 : Int) < (n : Int) := by omega
          go_enter Try.func7, Try.ntmps7
          go_wp2_with (first
            | (go_at_call 21; (with_reducible refine (alive13_any _).mono ?_); rintro e w1 ⟨rfl, hb1⟩)
            | (go_at_call 16; (with_reducible refine (D1 w1 hb1).mono ?_); rintro e w2 ⟨rfl, d1, rfl⟩)
            | (go_at_call 16; (with_reducible refine (D2 _ (below_dn hb1 d1)).mono ?_); rintro e w3 ⟨rfl, d2, rfl⟩))
          go_ret
          exact ⟨rfl, by first | exact below_dn hb1 _ | exact below_dn (below_dn hb1 _) _⟩
      · have e2 : (ckE n l1 != 0) = true := by simpa using h1
        obtain ⟨u, hu⟩ : ∃ u, u = ckE n l1 := ⟨_, rfl⟩
        rw [← hu] at D1 e2
        obtain ⟨m1, hm1'⟩ : ∃ m, m = l1.length := ⟨_, rfl⟩
        rw [← hm1'] at D1 ⊢
        clear hm1 hr1 hm2 hr2 hK1 hK2 hkm hl1 hl2 h1 hm1' hu D2 hg hg2
        have hg : ¬ ((n : Int) < 0) := by omega
        have hg2 : ¬ (8 : Int) < (n : Int) := by omega
        go_enter Try.func7, Try.ntmps7
        go_wp2_with (first
          | (go_at_call 21; (with_reducible refine (alive13_any _).mono ?_); rintro e w1 ⟨rfl, hb1⟩)
          | (go_at_call 16; (with_reducible refine (D1 w1 hb1).mono ?_); rintro e w2 ⟨rfl, d1, rfl⟩))
        go_ret
        exact ⟨rfl, below_dn hb1 _⟩

set_option maxRecDepth 100000 in
theorem lifted (os : Os) (started : os.Started) (H : Type) (enc : TypeId × Value → H) :
    ReturnsInHanded {} Try.checked os 7 .any (Rows.clauseFollowsSpec.pre6 enc Try.prog Try.f7 Rows.clauseFollowsRow.domain false) (Rows.clauseFollowsSpec.post enc Try.prog Try.f7 false true false false) := by
  refine returnsInHanded_of_change (C := Try.checked) own started (by kernel_rfl) Try.func7
    (ChangeSpec.witness6 (enc := enc) (C := Try.checked) false ⟨#[], #[.int .i64 0, .slice none 0 0, .slice none 0 0, .int .i64 0], []⟩ 12 (by kernel_rfl) (by kernel_rfl) (by kernel_rfl) (by kernel_rfl)) ?_
  intro W base args ds gs before hval0 hW hcnd _
  have hval : ∀ (j : Nat) t v, Try.f7.params[j]? = some t → args[j]? = some v → Value.okWide Try.prog W .any base t v := hval0
  have hW' := hW
  have hlt : ∀ x ∈ before, x.block < W.heap.size := fun x hx => by simpa using hW'.lt x hx
  obtain ⟨p, q, hA0, hV, rfl, hfz, hnd⟩ := hW
  have hA : DataW.TrodAll enc Try.prog W 0 (fun _ => true) true Try.f7.params.toList args.toList ds p := hA0
  rw [Try.params7] at hA hval
  obtain ⟨v0, vs0, d0, ds0, b0, q0, hargs, rfl, rfl, h0, r0⟩ := trodAll_cons hA
  obtain ⟨v1, vs1, d1, ds1, b1, q1, rfl, rfl, rfl, h1, r1⟩ := trodAll_cons r0
  obtain ⟨v2, vs2, d2, ds2, b2, q2, rfl, rfl, rfl, h2, r2⟩ := trodAll_cons r1
  obtain ⟨v3, vs3, d3, ds3, b3, q3, rfl, rfl, rfl, h3, r3⟩ := trodAll_cons r2
  obtain ⟨rfl, rfl, rfl⟩ := trodAll_nil r3
  obtain rfl : args = #[v0, v1, v2, v3] := by cases args; simp_all
  obtain ⟨rfl, rfl⟩ := trodVars_none hV
  obtain ⟨a0, rfl, rfl, rfl, w0⟩ := open_int Try.underlying3 (hval 0 3 v0 rfl rfl) h0
  obtain ⟨A1, l1, k1, rfl, hm1, hK1, hr1⟩ := open_is (hval 1 22 v1 rfl rfl) h1
  obtain ⟨A2, l2, k2, rfl, hm2, hK2, hr2⟩ := open_is (hval 2 22 v2 rfl rfl) h2
  obtain ⟨a3, rfl, rfl, rfl, w3⟩ := open_int Try.underlying3 (hval 3 3 v3 rfl rfl) h3
  have hlo : laidOutB Try.prog = true := by kernel_rfl
  clear hA0 hval0
  simp only [List.append_nil] at hW' hlt
  refine (walk a0 A1 l1 k1 A2 l2 k2 a3 W w0 hm1 hr1 hK1 hm2 hr2 hK2 w3).mono fun e W' ⟨he, hb⟩ => ?_
  subst he
  have hback := (trodAll_cons_mk (shut_int (enc := enc) (w := W') (base := 0) (spare := fun b => decide (b < W.heap.size)) (held := true) Try.underlying3 w0) (trodAll_cons_mk (arg_back (W' := W') hlo (by kernel_rfl) (of_decide_eq_true (by kernel_rfl)) h1 hb (fun x hx => hlt x (by simp [hx]))) (trodAll_cons_mk (arg_back (W' := W') hlo (by kernel_rfl) (of_decide_eq_true (by kernel_rfl)) h2 hb (fun x hx => hlt x (by simp [hx]))) (trodAll_cons_mk (shut_int (enc := enc) (w := W') (base := 0) (spare := fun b => decide (b < W.heap.size)) (held := true) Try.underlying3 w3) trodAll_mk0))))
  simp only [List.append_nil, List.nil_append] at hback
  exact ⟨_, rfl, law_post hW' (trodAll_cons_mk (shut_bool Try.underlying4 _) trodAll_mk0) hback rfl hb⟩

theorem over : Rows.clauseFollowsRow.holds Try.pinned (OpenSpec.ofChange Rows.clauseFollowsSpec) :=
  OpenClaim.holds_of_wide 7 Try.f7 rfl rfl rfl rfl rfl rfl rfl ⟨rfl, rfl, rfl, rfl, rfl⟩ rfl rfl rfl rfl rfl (by kernel_rfl) Try.func7 (by kernel_rfl)
    (of_decide_eq_true (by kernel_rfl)) (by unfold Func.isWrapper; first | (rw [if_pos (by decide +kernel)]; kernel_rfl) | (rw [if_neg (by decide +kernel)]; exact ⟨rfl, rfl⟩))
    (fun os started H enc _ => lifted os started H enc)

theorem proved : Rows.ClauseFollowsSaid :=
  over
end Go.Proofs.Ytigfdfbjpelcaaa.clauseFollows
