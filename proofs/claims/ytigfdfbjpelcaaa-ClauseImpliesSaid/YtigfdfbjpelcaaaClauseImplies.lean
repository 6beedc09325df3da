/- For all numbers of variables up to 8 and two clauses: one implies the other just if this is true under all values under which it is. No conditions. -/
import Derived.Test.YtigfdfbjpelcaaaClVals
namespace Go.Proofs.Ytigfdfbjpelcaaa.clauseImplies
open Go.ChangeShapes Go.WideShapes Go.ChangeAt Go.RowKit
set_option linter.unusedVariables false
set_option linter.unusedSimpArgs false

/-- among the first values: where the one is true, the other is -/
def imp (n : Nat) (a b : List Int) (k : Nat) : Bool := (List.range k).all fun j => !trs (vals n j) a || trs (vals n j) b
theorem imp_succ (n : Nat) (a b : List Int) (k : Nat) : imp n a b (k + 1) = (imp n a b k && (!trs (vals n k) a || trs (vals n k) b)) := by
  unfold imp; rw [List.range_succ, List.all_append]; simp
theorem imp_prt {v : Int} {n : Nat} (hn : v = n) {a b : List Int} (ha : OkC v a) (hb : OkC v b) : imp n a b (2 ^ n) = prt a b := by
  rw [Bool.eq_iff_iff, prt_all hn ha hb]
  unfold imp
  rw [List.all_eq_true]
  constructor
  · intro h k hk h1
    have := h k (List.mem_range.2 hk)
    rw [h1] at this
    simpa using this
  · intro h k hk
    have := h k (List.mem_range.1 hk)
    cases e : trs (vals n k) a with
    | false => rfl
    | true => simpa using this e

theorem own : ownKnob Try.prog.godebug = none := by kernel_rfl

set_option maxRecDepth 100000 in
set_option maxHeartbeats 4000000 in
theorem walk (a0 : Int) (A1 : Option Addr) (l1 : List Int) (k1 : Nat) (A2 : Option Addr) (l2 : List Int) (k2 : Nat) (w : World) (w0 : (Lit.int .i64 a0).wf = true) (hm1 : Ia w w.heap.size A1 l1 k1) (hr1 : ∀ x ∈ l1, I64 x) (hK1 : k1 ≤ maxLen) (hm2 : Ia w w.heap.size A2 l2 k2) (hr2 : ∀ x ∈ l2, I64 x) (hK2 : k2 ≤ maxLen) :
    Calls Try.prog 6 #[.int .i64 a0, .slice A1 l1.length k1, .slice A2 l2.length k2] w fun e w' => e = .returned (.bool true) ∧ Below w.heap.size w w' := by
  have hv0 := (i64_of w0)
  unfold I64 at hv0
  clear w0
  by_cases hg : a0 < 0
  · clear hm1 hr1 hm2 hr2
    go_enter Try.func6, Try.ntmps6
    go_wp2_with (first | (go_at_call 21; (with_reducible refine (alive13_any _).mono ?_); rintro e w1 ⟨rfl, hb1⟩))
    go_ret
    exact ⟨rfl, hb1⟩
  · by_cases hg2 : 8 < a0
    · clear hm1 hr1 hm2 hr2
      go_enter Try.func6, Try.ntmps6
      go_wp2_with (first | (go_at_call 21; (with_reducible refine (alive13_any _).mono ?_); rintro e w1 ⟨rfl, hb1⟩))
      go_ret
      exact ⟨rfl, hb1⟩
    · obtain ⟨n, rfl⟩ : ∃ n : Nat, a0 = n := ⟨a0.toNat, by omega⟩
      have hn8 : n ≤ 8 := by omega
      have hkm : k1 ≤ 9223372036854775807 ∧ k2 ≤ 9223372036854775807 := ⟨hK1, hK2⟩
      have hl1 : l1.length ≤ 9223372036854775807 := Nat.le_trans hm1.c hkm.1
      have hl2 : l2.length ≤ 9223372036854775807 := Nat.le_trans hm2.c hkm.2
      have D1 := fun (W : World) (hb : Below w.heap.size w W) => rCheck_any n A1 l1 k1 W (hm1.on hb) hl1 hr1
      have D2 := fun (W : World) (hb : Below w.heap.size w W) => rCheck_any n A2 l2 k2 W (hm2.on hb) hl2 hr2
      by_cases h1 : ckE n l1 = 0
      · by_cases h2 : ckE n l2 = 0
        · obtain ⟨_, _, ho1⟩ := ckE_0 h1
          obtain ⟨_, _, ho2⟩ := ckE_0 h2
          have ll1 := ho1.len2 (by omega)
          have ll2 := ho2.len2 (by omega)
          have e1 : imE n l1 l2 = 0 := imE_iff.2 ⟨by omega, by omega, ho1, ho2⟩
          have e2 : imB n l1 l2 = imp n l1 l2 (2 ^ n) := by unfold imB; rw [imp_prt rfl ho1 ho2]; simp [e1]
          have D3 := fun (W : World) (hb : Below w.heap.size w W) => implies_any n A1 l1 k1 A2 l2 k2 W (hm1.on hb) (by omega) hr1 (hm2.on hb) (by omega) hr2
          have T1 := fun (k : Nat) (A3 : Option Addr) (k3 : Nat) (W : World) (hb : Below w.heap.size w W) (h3 : BlsAt W W.heap.size A3 n (vals n k)) => true_any A1 l1 k1 A3 n k3 (vals n k) W (hm1.on hb) (by omega) hr1 h3 (by omega)
          have T2 := fun (k : Nat) (A3 : Option Addr) (k3 : Nat) (W : World) (hb : Below w.heap.size w W) (h3 : BlsAt W W.heap.size A3 n (vals n k)) => true_any A2 l2 k2 A3 n k3 (vals n k) W (hm2.on hb) (by omega) hr2 h3 (by omega)
          have t1 : ∀ k, trB n (vals n k) l1 = trs (vals n k) l1 := fun k => by unfold trB; simp [h1]
          have t2 : ∀ k, trB n (vals n k) l2 = trs (vals n k) l2 := fun k => by unfold trB; simp [h2]
          simp only [t1, t2, h1, h2, e1, e2] at D1 D2 D3 T1 T2
          have HS := Lib.hid (imp_succ n l1 l2)
          have H0 := Lib.hid (show imp n l1 l2 0 = true from rfl)
          generalize hP : imp n l1 l2 = P at D3 HS H0
          have hpow : 2 ^ n ≤ 256 := Nat.le_trans (Nat.pow_le_pow_right (by decide) hn8) (by decide)
          obtain ⟨M, hM⟩ : ∃ M, M = 2 ^ n := ⟨_, rfl⟩
          rw [← hM] at D3 hpow
          have HM := Lib.hid hM
          have hsh : (2 : Int) ^ n = (M : Int) := by rw [hM]; simp
          have hmin : min n 64 = n := by omega
          obtain ⟨m1, hm1'⟩ : ∃ m, m = l1.length := ⟨_, rfl⟩
          obtain ⟨m2, hm2'⟩ : ∃ m, m = l2.length := ⟨_, rfl⟩
          rw [← hm1'] at D1 D3 T1 ⊢
          rw [← hm2'] at D2 D3 T2 ⊢
          clear hm1 hr1 hm2 hr2 hK1 hK2 hkm hl1 hl2 h1 h2 ho1 ho2 ll1 ll2 e1 e2 t1 t2 hP hM hm1' hm2' hg hg2
          have hg : ¬ ((n : Int) < 0) := by omega
          have hg2 : ¬ (8 : Int) < (n : Int) := by omega
          go_enter Try.func6, Try.ntmps6
          go_wp2_with (first
            | (go_at_call 21; (with_reducible refine (alive13_any _).mono ?_); rintro e w1 ⟨rfl, hb1⟩)
            | (go_at_call 16; (with_reducible refine (D1 w1 hb1).mono ?_); rintro e w2 ⟨rfl, d1, rfl⟩)
            | (go_at_call 16; (with_reducible refine (D2 _ (below_dn hb1 d1)).mono ?_); rintro e w3 ⟨rfl, d2, rfl⟩)
            | (go_at_call 17; (with_reducible refine (D3 _ (below_dn hb1 _)).mono ?_); rintro e w4 ⟨rfl, hb4⟩))
          go_loopw [10, 11] (fun al kk wr => ∃ k : Nat, k ≤ M ∧ kk = .int .i64 (k : Int) ∧ al = .bool (P k) ∧ Below w.heap.size w wr) (fun _ kk _ => M - (intOf kk).toNat)
          case atStart => exact ⟨0, Nat.zero_le _, rfl, by rw [H0.out], Below.step (below_dn hb1 _) (below_dn hb1 _).size hb4⟩
          case round =>
            clear hb1 hb4 D1 D2 D3
            obtain ⟨k, hk, rfl, rfl, hB⟩ := hrel
            by_cases hlt : k < M
            · have hk1 : (k : Int) < (M : Int) := by omega
              have hk0 : (0 : Int) ≤ (k : Int) := by omega
              have hV := values_any n k hn8 (by omega) wr
              have T1' := T1 k
              have T2' := T2 k
              have hPs := HS.out k
              obtain ⟨x, hx⟩ : ∃ x, x = trs (vals n k) l1 := ⟨_, rfl⟩
              obtain ⟨y, hy⟩ : ∃ y, y = trs (vals n k) l2 := ⟨_, rfl⟩
              obtain ⟨p, hp⟩ : ∃ p, p = P k := ⟨_, rfl⟩
              rw [← hx] at T1' hPs
              rw [← hy] at T2' hPs
              rw [← hp] at hPs ⊢
              have HP := Lib.hid hPs
              clear hx hy hp hPs
              cases p <;> cases x <;> cases y
              all_goals
                go_wp2_with (first
                  | (go_at_call 22; (with_reducible refine hV.mono ?_); rintro e w5 ⟨A5, k5, rfl, hm5, hb5⟩
                     have hB5 := bn hB hb5)
                  | (go_at_call 12; (with_reducible refine (T1' A5 k5 w5 hB5 hm5).mono ?_); rintro e w6 ⟨rfl, hb6⟩
                     have hB6 := bn hB5 hb6)
                  | (go_at_call 12; (with_reducible refine (T2' A5 k5 w6 hB6 (hm5.to hb6 hb6.size)).mono ?_); rintro e w7 ⟨rfl, hb7⟩
                     have hB7 := bn hB6 hb7))
                go_roundw
                case rel => exact ⟨k + 1, by omega, by go_num, by rw [HP.out]; rfl, hB7⟩
                case measure => simp [intOf]; omega
            · obtain rfl : k = M := by omega
              have hkn : ¬ (k : Int) < (k : Int) := by omega
              obtain ⟨p, hp⟩ : ∃ p, p = P k := ⟨_, rfl⟩
              rw [← hp]
              have e9 : (p == p) = true := by simp
              clear hp
              go_wp2
              go_ret
              exact ⟨rfl, hB⟩
        · have e2 : (ckE n l2 != 0) = true := by simpa using h2
          obtain ⟨u, hu⟩ : ∃ u, u = ckE n l2 := ⟨_, rfl⟩
          rw [← hu] at D2 e2
          rw [h1] at D1
          obtain ⟨m1, hm1'⟩ : ∃ m, m = l1.length := ⟨_, rfl⟩
          obtain ⟨m2, hm2'⟩ : ∃ m, m = l2.length := ⟨_, rfl⟩
          rw [← hm1'] at D1 ⊢
          rw [← hm2'] at D2 ⊢
          clear hm1 hr1 hm2 hr2 hK1 hK2 hkm hl1 hl2 h1 h2 hm1' hm2' hu hg hg2
          have hg : ¬ ((n : Int) < 0) := by omega
          have hg2 : ¬ (8 : Int) < (n : Int) := by omega
          go_enter Try.func6, Try.ntmps6
          go_wp2_with (first
            | (go_at_call 21; (with_reducible refine (alive13_any _).mono ?_); rintro e w1 ⟨rfl, hb1⟩)
            | (go_at_call 16; (with_reducible refine (D1 w1 hb1).mono ?_); rintro e w2 ⟨rfl, d1, rfl⟩)
            | (go_at_call 16; (with_reducible refine (D2 _ (below_dn hb1 d1)).mono ?_); rintro e w3 ⟨rfl, d2, rfl⟩))
          go_ret
          exact ⟨rfl, by first | exact below_dn hb1 _ | exact below_dn (below_dn hb1 _) _⟩
      · have e2 : (ckE n l1 != 0) = true := by simpa using h1
        obtain ⟨u, hu⟩ : ∃ u, u = ckE n l1 := ⟨_, rfl⟩
        rw [← hu] at D1 e2
        obtain ⟨m1, hm1'⟩ : ∃ m, m = l1.length := ⟨_, rfl⟩
        rw [← hm1'] at D1 ⊢
        clear hm1 hr1 hm2 hr2 hK1 hK2 hkm hl1 hl2 h1 hm1' hu D2 hg hg2
        have hg : ¬ ((n : Int) < 0) := by omega
        have hg2 : ¬ (8 : Int) < (n : Int) := by omega
        go_enter Try.func6, Try.ntmps6
        go_wp2_with (first
          | (go_at_call 21; (with_reducible refine (alive13_any _).mono ?_); rintro e w1 ⟨rfl, hb1⟩)
          | (go_at_call 16; (with_reducible refine (D1 w1 hb1).mono ?_); rintro e w2 ⟨rfl, d1, rfl⟩))
        go_ret
        exact ⟨rfl, below_dn hb1 _⟩

set_option maxRecDepth 100000 in
theorem lifted (os : Os) (started : os.Started) (H : Type) (enc : TypeId × Value → H) :
    ReturnsInHanded {} Try.checked os 6 .any (Rows.clauseImpliesSpec.pre6 enc Try.prog Try.f6 Rows.clauseImpliesRow.domain false) (Rows.clauseImpliesSpec.post enc Try.prog Try.f6 false true false false) := by
  refine returnsInHanded_of_change (C := Try.checked) own started (by kernel_rfl) Try.func6
    (ChangeSpec.witness6 (enc := enc) (C := Try.checked) false ⟨#[], #[.int .i64 0, .slice none 0 0, .slice none 0 0], []⟩ 12 (by kernel_rfl) (by kernel_rfl) (by kernel_rfl) (by kernel_rfl)) ?_
  intro W base args ds gs before hval0 hW hcnd _
  have hval : ∀ (j : Nat) t v, Try.f6.params[j]? = some t → args[j]? = some v → Value.okWide Try.prog W .any base t v := hval0
  have hW' := hW
  have hlt : ∀ x ∈ before, x.block < W.heap.size := fun x hx => by simpa using hW'.lt x hx
  obtain ⟨p, q, hA0, hV, rfl, hfz, hnd⟩ := hW
  have hA : DataW.TrodAll enc Try.prog W 0 (fun _ => true) true Try.f6.params.toList args.toList ds p := hA0
  rw [Try.params6] at hA hval
  obtain ⟨v0, vs0, d0, ds0, b0, q0, hargs, rfl, rfl, h0, r0⟩ := trodAll_cons hA
  obtain ⟨v1, vs1, d1, ds1, b1, q1, rfl, rfl, rfl, h1, r1⟩ := trodAll_cons r0
  obtain ⟨v2, vs2, d2, ds2, b2, q2, rfl, rfl, rfl, h2, r2⟩ := trodAll_cons r1
  obtain ⟨rfl, rfl, rfl⟩ := trodAll_nil r2
  obtain rfl : args = #[v0, v1, v2] := by cases args; simp_all
  obtain ⟨rfl, rfl⟩ := trodVars_none hV
  obtain ⟨a0, rfl, rfl, rfl, w0⟩ := open_int Try.underlying3 (hval 0 3 v0 rfl rfl) h0
  obtain ⟨A1, l1, k1, rfl, hm1, hK1, hr1⟩ := open_is (hval 1 22 v1 rfl rfl) h1
  obtain ⟨A2, l2, k2, rfl, hm2, hK2, hr2⟩ := open_is (hval 2 22 v2 rfl rfl) h2
  have hlo : laidOutB Try.prog = true := by kernel_rfl
  clear hA0 hval0
  simp only [List.append_nil] at hW' hlt
  refine (walk a0 A1 l1 k1 A2 l2 k2 W w0 hm1 hr1 hK1 hm2 hr2 hK2).mono fun e W' ⟨he, hb⟩ => ?_
  subst he
  have hback := (trodAll_cons_mk (shut_int (enc := enc) (w := W') (base := 0) (spare := fun b => decide (b < W.heap.size)) (held := true) Try.underlying3 w0) (trodAll_cons_mk (arg_back (W' := W') hlo (by kernel_rfl) (of_decide_eq_true (by kernel_rfl)) h1 hb (fun x hx => hlt x (by simp [hx]))) (trodAll_cons_mk (arg_back (W' := W') hlo (by kernel_rfl) (of_decide_eq_true (by kernel_rfl)) h2 hb (fun x hx => hlt x (by simp [hx]))) trodAll_mk0)))
  simp only [List.append_nil, List.nil_append] at hback
  exact ⟨_, rfl, law_post hW' (trodAll_cons_mk (shut_bool Try.underlying4 _) trodAll_mk0) hback rfl hb⟩

theorem over : Rows.clauseImpliesRow.holds Try.pinned (OpenSpec.ofChange Rows.clauseImpliesSpec) :=
  OpenClaim.holds_of_wide 6 Try.f6 rfl rfl rfl rfl rfl rfl rfl ⟨rfl, rfl, rfl, rfl, rfl⟩ rfl rfl rfl rfl rfl (by kernel_rfl) Try.func6 (by kernel_rfl)
    (of_decide_eq_true (by kernel_rfl)) (by unfold Func.isWrapper; first | (rw [if_pos (by decide +kernel)]; kernel_rfl) | (rw [if_neg (by decide +kernel)]; exact ⟨rfl, rfl⟩))
    (fun os started H enc _ => lifted os started H enc)

theorem proved : Rows.ClauseImpliesSaid :=
  over
end Go.Proofs.Ytigfdfbjpelcaaa.clauseImplies
