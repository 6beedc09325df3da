/- The chapter's circuit of layer 6: the contracts of example, run, alive and fit. -/
import Derived.Test.YtpobkemgbbgolaaTraceKit
import Derived.Test.YtpobkemgbbgolaaValuesAlive
namespace Go.Proofs.Ytpobkemgbbgolaa
open Go.RowKit
set_option linter.unusedVariables false
set_option linter.unusedSimpArgs false

/-- the chapter's circuit and runs -/
def exA : Cr := ⟨0, 1, 0, 1, 0, fun _ => 3, fun _ => 0, fun _ => 0, fun _ => 0, fun _ => 2, fun _ => 0⟩
def rnT (n : Nat) : Tr := ⟨1, fun _ => false, n, fun _ => 0, fun _ _ => false⟩
theorem exA_sm : Sm exA := ⟨i64_k 0 (by decide) (by decide), by decide, by decide, by decide, by decide, fun _ => i64_k 3 (by decide) (by decide), fun _ => i64_k 0 (by decide) (by decide), fun _ => i64_k 0 (by decide) (by decide), fun _ => i64_k 0 (by decide) (by decide), fun _ => i64_k 2 (by decide) (by decide), fun _ => i64_k 0 (by decide) (by decide)⟩
theorem rnT_sm {n : Nat} (h : n ≤ 1000) : TSm (rnT n) := ⟨by show 1 ≤ 1000; decide, h, fun j hj => Nat.zero_le _⟩

set_option maxRecDepth 100000 in
set_option maxHeartbeats 2000000 in
theorem ex6_any (w : World) : Calls Try.prog 11 #[] w (CircIs exA w) := by
  go_enter Try.func11, Try.ntmps11
  go_wp2
  refine bodyPost_ret (v := cv exA ⟨some ⟨w.heap.size + 1, 0, none⟩, none, some ⟨w.heap.size + 1 + 1, 0, none⟩, none, 1, 0, 1, 0⟩) (by simp [results, Try.results11, go_sem]; exact ⟨rfl, rfl, rfl, rfl, rfl⟩) rfl ⟨_, rfl, ⟨?_, ?_, ?_, ?_⟩, by go_grown⟩
  · exact pairs_of_has (cs := #[.int .i64 3, .int .i64 0]) ((Has.new' _ _ (by simp)).al _) (fun j hj => by rw [Nat.lt_one_iff.1 hj]; exact ⟨rfl, rfl⟩)
  · exact fun h => absurd h (Nat.not_lt_zero _)
  · exact ints_of_has (cs := #[.int .i64 2]) (Has.new' _ _ (by simp)) (fun j hj => by rw [Nat.lt_one_iff.1 hj]; rfl)
  · exact fun h => absurd h (Nat.not_lt_zero _)

theorem made_at (v : Value) {n j : Nat} (hj : j < n) : (madeCells #[v] n)[j]? = some v := by
  simp [madeCells, Nat.mod_one, hj]
set_option maxRecDepth 100000 in
set_option maxHeartbeats 2000000 in
theorem run_any (n : Nat) (hn : n ≤ 1000) (w : World) : Calls Try.prog 12 #[.int .i64 (n : Int)] w fun e w' => ∃ q, e = .returned (tv (rnT n) q) ∧ TMem w' w'.heap.size (rnT n) q ∧ Below w.heap.size w w' := by
  have hmk : ∀ w : World, (Instr.makeSlice 30 (.int .i64 (n : Int)) (.int .i64 (n : Int))).run Try.prog w = .ok (.slice (some ⟨w.heap.size, 0, none⟩) n n) (w.alloc (.cells (madeCells #[.slice none 0 0] n) 29)) := fun w =>
    run_make_row' 30 29 (.slice none 0 0) 24 Try.underlying30 info_bools rfl _ _ n (by omega) (by omega) w
  go_enter Try.func12, Try.ntmps12
  go_wp2
  refine bodyPost_ret (v := .agg #[.slice (some ⟨w.heap.size + 1, 0, none⟩) 1 1, .slice (some ⟨w.heap.size + 1 + 1, 0, none⟩) n n]) (by simp [results, Try.results12, go_sem]) rfl ⟨⟨some ⟨w.heap.size + 1, 0, none⟩, 1, some ⟨w.heap.size + 1 + 1, 0, none⟩, n⟩, rfl, ⟨?_, ?_, (fun h => by cases h), (fun h => by cases h), Nat.le_refl _, by simp only [maxLen]; omega⟩, by go_grown⟩
  · exact bls_of_has (cs := #[.bool false]) ((Has.new' _ _ (by simp)).al _) (fun j hj => by rw [Nat.lt_one_iff.1 hj]; rfl)
  · intro h0
    refine ⟨_, rfl, by simp, fun j hj => ⟨none, 0, ?_, fun h => absurd h (Nat.not_lt_zero _), fun _ => ⟨rfl, rfl⟩⟩⟩
    have hh : ∀ (X : World) (g : Nat), X.heap.size = g → Has (X.alloc (.cells (madeCells #[.slice none 0 0] n) 29)) g 29 (madeCells #[.slice none 0 0] n) := fun X g h => Has.new' X g h
    have e : (⟨w.heap.size + 1 + 1, 0, none⟩ : Addr).add j = ⟨w.heap.size + 1 + 1, j, none⟩ := by unfold Addr.add; split <;> simp_all
    rw [e, (hh _ _ (by simp)).cell j]
    exact made_at _ hj
theorem run_at {x : Int} (n : Nat) (hx : x = n) (hn : n ≤ 1000) (w : World) : Calls Try.prog 12 #[.int .i64 x] w fun e w' => ∃ q, e = .returned (tv (rnT n) q) ∧ TMem w' w'.heap.size (rnT n) q ∧ Below w.heap.size w w' := hx ▸ run_any n hn w
theorem exA_w1 : exA.wti (rnT 1) = 0 ∧ exA.wte (rnT 1) = 57 := by decide +kernel
theorem exA_w2 : exA.wti (rnT 2) = 0 ∧ exA.wte (rnT 2) = 0 := by decide +kernel
theorem exA_w3 : exA.wti (rnT 3) = 0 ∧ exA.wte (rnT 3) = 57 := by decide +kernel
theorem exA_c3 : (exA.cutT (rnT 3)).ni = 2 ∧ exA.cutE (rnT 3) = 0 := by decide +kernel
theorem exA_c1 : exA.cutE (rnT 1) = 6 := by decide +kernel
theorem witA {n : Nat} {x : Int} (h : exA.wti (rnT n) = 0 ∧ exA.wte (rnT n) = x) {p : Pl} {q : Tp} (w : World) (hw : RArg w w.heap.size exA p (rnT n) q) :
    Calls Try.prog 6 #[cv exA p, tv (rnT n) q] w fun e w' => e = .returned (.tuple #[.int .i64 0, .int .i64 x]) ∧ Below w.heap.size w w' := by
  have := twitness_any w hw
  rwa [h.1, h.2] at this
theorem cutA {p : Pl} {q : Tp} (w : World) (hw : RArg w w.heap.size exA p (rnT 3) q) :
    Calls Try.prog 7 #[cv exA p, tv (rnT 3) q] w fun e w' => ∃ A n k A' k', e = .returned (.tuple #[.agg #[.slice A n k, .slice A' 2 k'], .int .i64 0]) ∧ Below w.heap.size w w' := by
  have := tcut_any w hw
  rw [exA_c3.2] at this
  refine this.mono ?_
  rintro e w' ⟨q', he, _, hb⟩
  refine ⟨q'.A1, (exA.cutT (rnT 3)).nf, q'.k1, q'.A2, q'.k2, ?_, hb⟩
  rw [he]
  unfold tv
  rw [exA_c3.1]
theorem i1 : (1 : Int) = ((1 : Nat) : Int) := rfl
theorem i2 : (2 : Int) = ((2 : Nat) : Int) := rfl
theorem i3 : (3 : Int) = ((3 : Nat) : Int) := rfl
theorem argA {w w2 : World} {p : Pl} {q : Tp} {n : Nat} (hn : n ≤ 1000) (hm : Mem w w.heap.size exA p) (hb : Below w.heap.size w w2) (ht : TMem w2 w2.heap.size (rnT n) q) : RArg w2 w2.heap.size exA p (rnT n) q := ⟨hm.to hb hb.size, exA_sm, ht, rnT_sm hn⟩

set_option maxRecDepth 100000 in
set_option maxHeartbeats 4000000 in
theorem alive6_any (w : World) : Calls Try.prog 14 #[] w fun e w' => e = .returned (.bool true) ∧ Below w.heap.size w w' := by
  go_enter Try.func14, Try.ntmps14
  go_wp2_with (first
    | (go_at_call 11; (with_reducible refine (ex6_any w).mono ?_); rintro e w1 ⟨p1, rfl, hm1, hb1⟩)
    | (go_at_call 12; (with_reducible refine (run_at 1 i1 (by omega) w1).mono ?_); rintro e w2 ⟨q2, rfl, ht2, hb2⟩; have hB2 := Below.step hb1 hb1.size hb2)
    | (go_at_call 6; (with_reducible refine (witA exA_w1 w2 (argA (by omega) hm1 hb2 ht2)).mono ?_); rintro e w3 ⟨rfl, hb3⟩; have hB3 := Below.step hB2 hB2.size hb3)
    | (go_at_call 11; (with_reducible refine (ex6_any w3).mono ?_); rintro e w4 ⟨p4, rfl, hm4, hb4⟩; have hB4 := Below.step hB3 hB3.size hb4)
    | (go_at_call 12; (with_reducible refine (run_at 2 i2 (by omega) w4).mono ?_); rintro e w5 ⟨q5, rfl, ht5, hb5⟩; have hB5 := Below.step hB4 hB4.size hb5)
    | (go_at_call 6; (with_reducible refine (witA exA_w2 w5 (argA (by omega) hm4 hb5 ht5)).mono ?_); rintro e w6 ⟨rfl, hb6⟩; have hB6 := Below.step hB5 hB5.size hb6)
    | (go_at_call 11; (with_reducible refine (ex6_any w6).mono ?_); rintro e w7 ⟨p7, rfl, hm7, hb7⟩; have hB7 := Below.step hB6 hB6.size hb7)
    | (go_at_call 12; (with_reducible refine (run_at 3 i3 (by omega) w7).mono ?_); rintro e w8 ⟨q8, rfl, ht8, hb8⟩; have hB8 := Below.step hB7 hB7.size hb8)
    | (go_at_call 6; (with_reducible refine (witA exA_w3 w8 (argA (by omega) hm7 hb8 ht8)).mono ?_); rintro e w9 ⟨rfl, hb9⟩; have hB9 := Below.step hB8 hB8.size hb9)
    | (go_at_call 11; (with_reducible refine (ex6_any w9).mono ?_); rintro e w10 ⟨p10, rfl, hm10, hb10⟩; have hB10 := Below.step hB9 hB9.size hb10)
    | (go_at_call 12; (with_reducible refine (run_at 3 i3 (by omega) w10).mono ?_); rintro e w11 ⟨q11, rfl, ht11, hb11⟩; have hB11 := Below.step hB10 hB10.size hb11)
    | (go_at_call 7; (with_reducible refine (cutA w11 (argA (by omega) hm10 hb11 ht11)).mono ?_); rintro e w12 ⟨A12, n12, k12, A13, k13, rfl, hb12⟩; have hB12 := Below.step hB11 hB11.size hb12))
  go_ret
  exact ⟨by simp, hB12.alloc hB12.size _⟩