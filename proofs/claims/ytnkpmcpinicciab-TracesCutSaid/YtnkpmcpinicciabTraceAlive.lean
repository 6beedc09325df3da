/- The chapter's circuit of layer 6: the contracts of example, run, alive and fit. -/
import Derived.Test.YtnkpmcpinicciabTraceKit
import Derived.Test.YtnkpmcpinicciabValuesAlive
namespace Go.Proofs.Ytnkpmcpinicciab
open Go.RowKit
set_option linter.unusedVariables false
set_option linter.unusedSimpArgs false

/-- the chapter's circuit and runs -/
def exA : Cr := ⟨0, 1, 0, 1, 0, fun _ => 3, fun _ => 0, fun _ => 0, fun _ => 0, fun _ => 2, fun _ => 0⟩
def rnT (n : Nat) : Tr := ⟨1, fun _ => false, n, fun _ => 0, fun _ _ => false⟩
theorem exA_sm : Sm exA := ⟨i64_k 0 (by decide) (by decide), by decide, by decide, by decide, by decide, fun _ => i64_k 3 (by decide) (by decide), fun _ => i64_k 0 (by decide) (by decide), fun _ => i64_k 0 (by decide) (by decide), fun _ => i64_k 0 (by decide) (by decide), fun _ => i64_k 2 (by decide) (by decide), fun _ => i64_k 0 (by decide) (by decide)⟩
theorem rnT_sm {n : Nat} (h : n ≤ 1000) : TSm (rnT n) := ⟨by show 1 ≤ 1000; decide, h, fun j hj => Nat.zero_le _⟩

set_option maxRecDepth 100000 in
set_option maxHeartbeats 2000000 in
theorem ex6_any (w : World) : Calls Try.prog 15 #[] w (CircIs exA w) := by
  go_enter Try.func15, Try.ntmps15
  go_wp2
  refine bodyPost_ret (v := cv exA ⟨some ⟨w.heap.size + 1, 0, none⟩, none, some ⟨w.heap.size + 1 + 1, 0, none⟩, none, 1, 0, 1, 0⟩) (by simp [results, Try.results15, go_sem]; exact ⟨rfl, rfl, rfl, rfl, rfl⟩) rfl ⟨_, rfl, ⟨?_, ?_, ?_, ?_⟩, by go_grown⟩
  · exact pairs_of_has (cs := #[.int .i64 3, .int .i64 0]) ((Has.new' _ _ (by simp)).al _) (fun j hj => by rw [Nat.lt_one_iff.1 hj]; exact ⟨rfl, rfl⟩)
  · exact fun h => absurd h (Nat.not_lt_zero _)
  · exact ints_of_has (cs := #[.int .i64 2]) (Has.new' _ _ (by simp)) (fun j hj => by rw [Nat.lt_one_iff.1 hj]; rfl)
  · exact fun h => absurd h (Nat.not_lt_zero _)

theorem made_at (v : Value) {n j : Nat} (hj : j < n) : (madeCells #[v] n)[j]? = some v := by
  simp [madeCells, Nat.mod_one, hj]
set_option maxRecDepth 100000 in
set_option maxHeartbeats 2000000 in
theorem run_any (n : Nat) (hn : n ≤ 1000) (w : World) : Calls Try.prog 16 #[.int .i64 (n : Int)] w fun e w' => ∃ q, e = .returned (tv (rnT n) q) ∧ TMem w' w'.heap.size (rnT n) q ∧ Below w.heap.size w w' := by
  have hmk : ∀ w : World, (Instr.makeSlice 30 (.int .i64 (n : Int)) (.int .i64 (n : Int))).run Try.prog w = .ok (.slice (some ⟨w.heap.size, 0, none⟩) n n) (w.alloc (.cells (madeCells #[.slice none 0 0] n) 29)) := fun w =>
    run_make_row' 30 29 (.slice none 0 0) 24 Try.underlying30 info_bools rfl _ _ n (by omega) (by omega) w
  go_enter Try.func16, Try.ntmps16
  go_wp2
  refine bodyPost_ret (v := .agg #[.slice (some ⟨w.heap.size + 1, 0, none⟩) 1 1, .slice (some ⟨w.heap.size + 1 + 1, 0, none⟩) n n]) (by simp [results, Try.results16, go_sem]) rfl ⟨⟨some ⟨w.heap.size + 1, 0, none⟩, 1, some ⟨w.heap.size + 1 + 1, 0, none⟩, n⟩, rfl, ⟨?_, ?_, (fun h => by cases h), (fun h => by cases h), Nat.le_refl _, by simp only [maxLen]; omega⟩, by go_grown⟩
  · exact bls_of_has (cs := #[.bool false]) ((Has.new' _ _ (by simp)).al _) (fun j hj => by rw [Nat.lt_one_iff.1 hj]; rfl)
  · intro h0
    refine ⟨_, rfl, by simp, fun j hj => ⟨none, 0, ?_, fun h => absurd h (Nat.not_lt_zero _), fun _ => ⟨rfl, rfl⟩⟩⟩
    have hh : ∀ (X : World) (g : Nat), X.heap.size = g → Has (X.alloc (.cells (madeCells #[.slice none 0 0] n) 29)) g 29 (madeCells #[.slice none 0 0] n) := fun X g h => Has.new' X g h
    have e : (⟨w.heap.size + 1 + 1, 0, none⟩ : Addr).add j = ⟨w.heap.size + 1 + 1, j, none⟩ := by unfold Addr.add; split <;> simp_all
    rw [e, (hh _ _ (by simp)).cell j]
    exact made_at _ hj
theorem run_at {x : Int} (n : Nat) (hx : x = n) (hn : n ≤ 1000) (w : World) : Calls Try.prog 16 #[.int .i64 x] w fun e w' => ∃ q, e = .returned (tv (rnT n) q) ∧ TMem w' w'.heap.size (rnT n) q ∧ Below w.heap.size w w' := hx ▸ run_any n hn w
theorem exA_w1 : exA.wti (rnT 1) = 0 ∧ exA.wte (rnT 1) = 57 := by decide +kernel
theorem exA_w2 : exA.wti (rnT 2) = 0 ∧ exA.wte (rnT 2) = 0 := by decide +kernel
theorem exA_w3 : exA.wti (rnT 3) = 0 ∧ exA.wte (rnT 3) = 57 := by decide +kernel
theorem exA_c3 : (exA.cutT (rnT 3)).ni = 2 ∧ exA.cutE (rnT 3) = 0 := by decide +kernel
theorem exA_c1 : exA.cutE (rnT 1) = 6 := by decide +kernel
theorem witA {n : Nat} {x : Int} (h : exA.wti (rnT n) = 0 ∧ exA.wte (rnT n) = x) {p : Pl} {q : Tp} (w : World) (hw : RArg w w.heap.size exA p (rnT n) q) :
    Calls Try.prog 10 #[cv exA p, tv (rnT n) q] w fun e w' => e = .returned (.tuple #[.int .i64 0, .int .i64 x]) ∧ Below w.heap.size w w' := by
  have := twitness_any w hw
  rwa [h.1, h.2] at this
theorem cutA {p : Pl} {q : Tp} (w : World) (hw : RArg w w.heap.size exA p (rnT 3) q) :
    Calls Try.prog 11 #[cv exA p, tv (rnT 3) q] w fun e w' => ∃ A n k A' k', e = .returned (.tuple #[.agg #[.slice A n k, .slice A' 2 k'], .int .i64 0]) ∧ Below w.heap.size w w' := by
  have := tcut_any w hw
  rw [exA_c3.2] at this
  refine this.mono ?_
  rintro e w' ⟨q', he, _, hb⟩
  refine ⟨q'.A1, (exA.cutT (rnT 3)).nf, q'.k1, q'.A2, q'.k2, ?_, hb⟩
  rw [he]
  unfold tv
  rw [exA_c3.1]
theorem i1 : (1 : Int) = ((1 : Nat) : Int) := rfl
theorem i2 : (2 : Int) = ((2 : Nat) : Int) := rfl
theorem i3 : (3 : Int) = ((3 : Nat) : Int) := rfl
theorem argA {w w2 : World} {p : Pl} {q : Tp} {n : Nat} (hn : n ≤ 1000) (hm : Mem w w.heap.size exA p) (hb : Below w.heap.size w w2) (ht : TMem w2 w2.heap.size (rnT n) q) : RArg w2 w2.heap.size exA p (rnT n) q := ⟨hm.to hb hb.size, exA_sm, ht, rnT_sm hn⟩

set_option maxRecDepth 100000 in
set_option maxHeartbeats 4000000 in
theorem alive6_any (w : World) : Calls Try.prog 18 #[] w fun e w' => e = .returned (.bool true) ∧ Below w.heap.size w w' := by
  go_enter Try.func18, Try.ntmps18
  go_wp2_with (first
    | (go_at_call 15; (with_reducible refine (ex6_any w).mono ?_); rintro e w1 ⟨p1, rfl, hm1, hb1⟩)
    | (go_at_call 16; (with_reducible refine (run_at 1 i1 (by omega) w1).mono ?_); rintro e w2 ⟨q2, rfl, ht2, hb2⟩; have hB2 := Below.step hb1 hb1.size hb2)
    | (go_at_call 10; (with_reducible refine (witA exA_w1 w2 (argA (by omega) hm1 hb2 ht2)).mono ?_); rintro e w3 ⟨rfl, hb3⟩; have hB3 := Below.step hB2 hB2.size hb3)
    | (go_at_call 15; (with_reducible refine (ex6_any w3).mono ?_); rintro e w4 ⟨p4, rfl, hm4, hb4⟩; have hB4 := Below.step hB3 hB3.size hb4)
    | (go_at_call 16; (with_reducible refine (run_at 2 i2 (by omega) w4).mono ?_); rintro e w5 ⟨q5, rfl, ht5, hb5⟩; have hB5 := Below.step hB4 hB4.size hb5)
    | (go_at_call 10; (with_reducible refine (witA exA_w2 w5 (argA (by omega) hm4 hb5 ht5)).mono ?_); rintro e w6 ⟨rfl, hb6⟩; have hB6 := Below.step hB5 hB5.size hb6)
    | (go_at_call 15; (with_reducible refine (ex6_any w6).mono ?_); rintro e w7 ⟨p7, rfl, hm7, hb7⟩; have hB7 := Below.step hB6 hB6.size hb7)
    | (go_at_call 16; (with_reducible refine (run_at 3 i3 (by omega) w7).mono ?_); rintro e w8 ⟨q8, rfl, ht8, hb8⟩; have hB8 := Below.step hB7 hB7.size hb8)
    | (go_at_call 10; (with_reducible refine (witA exA_w3 w8 (argA (by omega) hm7 hb8 ht8)).mono ?_); rintro e w9 ⟨rfl, hb9⟩; have hB9 := Below.step hB8 hB8.size hb9)
    | (go_at_call 15; (with_reducible refine (ex6_any w9).mono ?_); rintro e w10 ⟨p10, rfl, hm10, hb10⟩; have hB10 := Below.step hB9 hB9.size hb10)
    | (go_at_call 16; (with_reducible refine (run_at 3 i3 (by omega) w10).mono ?_); rintro e w11 ⟨q11, rfl, ht11, hb11⟩; have hB11 := Below.step hB10 hB10.size hb11)
    | (go_at_call 11; (with_reducible refine (cutA w11 (argA (by omega) hm10 hb11 ht11)).mono ?_); rintro e w12 ⟨A12, n12, k12, A13, k13, rfl, hb12⟩; have hB12 := Below.step hB11 hB11.size hb12))
  go_ret
  exact ⟨by simp, hB12.alloc hB12.size _⟩

/-- what fit says -/
def ft6 (c : Cr) (t : Tr) : Bool := decide (c.gr = false ∧ t.gr = false ∧ c.tck t = 0)
theorem ft6_yes {c : Cr} {t : Tr} (h : ft6 c t = true) : c.gr = false ∧ t.gr = false ∧ c.tck t = 0 := of_decide_eq_true h
section
variable {c : Cr} {p : Pl} {t : Tr} {q : Tp}
set_option maxRecDepth 100000 in
set_option maxHeartbeats 2000000 in
theorem fit6_any (w : World) (hm : Mem w w.heap.size c p) (hv : Vals c) (ht : TMem w w.heap.size t q) :
    Calls Try.prog 26 #[cv c p, tv t q] w fun e w' => e = .returned (.bool (ft6 c t)) ∧ Below w.heap.size w w' := by
  have hB0 := ct_b w c p t q
  cases hg : c.gr
  · have hgr := Cr.gr_no hg
    have hs : Sm c := hv.sm (by omega) (by omega) (by omega) (by omega)
    cases hg1 : t.gr
    · have hts := Tr.gr_no hg1
      have hg0 : RArg w w.heap.size c p t q := ⟨hm, hs, ht, hts⟩
      obtain ⟨b, hb⟩ : ∃ b, (c.tck t == 0) = b := ⟨_, rfl⟩
      have HR := Lib.hid (show ft6 c t = b by unfold ft6; rw [← hb]; simp [hg, hg1]; rfl)
      rw [HR.out]
      go_enter Try.func26, Try.ntmps26
      go_wp2_with (first
        | (go_at_call 19; refine (rGreat_any c p _).mono ?_; rw [hg]; rintro e w1 ⟨rfl, hb1⟩; have hX1 := Bx.first hb1; obtain ⟨x0, x1, x2, x3, x4, x5, x6, z0, z1⟩ := hX1.cells)
        | (go_at_call 20; (with_reducible refine (rGreat6_any w1 (ht.to hX1.b hX1.b.size)).mono ?_); rw [hg1]; rintro e w2 ⟨rfl, hb2⟩; have hX2 := hX1.call hb2; obtain ⟨x0, x1, x2, x3, x4, x5, x6, z0, z1⟩ := hX2.cells)
        | (go_at_call 24; (with_reducible refine (rCheck6_any w2 (hg0.to hX2.b hX2.b.size)).mono ?_); rintro e w3 ⟨rfl, hb3⟩; have hX3 := hX2.call hb3))
      go_ret
      exact ⟨rfl, hX3.b⟩
    · have HR := Lib.hid (show ft6 c t = false from decide_eq_false fun h => by rw [hg1] at h; exact absurd h.2.1 (by decide))
      rw [HR.out]
      go_enter Try.func26, Try.ntmps26
      go_wp2_with (first
        | (go_at_call 19; refine (rGreat_any c p _).mono ?_; rw [hg]; rintro e w1 ⟨rfl, hb1⟩; have hX1 := Bx.first hb1; obtain ⟨x0, x1, x2, x3, x4, x5, x6, z0, z1⟩ := hX1.cells)
        | (go_at_call 20; (with_reducible refine (rGreat6_any w1 (ht.to hX1.b hX1.b.size)).mono ?_); rw [hg1]; rintro e w2 ⟨rfl, hb2⟩; have hX2 := hX1.call hb2))
      go_ret
      exact ⟨rfl, hX2.b⟩
  · have HR := Lib.hid (show ft6 c t = false from decide_eq_false fun h => by rw [hg] at h; exact absurd h.1 (by decide))
    rw [HR.out]
    go_enter Try.func26, Try.ntmps26
    go_wp2_with (go_at_call 19; refine (rGreat_any c p _).mono ?_; rw [hg]; rintro e w1 ⟨rfl, hb1⟩; have hX1 := Bx.first hb1)
    go_ret
    exact ⟨rfl, hX1.b⟩
end
