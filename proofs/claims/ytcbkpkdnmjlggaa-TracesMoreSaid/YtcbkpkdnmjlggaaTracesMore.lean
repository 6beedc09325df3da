/- For all valid circuits and right runs of at most 19 frames, that are not great, and inputs: with a frame more the run has the same states, and one more, and is allowed up to at least as many frames, and at most one more. No conditions. -/
import Derived.Test.YtcbkpkdnmjlggaaTraceAlive
import Derived.Test.YtcbkpkdnmjlggaaTraceMoreKit
namespace Go.Proofs.Ytcbkpkdnmjlggaa.tracesMore
open Go.ChangeShapes Go.WideShapes Go.ChangeAt Go.RowKit
set_option linter.unusedVariables false
set_option linter.unusedSimpArgs false


theorem own : ownKnob Try.prog.godebug = none := by kernel_rfl

set_option maxRecDepth 100000 in
set_option maxHeartbeats 4000000 in
theorem walk (c0 : Cr) (p0 : Pl) (t1 : Tr) (q1 : Tp) (A2 : Option Addr) (n2 k2 : Nat) (f2 : Nat → Bool) (w : World) (hm0 : Mem w w.heap.size c0 p0) (hN0 : Nils c0 p0) (hv0 : Vals c0) (hC0 : Caps c0 p0) (ht1 : TMem w w.heap.size t1 q1) (hm2 : BlsAt w w.heap.size A2 n2 f2) (hN2 : A2 = none → n2 = 0 ∧ k2 = 0) (hC2 : n2 ≤ k2 ∧ k2 ≤ maxLen) :
    Calls Try.prog 7 #[cv c0 p0, tv t1 q1, .slice A2 n2 k2] w fun e w' => e = .returned (.bool true) ∧ Below w.heap.size w w' := by
  have hB0 := ct_b w c0 p0 t1 q1
  cases hft : ft6 c0 t1
  · go_enter Try.func7, Try.ntmps7
    go_wp2_with (first
      | (go_at_call 30; (with_reducible refine (fit6_any _ (hm0.to (ct_b w c0 p0 t1 q1) (ct_z w c0 p0 t1 q1)) hv0 (ht1.to (ct_b w c0 p0 t1 q1) (ct_z w c0 p0 t1 q1))).mono ?_); rw [hft]; rintro e w1 ⟨rfl, hb1⟩; have hX1 := Bx.first hb1)
      | (go_at_call 20; refine (alive6_any _).mono ?_; rintro e w2 ⟨rfl, hb2⟩; have hX2 := hX1.call hb2))
    go_ret
    exact ⟨rfl, hX2.b⟩
  · obtain ⟨hg, hg1, hk⟩ := ft6_yes hft
    have hgr := Cr.gr_no hg
    have hs : Sm c0 := hv0.sm (by omega) (by omega) (by omega) (by omega)
    have hts := Tr.gr_no hg1
    have hg0 : RArg w w.heap.size c0 p0 t1 q1 := ⟨hm0, hs, ht1, hts⟩
    have hn0 := (Cr.tck_ok hk).2.1
    by_cases h1 : t1.ni ≤ 19
    · have h1b : decide ((19 : Int) < (t1.ni : Int)) = false := decide_eq_false (by omega)
      by_cases h2 : (n2 : Int) = c0.i
      · have h2i : ((n2 : Int) != c0.i) = false := by simp [h2]
        have hi0 := (Cr.chk_i (c := c0) (by simpa using (Cr.tck_ok hk).1) hs).2.1
        have hn2 : n2 ≤ 1000 := by omega
        have HK := Lib.hid hk
        have HKM := Lib.hid (more_tck (f := f2) hk h1 h2)
        have HM2 := Lib.hid hm2
        have HN2 := Lib.hid hN2
        have HSM := Lib.hid (more_sm (f := f2) hts h1 hn2)
        have HA := Lib.hid (more_alw (c := c0) (t := t1) (n := n2) (f := f2))
        have g1 := hs.nl
        obtain ⟨N, hN⟩ : ∃ N, t1.ni = N := ⟨_, rfl⟩
        obtain ⟨m, hm⟩ : ∃ m, c0.alw t1 = m := ⟨_, rfl⟩
        obtain ⟨m', hm'⟩ : ∃ m', c0.alw (moreT t1 n2 f2) = m' := ⟨_, rfl⟩
        have hrel : m ≤ m' ∧ m' ≤ m + 1 ∧ (m' = m ∨ m = N) ∧ m ≤ N := by rw [← hm, ← hm', ← hN]; exact ⟨HA.out.1, HA.out.2.1, HA.out.2.2, led_le _ _⟩
        have hN19 : N ≤ 19 := by omega
        have R1 : Hid (∀ W, RArg W W.heap.size c0 p0 t1 q1 → Calls Try.prog 11 #[cv c0 p0, tv t1 q1] W fun e w' => e = .returned (.tuple #[.int .i64 (m : Int), .int .i64 0]) ∧ Below W.heap.size W w') := fun W hW => by
          have := tright_any W hW
          rwa [show c0.rgt t1 = m by unfold Cr.rgt; rw [if_pos HK.out, hm], HK.out] at this
        have R2 : Hid (∀ W A k A5 k5, RArg W W.heap.size c0 p0 (moreT t1 n2 f2) ⟨A, k, A5, k5⟩ → Calls Try.prog 11 #[cv c0 p0, .agg #[.slice A t1.nf k, .slice A5 (t1.ni + 1) k5]] W fun e w' => e = .returned (.tuple #[.int .i64 (m' : Int), .int .i64 0]) ∧ Below W.heap.size W w') := fun W A k A5 k5 hW => by
          have := tright_any W hW
          rwa [show c0.rgt (moreT t1 n2 f2) = m' by unfold Cr.rgt; rw [if_pos HKM.out, hm'], HKM.out] at this
        have S1 : Hid (∀ W, RArg W W.heap.size c0 p0 t1 q1 → Calls Try.prog 10 #[cv c0 p0, tv t1 q1] W (RowsErr N (fun _ => c0.nl) (c0.sts t1) 0 W)) := fun W hW => by
          have := states_yes HK.out W hW
          rwa [hN] at this
        obtain ⟨M, hM⟩ : ∃ M, M = N + 1 := ⟨_, rfl⟩
        have S2 : Hid (∀ W A k A5 k5, RArg W W.heap.size c0 p0 (moreT t1 n2 f2) ⟨A, k, A5, k5⟩ → Calls Try.prog 10 #[cv c0 p0, .agg #[.slice A t1.nf k, .slice A5 (t1.ni + 1) k5]] W (RowsErr M (fun _ => c0.nl) (c0.sts (moreT t1 n2 f2)) 0 W)) := fun W A k A5 k5 hW => by
          have := states_yes HKM.out W hW
          rwa [show (moreT t1 n2 f2).ni = M by rw [hM, ← hN]; rfl] at this
        have c1 : ((M : Int) != (N : Int) + 1) = false := by rw [hM]; simp
        have c2 : (m : Int) ≤ (m' : Int) := by omega
        have c3 : (m' : Int) ≤ (m : Int) + 1 := by omega
        have HMM := Lib.hid (show N ≤ M by omega)
        have HSA := Lib.hid (show samR N N (fun _ => c0.nl) (fun _ => c0.nl) (c0.sts (moreT t1 n2 f2)) (c0.sts t1) = true from samR_yes fun j hj => by rw [more_sts c0 t1 n2 f2 j (by omega)]; exact samB_yes fun _ _ => rfl)
        have hm20 : m ≤ 20 := by omega
        have h4 : ((m' : Int) == (m : Int)) = true ∨ ((m' : Int) == (m : Int)) = false ∧ ((m : Int) == (N : Int)) = true := by
          by_cases h : m' = m
          · exact Or.inl (by simp [h])
          · exact Or.inr ⟨by simp; omega, by simp; omega⟩
        have HST := Lib.hid (more_sts c0 t1 n2 f2)
        have HNN := Lib.hid hN
        have eL : Hid ((moreT t1 n2 f2).ln t1.ni = n2) := if_neg (Nat.lt_irrefl _)
        have eF : Hid ((moreT t1 n2 f2).ip t1.ni = f2) := if_neg (Nat.lt_irrefl _)
        have hni := hts.ni
        have HN0 := Lib.hid hn0
        clear hm hm' hk hm2 hN2 hN hM hrel
        rcases h4 with h4 | ⟨h4, h5⟩
        all_goals
          go_enter Try.func7, Try.ntmps7
          go_wp2_with (first
            | (go_at_call 30; (with_reducible refine (fit6_any _ (hm0.to (ct_b w c0 p0 t1 q1) (ct_z w c0 p0 t1 q1)) hv0 (ht1.to (ct_b w c0 p0 t1 q1) (ct_z w c0 p0 t1 q1))).mono ?_); rw [hft]; rintro e w1 ⟨rfl, hb1⟩; have hX1 := Bx.first hb1; obtain ⟨x0, x1, x2, x3, x4, x5, x6, z0, z1⟩ := hX1.cells)
            | (go_at_call 15; (with_reducible refine (twin6_any w1 (ht1.to hX1.b hX1.b.size) hts).mono ?_); rintro e w3 ⟨A3, k3, v3, rfl, hO3, hb3⟩; obtain ⟨lo, hlo, ho3, hd3, hG3⟩ := hO3.ex; obtain ⟨A4, k4, hv3, hi4, _, hc4, hl4⟩ := hG3.at; subst hv3; obtain ⟨a4, ea4, ha4, _⟩ := hi4 HN0.out; have hlo3 : lo < w3.heap.size := Nat.lt_of_le_of_lt (hl4 a4 ea4) ha4; clear ea4 hi4; have hX3 := hX1.call hb3; obtain ⟨x0, x1, x2, x3, x4, x5, x6, z0, z1⟩ := hX3.cells)
            | (at_builtin
               have hG4 := ((hG3.far (grown_al w3 (.cells #[.slice A3 t1.nf k3, .slice A4 t1.ni k4] 32)) (Or.inl rfl) (by cases (Value.slice A4 t1.ni k4).ownBlock <;> simp) (Or.inr (Or.inl rfl))).re (Nat.le_refl lo) (L' := (moreT t1 n2 f2).ln) (g' := (moreT t1 n2 f2).ip) (fun j hj => (if_pos hj).symm) (fun j hj => (if_pos hj).symm)).al (.cells #[.slice A2 n2 k2] 29)
               have hB4 := ((Below.refl w3.heap.size w3).alloc (Nat.le_refl _) (.cells #[.slice A3 t1.nf k3, .slice A4 t1.ni k4] 32)).alloc (by simp) (.cells #[.slice A2 n2 k2] 29)
               have hZ4 : Has ((w3.alloc (.cells #[.slice A3 t1.nf k3, .slice A4 t1.ni k4] 32)).alloc (.cells #[.slice A2 n2 k2] 29)) (w3.heap.size + 1) 29 #[.slice A2 n2 k2] := Has.new' _ _ (by simp)
               have hW4 : Has ((w3.alloc (.cells #[.slice A3 t1.nf k3, .slice A4 t1.ni k4] 32)).alloc (.cells #[.slice A2 n2 k2] 29)) w3.heap.size 32 #[.slice A3 t1.nf k3, .slice A4 t1.ni k4] := (Has.new w3 _ _).al _
               have hX4 := (hX3.al (.cells #[.slice A3 t1.nf k3, .slice A4 t1.ni k4] 32)).al (.cells #[.slice A2 n2 k2] 29)
               have hbk : ∀ g, (Value.slice A4 t1.ni k4).ownBlock = some g → lo ≤ g ∧ g < w3.heap.size := fun g hg => hG3.lt hg
               (refine append_row rfl (.tmp 37) (.tmp 39) _ rfl Try.underlying30 lo (.slice A4 t1.ni k4) t1.ni (moreT t1 n2 f2).ln (moreT t1 n2 f2).ip (some w3.heap.size) rfl hG4 (w3.heap.size + 1) 1 A2 k2 rfl (by rw [eL.out]; exact hZ4.cell 0) (by rw [eL.out, eF.out]; exact (HM2.out.to (hX3.b) hX3.b.size).to hB4 (by simp; omega)) (by rw [eL.out]; exact HN2.out) (fun hm a ha => by rw [eL.out] at hm; obtain ⟨a', ea, hl, _⟩ := HM2.out hm; rw [ha] at ea; cases ea; have := hX3.b.size; exact ⟨fun e => by have := hbk _ e.symm; omega, fun e => by injection e with e; omega⟩) (by omega) (by simp; omega) ?_)
               intro v5 w5 hG5 hg5 hat5
               have hne5 : v5.ownBlock ≠ some w3.heap.size := fun e => by
                 rcases hat5 with h | h
                 · have := hbk w3.heap.size (by rw [← h, e]); omega
                 · rw [e] at h; injection h with h; simp at h; omega
               obtain ⟨A5, k5, hv5, hm5⟩ := more_mem (u := v5) (j := 1) ho3 hd3 (fun g hg => (hbk g hg).1) hB4 hg5 (Nat.le_of_lt hlo3) hG5 hne5
               subst hv5
               have hW5 := (hW4.keepg6 hg5 (fun e => by have := hbk _ e; omega)).set 1 (.slice A5 (t1.ni + 1) k5)
               have hX5 := hX4.far6 hg5 (fun g hg => by have := hbk g hg; have := hX1.t.lt; omega) (x := w3.heap.size) hX3.t.lt 1 (.slice A5 (t1.ni + 1) k5)
               have hu1 : w5.cell? ⟨w3.heap.size, 1, none⟩ = some (.slice A4 t1.ni k4) := (hW4.keepg6 hg5 (fun e => by have := hbk _ e; omega)).cell 1
               have hf1 := (hW4.keepg6 hg5 (fun e => by have := hbk _ e; omega)).fz 1
               have hu0 : w5.cell? ⟨w3.heap.size, 0, none⟩ = some (.slice A3 t1.nf k3) := (hW4.keepg6 hg5 (fun e => by have := hbk _ e; omega)).cell 0
               have hXw : Bx w w5 c0 p0 t1 q1 := ⟨hX4.b.grown hg5 hX4.b.size (fun g hg => by have := hbk g hg; have := hX1.t.lt; omega), hX4.c.keepg6 hg5 (fun e => by have := hbk _ e; have := hX1.t.lt; omega), hX4.t.keepg6 hg5 (fun e => by have := hbk _ e; have := hX1.t.lt; omega)⟩
               obtain ⟨x0, x1, x2, x3, x4, x5, x6, z0', z1'⟩ := hXw.cells)
            | (go_at_call 10; (with_reducible refine (S1.out _ (hg0.to hX5.b hX5.b.size)).mono ?_); rintro e w6 ⟨A6, k6, rfl, hi6, hc6, hb6⟩; have hX6 := hX5.call hb6; obtain ⟨x0, x1, x2, x3, x4, x5, x6, z0, z1⟩ := hX6.cells; have hW6 := hW5.keep hb6 hW5.lt; have y0 : w6.cell? ⟨w3.heap.size, 0, none⟩ = some (.slice A3 t1.nf k3) := hW6.cell 0; have y1 : w6.cell? ⟨w3.heap.size, 1, none⟩ = some (.slice A5 (t1.ni + 1) k5) := hW6.cell 1; have hm6 := hm5.to hb6 hb6.size; have hv6 := hW6.lt)
            | (go_at_call 10; (with_reducible refine (S2.out w6 A3 k3 A5 k5 ⟨hm0.to hX6.b hX6.b.size, hs, hm6, HSM.out⟩).mono ?_); rintro e w7 ⟨A7, k7, rfl, hi7, hc7, hb7⟩; have hX7 := hX6.call hb7; obtain ⟨x0, x1, x2, x3, x4, x5, x6, z0, z1⟩ := hX7.cells; have hW7 := hW6.keep hb7 hW6.lt; have y0 : w7.cell? ⟨w3.heap.size, 0, none⟩ = some (.slice A3 t1.nf k3) := hW7.cell 0; have y1 : w7.cell? ⟨w3.heap.size, 1, none⟩ = some (.slice A5 (t1.ni + 1) k5) := hW7.cell 1; have hm7 := hm6.to hb7 hb7.size; have hv7 := hW7.lt; have hi6 := hi6.to hb7 hb7.size; have hNk : N ≤ k7 := Nat.le_trans HMM.out hc7.1)
            | (go_at_call 11; (with_reducible refine (R1.out w7 (hg0.to hX7.b hX7.b.size)).mono ?_); rintro e w8 ⟨rfl, hb8⟩; have hX8 := hX7.call hb8; obtain ⟨x0, x1, x2, x3, x4, x5, x6, z0, z1⟩ := hX8.cells; have hW8 := hW7.keep hb8 hW7.lt; have y0 : w8.cell? ⟨w3.heap.size, 0, none⟩ = some (.slice A3 t1.nf k3) := hW8.cell 0; have y1 : w8.cell? ⟨w3.heap.size, 1, none⟩ = some (.slice A5 (t1.ni + 1) k5) := hW8.cell 1; have hm8 := hm7.to hb8 hb8.size; have hv8 := hW8.lt; have hi6 := hi6.to hb8 hb8.size; have hi7 := hi7.to hb8 hb8.size)
            | (go_at_call 11; (with_reducible refine (R2.out w8 A3 k3 A5 k5 ⟨hm0.to hX8.b hX8.b.size, hs, hm8, HSM.out⟩).mono ?_); rintro e w9 ⟨rfl, hb9⟩; have hX9 := hX8.call hb9; have hi6 := hi6.to hb9 hb9.size; have hi7 := hi7.to hb9 hb9.size; obtain ⟨a7, rfl, _, _⟩ := hi7 (by have := HMM.out; have := HN0.out; have := HNN.out; omega))
            | (go_at_call 19; (with_reducible refine (samRs_at HSA.out (some a7) A6 k7 k6 w9.heap.size w9 (Nat.le_refl _) (by omega) (fun _ _ => by omega) (fun _ _ => by omega) (hi7.first HMM.out) hi6).mono ?_); rintro e w10 ⟨rfl, hb10⟩; have hX10 := hX9.call hb10)
            | (go_at_call 20; refine (alive6_any _).mono ?_; rintro e w11 ⟨rfl, hb11⟩; have hX11 := hX10.call hb11))
          go_ret
          exact ⟨rfl, hX11.b⟩
      · have h2i : ((n2 : Int) != c0.i) = true := by simpa using h2
        clear h2
        go_enter Try.func7, Try.ntmps7
        go_wp2_with (first
          | (go_at_call 30; (with_reducible refine (fit6_any _ (hm0.to (ct_b w c0 p0 t1 q1) (ct_z w c0 p0 t1 q1)) hv0 (ht1.to (ct_b w c0 p0 t1 q1) (ct_z w c0 p0 t1 q1))).mono ?_); rw [hft]; rintro e w1 ⟨rfl, hb1⟩; have hX1 := Bx.first hb1; obtain ⟨x0, x1, x2, x3, x4, x5, x6, z0, z1⟩ := hX1.cells)
          | (go_at_call 20; refine (alive6_any _).mono ?_; rintro e w2 ⟨rfl, hb2⟩; have hX2 := hX1.call hb2))
        go_ret
        exact ⟨rfl, hX2.b⟩
    · have h1b : decide ((19 : Int) < (t1.ni : Int)) = true := decide_eq_true (by omega)
      clear h1
      go_enter Try.func7, Try.ntmps7
      go_wp2_with (first
        | (go_at_call 30; (with_reducible refine (fit6_any _ (hm0.to (ct_b w c0 p0 t1 q1) (ct_z w c0 p0 t1 q1)) hv0 (ht1.to (ct_b w c0 p0 t1 q1) (ct_z w c0 p0 t1 q1))).mono ?_); rw [hft]; rintro e w1 ⟨rfl, hb1⟩; have hX1 := Bx.first hb1; obtain ⟨x0, x1, x2, x3, x4, x5, x6, z0, z1⟩ := hX1.cells)
        | (go_at_call 20; refine (alive6_any _).mono ?_; rintro e w2 ⟨rfl, hb2⟩; have hX2 := hX1.call hb2))
      go_ret
      exact ⟨rfl, hX2.b⟩

set_option maxRecDepth 100000 in
theorem lifted (os : Os) (started : os.Started) (H : Type) (enc : TypeId × Value → H) :
    ReturnsInHanded {} Try.checked os 7 .any (Rows.tracesMoreSpec.pre6 enc Try.prog Try.f7 Rows.tracesMoreRow.domain false) (Rows.tracesMoreSpec.post enc Try.prog Try.f7 false true false false) := by
  refine returnsInHanded_of_change (C := Try.checked) own started (by kernel_rfl) Try.func7
    (ChangeSpec.witness6 (enc := enc) (C := Try.checked) false ⟨#[], #[.agg #[.int .i64 0, .slice none 0 0, .slice none 0 0, .slice none 0 0, .slice none 0 0], .agg #[.slice none 0 0, .slice none 0 0], .slice none 0 0], []⟩ 12 (by kernel_rfl) (by kernel_rfl) (by kernel_rfl) (by kernel_rfl)) ?_
  intro W base args ds gs before hval0 hW hcnd _
  have hval : ∀ (j : Nat) t v, Try.f7.params[j]? = some t → args[j]? = some v → Value.okWide Try.prog W .any base t v := hval0
  have hW' := hW
  have hlt : ∀ x ∈ before, x.block < W.heap.size := fun x hx => by simpa using hW'.lt x hx
  obtain ⟨p, q, hA0, hV, rfl, hfz, hnd⟩ := hW
  have hA : DataW.TrodAll enc Try.prog W 0 (fun _ => true) true Try.f7.params.toList args.toList ds p := hA0
  rw [Try.params7] at hA hval
  obtain ⟨v0, vs0, d0, ds0, b0, q0, hargs, rfl, rfl, h0, r0⟩ := trodAll_cons hA
  obtain ⟨v1, vs1, d1, ds1, b1, q1, rfl, rfl, rfl, h1, r1⟩ := trodAll_cons r0
  obtain ⟨v2, vs2, d2, ds2, b2, q2, rfl, rfl, rfl, h2, r2⟩ := trodAll_cons r1
  obtain ⟨rfl, rfl, rfl⟩ := trodAll_nil r2
  obtain rfl : args = #[v0, v1, v2] := by cases args; simp_all
  obtain ⟨rfl, rfl⟩ := trodVars_none hV
  obtain ⟨c0, p0, rfl, hm0, hN0, hv0, hC0⟩ := open_circ (hval 0 28 v0 rfl rfl) h0
  obtain ⟨t1, q1, rfl, ht1⟩ := open_tr6 (hval 1 32 v1 rfl rfl) h1
  obtain ⟨A2, n2, k2, f2, rfl, hm2, hN2, hC2⟩ := open_bl (hval 2 29 v2 rfl rfl) h2
  have hlo : laidOutB Try.prog = true := by kernel_rfl
  clear hA0 hval0
  simp only [List.append_nil] at hW' hlt
  refine (walk c0 p0 t1 q1 A2 n2 k2 f2 W hm0 hN0 hv0 hC0 ht1 hm2 hN2 hC2).mono fun e W' ⟨he, hb⟩ => ?_
  subst he
  have hback := (trodAll_cons_mk (arg_back (W' := W') hlo (by kernel_rfl) (of_decide_eq_true (by kernel_rfl)) h0 hb (fun x hx => hlt x (by simp [hx]))) (trodAll_cons_mk (arg_back (W' := W') hlo (by kernel_rfl) (of_decide_eq_true (by kernel_rfl)) h1 hb (fun x hx => hlt x (by simp [hx]))) (trodAll_cons_mk (arg_back (W' := W') hlo (by kernel_rfl) (of_decide_eq_true (by kernel_rfl)) h2 hb (fun x hx => hlt x (by simp [hx]))) trodAll_mk0)))
  simp only [List.append_nil, List.nil_append] at hback
  exact ⟨_, rfl, law_post hW' (trodAll_cons_mk (shut_bool Try.underlying4 _) trodAll_mk0) hback rfl hb⟩

theorem over : Rows.tracesMoreRow.holds Try.pinned (OpenSpec.ofChange Rows.tracesMoreSpec) :=
  OpenClaim.holds_of_wide 7 Try.f7 rfl rfl rfl rfl rfl rfl rfl ⟨rfl, rfl, rfl, rfl, rfl⟩ rfl rfl rfl rfl rfl (by kernel_rfl) Try.func7 (by kernel_rfl)
    (of_decide_eq_true (by kernel_rfl)) (by unfold Func.isWrapper; first | (rw [if_pos (by decide +kernel)]; kernel_rfl) | (rw [if_neg (by decide +kernel)]; exact ⟨rfl, rfl⟩))
    (fun os started H enc _ => lifted os started H enc)

theorem proved : Rows.TracesMoreSaid :=
  over
end Go.Proofs.Ytcbkpkdnmjlggaa.tracesMore
