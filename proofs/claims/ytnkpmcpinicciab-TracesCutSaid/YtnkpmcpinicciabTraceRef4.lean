/- The contracts of the reference of traces: States, Allowed, Right, Shows, Witness. -/
import Derived.Test.YtnkpmcpinicciabTraceRef3
namespace Go.Proofs.Ytnkpmcpinicciab
open Go.RowKit
set_option linter.unusedVariables false
set_option linter.unusedSimpArgs false

section
variable {c : Cr} {p : Pl} {t : Tr} {q : Tp}

set_option maxRecDepth 100000 in
set_option maxHeartbeats 2000000 in
theorem rStates_any (w : World) (h : RArg w w.heap.size c p t q) :
    Calls Try.prog 22 #[cv c p, tv t q] w (RowsErr (c.tn t) (fun _ => c.nl) (c.sts t) (c.tck t) w) := by
  have hB0 := ct_b w c p t q
  by_cases hk : c.tck t = 0
  · have HF := Lib.hid (show c.tn t = t.ni from if_pos hk)
    have HK := Lib.hid hk
    rw [HF.out, HK.out]
    clear hk HF
    go_enter Try.func22, Try.ntmps22
    go_wp2_with (first
      | (go_at_call 24; (with_reducible refine (rCheck6_ok HK.out _ (h.to (ct_b w c p t q) (ct_z w c p t q))).mono ?_); rintro e w1 ⟨rfl, hb1⟩; obtain ⟨hB1, hA1, hT1, hz1⟩ := ct_k hb1; obtain ⟨z0, z1⟩ := hT1.tbox; obtain ⟨x0, x1, x2, x3, x4⟩ := hA1.box)
      | (go_at_call 41; (with_reducible refine (rAll6_any HK.out rfl rfl w1 (h.to hB1 hB1.size)).mono ?_); rintro e w2 ⟨A, k, rfl, hi2, hcap, hb2⟩; have hB2 := Below.step hB1 hB1.size hb2))
    go_ret2
    exact ⟨A, k, rfl, hi2, hcap, hB2⟩
  · have h1 : (c.tck t != 0) = true := by simpa [bne] using hk
    have HF := Lib.hid (show c.tn t = 0 from if_neg hk)
    rw [HF.out]
    clear HF hk
    go_enter Try.func22, Try.ntmps22
    go_wp2_with (first
      | (go_at_call 24; (with_reducible refine (rCheck6_any _ (h.to (ct_b w c p t q) (ct_z w c p t q))).mono ?_); rintro e w1 ⟨rfl, hb1⟩; obtain ⟨hB1, hA1, hT1, hz1⟩ := ct_k hb1; obtain ⟨z0, z1⟩ := hT1.tbox; obtain ⟨x0, x1, x2, x3, x4⟩ := hA1.box)
      | (go_at_call 24; (with_reducible refine (rCheck6_any w1 (h.to hB1 hB1.size)).mono ?_); rintro e w2 ⟨rfl, hb2⟩; have hB2 := Below.step hB1 hB1.size hb2))
    go_ret2
    exact ⟨none, 0, rfl, rowsNil, ⟨Nat.le_refl _, Nat.zero_le _⟩, hB2⟩

set_option maxRecDepth 100000 in
set_option maxHeartbeats 4000000 in
theorem rAllowed_any (hk : c.tck t = 0) (w : World) (h : RArg w w.heap.size c p t q) :
    Calls Try.prog 42 #[cv c p, tv t q] w fun e w' => e = .returned (.int .i64 (c.alw t)) ∧ Below w.heap.size w w' := by
  obtain ⟨hc, hn0, hn1, hnf, hst, hln⟩ := Cr.tck_ok hk
  have hs := h.hs
  have g1 := hs.nl
  have hi := Cr.chk_i (c := c) (by simpa using hc) hs
  have hip := h.ht.ip
  obtain ⟨n, hn⟩ : ∃ n, t.ni = n := ⟨_, rfl⟩
  obtain ⟨F, hF⟩ : ∃ F, c.sts t = F := ⟨_, rfl⟩
  have HFR : Hid (∀ r, c.hf t r = c.hol (F r) (t.ip r)) := fun r => by rw [← hF]; rfl
  have HY : Hid ((∀ j, j < n → c.hf t j = true) → c.alw t = n) := fun h => by unfold Cr.alw; rw [hn]; exact led_end h
  have HZ : Hid (∀ r, r < n → (∀ j, j < r → c.hf t j = true) → c.hf t r = false → c.alw t = r) := fun r hr h1 h2 => by unfold Cr.alw; rw [hn]; exact led_at hr h1 h2
  rw [hn] at hn0 hn1 hln hip
  obtain ⟨a2, hA2, ha2, hr2⟩ := hip hn0
  obtain ⟨X, hX⟩ : ∃ X, c.alw t = X := ⟨_, rfl⟩
  rw [hX] at HY
  have HZ' : Hid (∀ r, r < n → (∀ j, j < r → c.hf t j = true) → c.hf t r = false → X = r) := fun r a b d => hX ▸ HZ.out r a b d
  rw [hX]
  have HK := Lib.hid hk
  have HC := Lib.hid hc
  have HL := Lib.hid hln
  have HI := Lib.hid hr2
  have HN := Lib.hid hn
  have HF := Lib.hid hF
  have HA2 := Lib.hid hA2
  clear hc hst hln hk hr2 hF hip hn hnf hA2 HZ hX
  go_enter Try.func42, Try.ntmps42
  go_wp2_with (first
    | (go_at_call 41; (with_reducible refine (rAll6_any HK.out HN.out HF.out _ (h.to (ct_b w c p t q) (ct_z w c p t q))).mono ?_); rintro e w1 ⟨A, k, rfl, hi1, hcap1, hb1⟩; obtain ⟨hB1, hA1, hT1, hz1⟩ := ct_k hb1))
  obtain ⟨a1, rfl, ha1, hr1⟩ := hi1 hn0
  have HS := Lib.hid hr1
  clear hb1 hr1 hi1
  go_loopw [6] (fun i wr => ∃ r : Nat, r ≤ n ∧ i = .int .i64 r ∧ Hid (∀ j, j < r → c.hf t j = true) ∧ Has wr w.heap.size 28 (cc c p) ∧ Has wr (w.heap.size + 1) 32 (tcs t q) ∧ Below w1.heap.size w1 wr) (fun i _ => n - (intOf i).toNat)
  case atStart => exact ⟨0, Nat.zero_le _, rfl, Lib.hid (fun j hj => absurd hj (Nat.not_lt_zero _)), hA1, hT1, Below.refl _ _⟩
  case round =>
    obtain ⟨r, hr, rfl, hL, hX, hT, hB1r⟩ := hrel
    have hBr : Below w.heap.size w wr := Below.step hB1 hB1.size hB1r
    by_cases hlt : r < n
    · obtain ⟨x0, x1, x2, x3, x4⟩ := hX.box
      obtain ⟨z0, z1⟩ := hT.tbox
      rw [HN.out, HA2.out] at z1
      obtain ⟨A', k', y0, hy, hyn⟩ := HI.out r hlt
      have y0 : wr.cell? (a2.add r) = some (.slice A' (t.ln r) k') := (hBr.cell (by rw [add_block]; exact ha2)).trans y0
      have hy := hy.to hBr hBr.size
      obtain ⟨A'', k'', u0, hu, hun⟩ := HS.out r hlt
      have u0 : wr.cell? (a1.add r) = some (.slice A'' c.nl k'') := (hB1r.cell (by rw [add_block]; exact ha1)).trans u0
      have hu := hu.to hB1r hB1r.size
      have hq0 : (0 : Int) ≤ (r : Int) := by omega
      have hq1 : (r : Int) < (n : Int) := by omega
      have hln := HL.out r hlt
      have HLr := Lib.hid hln
      have hBd : Below w.heap.size w wr.drew := below_dn hBr 1
      have hgd : Arg wr.drew wr.drew.heap.size c p A'' c.nl k'' (F r) A' (t.ln r) k' (t.ip r) := ⟨h.hm.to hBd hBd.size, hs, hu, hy, hun, hyn, by omega, by omega⟩
      have hXd : Has wr.drew w.heap.size 28 (cc c p) := hX
      have hTd : Has wr.drew (w.heap.size + 1) 32 (tcs t q) := hT
      have hB1d : Below w1.heap.size w1 wr.drew := below_dn hB1r 1
      have hS0 : CS w.heap.size c p (a1.add r) (.slice A'' c.nl k'') wr.drew ∧ wr.drew.cell? ⟨w.heap.size + 1, 1, none⟩ = some (.slice (some a2) n q.k2) ∧ wr.drew.cell? (a2.add r) = some (.slice A' (t.ln r) k') := ⟨cs_of hXd u0, z1, y0⟩
      have HS1 := Lib.hid hS0
      obtain ⟨b, hb⟩ : ∃ b, c.hol (F r) (t.ip r) = b := ⟨_, rfl⟩
      have HQ := Lib.hid hb
      have HR := Lib.hid ((HFR.out r).trans hb)
      clear hln hu hy hun hyn hb
      go_wp2
      refine wp_region_T (fun w' => CS w.heap.size c p (a1.add r) (.slice A'' c.nl k'') w' ∧ w'.cell? ⟨w.heap.size + 1, 1, none⟩ = some (.slice (some a2) n q.k2) ∧ w'.cell? (a2.add r) = some (.slice A' (t.ln r) k')) 12 (by kernel_rfl) ?_
      (refine wpT_take 0 (v := ?_) rfl (by kernel_rfl) (by kernel_rfl) (by kernel_rfl) (by kernel_rfl) (fun _ _ _ h => h) rfl hS0 (fun w hS => ?_) ?_; rotate_left; focus (obtain ⟨⟨j0, j1, j2, j3, j4, j5⟩, j6, j7⟩ := hS; go_simp; rfl)); (refine wpT_take 1 (v := ?_) rfl (by kernel_rfl) (by kernel_rfl) (by kernel_rfl) (by kernel_rfl) (fun _ _ _ h => h) rfl hS0 (fun w hS => ?_) ?_; rotate_left; focus (obtain ⟨⟨j0, j1, j2, j3, j4, j5⟩, j6, j7⟩ := hS; go_simp; rfl)); (refine wpT_take 2 (v := ?_) rfl (by kernel_rfl) (by kernel_rfl) (by kernel_rfl) (by kernel_rfl) (fun _ _ _ h => h) rfl hS0 (fun w hS => ?_) ?_; rotate_left; focus (obtain ⟨⟨j0, j1, j2, j3, j4, j5⟩, j6, j7⟩ := hS; go_simp; rfl)); (refine wpT_take 3 (v := ?_) rfl (by kernel_rfl) (by kernel_rfl) (by kernel_rfl) (by kernel_rfl) (fun _ _ _ h => h) rfl hS0 (fun w hS => ?_) ?_; rotate_left; focus (obtain ⟨⟨j0, j1, j2, j3, j4, j5⟩, j6, j7⟩ := hS; go_simp; rfl)); (refine wpT_take 4 (v := ?_) rfl (by kernel_rfl) (by kernel_rfl) (by kernel_rfl) (by kernel_rfl) (fun _ _ _ h => h) rfl hS0 (fun w hS => ?_) ?_; rotate_left; focus (obtain ⟨⟨j0, j1, j2, j3, j4, j5⟩, j6, j7⟩ := hS; go_simp; rfl)); (refine wpT_take 5 (v := ?_) rfl (by kernel_rfl) (by kernel_rfl) (by kernel_rfl) (by kernel_rfl) (fun _ _ _ h => h) rfl hS0 (fun w hS => ?_) ?_; rotate_left; focus (obtain ⟨⟨j0, j1, j2, j3, j4, j5⟩, j6, j7⟩ := hS; go_simp; rfl)); (refine wpT_take 6 (v := ?_) rfl (by kernel_rfl) (by kernel_rfl) (by kernel_rfl) (by kernel_rfl) (fun _ _ _ h => h) rfl hS0 (fun w hS => ?_) ?_; rotate_left; focus (obtain ⟨⟨j0, j1, j2, j3, j4, j5⟩, j6, j7⟩ := hS; go_simp; rfl)); (refine wpT_take 7 (v := ?_) rfl (by kernel_rfl) (by kernel_rfl) (by kernel_rfl) (by kernel_rfl) (fun _ _ _ h => h) rfl hS0 (fun w hS => ?_) ?_; rotate_left; focus (obtain ⟨⟨j0, j1, j2, j3, j4, j5⟩, j6, j7⟩ := hS; go_simp; rfl)); (refine wpT_take 8 (v := ?_) rfl (by kernel_rfl) (by kernel_rfl) (by kernel_rfl) (by kernel_rfl) (fun _ _ _ h => h) rfl hS0 (fun w hS => ?_) ?_; rotate_left; focus (obtain ⟨⟨j0, j1, j2, j3, j4, j5⟩, j6, j7⟩ := hS; go_simp; rfl)); (refine wpT_take 9 (v := ?_) rfl (by kernel_rfl) (by kernel_rfl) (by kernel_rfl) (by kernel_rfl) (fun _ _ _ h => h) rfl hS0 (fun w hS => ?_) ?_; rotate_left; focus (obtain ⟨⟨j0, j1, j2, j3, j4, j5⟩, j6, j7⟩ := hS; go_simp; rfl))
      refine wpT_one 10 (by kernel_rfl) (wpOp_go rfl rfl fun K hK => ?_)
      go_simp
      go_at_call 55
      (with_reducible refine (holds_at HC.out HQ.out rfl HLr.out wr.drew hgd).mono ?_)
      rintro e w5 ⟨rfl, hb5⟩
      have hB5 := Below.step hBd hBd.size hb5
      have hX5 := hXd.keep hb5 hXd.lt
      have hT5 := hTd.keep hb5 hTd.lt
      have hB15 := hB1d.trans (hb5.mono hB1d.size)
      have hS0 : CS w.heap.size c p (a1.add r) (.slice A'' c.nl k'') w5 ∧ w5.cell? ⟨w.heap.size + 1, 1, none⟩ = some (.slice (some a2) n q.k2) ∧ w5.cell? (a2.add r) = some (.slice A' (t.ln r) k') := ⟨HS1.out.1.keep hb5, (hb5.cell (cell_lt HS1.out.2.1)).trans HS1.out.2.1, (hb5.cell (cell_lt HS1.out.2.2)).trans HS1.out.2.2⟩
      refine hK _ _ ⟨fun _ => hS0, ?_⟩
      (refine wpT_take 11 (v := ?_) rfl (by kernel_rfl) (by kernel_rfl) (by kernel_rfl) (by kernel_rfl) (fun _ _ _ h => h) rfl hS0 (fun w hS => ?_) ?_; rotate_left; focus (go_simp; rfl))
      refine wpT_done (by kernel_rfl) (NoPanic.normal ?_) _
      clear hS0 hK
      cases b
      · obtain rfl := HZ'.out r hlt hL.out HR.out
        go_wp2
        go_ret
        exact ⟨rfl, hB5⟩
      · go_wp2
        go_roundw
        case rel => exact ⟨r + 1, by omega, by go_num, Lib.hid (fun j hj => by
          rcases Nat.lt_succ_iff_lt_or_eq.1 hj with h' | h'
          · exact hL.out j h'
          · subst h'; exact HR.out), hX5, hT5, hB15⟩
        case measure => simp [intOf]; omega
    · obtain rfl : r = n := by omega
      obtain rfl := HY.out hL.out
      clear hr hlt
      go_wp2
      go_ret
      exact ⟨rfl, hBr⟩

theorem rAllowed_at (hk : c.tck t = 0) {m : Nat} (hm : c.alw t = m) (w : World) (h : RArg w w.heap.size c p t q) :
    Calls Try.prog 42 #[cv c p, tv t q] w fun e w' => e = .returned (.int .i64 (m : Int)) ∧ Below w.heap.size w w' := hm ▸ rAllowed_any hk w h

set_option maxRecDepth 100000 in
set_option maxHeartbeats 2000000 in
theorem rRight_any (w : World) (h : RArg w w.heap.size c p t q) :
    Calls Try.prog 23 #[cv c p, tv t q] w fun e w' => e = .returned (.tuple #[.int .i64 (c.rgt t), .int .i64 (c.tck t)]) ∧ Below w.heap.size w w' := by
  have hB0 := ct_b w c p t q
  by_cases hk : c.tck t = 0
  · have HF := Lib.hid (show c.rgt t = c.alw t from if_pos hk)
    have HK := Lib.hid hk
    rw [HF.out, HK.out]
    clear hk HF
    go_enter Try.func23, Try.ntmps23
    go_wp2_with (first
      | (go_at_call 24; (with_reducible refine (rCheck6_ok HK.out _ (h.to (ct_b w c p t q) (ct_z w c p t q))).mono ?_); rintro e w1 ⟨rfl, hb1⟩; obtain ⟨hB1, hA1, hT1, hz1⟩ := ct_k hb1; obtain ⟨z0, z1⟩ := hT1.tbox; obtain ⟨x0, x1, x2, x3, x4⟩ := hA1.box)
      | (go_at_call 42; (with_reducible refine (rAllowed_any HK.out w1 (h.to hB1 hB1.size)).mono ?_); rintro e w2 ⟨rfl, hb2⟩; have hB2 := Below.step hB1 hB1.size hb2))
    go_ret2
    exact ⟨rfl, hB2⟩
  · have h1 : (c.tck t != 0) = true := by simpa [bne] using hk
    have HF := Lib.hid (show c.rgt t = 0 from if_neg hk)
    rw [HF.out]
    clear HF hk
    go_enter Try.func23, Try.ntmps23
    go_wp2_with (first
      | (go_at_call 24; (with_reducible refine (rCheck6_any _ (h.to (ct_b w c p t q) (ct_z w c p t q))).mono ?_); rintro e w1 ⟨rfl, hb1⟩; obtain ⟨hB1, hA1, hT1, hz1⟩ := ct_k hb1; obtain ⟨z0, z1⟩ := hT1.tbox; obtain ⟨x0, x1, x2, x3, x4⟩ := hA1.box)
      | (go_at_call 24; (with_reducible refine (rCheck6_any w1 (h.to hB1 hB1.size)).mono ?_); rintro e w2 ⟨rfl, hb2⟩; have hB2 := Below.step hB1 hB1.size hb2))
    go_ret2
    exact ⟨rfl, hB2⟩

end
