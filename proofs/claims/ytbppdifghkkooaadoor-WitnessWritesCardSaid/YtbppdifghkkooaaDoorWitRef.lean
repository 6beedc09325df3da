/- The reference of layer 11: Values, Shown, Check. -/
import Derived.Test.YtbppdifghkkooaaDoorWitChk
import Derived.Test.YtbppdifghkkooaaDoorWitProg
namespace Go.Proofs.YtbppdifghkkooaaDoor
open Go Go.RowKit
set_option linter.unusedVariables false
set_option linter.unusedSimpArgs false

/-- what Values returns -/
def ValrB (l : List UInt8) (n : Nat) (b : Bool) (w : World) (e : Ending) (w' : World) : Prop :=
  ∃ A m k, e = .returned (.tuple #[.slice A m k, .bool b]) ∧ Below w.heap.size w w' ∧ m ≤ n ∧ (b = true → m = n) ∧ (b = false → m = 0) ∧ BlsAt w' w'.heap.size A m (bvD l) ∧ (A = none → m = 0 ∧ k = 0) ∧ ∀ a, A = some a → w.heap.size ≤ a.block
abbrev ValrIs (l : List UInt8) (n : Nat) (w : World) (e : Ending) (w' : World) : Prop := ValrB l n (isD l n) w e w'
theorem valr_no {l : List UInt8} {n : Nat} {w w' : World} (h : isD l n = false) (hb : Below w.heap.size w w') : ValrIs l n w (.returned (.tuple #[.slice none 0 0, .bool false])) w' :=
  ⟨none, 0, 0, by rw [h], hb, Nat.zero_le _, (fun h' => by rw [h] at h'; cases h'), fun _ => rfl, fun h => absurd h (Nat.not_lt_zero _), fun _ => ⟨rfl, rfl⟩, fun a ha => by cases ha⟩

section
variable {c : Cr} {p : Pl} {t : Tr} {q : Tp}

set_option maxRecDepth 100000 in
set_option maxHeartbeats 4000000 in
theorem rShown_any (b : Nat) (hb : b < c.nb) (hk : c.tck t = 0) (w : World) (h : RArg w w.heap.size c p t q) :
    Calls Tryd.prog 19 #[cv c p, tv t q, .int .i64 (b : Int)] w fun e w' => e = .returned (.bool (c.shB t b)) ∧ Below w.heap.size w w' := by
  obtain ⟨A1, k1, A2, k2⟩ := q
  obtain ⟨hc, hn0, hn1, hnf, hst, hln⟩ := Cr.tck_ok hk
  have hs := h.hs
  have g1 := hs.nl
  have hi := Cr.chk_i (c := c) (by simpa using hc) hs
  have hip := h.ht.ip
  dsimp only at hip
  obtain ⟨n, hn⟩ : ∃ n, t.ni = n := ⟨_, rfl⟩
  obtain ⟨m, hm⟩ : ∃ m, n = m + 1 := ⟨n - 1, by omega⟩
  obtain ⟨F, hF⟩ : ∃ F, c.sts t = F := ⟨_, rfl⟩
  obtain ⟨x, hx⟩ : ∃ x, c.alw t = x := ⟨_, rfl⟩
  have hbv : c.bf t (t.ni - 1) b = vlo (c.fr (F m) (t.ip m)) (c.bd b) := by rw [← hF, hn, hm]; rfl
  have hxl : x ≤ n := by rw [← hx, ← hn]; exact led_le _ _
  have hsh : c.shB t b = (decide (x = n) && vlo (c.fr (F m) (t.ip m)) (c.bd b)) := by unfold Cr.shB; rw [hx, hn, ← hbv, hn]
  rw [hn] at hn0 hn1 hln hip
  obtain ⟨a2, rfl, ha2, hr2⟩ := hip hn0
  have e2 : (n : Int) - 1 = (m : Int) := by omega
  have hm0 : (0 : Int) ≤ (m : Int) := by omega
  have hm1 : (m : Int) < (n : Int) := by omega
  have hm9 : (m : Int) ≤ 100 := by omega
  have HMN : Hid (m < n) := show m < n by omega
  have HK := Lib.hid hk
  have HC := Lib.hid hc
  have HL := Lib.hid (hln m HMN.out)
  have HI := Lib.hid (hr2 m HMN.out)
  have HN := Lib.hid hn
  have HF := Lib.hid hF
  have HX := Lib.hid hx
  by_cases hlt : x < n
  · have e1 : (x : Int) < (n : Int) := by omega
    rw [decide_eq_false (by omega), Bool.false_and] at hsh
    rw [hsh]
    have HW := h.to (ct_b w c p t ⟨A1, k1, some a2, k2⟩) (ct_z w c p t ⟨A1, k1, some a2, k2⟩)
    have e3 : (x : Int) < (t.ni : Int) := by rw [hn]; exact e1
    clear hc hst hln hk hr2 hF hip hn hnf hx hm hsh hlt hbv hb
    go_enter Tryd.func19, Tryd.ntmps19
    go_wp2_with (first
      | (go_at_call 35; (with_reducible refine (rAllowed_at HK.out HX.out _ HW).mono ?_); rintro e w1 ⟨rfl, hb1⟩; obtain ⟨hB1, hA1, hT1, hz1⟩ := ct_k hb1))
    go_ret
    exact ⟨rfl, hB1⟩
  · have e1 : ¬ ((x : Int) < (n : Int)) := by omega
    rw [decide_eq_true (by omega), Bool.true_and] at hsh
    obtain ⟨d1, d2, d3⟩ := Cr.bad_ok hc hb
    obtain ⟨y, hy⟩ : ∃ y, vlo (c.fr (F m) (t.ip m)) (c.bd b) = y := ⟨_, rfl⟩
    rw [hy] at hsh
    have HY := Lib.hid hy
    rw [hsh]
    have HW := h.to (ct_b w c p t ⟨A1, k1, some a2, k2⟩) (ct_z w c p t ⟨A1, k1, some a2, k2⟩)
    have e3 : ¬ ((x : Int) < (t.ni : Int)) := by rw [hn]; exact e1
    have e5 : (t.ni : Int) - 1 = (m : Int) := by rw [hn]; exact e2
    have HAK : Hid (c.ask c.nl (t.ln m) = 0) := Lib.hid (Cr.ask_ok hc rfl (hln m (by omega)))
    have HBN := Lib.hid hb
    have hb0 : (0 : Int) ≤ (b : Int) := by omega
    have hb1 : (b : Int) < (c.nb : Int) := by omega
    clear hc hst hln hk hr2 hF hip hn hnf hx hm hsh hlt hbv hb hy
    go_enter Tryd.func19, Tryd.ntmps19
    go_wp2_with (first
      | (go_at_call 35; (with_reducible refine (rAllowed_at HK.out HX.out _ HW).mono ?_); rintro e w1 ⟨rfl, hb1'⟩; obtain ⟨hB1, hA1, hT1, hz1⟩ := ct_k hb1'; obtain ⟨z0, z1⟩ := hT1.tbox; obtain ⟨x0, x1, x2, x3, x4⟩ := hA1.box))
    obtain ⟨A', k', y0, hy, hyn⟩ := HI.out
    have y0 : w1.cell? (a2.add m) = some (.slice A' (t.ln m) k') := (hB1.cell (by rw [add_block]; exact ha2)).trans y0
    have hBd : Below w.heap.size w w1.drew := below_dn hB1 1
    have hXd : Has w1.drew w.heap.size 26 (cc c p) := hA1
    have hTd : Has w1.drew (w.heap.size + 1) 30 (tcs t ⟨A1, k1, some a2, k2⟩) := hT1
    have hgd : RArg w1.drew w1.drew.heap.size c p t ⟨A1, k1, some a2, k2⟩ := h.to hBd hBd.size
    have hS0 : CS w.heap.size c p (a2.add m) (.slice A' (t.ln m) k') w1.drew ∧ w1.drew.cell? ⟨w.heap.size + 1, 0, none⟩ = some (.slice A1 t.nf k1) ∧ w1.drew.cell? ⟨w.heap.size + 1, 1, none⟩ = some (.slice (some a2) t.ni k2) := ⟨cs_of hXd y0, z0, z1⟩
    have HS1 := Lib.hid hS0
    have hm1t : (m : Int) < (t.ni : Int) := by rw [HN.out]; exact hm1
    have hwm : IntKind.i64.wrap (m : Int) = (m : Int) := IntWalk.i64_in _ (by omega)
    have hyd := hy.to hBd hBd.size
    clear hb1' hy
    go_wp2
    refine wp_region_T (fun w' => CS w.heap.size c p (a2.add m) (.slice A' (t.ln m) k') w' ∧ w'.cell? ⟨w.heap.size + 1, 0, none⟩ = some (.slice A1 t.nf k1) ∧ w'.cell? ⟨w.heap.size + 1, 1, none⟩ = some (.slice (some a2) t.ni k2)) 16 (by kernel_rfl) ?_
    (refine wpT_take 0 (v := ?_) rfl (by kernel_rfl) (by kernel_rfl) (by kernel_rfl) (by kernel_rfl) (fun _ _ _ h => h) rfl hS0 (fun w hS => ?_) ?_; rotate_left; focus (obtain ⟨⟨j0, j1, j2, j3, j4, j5⟩, j6, j7⟩ := hS; go_simp; rfl)); (refine wpT_take 1 (v := ?_) rfl (by kernel_rfl) (by kernel_rfl) (by kernel_rfl) (by kernel_rfl) (fun _ _ _ h => h) rfl hS0 (fun w hS => ?_) ?_; rotate_left; focus (obtain ⟨⟨j0, j1, j2, j3, j4, j5⟩, j6, j7⟩ := hS; go_simp; rfl)); (refine wpT_take 2 (v := ?_) rfl (by kernel_rfl) (by kernel_rfl) (by kernel_rfl) (by kernel_rfl) (fun _ _ _ h => h) rfl hS0 (fun w hS => ?_) ?_; rotate_left; focus (obtain ⟨⟨j0, j1, j2, j3, j4, j5⟩, j6, j7⟩ := hS; go_simp; rfl)); (refine wpT_take 4 (v := ?_) rfl (by kernel_rfl) (by kernel_rfl) (by kernel_rfl) (by kernel_rfl) (fun _ _ _ h => h) rfl hS0 (fun w hS => ?_) ?_; rotate_left; focus (obtain ⟨⟨j0, j1, j2, j3, j4, j5⟩, j6, j7⟩ := hS; go_simp; rfl)); (refine wpT_take 5 (v := ?_) rfl (by kernel_rfl) (by kernel_rfl) (by kernel_rfl) (by kernel_rfl) (fun _ _ _ h => h) rfl hS0 (fun w hS => ?_) ?_; rotate_left; focus (obtain ⟨⟨j0, j1, j2, j3, j4, j5⟩, j6, j7⟩ := hS; go_simp; rfl)); (refine wpT_take 8 (v := ?_) rfl (by kernel_rfl) (by kernel_rfl) (by kernel_rfl) (by kernel_rfl) (fun _ _ _ h => h) rfl hS0 (fun w hS => ?_) ?_; rotate_left; focus (obtain ⟨⟨j0, j1, j2, j3, j4, j5⟩, j6, j7⟩ := hS; go_simp; rfl)); (refine wpT_take 9 (v := ?_) rfl (by kernel_rfl) (by kernel_rfl) (by kernel_rfl) (by kernel_rfl) (fun _ _ _ h => h) rfl hS0 (fun w hS => ?_) ?_; rotate_left; focus (obtain ⟨⟨j0, j1, j2, j3, j4, j5⟩, j6, j7⟩ := hS; go_simp; rfl)); (refine wpT_take 10 (v := ?_) rfl (by kernel_rfl) (by kernel_rfl) (by kernel_rfl) (by kernel_rfl) (fun _ _ _ h => h) rfl hS0 (fun w hS => ?_) ?_; rotate_left; focus (obtain ⟨⟨j0, j1, j2, j3, j4, j5⟩, j6, j7⟩ := hS; go_simp; rfl)); (refine wpT_take 11 (v := ?_) rfl (by kernel_rfl) (by kernel_rfl) (by kernel_rfl) (by kernel_rfl) (fun _ _ _ h => h) rfl hS0 (fun w hS => ?_) ?_; rotate_left; focus (obtain ⟨⟨j0, j1, j2, j3, j4, j5⟩, j6, j7⟩ := hS; go_simp; rfl)); (refine wpT_take 12 (v := ?_) rfl (by kernel_rfl) (by kernel_rfl) (by kernel_rfl) (by kernel_rfl) (fun _ _ _ h => h) rfl hS0 (fun w hS => ?_) ?_; rotate_left; focus (obtain ⟨⟨j0, j1, j2, j3, j4, j5⟩, j6, j7⟩ := hS; go_simp; rfl)); (refine wpT_take 13 (v := ?_) rfl (by kernel_rfl) (by kernel_rfl) (by kernel_rfl) (by kernel_rfl) (fun _ _ _ h => h) rfl hS0 (fun w hS => ?_) ?_; rotate_left; focus (obtain ⟨⟨j0, j1, j2, j3, j4, j5⟩, j6, j7⟩ := hS; go_simp; rfl))
    refine wpT_one 3 (by kernel_rfl) (wpOp_go rfl rfl fun K hK => ?_)
    go_simp
    go_at_call 37
    (with_reducible refine (rAll6_any HK.out HN.out HF.out w1.drew hgd).mono ?_)
    rintro e w5 ⟨A5, k5, rfl, hi5, hcap5, hb5⟩
    obtain ⟨a5, rfl, ha5, hr5⟩ := hi5 (by omega)
    obtain ⟨A'', k'', u0, hu, hun⟩ := hr5 m HMN.out
    have hB5 := Below.step hBd hBd.size hb5
    have hgd5 : Arg w5 w5.heap.size c p A'' c.nl k'' (F m) A' (t.ln m) k' (t.ip m) := ⟨h.hm.to hB5 hB5.size, hs, hu, hyd.to hb5 hb5.size, hun, hyn, by omega, by have := HL.out; omega⟩
    have hS0 : CS w.heap.size c p (a2.add m) (.slice A' (t.ln m) k') w5 ∧ w5.cell? ⟨w.heap.size + 1, 0, none⟩ = some (.slice A1 t.nf k1) ∧ w5.cell? ⟨w.heap.size + 1, 1, none⟩ = some (.slice (some a2) t.ni k2) := ⟨HS1.out.1.keep hb5, (hb5.cell (cell_lt HS1.out.2.1)).trans HS1.out.2.1, (hb5.cell (cell_lt HS1.out.2.2)).trans HS1.out.2.2⟩
    refine hK _ _ ⟨fun _ => hS0, ?_⟩
    clear hr5 hi5 hu hyd hun hyn
    refine wpT_one 6 (by kernel_rfl) (wpOp_go rfl rfl fun K hK => ?_)
    go_simp
    refine hK _ _ ⟨fun _ => hS0, ?_⟩
    refine wpT_one 7 (by kernel_rfl) (wpOp_go rfl rfl fun K hK => ?_)
    go_simp
    refine hK _ _ ⟨fun _ => hS0, ?_⟩
    refine wpT_one 14 (by kernel_rfl) (wpOp_go rfl rfl fun K hK => ?_)
    go_simp
    go_at_call 36
    (with_reducible refine (rFrame_at HAK.out w5 hgd5).mono ?_)
    rintro e w6 ⟨A6, k6, rfl, hi6, hb6⟩
    have hB6 := Below.step hB5 hB5.size hb6
    refine hK _ _ ⟨fun _ => ⟨hS0.1.keep hb6, (hb6.cell (cell_lt hS0.2.1)).trans hS0.2.1, (hb6.cell (cell_lt hS0.2.2)).trans hS0.2.2⟩, ?_⟩
    refine wpT_one 15 (by kernel_rfl) (wpOp_go rfl rfl fun K hK => ?_)
    go_simp
    refine hK _ _ ⟨fun _ => ⟨hS0.1.keep hb6, (hb6.cell (cell_lt hS0.2.1)).trans hS0.2.1, (hb6.cell (cell_lt hS0.2.2)).trans hS0.2.2⟩, ?_⟩
    refine wpT_done (by kernel_rfl) (NoPanic.normal ?_) _
    obtain ⟨a3, hA3, hab3, hc3⟩ := (h.hm.bd.keep hB6) (by have := HBN.out; omega)
    have q0 := hc3 b HBN.out
    have q3 : w6.cell? ⟨w.heap.size, 3, none⟩ = some (.slice (some a3) c.nb p.k3) := by rw [← hA3]; exact (hb6.cell (cell_lt hS0.1.2.2.2.1)).trans hS0.1.2.2.2.1
    clear hc3 hA3
    go_wp2_with (go_at_call 38; (with_reducible refine (rValue_any A6 (c.fg + c.na) k6 (c.fr (F m) (t.ip m)) (c.bd b) w6.heap.size w6 hi6 d1 d2 d3).mono ?_); rw [HY.out]; rintro e w7 ⟨rfl, rfl⟩)
    go_ret
    exact ⟨rfl, hB6⟩

set_option maxRecDepth 100000 in
set_option maxHeartbeats 4000000 in
theorem rCheck11_any (b : Int) (hb : I64 b) (w : World) (h : RArg w w.heap.size c p t q) :
    Calls Tryd.prog 10 #[cv c p, tv t q, .int .i64 b] w fun e w' => e = .returned (.int .i64 (c.wck t b)) ∧ Below w.heap.size w w' := by
  have hnb := h.hs.nb
  have hW := h.to (ct_b w c p t q) (ct_z w c p t q)
  have DC := Lib.hid (rCheck6_any (ctW w c p t q) hW)
  have DC2 : Hid (∀ W, Below w.heap.size w W → Calls Tryd.prog 18 #[cv c p, tv t q] W fun e w' => e = .returned (.int .i64 (c.tck t)) ∧ Below W.heap.size W w') := Lib.hid fun W hb => rCheck6_any W (h.to hb hb.size)
  by_cases hk : c.tck t = 0
  · rw [hk] at DC
    by_cases h0 : b < 0
    · have HR : Hid (c.wck t b = 2) := Lib.hid (by unfold Cr.wck; rw [if_neg (by omega), if_pos (Or.inl h0)])
      have e0 : decide (b < 0) = true := by simpa using h0
      clear hW h hk h0
      go_enter Tryd.func10, Tryd.ntmps10
      go_wp2_with (go_at_call 18; (with_reducible refine DC.out.mono ?_); rintro e w1 ⟨rfl, hb1⟩; obtain ⟨hB1, hA1, hT1, hz1⟩ := ct_k hb1; obtain ⟨x0, x1, x2, x3, x4⟩ := hA1.box)
      go_ret
      exact ⟨by rw [HR.out]; rfl, hB1⟩
    · have e0 : decide (b < 0) = false := by simpa using h0
      by_cases h1 : (c.nb : Int) ≤ b
      · have HR : Hid (c.wck t b = 2) := Lib.hid (by unfold Cr.wck; rw [if_neg (by omega), if_pos (Or.inr h1)])
        have e1 : decide ((c.nb : Int) ≤ b) = true := by simpa using h1
        clear hW h hk h0 h1
        go_enter Tryd.func10, Tryd.ntmps10
        go_wp2_with (go_at_call 18; (with_reducible refine DC.out.mono ?_); rintro e w1 ⟨rfl, hb1⟩; obtain ⟨hB1, hA1, hT1, hz1⟩ := ct_k hb1; obtain ⟨x0, x1, x2, x3, x4⟩ := hA1.box)
        go_ret
        exact ⟨by rw [HR.out]; rfl, hB1⟩
      · have e1 : decide ((c.nb : Int) ≤ b) = false := by simpa using h1
        obtain ⟨n, rfl⟩ : ∃ n : Nat, b = (n : Int) := ⟨b.toNat, by omega⟩
        have hn : n < c.nb := by omega
        obtain ⟨y, hy⟩ : ∃ y, y = c.shB t n := ⟨_, rfl⟩
        have HR : Hid (c.wck t (n : Int) = if y = true then 0 else 57) := Lib.hid (by unfold Cr.wck; rw [if_neg (show ¬ c.tck t ≠ 0 by omega), if_neg (show ¬ ((n : Int) < 0 ∨ (c.nb : Int) ≤ n) by omega), Int.toNat_natCast, ← hy])
        have DS : Hid (∀ W, Below w.heap.size w W → Calls Tryd.prog 19 #[cv c p, tv t q, .int .i64 (n : Int)] W fun e w' => e = .returned (.bool y) ∧ Below W.heap.size W w') := Lib.hid fun W hb => by
          rw [hy]
          exact rShown_any n hn hk W (h.to hb hb.size)
        clear hW h hk h0 h1 hb hy
        cases y
        all_goals
          go_enter Tryd.func10, Tryd.ntmps10
          go_wp2_with (first
            | (go_at_call 18; (with_reducible refine DC.out.mono ?_); rintro e w1 ⟨rfl, hb1⟩; obtain ⟨hB1, hA1, hT1, hz1⟩ := ct_k hb1; obtain ⟨x0, x1, x2, x3, x4⟩ := hA1.box; have xz := hT1.tbox)
            | (go_at_call 19; (with_reducible refine (DS.out _ hB1).mono ?_); rintro e w2 ⟨rfl, hb2⟩; have hB2 := Below.step hB1 hB1.size hb2))
          go_ret
          exact ⟨by rw [HR.out]; rfl, hB2⟩
  · have HR : Hid (c.wck t b = c.tck t) := Lib.hid (by unfold Cr.wck; rw [if_pos hk])
    obtain ⟨x, hx⟩ : ∃ x, x = c.tck t := ⟨_, rfl⟩
    rw [← hx] at DC DC2 HR
    have e1 : (x != 0) = true := by rw [hx]; simpa [bne] using hk
    clear hW h hk hx
    go_enter Tryd.func10, Tryd.ntmps10
    go_wp2_with (go_at_call 18; (with_reducible refine DC.out.mono ?_); rintro e w1 ⟨rfl, hb1⟩; obtain ⟨hB1, hA1, hT1, hz1⟩ := ct_k hb1; obtain ⟨x0, x1, x2, x3, x4⟩ := hA1.box; have xz := hT1.tbox)
    go_wp2_with (go_at_call 18; (with_reducible refine (DC2.out _ hB1).mono ?_); rintro e w2 ⟨rfl, hb2⟩; have hB2 := Below.step hB1 hB1.size hb2)
    go_ret
    exact ⟨by rw [HR.out]; rfl, hB2⟩
end

end Go.Proofs.YtbppdifghkkooaaDoor
