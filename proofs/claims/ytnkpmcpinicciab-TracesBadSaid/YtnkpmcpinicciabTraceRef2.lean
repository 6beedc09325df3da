/- The contracts of the reference of traces: Check, SameAll, Same; and of layer 4's Bad. -/
import Derived.Test.YtnkpmcpinicciabTraceRef
namespace Go.Proofs.Ytnkpmcpinicciab
open Go.RowKit
set_option linter.unusedVariables false
set_option linter.unusedSimpArgs false

section
variable {c : Cr} {p : Pl} {t : Tr} {q : Tp}

set_option maxRecDepth 100000 in
set_option maxHeartbeats 4000000 in
theorem rCheck6_any (w : World) (h : RArg w w.heap.size c p t q) :
    Calls Try.prog 24 #[cv c p, tv t q] w fun e w' => e = .returned (.int .i64 (c.tck t)) ∧ Below w.heap.size w w' := by
  have hB0 := ct_b w c p t q
  have g1 := h.hs.nl
  by_cases hk : c.chk = 0
  · have h0 : (c.chk != 0) = false := by simp [hk]
    by_cases h1 : 100 < t.ni
    · have HR := Lib.hid (Cr.tck_many hk h1)
      have e1 : (100 : Int) < (t.ni : Int) := by omega
      rw [HR.out]
      clear hk h1
      go_enter Try.func24, Try.ntmps24
      go_wp2_with (first
        | (go_at_call 39; (with_reducible refine (rCheck_any c p _ (h.hm.to (ct_b w c p t q) (ct_z w c p t q)) h.hs).mono ?_); rintro e w1 ⟨rfl, hb1⟩; obtain ⟨hB1, hA1, hT1, hz1⟩ := ct_k hb1; obtain ⟨z0, z1⟩ := hT1.tbox; obtain ⟨x0, x1, x2, x3, x4⟩ := hA1.box))
      go_ret
      exact ⟨rfl, hB1⟩
    · have e1 : ¬ ((100 : Int) < (t.ni : Int)) := by omega
      by_cases h2 : t.ni = 0
      · have HR := Lib.hid (Cr.tck_wrong (t := t) hk (by omega) (Or.inl h2))
        have e2 : ((t.ni : Int) == 0) = true := by simpa using h2
        rw [HR.out]
        clear hk h1 h2
        go_enter Try.func24, Try.ntmps24
        go_wp2_with (first
          | (go_at_call 39; (with_reducible refine (rCheck_any c p _ (h.hm.to (ct_b w c p t q) (ct_z w c p t q)) h.hs).mono ?_); rintro e w1 ⟨rfl, hb1⟩; obtain ⟨hB1, hA1, hT1, hz1⟩ := ct_k hb1; obtain ⟨z0, z1⟩ := hT1.tbox; obtain ⟨x0, x1, x2, x3, x4⟩ := hA1.box))
        go_ret
        exact ⟨rfl, hB1⟩
      · have e2 : ((t.ni : Int) == 0) = false := by simpa using h2
        by_cases h3 : t.nf = c.nl
        · cases h4 : c.stB c.nl t.fi
          · have HR := Lib.hid (Cr.tck_wrong (t := t) hk (by omega) (Or.inr (Or.inr (Or.inl (by rw [h3]; exact h4)))))
            have H4 := Lib.hid h4
            rw [HR.out]
            have hfi := h.ht.fi
            have hht := h
            have e3 : ((t.nf : Int) != (c.nl : Int)) = false := by simp [h3]
            have HT := Lib.hid h3
            clear hk h1 h2 h3 h4
            go_enter Try.func24, Try.ntmps24
            go_wp2_with (first
              | (go_at_call 39; (with_reducible refine (rCheck_any c p _ (h.hm.to (ct_b w c p t q) (ct_z w c p t q)) h.hs).mono ?_); rintro e w1 ⟨rfl, hb1⟩; obtain ⟨hB1, hA1, hT1, hz1⟩ := ct_k hb1; obtain ⟨z0, z1⟩ := hT1.tbox; obtain ⟨x0, x1, x2, x3, x4⟩ := hA1.box)
              | (go_at_call 40; rw [HT.out]; (with_reducible refine (rStarts_any q.A1 q.k1 t.fi w1 (h.hm.to hB1 hB1.size) h.hs (by have := hfi.to hB1 hB1.size; rw [HT.out] at this; exact this)).mono ?_); rw [H4.out]; rintro e w2 ⟨rfl, hb2⟩; have hB2 := Below.step hB1 hB1.size hb2))
            go_ret
            exact ⟨rfl, hB2⟩
          · have HR : Hid (t.lnB c.i = false → c.tck t = 8) := fun h6 => Cr.tck_wrong (t := t) hk (by omega) (Or.inr (Or.inr (Or.inr h6)))
            have HS : Hid (t.lnB c.i = true → c.tck t = 0) := fun h6 => Cr.tck_right (t := t) hk (by omega) (by
              rintro (h | h | h | h)
              · exact h2 h
              · exact h h3
              · rw [h3, h4] at h; cases h
              · rw [h6] at h; cases h)
            have H4 := Lib.hid h4
            have hfi := h.ht.fi
            have e3 : ((t.nf : Int) != (c.nl : Int)) = false := by simp [h3]
            have HT := Lib.hid h3
            have hip := h.ht.ip
            have hn1 : t.ni ≤ 100 := by omega
            obtain ⟨G, hG⟩ : ∃ G, c.tck t = G := ⟨_, rfl⟩
            rw [hG]
            have HG := Lib.hid hG
            clear hk h1 h2 h3 h4 hG
            go_enter Try.func24, Try.ntmps24
            go_wp2_with (first
              | (go_at_call 39; (with_reducible refine (rCheck_any c p _ (h.hm.to (ct_b w c p t q) (ct_z w c p t q)) h.hs).mono ?_); rintro e w1 ⟨rfl, hb1⟩; obtain ⟨hB1, hA1, hT1, hz1⟩ := ct_k hb1; obtain ⟨z0, z1⟩ := hT1.tbox; obtain ⟨x0, x1, x2, x3, x4⟩ := hA1.box)
              | (go_at_call 40; rw [HT.out]; (with_reducible refine (rStarts_any q.A1 q.k1 t.fi w1 (h.hm.to hB1 hB1.size) h.hs (by have := hfi.to hB1 hB1.size; rw [HT.out] at this; exact this)).mono ?_); rw [H4.out]; rintro e w2 ⟨rfl, hb2⟩; have hB2 := Below.step hB1 hB1.size hb2; have hA2 := hA1.keep hb2 hA1.lt; have hT2 := hT1.keep hb2 hT1.lt))
            have hP := hip.keep hB2
            obtain ⟨a0, ha0⟩ : ∃ a0, q.A2 = a0 := ⟨_, rfl⟩
            obtain ⟨b0, b1, b2, b3, b4⟩ := hA2.box
            obtain ⟨d0, d1⟩ := hT2.tbox
            rw [ha0] at d1 hP
            clear ha0 z0 z1 x0 x1 x2 x3 x4 b1 b2 b3 b4 d0 hb1 hb2 hA1 hT1 hA2 hT2
            go_loopw [5] (fun i wr => ∃ r : Nat, r ≤ t.ni ∧ i = .int .i64 r ∧ Hid (∀ j, j < r → (t.ln j : Int) = c.i) ∧ ∃ d, wr = w2.drewN d) (fun i _ => t.ni - (intOf i).toNat)
            case atStart => exact ⟨0, Nat.zero_le _, rfl, Lib.hid (fun j hj => absurd hj (Nat.not_lt_zero _)), 0, rfl⟩
            case round =>
              obtain ⟨r, hr, rfl, hL, d, rfl⟩ := hrel
              by_cases hlt : r < t.ni
              · obtain ⟨a, rfl, hab, hcs⟩ := hP (by omega)
                obtain ⟨A', k', y0, hA', _⟩ := hcs r hlt
                have hq0 : (0 : Int) ≤ (r : Int) := by omega
                have hq1 : (r : Int) < (t.ni : Int) := by omega
                clear hcs
                cases hv : ((t.ln r : Int) != c.i)
                · have HV := Lib.hid hv
                  go_wp2
                  go_quiet (fail)
                  go_wp2
                  go_roundw
                  case rel => exact ⟨r + 1, by omega, by go_num, Lib.hid (fun j hj => by
                    rcases Nat.lt_succ_iff_lt_or_eq.1 hj with h' | h'
                    · exact hL.out j h'
                    · subst h'; simpa using HV.out), _, rfl⟩
                  case measure => simp [intOf]; omega
                · have HV := Lib.hid (HG.out.symm.trans (HR.out (decide_eq_false fun h' => by rw [h' r hlt] at hv; simp at hv)))
                  obtain rfl := HV.out
                  go_wp2
                  go_quiet (fail)
                  go_wp2
                  go_ret
                  exact ⟨rfl, below_dn (below_dn hB2 _) _⟩
              · have HV := Lib.hid (HG.out.symm.trans (HS.out (decide_eq_true fun j hj => hL.out j (by omega))))
                obtain rfl := HV.out
                have e4 : ¬ ((r : Int) < (t.ni : Int)) := by omega
                clear hlt
                go_wp2
                go_ret
                exact ⟨rfl, below_dn hB2 _⟩
        · have HR := Lib.hid (Cr.tck_wrong (t := t) hk (by omega) (Or.inr (Or.inl h3)))
          have e3 : ((t.nf : Int) != (c.nl : Int)) = true := by simp; omega
          rw [HR.out]
          clear hk h1 h2 h3
          go_enter Try.func24, Try.ntmps24
          go_wp2_with (first
            | (go_at_call 39; (with_reducible refine (rCheck_any c p _ (h.hm.to (ct_b w c p t q) (ct_z w c p t q)) h.hs).mono ?_); rintro e w1 ⟨rfl, hb1⟩; obtain ⟨hB1, hA1, hT1, hz1⟩ := ct_k hb1; obtain ⟨z0, z1⟩ := hT1.tbox; obtain ⟨x0, x1, x2, x3, x4⟩ := hA1.box))
          go_ret
          exact ⟨rfl, hB1⟩
  · have h0 : (c.chk != 0) = true := by simpa [bne] using hk
    have HR := Lib.hid (Cr.tck_bad (t := t) hk)
    rw [HR.out]
    clear hk
    go_enter Try.func24, Try.ntmps24
    go_wp2_with (first
      | (go_at_call 39; (with_reducible refine (rCheck_any c p _ (h.hm.to (ct_b w c p t q) (ct_z w c p t q)) h.hs).mono ?_); rintro e w1 ⟨rfl, hb1⟩; obtain ⟨hB1, hA1, hT1, hz1⟩ := ct_k hb1; obtain ⟨x0, x1, x2, x3, x4⟩ := hA1.box)
      | (go_at_call 39; (with_reducible refine (rCheck_any c p w1 (h.hm.to hB1 hB1.size) h.hs).mono ?_); rintro e w2 ⟨rfl, hb2⟩; have hB2 := Below.step hB1 hB1.size hb2))
    go_ret
    exact ⟨rfl, hB2⟩
theorem rCheck6_ok (hk : c.tck t = 0) (w : World) (h : RArg w w.heap.size c p t q) :
    Calls Try.prog 24 #[cv c p, tv t q] w fun e w' => e = .returned (.int .i64 0) ∧ Below w.heap.size w w' := by
  have := rCheck6_any w h
  rwa [hk] at this

end

/-- two lists of lists that agree -/
def samR (n m : Nat) (L M : Nat → Nat) (f g : Nat → Nat → Bool) : Bool := decide (n = m ∧ ∀ j, j < n → samB (L j) (M j) (f j) (g j) = true)
theorem samR_no {n m : Nat} {L M : Nat → Nat} {f g : Nat → Nat → Bool} (h : n ≠ m) : samR n m L M f g = false := decide_eq_false fun h' => h h'.1
theorem samR_no2 {n m k : Nat} {L M : Nat → Nat} {f g : Nat → Nat → Bool} (hk : k < n) (h : samB (L k) (M k) (f k) (g k) = false) : samR n m L M f g = false := decide_eq_false fun h' => by rw [h'.2 k hk] at h; cases h
theorem samR_yes {n : Nat} {L M : Nat → Nat} {f g : Nat → Nat → Bool} (h : ∀ j, j < n → samB (L j) (M j) (f j) (g j) = true) : samR n n L M f g = true := decide_eq_true ⟨rfl, h⟩

theorem samBs_at {n m : Nat} {f g : Nat → Bool} {b : Bool} (hb : samB n m f g = b) (A A' : Option Addr) (k k' : Nat) (B : Nat) (w : World) (hn : n ≤ 100000) (hm : m ≤ 100000) (hA : BlsAt w B A n f) (hA' : BlsAt w B A' m g) :
    Calls Try.prog 27 #[.slice A n k, .slice A' m k'] w fun e w' => e = .returned (.bool b) ∧ Below w.heap.size w w' := hb ▸ samBs_any A A' n m k k' f g B w hn hm hA hA'

set_option maxRecDepth 100000 in
set_option maxHeartbeats 4000000 in
theorem samRs_any (A A' : Option Addr) (n m k k' : Nat) (L M : Nat → Nat) (f g : Nat → Nat → Bool) (B : Nat) (w : World) (hB : B ≤ w.heap.size) (hn : n ≤ 100000) (hL : ∀ j, j < n → L j ≤ 100000) (hM : ∀ j, j < m → M j ≤ 100000) (hA : RowsAt w B A n L f) (hA' : RowsAt w B A' m M g) :
    Calls Try.prog 17 #[.slice A n k, .slice A' m k'] w fun e w' => e = .returned (.bool (samR n m L M f g)) ∧ Below w.heap.size w w' := by
  by_cases hnm : n = m
  · subst hnm
    have t1 : ((n : Int) != (n : Int)) = false := by simp
    have HLb := Lib.hid hL
    have HMb := Lib.hid hM
    clear hL hM
    go_enter Try.func17, Try.ntmps17
    go_wp2
    go_loopw [5] (fun i wr => ∃ r : Nat, r ≤ n ∧ i = .int .i64 r ∧ Hid (∀ j, j < r → samB (L j) (M j) (f j) (g j) = true) ∧ Below B w wr ∧ Below w.heap.size w wr) (fun i _ => n - (intOf i).toNat)
    case atStart => exact ⟨0, Nat.zero_le _, rfl, Lib.hid (fun j hj => absurd hj (Nat.not_lt_zero _)), Below.refl _ _, Below.refl _ _⟩
    case round =>
      obtain ⟨r, hr, rfl, hS, hBB, hBr⟩ := hrel
      by_cases hlt : r < n
      · obtain ⟨a, rfl, hab, hcs⟩ := (hA.keep hBB) (by omega)
        obtain ⟨a', rfl, hab', hcs'⟩ := (hA'.keep hBB) (by omega)
        obtain ⟨A1, k1, y0, h1, _⟩ := hcs r hlt
        obtain ⟨A2, k2, y1, h2, _⟩ := hcs' r hlt
        have hq0 : (0 : Int) ≤ (r : Int) := by omega
        have hq1 : (r : Int) < (n : Int) := by omega
        have hBd : Below w.heap.size w wr.drew := below_dn hBr 1
        have h1d : BlsAt wr.drew B A1 (L r) (f r) := h1
        have h2d : BlsAt wr.drew B A2 (M r) (g r) := h2
        have hBBd : Below B w wr.drew := below_dn hBB 1
        clear hcs hcs'
        obtain ⟨b, hb⟩ : ∃ b, samB (L r) (M r) (f r) (g r) = b := ⟨_, rfl⟩
        have HQ := Lib.hid hb
        clear hb
        have hS0 : (wr.drew.cell? (a.add r) = some (.slice A1 (L r) k1)) ∧ wr.drew.cell? (a'.add r) = some (.slice A2 (M r) k2) := ⟨y0, y1⟩
        have HS1 := Lib.hid hS0
        clear h1 h2
        go_wp2
        refine wp_region_T (fun w' => (w'.cell? (a.add r) = some (.slice A1 (L r) k1)) ∧ w'.cell? (a'.add r) = some (.slice A2 (M r) k2)) 10 (by kernel_rfl) ?_
        (refine wpT_take 0 (v := ?_) rfl (by kernel_rfl) (by kernel_rfl) (by kernel_rfl) (by kernel_rfl) (fun _ _ _ h => h) rfl hS0 (fun w hS => ?_) ?_; rotate_left; focus (obtain ⟨j0, j1⟩ := hS; go_simp; rfl)); (refine wpT_take 1 (v := ?_) rfl (by kernel_rfl) (by kernel_rfl) (by kernel_rfl) (by kernel_rfl) (fun _ _ _ h => h) rfl hS0 (fun w hS => ?_) ?_; rotate_left; focus (obtain ⟨j0, j1⟩ := hS; go_simp; rfl)); (refine wpT_take 2 (v := ?_) rfl (by kernel_rfl) (by kernel_rfl) (by kernel_rfl) (by kernel_rfl) (fun _ _ _ h => h) rfl hS0 (fun w hS => ?_) ?_; rotate_left; focus (obtain ⟨j0, j1⟩ := hS; go_simp; rfl)); (refine wpT_take 3 (v := ?_) rfl (by kernel_rfl) (by kernel_rfl) (by kernel_rfl) (by kernel_rfl) (fun _ _ _ h => h) rfl hS0 (fun w hS => ?_) ?_; rotate_left; focus (obtain ⟨j0, j1⟩ := hS; go_simp; rfl)); (refine wpT_take 4 (v := ?_) rfl (by kernel_rfl) (by kernel_rfl) (by kernel_rfl) (by kernel_rfl) (fun _ _ _ h => h) rfl hS0 (fun w hS => ?_) ?_; rotate_left; focus (obtain ⟨j0, j1⟩ := hS; go_simp; rfl)); (refine wpT_take 5 (v := ?_) rfl (by kernel_rfl) (by kernel_rfl) (by kernel_rfl) (by kernel_rfl) (fun _ _ _ h => h) rfl hS0 (fun w hS => ?_) ?_; rotate_left; focus (obtain ⟨j0, j1⟩ := hS; go_simp; rfl)); (refine wpT_take 6 (v := ?_) rfl (by kernel_rfl) (by kernel_rfl) (by kernel_rfl) (by kernel_rfl) (fun _ _ _ h => h) rfl hS0 (fun w hS => ?_) ?_; rotate_left; focus (obtain ⟨j0, j1⟩ := hS; go_simp; rfl)); (refine wpT_take 7 (v := ?_) rfl (by kernel_rfl) (by kernel_rfl) (by kernel_rfl) (by kernel_rfl) (fun _ _ _ h => h) rfl hS0 (fun w hS => ?_) ?_; rotate_left; focus (obtain ⟨j0, j1⟩ := hS; go_simp; rfl))
        refine wpT_one 8 (by kernel_rfl) (wpOp_go rfl rfl fun K hK => ?_)
        go_simp
        go_at_call 27
        (with_reducible refine (samBs_at HQ.out A1 A2 k1 k2 B wr.drew (HLb.out r hlt) (HMb.out r hlt) h1d h2d).mono ?_)
        rintro e w5 ⟨rfl, hb5⟩
        have hS0 : (w5.cell? (a.add r) = some (.slice A1 (L r) k1)) ∧ w5.cell? (a'.add r) = some (.slice A2 (M r) k2) := ⟨(hb5.cell (cell_lt HS1.out.1)).trans HS1.out.1, (hb5.cell (cell_lt HS1.out.2)).trans HS1.out.2⟩
        have hB5 := Below.step hBd hBd.size hb5
        have hBB5 := hBBd.trans (hb5.mono (Nat.le_trans hB hBr.size))
        refine hK _ _ ⟨fun _ => hS0, ?_⟩
        (refine wpT_take 9 (v := ?_) rfl (by kernel_rfl) (by kernel_rfl) (by kernel_rfl) (by kernel_rfl) (fun _ _ _ h => h) rfl hS0 (fun w hS => ?_) ?_; rotate_left; focus (go_simp; rfl))
        refine wpT_done (by kernel_rfl) (NoPanic.normal ?_) _
        clear hS0 hK
        cases b
        · have HZ := Lib.hid (samR_no2 (m := n) hlt HQ.out)
          go_wp2
          go_ret
          exact ⟨by rw [HZ.out]; rfl, hB5⟩
        · go_wp2
          go_roundw
          case rel => exact ⟨r + 1, by omega, by go_num, Lib.hid (fun j hj => by
            rcases Nat.lt_succ_iff_lt_or_eq.1 hj with h' | h'
            · exact hS.out j h'
            · subst h'; exact HQ.out), hBB5, hB5⟩
          case measure => simp [intOf]; omega
      · obtain rfl : r = n := by omega
        have HZ := Lib.hid (samR_yes hS.out)
        clear hr hlt
        go_wp2
        go_ret
        exact ⟨by rw [HZ.out]; rfl, hBr⟩
  · have HZ := Lib.hid (samR_no (L := L) (M := M) (f := f) (g := g) hnm)
    have t1 : ((n : Int) != (m : Int)) = true := by simp; omega
    go_enter Try.func17, Try.ntmps17
    go_wp2
    go_ret
    exact ⟨by rw [HZ.out]; rfl, by go_grown⟩
theorem samRs_at {n m : Nat} {L M : Nat → Nat} {f g : Nat → Nat → Bool} {b : Bool} (hb : samR n m L M f g = b) (A A' : Option Addr) (k k' : Nat) (B : Nat) (w : World) (hB : B ≤ w.heap.size) (hn : n ≤ 100000) (hL : ∀ j, j < n → L j ≤ 100000) (hM : ∀ j, j < m → M j ≤ 100000) (hA : RowsAt w B A n L f) (hA' : RowsAt w B A' m M g) :
    Calls Try.prog 17 #[.slice A n k, .slice A' m k'] w fun e w' => e = .returned (.bool b) ∧ Below w.heap.size w w' := hb ▸ samRs_any A A' n m k k' L M f g B w hB hn hL hM hA hA'

/-- two runs that agree -/
def samT (t u : Tr) : Bool := samB t.nf u.nf t.fi u.fi && samR t.ni u.ni t.ln u.ln t.ip u.ip
theorem samT_yes {t u : Tr} (h1 : t.nf = u.nf) (h2 : ∀ j, j < t.nf → t.fi j = u.fi j) (h3 : t.ni = u.ni) (h4 : ∀ j, j < t.ni → t.ln j = u.ln j) (h5 : ∀ j, j < t.ni → ∀ i, i < t.ln j → t.ip j i = u.ip j i) : samT t u = true := by
  unfold samT
  rw [← h1, ← h3, samB_yes h2, samR_yes fun j hj => by rw [← h4 j hj]; exact samB_yes (h5 j hj)]
  rfl
theorem samT_self (t : Tr) : samT t t = true := samT_yes rfl (fun _ _ => rfl) rfl (fun _ _ => rfl) fun _ _ _ _ => rfl
set_option maxRecDepth 100000 in
set_option maxHeartbeats 4000000 in
theorem samT_any {t u : Tr} {q r : Tp} (w : World) (ht : TMem w w.heap.size t q) (hs : TSm t) (hu : TMem w w.heap.size u r) (hs' : TSm u) :
    Calls Try.prog 25 #[tv t q, tv u r] w fun e w' => e = .returned (.bool (samT t u)) ∧ Below w.heap.size w w' := by
  have n1 := hs.nf
  have n2 := hs'.nf
  have n3 := hs.ni
  have HL := Lib.hid (fun j hj => Nat.le_trans (hs.ln j hj) (by omega : 1000 ≤ 100000))
  have HM := Lib.hid (fun j hj => Nat.le_trans (hs'.ln j hj) (by omega : 1000 ≤ 100000))
  have hW : Below w.heap.size w ((w.alloc (.cells #[.slice q.A1 t.nf q.k1, .slice q.A2 t.ni q.k2] 32)).alloc (.cells #[.slice r.A1 u.nf r.k1, .slice r.A2 u.ni r.k2] 32)) := ((Below.refl _ _).alloc (Nat.le_refl _) _).alloc (by simp) _
  have hA0 : Has ((w.alloc (.cells #[.slice q.A1 t.nf q.k1, .slice q.A2 t.ni q.k2] 32)).alloc (.cells #[.slice r.A1 u.nf r.k1, .slice r.A2 u.ni r.k2] 32)) w.heap.size 32 (tcs t q) := (Has.new w 32 (tcs t q)).al _
  have hA1 : Has ((w.alloc (.cells #[.slice q.A1 t.nf q.k1, .slice q.A2 t.ni q.k2] 32)).alloc (.cells #[.slice r.A1 u.nf r.k1, .slice r.A2 u.ni r.k2] 32)) (w.heap.size + 1) 32 (tcs u r) := Has.new' _ _ (by simp)
  have HR := Lib.hid (show samT t u = (samB t.nf u.nf t.fi u.fi && samR t.ni u.ni t.ln u.ln t.ip u.ip) from rfl)
  cases h1 : samB t.nf u.nf t.fi u.fi
  · rw [h1] at HR
    have H1 := Lib.hid h1
    clear h1
    go_enter Try.func25, Try.ntmps25
    go_wp2_with (first
      | (go_at_call 27; (with_reducible refine (samBs_at H1.out q.A1 r.A1 q.k1 r.k1 w.heap.size _ (by omega) (by omega) (ht.fi.keep hW) (hu.fi.keep hW)).mono ?_); rintro e w1 ⟨rfl, hb1⟩; have hB1 := Below.step hW hW.size hb1))
    go_ret
    exact ⟨by rw [HR.out]; rfl, hB1⟩
  · rw [h1] at HR
    have H1 := Lib.hid h1
    clear h1
    obtain ⟨b, h2⟩ : ∃ b, samR t.ni u.ni t.ln u.ln t.ip u.ip = b := ⟨_, rfl⟩
    rw [h2] at HR
    have H2 := Lib.hid h2
    clear h2
    go_enter Try.func25, Try.ntmps25
    go_wp2_with (first
      | (go_at_call 27; (with_reducible refine (samBs_at H1.out q.A1 r.A1 q.k1 r.k1 w.heap.size _ (by omega) (by omega) (ht.fi.keep hW) (hu.fi.keep hW)).mono ?_); rintro e w1 ⟨rfl, hb1⟩; have hB1 := Below.step hW hW.size hb1; have hC0 := hA0.keep hb1 hA0.lt; have hC1 := hA1.keep hb1 hA1.lt; obtain ⟨x0, x1⟩ := hC0.tbox; obtain ⟨y0, y1⟩ := hC1.tbox)
      | (go_at_call 17; (with_reducible refine (samRs_at H2.out q.A2 r.A2 q.k2 r.k2 w.heap.size w1 hB1.size (by omega) HL.out HM.out (ht.ip.keep hB1) (hu.ip.keep hB1)).mono ?_); rintro e w2 ⟨rfl, hb2⟩; have hB2 := Below.step hB1 hB1.size hb2))
    go_ret
    exact ⟨by rw [HR.out]; rfl, hB2⟩
