/- The contracts of the reference of traces: Great, Starts, First, Check, Same, SameAll; and of the bad literals of layer 4's. -/
import Derived.Test.YtbppdifghkkooaaDoorTraceProps
import Derived.Test.YtbppdifghkkooaaDoorValuesRef3
import Derived.Test.YtbppdifghkkooaaDoorGatesFrame
namespace Go.Proofs.YtbppdifghkkooaaDoor
open Go.RowKit
set_option linter.unusedVariables false

set_option linter.unusedSimpArgs false

theorem Tr.gr_a {t : Tr} (h : 60 < t.nf) : t.gr = true := decide_eq_true (Or.inl h)
theorem Tr.gr_b {t : Tr} (h : 20 < t.ni) (h1 : t.ni ≠ 101) : t.gr = true := decide_eq_true (Or.inr (Or.inl ⟨h, h1⟩))
theorem Tr.gr_c {t : Tr} {j : Nat} (hj : j < t.ni) (h : 60 < t.ln j) : t.gr = true := decide_eq_true (Or.inr (Or.inr ⟨j, hj, h⟩))
theorem Tr.gr_d {t : Tr} (h : ¬ 60 < t.nf) (h1 : ¬ (20 < t.ni ∧ t.ni ≠ 101)) (h2 : ∀ j, j < t.ni → ¬ 60 < t.ln j) : t.gr = false := decide_eq_false fun h' => by
  rcases h' with h' | h' | ⟨j, hj, h'⟩
  · exact h h'
  · exact h1 h'
  · exact h2 j hj h'

section
variable {c : Cr} {p : Pl} {t : Tr} {q : Tp}

set_option maxRecDepth 100000 in
set_option maxHeartbeats 2000000 in
theorem rGreat6_any (w : World) (ht : TMem w w.heap.size t q) : Calls Tryd.prog 5 #[tv t q] w fun e w' => e = .returned (.bool t.gr) ∧ Below w.heap.size w w' := by
  have hB0 : Below w.heap.size w w := Below.refl _ _
  have hip := ht.ip
  have ga := @Tr.gr_a t
  have gb := @Tr.gr_b t
  have gc := @Tr.gr_c t
  have gd := @Tr.gr_d t
  obtain ⟨G, hG⟩ : ∃ G, t.gr = G := ⟨_, rfl⟩
  rw [hG] at ga gb gc gd ⊢
  clear hG ht
  obtain ⟨nf, fi, ni, ln, ip⟩ := t
  obtain ⟨A1, k1, A2, k2⟩ := q
  dsimp only at hip ga gb gc gd
  by_cases h1 : 60 < nf
  · obtain rfl := ga h1
    have e1 : (60 : Int) < (nf : Int) := by omega
    clear h1 ga gb gc gd
    go_enter Tryd.func5, Tryd.ntmps5
    go_wp2
    go_ret
    exact ⟨rfl, by go_grown⟩
  · have e1 : ¬ ((60 : Int) < (nf : Int)) := by omega
    by_cases h2 : 20 < ni ∧ ni ≠ 101
    · obtain rfl := gb h2.1 h2.2
      have e2 : (20 : Int) < (ni : Int) := by omega
      have e3 : ((ni : Int) != 101) = true := by simp; omega
      clear h1 h2 ga gb gc gd
      go_enter Tryd.func5, Tryd.ntmps5
      go_wp2
      go_ret
      exact ⟨rfl, by go_grown⟩
    · have hn1 : ni ≤ 101 := by omega
      have GC : Hid (∀ j, j < ni → 60 < ln j → G = true) := fun j => gc (j := j)
      have GD := Lib.hid (gd h1 h2)
      have hP := hip.keep ((Below.refl w.heap.size w).alloc (Nat.le_refl _) (.cells #[.slice A1 nf k1, .slice A2 ni k2] 30))
      clear ga gb gc gd h1 hip
      by_cases h3 : ni ≤ 20
      · have e2 : ¬ ((20 : Int) < (ni : Int)) := by omega
        clear h2 h3
        go_enter Tryd.func5, Tryd.ntmps5
        go_wp2
        go_loop [3] (fun i => ∃ r : Nat, r ≤ ni ∧ i = .int .i64 r ∧ Hid (∀ j, j < r → ¬ 60 < ln j)) (fun i => ni - (intOf i).toNat)
        case atStart => exact ⟨0, Nat.zero_le _, rfl, Lib.hid (fun j hj => absurd hj (Nat.not_lt_zero _))⟩
        case round =>
          obtain ⟨r, hr, rfl, hL⟩ := hrel
          by_cases hlt : r < ni
          · obtain ⟨a, rfl, hab, hcs⟩ := hP (by omega)
            obtain ⟨A', k', y0, hA', _⟩ := hcs r hlt
            have hq0 : (0 : Int) ≤ (r : Int) := by omega
            have hq1 : (r : Int) < (ni : Int) := by omega
            clear hcs
            by_cases h3 : 60 < ln r
            · have e3 : (60 : Int) < (ln r : Int) := by omega
              obtain rfl := GC.out r hlt h3
              clear h3
              go_wp2
              go_ret
              exact ⟨rfl, by go_grown⟩
            · have e3 : ¬ ((60 : Int) < (ln r : Int)) := by omega
              have H3 := Lib.hid h3
              clear h3
              go_wp2
              go_round
              case rel => exact ⟨r + 1, by omega, by go_num, Lib.hid (fun j hj => by
                rcases Nat.lt_succ_iff_lt_or_eq.1 hj with h' | h'
                · exact hL.out j h'
                · subst h'; exact H3.out)⟩
              case measure => simp [intOf]; omega
          · obtain rfl : r = ni := by omega
            obtain rfl := GD.out hL.out
            clear hr hlt
            go_wp2
            go_ret
            exact ⟨rfl, by go_grown⟩
      · obtain rfl : ni = 101 := by omega
        clear h2 h3
        go_enter Tryd.func5, Tryd.ntmps5
        go_wp2
        go_loop [3] (fun i => ∃ r : Nat, r ≤ 101 ∧ i = .int .i64 r ∧ Hid (∀ j, j < r → ¬ 60 < ln j)) (fun i => 101 - (intOf i).toNat)
        case atStart => exact ⟨0, Nat.zero_le _, rfl, Lib.hid (fun j hj => absurd hj (Nat.not_lt_zero _))⟩
        case round =>
          obtain ⟨r, hr, rfl, hL⟩ := hrel
          by_cases hlt : r < 101
          · obtain ⟨a, rfl, hab, hcs⟩ := hP (by omega)
            obtain ⟨A', k', y0, hA', _⟩ := hcs r hlt
            have hq0 : (0 : Int) ≤ (r : Int) := by omega
            have hq1 : (r : Int) < 101 := by omega
            clear hcs
            by_cases h3 : 60 < ln r
            · have e3 : (60 : Int) < (ln r : Int) := by omega
              obtain rfl := GC.out r hlt h3
              clear h3
              go_wp2
              go_ret
              exact ⟨rfl, by go_grown⟩
            · have e3 : ¬ ((60 : Int) < (ln r : Int)) := by omega
              have H3 := Lib.hid h3
              clear h3
              go_wp2
              go_round
              case rel => exact ⟨r + 1, by omega, by go_num, Lib.hid (fun j hj => by
                rcases Nat.lt_succ_iff_lt_or_eq.1 hj with h' | h'
                · exact hL.out j h'
                · subst h'; exact H3.out)⟩
              case measure => simp [intOf]; omega
          · have e4 : ¬ ((r : Int) < 101) := by omega
            obtain rfl := GD.out (fun j hj => hL.out j (by omega))
            clear hlt
            go_wp2
            go_ret
            exact ⟨rfl, by go_grown⟩

set_option maxRecDepth 100000 in
set_option maxHeartbeats 4000000 in
theorem rStarts_any (As : Option Addr) (ks : Nat) (s : Nat → Bool) (w : World) (hm : Mem w w.heap.size c p) (hs : Sm c) (hS : BlsAt w w.heap.size As c.nl s) :
    Calls Tryd.prog 34 #[cv c p, .slice As c.nl ks] w fun e w' => e = .returned (.bool (c.stB c.nl s)) ∧ Below w.heap.size w w' := by
  have g1 := hs.nl
  have hW : Below w.heap.size w (w.alloc (.cells #[.int .i64 c.i, .slice p.A1 c.nl p.k1, .slice p.A2 c.na p.k2, .slice p.A3 c.nb p.k3, .slice p.A4 c.nc p.k4] 26)) := (Below.refl _ _).alloc (Nat.le_refl _) _
  have hla := hm.la.keep hW
  have hS' := hS.keep hW
  have hno := @Cr.stB_no c c.nl
  have hyes := @Cr.stB_yes c c.nl s
  obtain ⟨G, hG⟩ : ∃ G, c.stB c.nl s = G := ⟨_, rfl⟩
  have HNO : Hid (∀ k, k < c.nl → ((c.rs k = 0 ∧ s k = true) ∨ (c.rs k = 1 ∧ s k = false)) → G = false) := fun k hk h => hG ▸ hno hk h
  have HY : Hid ((∀ j, j < c.nl → ¬ (c.rs j = 0 ∧ s j = true) ∧ ¬ (c.rs j = 1 ∧ s j = false)) → G = true) := fun h => hG ▸ hyes h
  rw [hG]
  clear hno hyes hG hS
  obtain ⟨i, nl, na, nb, nc, nx, rs, ga, gb, bd, cn⟩ := c
  obtain ⟨P1, P2, P3, P4, K1, K2, K3, K4⟩ := p
  dsimp only at hla hS' g1 HNO HY hW
  clear hm hs
  go_enter Tryd.func34, Tryd.ntmps34
  go_wp2
  go_loop [5] (fun i => ∃ r : Nat, r ≤ nl ∧ i = .int .i64 r ∧ Hid (∀ j, j < r → ¬ (rs j = 0 ∧ s j = true) ∧ ¬ (rs j = 1 ∧ s j = false))) (fun i => nl - (intOf i).toNat)
  case atStart => exact ⟨0, Nat.zero_le _, rfl, Lib.hid (fun j hj => absurd hj (Nat.not_lt_zero _))⟩
  case round =>
    obtain ⟨r, hr, rfl, hL⟩ := hrel
    by_cases hlt : r < nl
    · obtain ⟨a, rfl, hab, hcs⟩ := hla (by omega)
      obtain ⟨a', rfl, hab', hcs'⟩ := hS' (by omega)
      obtain ⟨y0, y1⟩ := hcs r hlt
      have y2 := hcs' r hlt
      have hq0 : (0 : Int) ≤ (r : Int) := by omega
      have hq1 : (r : Int) < (nl : Int) := by omega
      have HNr := Lib.hid (HNO.out r hlt)
      clear hcs hcs'
      obtain ⟨u, hu⟩ : ∃ u, s r = u := ⟨_, rfl⟩
      obtain ⟨x, hx⟩ : ∃ x, rs r = x := ⟨_, rfl⟩
      rw [hu] at y2 HNr
      rw [hx] at y1 HNr
      have HU := Lib.hid hu
      have HX := Lib.hid hx
      clear hu hx
      have step : Hid (¬ (x = 0 ∧ u = true) → ¬ (x = 1 ∧ u = false) → ∀ j, j < r + 1 → ¬ (rs j = 0 ∧ s j = true) ∧ ¬ (rs j = 1 ∧ s j = false)) := fun h1 h2 j hj => by
        rcases Nat.lt_succ_iff_lt_or_eq.1 hj with h' | h'
        · exact hL.out j h'
        · subst h'; rw [HU.out, HX.out]; exact ⟨h1, h2⟩
      cases u
      · cases h0 : (x == 1)
        · have HS := Lib.hid (step.out (by simp) (by simpa using h0))
          go_wp2
          go_round
          case rel => exact ⟨r + 1, by omega, by go_num, HS⟩
          case measure => simp [intOf]; omega
        · obtain rfl := HNr.out (Or.inr ⟨by simpa using h0, rfl⟩)
          go_wp2
          go_ret
          exact ⟨rfl, by go_grown⟩
      · cases h0 : (x == 0)
        · have HS := Lib.hid (step.out (by simpa using h0) (by simp))
          go_wp2
          go_round
          case rel => exact ⟨r + 1, by omega, by go_num, HS⟩
          case measure => simp [intOf]; omega
        · obtain rfl := HNr.out (Or.inl ⟨by simpa using h0, rfl⟩)
          go_wp2
          go_ret
          exact ⟨rfl, by go_grown⟩
    · obtain rfl : r = nl := by omega
      obtain rfl := HY.out hL.out
      clear hr hlt
      go_wp2
      go_ret
      exact ⟨rfl, by go_grown⟩

end

end Go.Proofs.YtbppdifghkkooaaDoor

namespace Go.Proofs.YtbppdifghkkooaaDoor
open Go.RowKit
set_option linter.unusedVariables false

set_option linter.unusedSimpArgs false

section
variable {c : Cr} {p : Pl} {t : Tr} {q : Tp}

set_option maxRecDepth 100000 in
set_option maxHeartbeats 4000000 in
theorem rCheck6_any (w : World) (h : RArg w w.heap.size c p t q) :
    Calls Tryd.prog 18 #[cv c p, tv t q] w fun e w' => e = .returned (.int .i64 (c.tck t)) ∧ Below w.heap.size w w' := by
  have hB0 := ct_b w c p t q
  have g1 := h.hs.nl
  by_cases hk : c.chk = 0
  · have h0 : (c.chk != 0) = false := by simp [hk]
    by_cases h1 : 100 < t.ni
    · have HR := Lib.hid (Cr.tck_many hk h1)
      have e1 : (100 : Int) < (t.ni : Int) := by omega
      rw [HR.out]
      clear hk h1
      go_enter Tryd.func18, Tryd.ntmps18
      go_wp2_with (first
        | (go_at_call 33; (with_reducible refine (rCheck_any c p _ (h.hm.to (ct_b w c p t q) (ct_z w c p t q)) h.hs).mono ?_); rintro e w1 ⟨rfl, hb1⟩; obtain ⟨hB1, hA1, hT1, hz1⟩ := ct_k hb1; obtain ⟨z0, z1⟩ := hT1.tbox; obtain ⟨x0, x1, x2, x3, x4⟩ := hA1.box))
      go_ret
      exact ⟨rfl, hB1⟩
    · have e1 : ¬ ((100 : Int) < (t.ni : Int)) := by omega
      by_cases h2 : t.ni = 0
      · have HR := Lib.hid (Cr.tck_wrong (t := t) hk (by omega) (Or.inl h2))
        have e2 : ((t.ni : Int) == 0) = true := by simpa using h2
        rw [HR.out]
        clear hk h1 h2
        go_enter Tryd.func18, Tryd.ntmps18
        go_wp2_with (first
          | (go_at_call 33; (with_reducible refine (rCheck_any c p _ (h.hm.to (ct_b w c p t q) (ct_z w c p t q)) h.hs).mono ?_); rintro e w1 ⟨rfl, hb1⟩; obtain ⟨hB1, hA1, hT1, hz1⟩ := ct_k hb1; obtain ⟨z0, z1⟩ := hT1.tbox; obtain ⟨x0, x1, x2, x3, x4⟩ := hA1.box))
        go_ret
        exact ⟨rfl, hB1⟩
      · have e2 : ((t.ni : Int) == 0) = false := by simpa using h2
        by_cases h3 : t.nf = c.nl
        · cases h4 : c.stB c.nl t.fi
          · have HR := Lib.hid (Cr.tck_wrong (t := t) hk (by omega) (Or.inr (Or.inr (Or.inl (by rw [h3]; exact h4)))))
            have H4 := Lib.hid h4
            rw [HR.out]
            have hfi := h.ht.fi
            have hht := h
            have e3 : ((t.nf : Int) != (c.nl : Int)) = false := by simp [h3]
            have HT := Lib.hid h3
            clear hk h1 h2 h3 h4
            go_enter Tryd.func18, Tryd.ntmps18
            go_wp2_with (first
              | (go_at_call 33; (with_reducible refine (rCheck_any c p _ (h.hm.to (ct_b w c p t q) (ct_z w c p t q)) h.hs).mono ?_); rintro e w1 ⟨rfl, hb1⟩; obtain ⟨hB1, hA1, hT1, hz1⟩ := ct_k hb1; obtain ⟨z0, z1⟩ := hT1.tbox; obtain ⟨x0, x1, x2, x3, x4⟩ := hA1.box)
              | (go_at_call 34; rw [HT.out]; (with_reducible refine (rStarts_any q.A1 q.k1 t.fi w1 (h.hm.to hB1 hB1.size) h.hs (by have := hfi.to hB1 hB1.size; rw [HT.out] at this; exact this)).mono ?_); rw [H4.out]; rintro e w2 ⟨rfl, hb2⟩; have hB2 := Below.step hB1 hB1.size hb2))
            go_ret
            exact ⟨rfl, hB2⟩
          · have HR : Hid (t.lnB c.i = false → c.tck t = 8) := fun h6 => Cr.tck_wrong (t := t) hk (by omega) (Or.inr (Or.inr (Or.inr h6)))
            have HS : Hid (t.lnB c.i = true → c.tck t = 0) := fun h6 => Cr.tck_right (t := t) hk (by omega) (by
              rintro (h | h | h | h)
              · exact h2 h
              · exact h h3
              · rw [h3, h4] at h; cases h
              · rw [h6] at h; cases h)
            have H4 := Lib.hid h4
            have hfi := h.ht.fi
            have e3 : ((t.nf : Int) != (c.nl : Int)) = false := by simp [h3]
            have HT := Lib.hid h3
            have hip := h.ht.ip
            have hn1 : t.ni ≤ 100 := by omega
            obtain ⟨G, hG⟩ : ∃ G, c.tck t = G := ⟨_, rfl⟩
            rw [hG]
            have HG := Lib.hid hG
            clear hk h1 h2 h3 h4 hG
            go_enter Tryd.func18, Tryd.ntmps18
            go_wp2_with (first
              | (go_at_call 33; (with_reducible refine (rCheck_any c p _ (h.hm.to (ct_b w c p t q) (ct_z w c p t q)) h.hs).mono ?_); rintro e w1 ⟨rfl, hb1⟩; obtain ⟨hB1, hA1, hT1, hz1⟩ := ct_k hb1; obtain ⟨z0, z1⟩ := hT1.tbox; obtain ⟨x0, x1, x2, x3, x4⟩ := hA1.box)
              | (go_at_call 34; rw [HT.out]; (with_reducible refine (rStarts_any q.A1 q.k1 t.fi w1 (h.hm.to hB1 hB1.size) h.hs (by have := hfi.to hB1 hB1.size; rw [HT.out] at this; exact this)).mono ?_); rw [H4.out]; rintro e w2 ⟨rfl, hb2⟩; have hB2 := Below.step hB1 hB1.size hb2; have hA2 := hA1.keep hb2 hA1.lt; have hT2 := hT1.keep hb2 hT1.lt))
            have hP := hip.keep hB2
            obtain ⟨a0, ha0⟩ : ∃ a0, q.A2 = a0 := ⟨_, rfl⟩
            obtain ⟨b0, b1, b2, b3, b4⟩ := hA2.box
            obtain ⟨d0, d1⟩ := hT2.tbox
            rw [ha0] at d1 hP
            clear ha0 z0 z1 x0 x1 x2 x3 x4 b1 b2 b3 b4 d0 hb1 hb2 hA1 hT1 hA2 hT2
            go_loopw [5] (fun i wr => ∃ r : Nat, r ≤ t.ni ∧ i = .int .i64 r ∧ Hid (∀ j, j < r → (t.ln j : Int) = c.i) ∧ ∃ d, wr = w2.drewN d) (fun i _ => t.ni - (intOf i).toNat)
            case atStart => exact ⟨0, Nat.zero_le _, rfl, Lib.hid (fun j hj => absurd hj (Nat.not_lt_zero _)), 0, rfl⟩
            case round =>
              obtain ⟨r, hr, rfl, hL, d, rfl⟩ := hrel
              by_cases hlt : r < t.ni
              · obtain ⟨a, rfl, hab, hcs⟩ := hP (by omega)
                obtain ⟨A', k', y0, hA', _⟩ := hcs r hlt
                have hq0 : (0 : Int) ≤ (r : Int) := by omega
                have hq1 : (r : Int) < (t.ni : Int) := by omega
                clear hcs
                cases hv : ((t.ln r : Int) != c.i)
                · have HV := Lib.hid hv
                  go_wp2
                  go_quiet (fail)
                  go_wp2
                  go_roundw
                  case rel => exact ⟨r + 1, by omega, by go_num, Lib.hid (fun j hj => by
                    rcases Nat.lt_succ_iff_lt_or_eq.1 hj with h' | h'
                    · exact hL.out j h'
                    · subst h'; simpa using HV.out), _, rfl⟩
                  case measure => simp [intOf]; omega
                · have HV := Lib.hid (HG.out.symm.trans (HR.out (decide_eq_false fun h' => by rw [h' r hlt] at hv; simp at hv)))
                  obtain rfl := HV.out
                  go_wp2
                  go_quiet (fail)
                  go_wp2
                  go_ret
                  exact ⟨rfl, below_dn (below_dn hB2 _) _⟩
              · have HV := Lib.hid (HG.out.symm.trans (HS.out (decide_eq_true fun j hj => hL.out j (by omega))))
                obtain rfl := HV.out
                have e4 : ¬ ((r : Int) < (t.ni : Int)) := by omega
                clear hlt
                go_wp2
                go_ret
                exact ⟨rfl, below_dn hB2 _⟩
        · have HR := Lib.hid (Cr.tck_wrong (t := t) hk (by omega) (Or.inr (Or.inl h3)))
          have e3 : ((t.nf : Int) != (c.nl : Int)) = true := by simp; omega
          rw [HR.out]
          clear hk h1 h2 h3
          go_enter Tryd.func18, Tryd.ntmps18
          go_wp2_with (first
            | (go_at_call 33; (with_reducible refine (rCheck_any c p _ (h.hm.to (ct_b w c p t q) (ct_z w c p t q)) h.hs).mono ?_); rintro e w1 ⟨rfl, hb1⟩; obtain ⟨hB1, hA1, hT1, hz1⟩ := ct_k hb1; obtain ⟨z0, z1⟩ := hT1.tbox; obtain ⟨x0, x1, x2, x3, x4⟩ := hA1.box))
          go_ret
          exact ⟨rfl, hB1⟩
  · have h0 : (c.chk != 0) = true := by simpa [bne] using hk
    have HR := Lib.hid (Cr.tck_bad (t := t) hk)
    rw [HR.out]
    clear hk
    go_enter Tryd.func18, Tryd.ntmps18
    go_wp2_with (first
      | (go_at_call 33; (with_reducible refine (rCheck_any c p _ (h.hm.to (ct_b w c p t q) (ct_z w c p t q)) h.hs).mono ?_); rintro e w1 ⟨rfl, hb1⟩; obtain ⟨hB1, hA1, hT1, hz1⟩ := ct_k hb1; obtain ⟨x0, x1, x2, x3, x4⟩ := hA1.box)
      | (go_at_call 33; (with_reducible refine (rCheck_any c p w1 (h.hm.to hB1 hB1.size) h.hs).mono ?_); rintro e w2 ⟨rfl, hb2⟩; have hB2 := Below.step hB1 hB1.size hb2))
    go_ret
    exact ⟨rfl, hB2⟩
theorem rCheck6_ok (hk : c.tck t = 0) (w : World) (h : RArg w w.heap.size c p t q) :
    Calls Tryd.prog 18 #[cv c p, tv t q] w fun e w' => e = .returned (.int .i64 0) ∧ Below w.heap.size w w' := by
  have := rCheck6_any w h
  rwa [hk] at this

end

/-- two lists of lists that agree -/
def samR (n m : Nat) (L M : Nat → Nat) (f g : Nat → Nat → Bool) : Bool := decide (n = m ∧ ∀ j, j < n → samB (L j) (M j) (f j) (g j) = true)
theorem samR_no {n m : Nat} {L M : Nat → Nat} {f g : Nat → Nat → Bool} (h : n ≠ m) : samR n m L M f g = false := decide_eq_false fun h' => h h'.1
theorem samR_no2 {n m k : Nat} {L M : Nat → Nat} {f g : Nat → Nat → Bool} (hk : k < n) (h : samB (L k) (M k) (f k) (g k) = false) : samR n m L M f g = false := decide_eq_false fun h' => by rw [h'.2 k hk] at h; cases h
theorem samR_yes {n : Nat} {L M : Nat → Nat} {f g : Nat → Nat → Bool} (h : ∀ j, j < n → samB (L j) (M j) (f j) (g j) = true) : samR n n L M f g = true := decide_eq_true ⟨rfl, h⟩

theorem samBs_at {n m : Nat} {f g : Nat → Bool} {b : Bool} (hb : samB n m f g = b) (A A' : Option Addr) (k k' : Nat) (B : Nat) (w : World) (hn : n ≤ 100000) (hm : m ≤ 100000) (hA : BlsAt w B A n f) (hA' : BlsAt w B A' m g) :
    Calls Tryd.prog 20 #[.slice A n k, .slice A' m k'] w fun e w' => e = .returned (.bool b) ∧ Below w.heap.size w w' := hb ▸ samBs_any A A' n m k k' f g B w hn hm hA hA'

set_option maxRecDepth 100000 in
set_option maxHeartbeats 4000000 in
theorem samRs_any (A A' : Option Addr) (n m k k' : Nat) (L M : Nat → Nat) (f g : Nat → Nat → Bool) (B : Nat) (w : World) (hB : B ≤ w.heap.size) (hn : n ≤ 100000) (hL : ∀ j, j < n → L j ≤ 100000) (hM : ∀ j, j < m → M j ≤ 100000) (hA : RowsAt w B A n L f) (hA' : RowsAt w B A' m M g) :
    Calls Tryd.prog 21 #[.slice A n k, .slice A' m k'] w fun e w' => e = .returned (.bool (samR n m L M f g)) ∧ Below w.heap.size w w' := by
  by_cases hnm : n = m
  · subst hnm
    have t1 : ((n : Int) != (n : Int)) = false := by simp
    have HLb := Lib.hid hL
    have HMb := Lib.hid hM
    clear hL hM
    go_enter Tryd.func21, Tryd.ntmps21
    go_wp2
    go_loopw [5] (fun i wr => ∃ r : Nat, r ≤ n ∧ i = .int .i64 r ∧ Hid (∀ j, j < r → samB (L j) (M j) (f j) (g j) = true) ∧ Below B w wr ∧ Below w.heap.size w wr) (fun i _ => n - (intOf i).toNat)
    case atStart => exact ⟨0, Nat.zero_le _, rfl, Lib.hid (fun j hj => absurd hj (Nat.not_lt_zero _)), Below.refl _ _, Below.refl _ _⟩
    case round =>
      obtain ⟨r, hr, rfl, hS, hBB, hBr⟩ := hrel
      by_cases hlt : r < n
      · obtain ⟨a, rfl, hab, hcs⟩ := (hA.keep hBB) (by omega)
        obtain ⟨a', rfl, hab', hcs'⟩ := (hA'.keep hBB) (by omega)
        obtain ⟨A1, k1, y0, h1, _⟩ := hcs r hlt
        obtain ⟨A2, k2, y1, h2, _⟩ := hcs' r hlt
        have hq0 : (0 : Int) ≤ (r : Int) := by omega
        have hq1 : (r : Int) < (n : Int) := by omega
        have hBd : Below w.heap.size w wr.drew := below_dn hBr 1
        have h1d : BlsAt wr.drew B A1 (L r) (f r) := h1
        have h2d : BlsAt wr.drew B A2 (M r) (g r) := h2
        have hBBd : Below B w wr.drew := below_dn hBB 1
        clear hcs hcs'
        obtain ⟨b, hb⟩ : ∃ b, samB (L r) (M r) (f r) (g r) = b := ⟨_, rfl⟩
        have HQ := Lib.hid hb
        clear hb
        have hS0 : (wr.drew.cell? (a.add r) = some (.slice A1 (L r) k1)) ∧ wr.drew.cell? (a'.add r) = some (.slice A2 (M r) k2) := ⟨y0, y1⟩
        have HS1 := Lib.hid hS0
        clear h1 h2
        go_wp2
        refine wp_region_T (fun w' => (w'.cell? (a.add r) = some (.slice A1 (L r) k1)) ∧ w'.cell? (a'.add r) = some (.slice A2 (M r) k2)) 10 (by kernel_rfl) ?_
        (refine wpT_take 0 (v := ?_) rfl (by kernel_rfl) (by kernel_rfl) (by kernel_rfl) (by kernel_rfl) (fun _ _ _ h => h) rfl hS0 (fun w hS => ?_) ?_; rotate_left; focus (obtain ⟨j0, j1⟩ := hS; go_simp; rfl)); (refine wpT_take 1 (v := ?_) rfl (by kernel_rfl) (by kernel_rfl) (by kernel_rfl) (by kernel_rfl) (fun _ _ _ h => h) rfl hS0 (fun w hS => ?_) ?_; rotate_left; focus (obtain ⟨j0, j1⟩ := hS; go_simp; rfl)); (refine wpT_take 2 (v := ?_) rfl (by kernel_rfl) (by kernel_rfl) (by kernel_rfl) (by kernel_rfl) (fun _ _ _ h => h) rfl hS0 (fun w hS => ?_) ?_; rotate_left; focus (obtain ⟨j0, j1⟩ := hS; go_simp; rfl)); (refine wpT_take 3 (v := ?_) rfl (by kernel_rfl) (by kernel_rfl) (by kernel_rfl) (by kernel_rfl) (fun _ _ _ h => h) rfl hS0 (fun w hS => ?_) ?_; rotate_left; focus (obtain ⟨j0, j1⟩ := hS; go_simp; rfl)); (refine wpT_take 4 (v := ?_) rfl (by kernel_rfl) (by kernel_rfl) (by kernel_rfl) (by kernel_rfl) (fun _ _ _ h => h) rfl hS0 (fun w hS => ?_) ?_; rotate_left; focus (obtain ⟨j0, j1⟩ := hS; go_simp; rfl)); (refine wpT_take 5 (v := ?_) rfl (by kernel_rfl) (by kernel_rfl) (by kernel_rfl) (by kernel_rfl) (fun _ _ _ h => h) rfl hS0 (fun w hS => ?_) ?_; rotate_left; focus (obtain ⟨j0, j1⟩ := hS; go_simp; rfl)); (refine wpT_take 6 (v := ?_) rfl (by kernel_rfl) (by kernel_rfl) (by kernel_rfl) (by kernel_rfl) (fun _ _ _ h => h) rfl hS0 (fun w hS => ?_) ?_; rotate_left; focus (obtain ⟨j0, j1⟩ := hS; go_simp; rfl)); (refine wpT_take 7 (v := ?_) rfl (by kernel_rfl) (by kernel_rfl) (by kernel_rfl) (by kernel_rfl) (fun _ _ _ h => h) rfl hS0 (fun w hS => ?_) ?_; rotate_left; focus (obtain ⟨j0, j1⟩ := hS; go_simp; rfl))
        refine wpT_one 8 (by kernel_rfl) (wpOp_go rfl rfl fun K hK => ?_)
        go_simp
        go_at_call 20
        (with_reducible refine (samBs_at HQ.out A1 A2 k1 k2 B wr.drew (HLb.out r hlt) (HMb.out r hlt) h1d h2d).mono ?_)
        rintro e w5 ⟨rfl, hb5⟩
        have hS0 : (w5.cell? (a.add r) = some (.slice A1 (L r) k1)) ∧ w5.cell? (a'.add r) = some (.slice A2 (M r) k2) := ⟨(hb5.cell (cell_lt HS1.out.1)).trans HS1.out.1, (hb5.cell (cell_lt HS1.out.2)).trans HS1.out.2⟩
        have hB5 := Below.step hBd hBd.size hb5
        have hBB5 := hBBd.trans (hb5.mono (Nat.le_trans hB hBr.size))
        refine hK _ _ ⟨fun _ => hS0, ?_⟩
        (refine wpT_take 9 (v := ?_) rfl (by kernel_rfl) (by kernel_rfl) (by kernel_rfl) (by kernel_rfl) (fun _ _ _ h => h) rfl hS0 (fun w hS => ?_) ?_; rotate_left; focus (go_simp; rfl))
        refine wpT_done (by kernel_rfl) (NoPanic.normal ?_) _
        clear hS0 hK
        cases b
        · have HZ := Lib.hid (samR_no2 (m := n) hlt HQ.out)
          go_wp2
          go_ret
          exact ⟨by rw [HZ.out]; rfl, hB5⟩
        · go_wp2
          go_roundw
          case rel => exact ⟨r + 1, by omega, by go_num, Lib.hid (fun j hj => by
            rcases Nat.lt_succ_iff_lt_or_eq.1 hj with h' | h'
            · exact hS.out j h'
            · subst h'; exact HQ.out), hBB5, hB5⟩
          case measure => simp [intOf]; omega
      · obtain rfl : r = n := by omega
        have HZ := Lib.hid (samR_yes hS.out)
        clear hr hlt
        go_wp2
        go_ret
        exact ⟨by rw [HZ.out]; rfl, hBr⟩
  · have HZ := Lib.hid (samR_no (L := L) (M := M) (f := f) (g := g) hnm)
    have t1 : ((n : Int) != (m : Int)) = true := by simp; omega
    go_enter Tryd.func21, Tryd.ntmps21
    go_wp2
    go_ret
    exact ⟨by rw [HZ.out]; rfl, by go_grown⟩
theorem samRs_at {n m : Nat} {L M : Nat → Nat} {f g : Nat → Nat → Bool} {b : Bool} (hb : samR n m L M f g = b) (A A' : Option Addr) (k k' : Nat) (B : Nat) (w : World) (hB : B ≤ w.heap.size) (hn : n ≤ 100000) (hL : ∀ j, j < n → L j ≤ 100000) (hM : ∀ j, j < m → M j ≤ 100000) (hA : RowsAt w B A n L f) (hA' : RowsAt w B A' m M g) :
    Calls Tryd.prog 21 #[.slice A n k, .slice A' m k'] w fun e w' => e = .returned (.bool b) ∧ Below w.heap.size w w' := hb ▸ samRs_any A A' n m k k' L M f g B w hB hn hL hM hA hA'

/-- two runs that agree -/
def samT (t u : Tr) : Bool := samB t.nf u.nf t.fi u.fi && samR t.ni u.ni t.ln u.ln t.ip u.ip
theorem samT_yes {t u : Tr} (h1 : t.nf = u.nf) (h2 : ∀ j, j < t.nf → t.fi j = u.fi j) (h3 : t.ni = u.ni) (h4 : ∀ j, j < t.ni → t.ln j = u.ln j) (h5 : ∀ j, j < t.ni → ∀ i, i < t.ln j → t.ip j i = u.ip j i) : samT t u = true := by
  unfold samT
  rw [← h1, ← h3, samB_yes h2, samR_yes fun j hj => by rw [← h4 j hj]; exact samB_yes (h5 j hj)]
  rfl
theorem samT_self (t : Tr) : samT t t = true := samT_yes rfl (fun _ _ => rfl) rfl (fun _ _ => rfl) fun _ _ _ _ => rfl
set_option maxRecDepth 100000 in
set_option maxHeartbeats 4000000 in
theorem samT_any {t u : Tr} {q r : Tp} (w : World) (ht : TMem w w.heap.size t q) (hs : TSm t) (hu : TMem w w.heap.size u r) (hs' : TSm u) :
    Calls Tryd.prog 11 #[tv t q, tv u r] w fun e w' => e = .returned (.bool (samT t u)) ∧ Below w.heap.size w w' := by
  have n1 := hs.nf
  have n2 := hs'.nf
  have n3 := hs.ni
  have HL := Lib.hid (fun j hj => Nat.le_trans (hs.ln j hj) (by omega : 1000 ≤ 100000))
  have HM := Lib.hid (fun j hj => Nat.le_trans (hs'.ln j hj) (by omega : 1000 ≤ 100000))
  have hW : Below w.heap.size w ((w.alloc (.cells #[.slice q.A1 t.nf q.k1, .slice q.A2 t.ni q.k2] 30)).alloc (.cells #[.slice r.A1 u.nf r.k1, .slice r.A2 u.ni r.k2] 30)) := ((Below.refl _ _).alloc (Nat.le_refl _) _).alloc (by simp) _
  have hA0 : Has ((w.alloc (.cells #[.slice q.A1 t.nf q.k1, .slice q.A2 t.ni q.k2] 30)).alloc (.cells #[.slice r.A1 u.nf r.k1, .slice r.A2 u.ni r.k2] 30)) w.heap.size 30 (tcs t q) := (Has.new w 30 (tcs t q)).al _
  have hA1 : Has ((w.alloc (.cells #[.slice q.A1 t.nf q.k1, .slice q.A2 t.ni q.k2] 30)).alloc (.cells #[.slice r.A1 u.nf r.k1, .slice r.A2 u.ni r.k2] 30)) (w.heap.size + 1) 30 (tcs u r) := Has.new' _ _ (by simp)
  have HR := Lib.hid (show samT t u = (samB t.nf u.nf t.fi u.fi && samR t.ni u.ni t.ln u.ln t.ip u.ip) from rfl)
  cases h1 : samB t.nf u.nf t.fi u.fi
  · rw [h1] at HR
    have H1 := Lib.hid h1
    clear h1
    go_enter Tryd.func11, Tryd.ntmps11
    go_wp2_with (first
      | (go_at_call 20; (with_reducible refine (samBs_at H1.out q.A1 r.A1 q.k1 r.k1 w.heap.size _ (by omega) (by omega) (ht.fi.keep hW) (hu.fi.keep hW)).mono ?_); rintro e w1 ⟨rfl, hb1⟩; have hB1 := Below.step hW hW.size hb1))
    go_ret
    exact ⟨by rw [HR.out]; rfl, hB1⟩
  · rw [h1] at HR
    have H1 := Lib.hid h1
    clear h1
    obtain ⟨b, h2⟩ : ∃ b, samR t.ni u.ni t.ln u.ln t.ip u.ip = b := ⟨_, rfl⟩
    rw [h2] at HR
    have H2 := Lib.hid h2
    clear h2
    go_enter Tryd.func11, Tryd.ntmps11
    go_wp2_with (first
      | (go_at_call 20; (with_reducible refine (samBs_at H1.out q.A1 r.A1 q.k1 r.k1 w.heap.size _ (by omega) (by omega) (ht.fi.keep hW) (hu.fi.keep hW)).mono ?_); rintro e w1 ⟨rfl, hb1⟩; have hB1 := Below.step hW hW.size hb1; have hC0 := hA0.keep hb1 hA0.lt; have hC1 := hA1.keep hb1 hA1.lt; obtain ⟨x0, x1⟩ := hC0.tbox; obtain ⟨y0, y1⟩ := hC1.tbox)
      | (go_at_call 21; (with_reducible refine (samRs_at H2.out q.A2 r.A2 q.k2 r.k2 w.heap.size w1 hB1.size (by omega) HL.out HM.out (ht.ip.keep hB1) (hu.ip.keep hB1)).mono ?_); rintro e w2 ⟨rfl, hb2⟩; have hB2 := Below.step hB1 hB1.size hb2))
    go_ret
    exact ⟨by rw [HR.out]; rfl, hB2⟩

end Go.Proofs.YtbppdifghkkooaaDoor

namespace Go.Proofs.YtbppdifghkkooaaDoor
open Go.RowKit
set_option linter.unusedVariables false

set_option linter.unusedSimpArgs false

section
variable {c : Cr} {p : Pl} {As At : Option Addr} {ns ks ni ki : Nat} {s t : Nat → Bool}

end

/-- a list of lists that a call returns -/
def RowsRet (n : Nat) (L : Nat → Nat) (f : Nat → Nat → Bool) (w : World) (e : Ending) (w' : World) : Prop :=
  ∃ A k, e = .returned (.slice A n k) ∧ RowsAt w' w'.heap.size A n L f ∧ (n ≤ k ∧ k ≤ maxLen) ∧ Below w.heap.size w w'

section
variable {c : Cr} {p : Pl} {t : Tr} {q : Tp}

theorem after_at (hc : c.chk = 0) {As At : Option Addr} {ns ks ni ki : Nat} {s u : Nat → Bool} (h1 : ns = c.nl) (h2 : (ni : Int) = c.i) (w : World) (h : Arg w w.heap.size c p As ns ks s At ni ki u) :
    Calls Tryd.prog 53 #[cv c p, .slice As ns ks, .slice At ni ki] w (BoolsIn c.nl (c.nv s u) w) := rAfter_new (Cr.ask_ok hc h1 h2) w h

theorem holds_at (hc : c.chk = 0) {As At : Option Addr} {ns ks ni ki : Nat} {s u : Nat → Bool} {b : Bool} (hb : c.hol s u = b) (h1 : ns = c.nl) (h2 : (ni : Int) = c.i) (w : World) (h : Arg w w.heap.size c p As ns ks s At ni ki u) :
    Calls Tryd.prog 52 #[cv c p, .slice As ns ks, .slice At ni ki] w fun e w' => e = .returned (.bool b) ∧ Below w.heap.size w w' := hb ▸ rHolds_any (Cr.ask_ok hc h1 h2) w h

set_option maxRecDepth 100000 in
set_option maxHeartbeats 4000000 in
theorem rAll6_any (hk : c.tck t = 0) {n : Nat} (hn : t.ni = n) {F : Nat → Nat → Bool} (hF : c.sts t = F) (w : World) (h : RArg w w.heap.size c p t q) :
    Calls Tryd.prog 37 #[cv c p, tv t q] w (RowsRet n (fun _ => c.nl) F w) := by
  obtain ⟨hc, hn0, hn1, hnf, hst, hln⟩ := Cr.tck_ok hk
  have hs := h.hs
  have g1 := hs.nl
  have hi := Cr.chk_i (c := c) (by simpa using hc) hs
  have hip := h.ht.ip
  have hfi := h.ht.fi
  have hnil := h.ht.n1
  have hF0 : F 0 = t.fi := by rw [← hF]; rfl
  have hFs : ∀ j, F (j + 1) = c.nv (F j) (t.ip j) := fun j => by rw [← hF]; rfl
  rw [hn] at hn0 hn1 hln hip
  obtain ⟨a2, hA2, ha2, hr2⟩ := hip hn0
  have HC := Lib.hid hc
  have HL := Lib.hid hln
  have HI := Lib.hid hr2
  have HN := Lib.hid hn
  have H0 := Lib.hid hF0
  have HFS := Lib.hid hFs
  have HA2 := Lib.hid hA2
  have HNF := Lib.hid hnf
  have HX0 : Hid (Has ((ctW w c p t q).alloc (.cells #[] 4)) (w.heap.size + 1 + 1) 4 #[]) := Has.new' _ _ (by simp)
  have hB0 := (ct_b w c p t q).alloc (ct_z w c p t q) (.cells #[] 4)
  have hc0 := (ct_c w c p t q).al (.cells #[] 4)
  have ht0 := (ct_t w c p t q).al (.cells #[] 4)
  clear hc hst hln hk hr2 hF hFs hF0 hip hn hnf hA2
  go_enter Tryd.func37, Tryd.ntmps37
  go_wp2_with (first
    | (at_builtin; (refine append_new rfl (.tmp 7) (.tmp 9) rfl (w.heap.size + 1 + 1) rfl HX0.out q.A1 t.nf q.k1 t.fi rfl (hfi.to hB0 hB0.size) hnil (by have := HNF.out; omega) ?_); intro A k w2 hi2 hn2 hf2 hg2 _; have hA2 := hc0.grow hg2 (by omega); have hT2 := ht0.grow hg2 (by omega); have hB2 := hB0.grown hg2 hB0.size (fun k hk => by cases hk; omega)))
  have hG2 : Grid (w2.alloc (.cells #[.slice A t.nf k] 27)) w2.heap.size (.slice (some ⟨w2.heap.size, 0, none⟩) 1 1) 1 (fun _ => c.nl) F none := by rw [HNF.out] at hi2 hn2 ⊢; exact Grid.one (L := fun _ => c.nl) (f := F) (Nat.le_refl _) (by rw [H0.out]; exact hi2) hn2
  have hX2 : Has (w2.alloc (.cells #[.slice A t.nf k] 27)) w.heap.size 26 (cc c p) := hA2.al _
  have hV2 : Has (w2.alloc (.cells #[.slice A t.nf k] 27)) (w.heap.size + 1) 30 (tcs t q) := hT2.al _
  have hY2 : Below w.heap.size w (w2.alloc (.cells #[.slice A t.nf k] 27)) := hB2.alloc hB2.size _
  have hz2 := hT2.lt
  clear hA2 hT2 hB2 hi2 hn2 hf2 hg2 hB0 hc0 ht0
  go_loopw [5, 6] (fun v i wr => ∃ r : Nat, r < n ∧ i = .int .i64 r ∧ Grid wr w2.heap.size v (r + 1) (fun _ => c.nl) F none ∧ Has wr w.heap.size 26 (cc c p) ∧ Has wr (w.heap.size + 1) 30 (tcs t q) ∧ Below w.heap.size w wr) (fun _ i _ => n - (intOf i).toNat)
  case atStart => exact ⟨0, hn0, rfl, hG2, hX2, hV2, hY2⟩
  case round =>
    clear hG2 hX2 hV2 hY2
    obtain ⟨r, hr, rfl, hG, hX, hT, hBr⟩ := hrel
    obtain ⟨x0, x1, x2, x3, x4⟩ := hX.box
    obtain ⟨z0, z1⟩ := hT.tbox
    rw [HN.out, HA2.out] at z1
    obtain ⟨N, hN⟩ : ∃ N, N = r + 1 := ⟨_, rfl⟩
    rw [← hN] at hG
    have HNN := Lib.hid hN
    by_cases hlt : N < n
    · obtain ⟨A', k', y0, hy, hyn⟩ := HI.out r (by omega)
      have y0 : wr.cell? (a2.add r) = some (.slice A' (t.ln r) k') := (hBr.cell (by rw [add_block]; exact ha2)).trans y0
      have hy := hy.to hBr hBr.size
      obtain ⟨g, kk, A'', k'', rfl, u0, hu, hun⟩ := hG.row (j := r) (by omega)
      have hq0 : (0 : Int) ≤ (r : Int) := by omega
      have hq1 : (r : Int) < (n : Int) := by omega
      have hq2 : (r : Int) < (N : Int) := by omega
      have hq3 : (r : Int) + 1 < (n : Int) := by omega
      have hl := HL.out r (by omega)
      have HLr := Lib.hid hl
      have hBd : Below w.heap.size w wr.drew := below_dn hBr 1
      have hgd : Arg wr.drew wr.drew.heap.size c p A'' c.nl k'' (F r) A' (t.ln r) k' (t.ip r) := ⟨h.hm.to hBd hBd.size, hs, hu, hy, hun, hyn, by omega, by omega⟩
      have hGd : Grid wr.drew w2.heap.size (.slice (some ⟨g, 0, none⟩) N kk) N (fun _ => c.nl) F none := ⟨hG.ex⟩
      have hXd : Has wr.drew w.heap.size 26 (cc c p) := hX
      have hTd : Has wr.drew (w.heap.size + 1) 30 (tcs t q) := hT
      have hS0 : CS w.heap.size c p ⟨g, r, none⟩ (.slice A'' c.nl k'') wr.drew ∧ wr.drew.cell? ⟨w.heap.size + 1, 1, none⟩ = some (.slice (some a2) n q.k2) ∧ wr.drew.cell? (a2.add r) = some (.slice A' (t.ln r) k') := ⟨cs_of hXd u0, z1, y0⟩
      have HS1 := Lib.hid hS0
      clear hl hu hy hun hyn hN
      go_wp2
      refine wp_region_T (fun w' => CS w.heap.size c p ⟨g, r, none⟩ (.slice A'' c.nl k'') w' ∧ w'.cell? ⟨w.heap.size + 1, 1, none⟩ = some (.slice (some a2) n q.k2) ∧ w'.cell? (a2.add r) = some (.slice A' (t.ln r) k')) 14 (by kernel_rfl) ?_
      (refine wpT_take 0 (v := ?_) rfl (by kernel_rfl) (by kernel_rfl) (by kernel_rfl) (by kernel_rfl) (fun _ _ _ h => h) rfl hS0 (fun w hS => ?_) ?_; rotate_left; focus (obtain ⟨⟨j0, j1, j2, j3, j4, j5⟩, j6, j7⟩ := hS; go_simp; rfl)); (refine wpT_take 1 (v := ?_) rfl (by kernel_rfl) (by kernel_rfl) (by kernel_rfl) (by kernel_rfl) (fun _ _ _ h => h) rfl hS0 (fun w hS => ?_) ?_; rotate_left; focus (obtain ⟨⟨j0, j1, j2, j3, j4, j5⟩, j6, j7⟩ := hS; go_simp; rfl)); (refine wpT_take 2 (v := ?_) rfl (by kernel_rfl) (by kernel_rfl) (by kernel_rfl) (by kernel_rfl) (fun _ _ _ h => h) rfl hS0 (fun w hS => ?_) ?_; rotate_left; focus (obtain ⟨⟨j0, j1, j2, j3, j4, j5⟩, j6, j7⟩ := hS; go_simp; rfl)); (refine wpT_take 3 (v := ?_) rfl (by kernel_rfl) (by kernel_rfl) (by kernel_rfl) (by kernel_rfl) (fun _ _ _ h => h) rfl hS0 (fun w hS => ?_) ?_; rotate_left; focus (obtain ⟨⟨j0, j1, j2, j3, j4, j5⟩, j6, j7⟩ := hS; go_simp; rfl)); (refine wpT_take 4 (v := ?_) rfl (by kernel_rfl) (by kernel_rfl) (by kernel_rfl) (by kernel_rfl) (fun _ _ _ h => h) rfl hS0 (fun w hS => ?_) ?_; rotate_left; focus (obtain ⟨⟨j0, j1, j2, j3, j4, j5⟩, j6, j7⟩ := hS; go_simp; rfl)); (refine wpT_take 5 (v := ?_) rfl (by kernel_rfl) (by kernel_rfl) (by kernel_rfl) (by kernel_rfl) (fun _ _ _ h => h) rfl hS0 (fun w hS => ?_) ?_; rotate_left; focus (obtain ⟨⟨j0, j1, j2, j3, j4, j5⟩, j6, j7⟩ := hS; go_simp; rfl)); (refine wpT_take 6 (v := ?_) rfl (by kernel_rfl) (by kernel_rfl) (by kernel_rfl) (by kernel_rfl) (fun _ _ _ h => h) rfl hS0 (fun w hS => ?_) ?_; rotate_left; focus (obtain ⟨⟨j0, j1, j2, j3, j4, j5⟩, j6, j7⟩ := hS; go_simp; rfl)); (refine wpT_take 7 (v := ?_) rfl (by kernel_rfl) (by kernel_rfl) (by kernel_rfl) (by kernel_rfl) (fun _ _ _ h => h) rfl hS0 (fun w hS => ?_) ?_; rotate_left; focus (obtain ⟨⟨j0, j1, j2, j3, j4, j5⟩, j6, j7⟩ := hS; go_simp; rfl)); (refine wpT_take 8 (v := ?_) rfl (by kernel_rfl) (by kernel_rfl) (by kernel_rfl) (by kernel_rfl) (fun _ _ _ h => h) rfl hS0 (fun w hS => ?_) ?_; rotate_left; focus (obtain ⟨⟨j0, j1, j2, j3, j4, j5⟩, j6, j7⟩ := hS; go_simp; rfl)); (refine wpT_take 9 (v := ?_) rfl (by kernel_rfl) (by kernel_rfl) (by kernel_rfl) (by kernel_rfl) (fun _ _ _ h => h) rfl hS0 (fun w hS => ?_) ?_; rotate_left; focus (obtain ⟨⟨j0, j1, j2, j3, j4, j5⟩, j6, j7⟩ := hS; go_simp; rfl)); (refine wpT_take 10 (v := ?_) rfl (by kernel_rfl) (by kernel_rfl) (by kernel_rfl) (by kernel_rfl) (fun _ _ _ h => h) rfl hS0 (fun w hS => ?_) ?_; rotate_left; focus (obtain ⟨⟨j0, j1, j2, j3, j4, j5⟩, j6, j7⟩ := hS; go_simp; rfl))
      refine wpT_one 11 (by kernel_rfl) (wpOp_go rfl rfl fun K hK => ?_)
      go_simp
      go_at_call 53
      (with_reducible refine (after_at HC.out rfl HLr.out wr.drew hgd).mono ?_)
      rintro e w5 ⟨A5, k5, rfl, hi5, hb5, hn5, hf5⟩
      have hB5 := Below.step hBd hBd.size hb5
      have hG5 := hGd.call hb5
      have hX5 := hXd.keep hb5 hXd.lt
      have hT5 := hTd.keep hb5 hTd.lt
      have hz5 := hT5.lt
      have hap := hGd.apart (m := c.nl) hf5 (E := none) (fun g hg => by cases hg)
      refine hK _ _ ⟨fun _ => ⟨HS1.out.1.keep hb5, (hb5.cell (cell_lt HS1.out.2.1)).trans HS1.out.2.1, (hb5.cell (cell_lt HS1.out.2.2)).trans HS1.out.2.2⟩, ?_⟩
      refine wpT_one 12 (by kernel_rfl) (wpOp_go rfl rfl fun K hK => ?_)
      go_simp
      have hS5 : CS w.heap.size c p ⟨g, r, none⟩ (.slice A'' c.nl k'') (w5.alloc (.cells #[.slice A5 c.nl k5] 27)) ∧ (w5.alloc (.cells #[.slice A5 c.nl k5] 27)).cell? ⟨w.heap.size + 1, 1, none⟩ = some (.slice (some a2) n q.k2) ∧ (w5.alloc (.cells #[.slice A5 c.nl k5] 27)).cell? (a2.add r) = some (.slice A' (t.ln r) k') := by
        have hbb := hb5.alloc hb5.size (.cells #[.slice A5 c.nl k5] 27)
        exact ⟨HS1.out.1.keep hbb, (hbb.cell (cell_lt HS1.out.2.1)).trans HS1.out.2.1, (hbb.cell (cell_lt HS1.out.2.2)).trans HS1.out.2.2⟩
      refine hK _ _ ⟨fun _ => hS5, ?_⟩
      refine wpT_one 13 (by kernel_rfl) (wpOp_go rfl rfl fun K hK => ?_)
      refine wp_append_row _ _ (by rfl) w2.heap.size _ N (fun _ => c.nl) F none (by rfl) (hG5.al _) w5.heap.size 1 A5 k5 (by rfl) ((Has.new w5 27 #[.slice A5 c.nl k5]).cell 0) (by rw [HNN.out, HFS.out]; exact hi5.to ((Below.refl _ _).alloc (Nat.le_refl _) _) (by simp)) hn5 hap (by omega) (by have := hGd.lt (g := g) rfl; have := hb5.size; simp; omega) ?_
      intro g8 k8 w8 hG8 hg8 hl8 hkp8
      have hX8 := (hG5.al (.cells #[.slice A5 c.nl k5] 27)).has (hX5.al _) hg8 (by omega)
      have hT8 := (hG5.al (.cells #[.slice A5 c.nl k5] 27)).has (hT5.al _) hg8 (by omega)
      have hB8 := (hG5.al (.cells #[.slice A5 c.nl k5] 27)).below (hB5.alloc hB5.size _) (by simp; omega) (by omega) hg8
      refine hK _ _ ⟨fun _ => ⟨cs_of hX8 ((hkp8 g rfl r (by have := HNN.out; omega)).trans hS5.1.2.2.2.2.2), by rw [← HA2.out, ← HN.out]; exact hT8.tbox.2, (hg8.cell_far _ (by rw [add_block]; have := hz5; have := hB5.size; simp; omega) (by rw [add_block]; intro e; have := (hGd.lt e.symm).1; omega)).trans hS5.2.2⟩, ?_⟩
      refine wpT_one 14 (by kernel_rfl) (wpOp_go rfl rfl fun K hK => ?_)
      go_simp
      refine hK _ _ ⟨fun h => absurd h (by decide), ?_⟩
      refine wpT_done (by kernel_rfl) (NoPanic.normal ?_) _
      go_wp2
      go_roundw
      case rel => exact ⟨r + 1, by have := HNN.out; omega, by go_num, by rw [HNN.out] at hG8 ⊢; exact hG8, hX8, hT8, hB8⟩
      case measure => have := HNN.out; simp [intOf]; omega
    · have hNn : N = n := by omega
      have hq3 : ¬ ((r : Int) + 1 < (n : Int)) := by omega
      rw [hNn] at hG
      clear hlt hN hNn
      go_wp2
      go_ret
      obtain ⟨A', k', rfl, hi', _, hcap, _⟩ := hG.at
      exact ⟨A', k', rfl, hi', hcap, hBr⟩

end

end Go.Proofs.YtbppdifghkkooaaDoor

namespace Go.Proofs.YtbppdifghkkooaaDoor
open Go.RowKit
set_option linter.unusedVariables false

set_option linter.unusedSimpArgs false

section
variable {c : Cr} {p : Pl} {t : Tr} {q : Tp}

set_option maxRecDepth 100000 in
set_option maxHeartbeats 4000000 in
theorem rAllowed_any (hk : c.tck t = 0) (w : World) (h : RArg w w.heap.size c p t q) :
    Calls Tryd.prog 35 #[cv c p, tv t q] w fun e w' => e = .returned (.int .i64 (c.alw t)) ∧ Below w.heap.size w w' := by
  obtain ⟨hc, hn0, hn1, hnf, hst, hln⟩ := Cr.tck_ok hk
  have hs := h.hs
  have g1 := hs.nl
  have hi := Cr.chk_i (c := c) (by simpa using hc) hs
  have hip := h.ht.ip
  obtain ⟨n, hn⟩ : ∃ n, t.ni = n := ⟨_, rfl⟩
  obtain ⟨F, hF⟩ : ∃ F, c.sts t = F := ⟨_, rfl⟩
  have HFR : Hid (∀ r, c.hf t r = c.hol (F r) (t.ip r)) := fun r => by rw [← hF]; rfl
  have HY : Hid ((∀ j, j < n → c.hf t j = true) → c.alw t = n) := fun h => by unfold Cr.alw; rw [hn]; exact led_end h
  have HZ : Hid (∀ r, r < n → (∀ j, j < r → c.hf t j = true) → c.hf t r = false → c.alw t = r) := fun r hr h1 h2 => by unfold Cr.alw; rw [hn]; exact led_at hr h1 h2
  rw [hn] at hn0 hn1 hln hip
  obtain ⟨a2, hA2, ha2, hr2⟩ := hip hn0
  obtain ⟨X, hX⟩ : ∃ X, c.alw t = X := ⟨_, rfl⟩
  rw [hX] at HY
  have HZ' : Hid (∀ r, r < n → (∀ j, j < r → c.hf t j = true) → c.hf t r = false → X = r) := fun r a b d => hX ▸ HZ.out r a b d
  rw [hX]
  have HK := Lib.hid hk
  have HC := Lib.hid hc
  have HL := Lib.hid hln
  have HI := Lib.hid hr2
  have HN := Lib.hid hn
  have HF := Lib.hid hF
  have HA2 := Lib.hid hA2
  clear hc hst hln hk hr2 hF hip hn hnf hA2 HZ hX
  go_enter Tryd.func35, Tryd.ntmps35
  go_wp2_with (first
    | (go_at_call 37; (with_reducible refine (rAll6_any HK.out HN.out HF.out _ (h.to (ct_b w c p t q) (ct_z w c p t q))).mono ?_); rintro e w1 ⟨A, k, rfl, hi1, hcap1, hb1⟩; obtain ⟨hB1, hA1, hT1, hz1⟩ := ct_k hb1))
  obtain ⟨a1, rfl, ha1, hr1⟩ := hi1 hn0
  have HS := Lib.hid hr1
  clear hb1 hr1 hi1
  go_loopw [6] (fun i wr => ∃ r : Nat, r ≤ n ∧ i = .int .i64 r ∧ Hid (∀ j, j < r → c.hf t j = true) ∧ Has wr w.heap.size 26 (cc c p) ∧ Has wr (w.heap.size + 1) 30 (tcs t q) ∧ Below w1.heap.size w1 wr) (fun i _ => n - (intOf i).toNat)
  case atStart => exact ⟨0, Nat.zero_le _, rfl, Lib.hid (fun j hj => absurd hj (Nat.not_lt_zero _)), hA1, hT1, Below.refl _ _⟩
  case round =>
    obtain ⟨r, hr, rfl, hL, hX, hT, hB1r⟩ := hrel
    have hBr : Below w.heap.size w wr := Below.step hB1 hB1.size hB1r
    by_cases hlt : r < n
    · obtain ⟨x0, x1, x2, x3, x4⟩ := hX.box
      obtain ⟨z0, z1⟩ := hT.tbox
      rw [HN.out, HA2.out] at z1
      obtain ⟨A', k', y0, hy, hyn⟩ := HI.out r hlt
      have y0 : wr.cell? (a2.add r) = some (.slice A' (t.ln r) k') := (hBr.cell (by rw [add_block]; exact ha2)).trans y0
      have hy := hy.to hBr hBr.size
      obtain ⟨A'', k'', u0, hu, hun⟩ := HS.out r hlt
      have u0 : wr.cell? (a1.add r) = some (.slice A'' c.nl k'') := (hB1r.cell (by rw [add_block]; exact ha1)).trans u0
      have hu := hu.to hB1r hB1r.size
      have hq0 : (0 : Int) ≤ (r : Int) := by omega
      have hq1 : (r : Int) < (n : Int) := by omega
      have hln := HL.out r hlt
      have HLr := Lib.hid hln
      have hBd : Below w.heap.size w wr.drew := below_dn hBr 1
      have hgd : Arg wr.drew wr.drew.heap.size c p A'' c.nl k'' (F r) A' (t.ln r) k' (t.ip r) := ⟨h.hm.to hBd hBd.size, hs, hu, hy, hun, hyn, by omega, by omega⟩
      have hXd : Has wr.drew w.heap.size 26 (cc c p) := hX
      have hTd : Has wr.drew (w.heap.size + 1) 30 (tcs t q) := hT
      have hB1d : Below w1.heap.size w1 wr.drew := below_dn hB1r 1
      have hS0 : CS w.heap.size c p (a1.add r) (.slice A'' c.nl k'') wr.drew ∧ wr.drew.cell? ⟨w.heap.size + 1, 1, none⟩ = some (.slice (some a2) n q.k2) ∧ wr.drew.cell? (a2.add r) = some (.slice A' (t.ln r) k') := ⟨cs_of hXd u0, z1, y0⟩
      have HS1 := Lib.hid hS0
      obtain ⟨b, hb⟩ : ∃ b, c.hol (F r) (t.ip r) = b := ⟨_, rfl⟩
      have HQ := Lib.hid hb
      have HR := Lib.hid ((HFR.out r).trans hb)
      clear hln hu hy hun hyn hb
      go_wp2
      refine wp_region_T (fun w' => CS w.heap.size c p (a1.add r) (.slice A'' c.nl k'') w' ∧ w'.cell? ⟨w.heap.size + 1, 1, none⟩ = some (.slice (some a2) n q.k2) ∧ w'.cell? (a2.add r) = some (.slice A' (t.ln r) k')) 12 (by kernel_rfl) ?_
      (refine wpT_take 0 (v := ?_) rfl (by kernel_rfl) (by kernel_rfl) (by kernel_rfl) (by kernel_rfl) (fun _ _ _ h => h) rfl hS0 (fun w hS => ?_) ?_; rotate_left; focus (obtain ⟨⟨j0, j1, j2, j3, j4, j5⟩, j6, j7⟩ := hS; go_simp; rfl)); (refine wpT_take 1 (v := ?_) rfl (by kernel_rfl) (by kernel_rfl) (by kernel_rfl) (by kernel_rfl) (fun _ _ _ h => h) rfl hS0 (fun w hS => ?_) ?_; rotate_left; focus (obtain ⟨⟨j0, j1, j2, j3, j4, j5⟩, j6, j7⟩ := hS; go_simp; rfl)); (refine wpT_take 2 (v := ?_) rfl (by kernel_rfl) (by kernel_rfl) (by kernel_rfl) (by kernel_rfl) (fun _ _ _ h => h) rfl hS0 (fun w hS => ?_) ?_; rotate_left; focus (obtain ⟨⟨j0, j1, j2, j3, j4, j5⟩, j6, j7⟩ := hS; go_simp; rfl)); (refine wpT_take 3 (v := ?_) rfl (by kernel_rfl) (by kernel_rfl) (by kernel_rfl) (by kernel_rfl) (fun _ _ _ h => h) rfl hS0 (fun w hS => ?_) ?_; rotate_left; focus (obtain ⟨⟨j0, j1, j2, j3, j4, j5⟩, j6, j7⟩ := hS; go_simp; rfl)); (refine wpT_take 4 (v := ?_) rfl (by kernel_rfl) (by kernel_rfl) (by kernel_rfl) (by kernel_rfl) (fun _ _ _ h => h) rfl hS0 (fun w hS => ?_) ?_; rotate_left; focus (obtain ⟨⟨j0, j1, j2, j3, j4, j5⟩, j6, j7⟩ := hS; go_simp; rfl)); (refine wpT_take 5 (v := ?_) rfl (by kernel_rfl) (by kernel_rfl) (by kernel_rfl) (by kernel_rfl) (fun _ _ _ h => h) rfl hS0 (fun w hS => ?_) ?_; rotate_left; focus (obtain ⟨⟨j0, j1, j2, j3, j4, j5⟩, j6, j7⟩ := hS; go_simp; rfl)); (refine wpT_take 6 (v := ?_) rfl (by kernel_rfl) (by kernel_rfl) (by kernel_rfl) (by kernel_rfl) (fun _ _ _ h => h) rfl hS0 (fun w hS => ?_) ?_; rotate_left; focus (obtain ⟨⟨j0, j1, j2, j3, j4, j5⟩, j6, j7⟩ := hS; go_simp; rfl)); (refine wpT_take 7 (v := ?_) rfl (by kernel_rfl) (by kernel_rfl) (by kernel_rfl) (by kernel_rfl) (fun _ _ _ h => h) rfl hS0 (fun w hS => ?_) ?_; rotate_left; focus (obtain ⟨⟨j0, j1, j2, j3, j4, j5⟩, j6, j7⟩ := hS; go_simp; rfl)); (refine wpT_take 8 (v := ?_) rfl (by kernel_rfl) (by kernel_rfl) (by kernel_rfl) (by kernel_rfl) (fun _ _ _ h => h) rfl hS0 (fun w hS => ?_) ?_; rotate_left; focus (obtain ⟨⟨j0, j1, j2, j3, j4, j5⟩, j6, j7⟩ := hS; go_simp; rfl)); (refine wpT_take 9 (v := ?_) rfl (by kernel_rfl) (by kernel_rfl) (by kernel_rfl) (by kernel_rfl) (fun _ _ _ h => h) rfl hS0 (fun w hS => ?_) ?_; rotate_left; focus (obtain ⟨⟨j0, j1, j2, j3, j4, j5⟩, j6, j7⟩ := hS; go_simp; rfl))
      refine wpT_one 10 (by kernel_rfl) (wpOp_go rfl rfl fun K hK => ?_)
      go_simp
      go_at_call 52
      (with_reducible refine (holds_at HC.out HQ.out rfl HLr.out wr.drew hgd).mono ?_)
      rintro e w5 ⟨rfl, hb5⟩
      have hB5 := Below.step hBd hBd.size hb5
      have hX5 := hXd.keep hb5 hXd.lt
      have hT5 := hTd.keep hb5 hTd.lt
      have hB15 := hB1d.trans (hb5.mono hB1d.size)
      have hS0 : CS w.heap.size c p (a1.add r) (.slice A'' c.nl k'') w5 ∧ w5.cell? ⟨w.heap.size + 1, 1, none⟩ = some (.slice (some a2) n q.k2) ∧ w5.cell? (a2.add r) = some (.slice A' (t.ln r) k') := ⟨HS1.out.1.keep hb5, (hb5.cell (cell_lt HS1.out.2.1)).trans HS1.out.2.1, (hb5.cell (cell_lt HS1.out.2.2)).trans HS1.out.2.2⟩
      refine hK _ _ ⟨fun _ => hS0, ?_⟩
      (refine wpT_take 11 (v := ?_) rfl (by kernel_rfl) (by kernel_rfl) (by kernel_rfl) (by kernel_rfl) (fun _ _ _ h => h) rfl hS0 (fun w hS => ?_) ?_; rotate_left; focus (go_simp; rfl))
      refine wpT_done (by kernel_rfl) (NoPanic.normal ?_) _
      clear hS0 hK
      cases b
      · obtain rfl := HZ'.out r hlt hL.out HR.out
        go_wp2
        go_ret
        exact ⟨rfl, hB5⟩
      · go_wp2
        go_roundw
        case rel => exact ⟨r + 1, by omega, by go_num, Lib.hid (fun j hj => by
          rcases Nat.lt_succ_iff_lt_or_eq.1 hj with h' | h'
          · exact hL.out j h'
          · subst h'; exact HR.out), hX5, hT5, hB15⟩
        case measure => simp [intOf]; omega
    · obtain rfl : r = n := by omega
      obtain rfl := HY.out hL.out
      clear hr hlt
      go_wp2
      go_ret
      exact ⟨rfl, hBr⟩

theorem rAllowed_at (hk : c.tck t = 0) {m : Nat} (hm : c.alw t = m) (w : World) (h : RArg w w.heap.size c p t q) :
    Calls Tryd.prog 35 #[cv c p, tv t q] w fun e w' => e = .returned (.int .i64 (m : Int)) ∧ Below w.heap.size w w' := hm ▸ rAllowed_any hk w h

end

end Go.Proofs.YtbppdifghkkooaaDoor

namespace Go.Proofs.YtbppdifghkkooaaDoor
open Go.RowKit
set_option linter.unusedVariables false

set_option linter.unusedSimpArgs false

section
variable {c : Cr} {p : Pl} {t : Tr} {q : Tp}

theorem Tr.cut_sm (hts : TSm t) {n : Nat} (hn : n ≤ t.ni) : TSm (t.cut n) := ⟨hts.nf, Nat.le_trans hn hts.ni, fun j hj => hts.ln j (Nat.lt_of_lt_of_le hj hn)⟩

theorem twin_cut {m : Nat} {A : Option Addr} (hA : q.A2 = A) (h0 : 0 < m) (hm : m ≤ t.ni) (w : World) (h : RArg w w.heap.size c p t q) :
    Calls Tryd.prog 6 #[.agg #[.slice q.A1 t.nf q.k1, .slice A m q.k2]] w (RunIs (t.cut m) w) := hA ▸
  (twin6_any (t := t.cut m) w (h.ht.cut h0 hm) (Tr.cut_sm h.hts hm)).mono fun _ _ h => h.run

theorem cutT_sm (hts : TSm t) : TSm (c.cutT t) := by
  unfold Cr.cutT
  split
  · refine Tr.cut_sm hts ?_
    unfold Cr.cun
    split
    · rename_i h; omega
    · exact Nat.zero_le _
  · exact ⟨Nat.zero_le _, Nat.zero_le _, fun j hj => absurd hj (Nat.not_lt_zero _)⟩

end

end Go.Proofs.YtbppdifghkkooaaDoor

namespace Go.Proofs.YtbppdifghkkooaaDoor
open Go.RowKit

set_option linter.unusedVariables false

/-- the two boxes, in a later world -/
structure Bx (w wk : World) (c : Cr) (p : Pl) (t : Tr) (q : Tp) : Prop where
  b : Below w.heap.size w wk
  c : Has wk w.heap.size 26 (cc c p)
  t : Has wk (w.heap.size + 1) 30 (tcs t q)
theorem Bx.first {w w1 : World} {c : Cr} {p : Pl} {t : Tr} {q : Tp} (hb : Below (ctW w c p t q).heap.size (ctW w c p t q) w1) : Bx w w1 c p t q := ⟨(ct_k hb).1, (ct_k hb).2.1, (ct_k hb).2.2.1⟩
theorem Bx.call {w wk wl : World} {c : Cr} {p : Pl} {t : Tr} {q : Tp} (h : Bx w wk c p t q) (hb : Below wk.heap.size wk wl) : Bx w wl c p t q := ⟨Below.step h.b h.b.size hb, h.c.keep hb h.c.lt, h.t.keep hb h.t.lt⟩
theorem Bx.al {w wk : World} {c : Cr} {p : Pl} {t : Tr} {q : Tp} (h : Bx w wk c p t q) (o : Obj) : Bx w (wk.alloc o) c p t q := ⟨h.b.alloc h.b.size o, h.c.al o, h.t.al o⟩
theorem Bx.cells {w wk : World} {c : Cr} {p : Pl} {t : Tr} {q : Tp} (h : Bx w wk c p t q) :
    wk.cell? ⟨w.heap.size, 0, none⟩ = some (.int .i64 c.i) ∧ wk.cell? ⟨w.heap.size, 1, none⟩ = some (.slice p.A1 c.nl p.k1) ∧ wk.cell? ⟨w.heap.size, 2, none⟩ = some (.slice p.A2 c.na p.k2) ∧ wk.cell? ⟨w.heap.size, 3, none⟩ = some (.slice p.A3 c.nb p.k3) ∧ wk.cell? ⟨w.heap.size, 4, none⟩ = some (.slice p.A4 c.nc p.k4) ∧
    wk.cell? ⟨w.heap.size + 1, 0, none⟩ = some (.slice q.A1 t.nf q.k1) ∧ wk.cell? ⟨w.heap.size + 1, 1, none⟩ = some (.slice q.A2 t.ni q.k2) ∧ w.heap.size < wk.heap.size ∧ w.heap.size + 1 < wk.heap.size :=
  ⟨h.c.cell 0, h.c.cell 1, h.c.cell 2, h.c.cell 3, h.c.cell 4, h.t.cell 0, h.t.cell 1, h.c.lt, h.t.lt⟩

theorem samT_at {t u : Tr} {q r : Tp} {b : Bool} (hb : samT t u = b) (w : World) (ht : TMem w w.heap.size t q) (hs : TSm t) (hu : TMem w w.heap.size u r) (hs' : TSm u) :
    Calls Tryd.prog 11 #[tv t q, tv u r] w fun e w' => e = .returned (.bool b) ∧ Below w.heap.size w w' := hb ▸ samT_any w ht hs hu hs'

theorem tn_bd {c : Cr} {t : Tr} (h : TSm t) : c.tn t ≤ 100000 := by
  have := h.ni
  unfold Cr.tn
  split <;> omega
theorem states6_any {c : Cr} {p : Pl} {t : Tr} {q : Tp} (w : World) (h : RArg w w.heap.size c p t q) :
    Calls Tryd.prog 48 #[cv c p, tv t q] w (RowsErr (c.tn t) (fun _ => c.nl) (c.sts t) (c.tck t) w) := by
  by_cases hk : c.tck t = 0
  · rw [show c.tn t = t.ni from if_pos hk, hk]; exact states_yes hk w h
  · exact states_no hk w h
theorem Below.undn {B : Nat} {w w' : World} (h : Below B w w') : Below B w.drew w' := ⟨h.os, h.tape, h.output, h.size, h.block⟩
theorem Below.undn2 {w w' : World} (h : Below w.heap.size w w') : Below w.drew.heap.size w.drew w' := ⟨h.os, h.tape, h.output, h.size, h.block⟩
theorem Below.undn' {B : Nat} {w w' : World} (h : Below B w.drew w') : Below B w w' := ⟨h.os, h.tape, h.output, h.size, h.block⟩
theorem Below.undn2' {w w' : World} (h : Below w.drew.heap.size w.drew w') : Below w.heap.size w w' := ⟨h.os, h.tape, h.output, h.size, h.block⟩
theorem Has.keepg6 {w w8 : World} {b : Nat} {t : TypeId} {cs : Array Value} {r : Option Nat} (h : Has w b t cs) (hg : w.grownBy w8 r) (hne : r ≠ some b) : Has w8 b t cs := (hg.block b h.lt (fun e => hne e.symm)).trans h
theorem Bx.far6 {w wk wl : World} {c : Cr} {p : Pl} {t : Tr} {q : Tp} (h : Bx w wk c p t q) {r : Option Nat} (hg : wk.grownBy wl r) (hr : ∀ g, r = some g → w.heap.size + 1 < g) {x : Nat} (hx : w.heap.size + 1 < x) (j : Nat) (u : Value) : Bx w (wl.setCell ⟨x, j, none⟩ u) c p t q :=
  ⟨(h.b.grown hg h.b.size (fun k hk => by have := hr k hk; omega)).setCell (by show w.heap.size ≤ x; omega) _, (h.c.keepg6 hg (fun e => by have := hr _ e; omega)).far (by show w.heap.size ≠ x; omega) _, (h.t.keepg6 hg (fun e => by have := hr _ e; omega)).far (by show w.heap.size + 1 ≠ x; omega) _⟩

end Go.Proofs.YtbppdifghkkooaaDoor

namespace Go.Proofs.YtbppdifghkkooaaDoor
open Go.RowKit
set_option linter.unusedVariables false

set_option linter.unusedSimpArgs false

/-- the chapter's circuit and runs -/
def exA : Cr := ⟨0, 1, 0, 1, 0, fun _ => 3, fun _ => 0, fun _ => 0, fun _ => 0, fun _ => 2, fun _ => 0⟩
def rnT (n : Nat) : Tr := ⟨1, fun _ => false, n, fun _ => 0, fun _ _ => false⟩
theorem exA_sm : Sm exA := ⟨i64_k 0 (by decide) (by decide), by decide, by decide, by decide, by decide, fun _ => i64_k 3 (by decide) (by decide), fun _ => i64_k 0 (by decide) (by decide), fun _ => i64_k 0 (by decide) (by decide), fun _ => i64_k 0 (by decide) (by decide), fun _ => i64_k 2 (by decide) (by decide), fun _ => i64_k 0 (by decide) (by decide)⟩
theorem rnT_sm {n : Nat} (h : n ≤ 1000) : TSm (rnT n) := ⟨by show 1 ≤ 1000; decide, h, fun j hj => Nat.zero_le _⟩

/-- what fit says -/
def ft6 (c : Cr) (t : Tr) : Bool := decide (c.gr = false ∧ t.gr = false ∧ c.tck t = 0)
theorem ft6_yes {c : Cr} {t : Tr} (h : ft6 c t = true) : c.gr = false ∧ t.gr = false ∧ c.tck t = 0 := of_decide_eq_true h
section
variable {c : Cr} {p : Pl} {t : Tr} {q : Tp}

end

end Go.Proofs.YtbppdifghkkooaaDoor
