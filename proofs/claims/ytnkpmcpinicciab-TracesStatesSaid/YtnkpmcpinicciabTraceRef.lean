/- The contracts of the reference of traces: Great, Starts, First, Check, Same, SameAll; and of the bad literals of layer 4's. -/
import Derived.Test.YtnkpmcpinicciabTraceStates
import Derived.Test.YtnkpmcpinicciabValuesRef2
namespace Go.Proofs.Ytnkpmcpinicciab
open Go.RowKit
set_option linter.unusedVariables false
set_option linter.unusedSimpArgs false

theorem Tr.gr_a {t : Tr} (h : 60 < t.nf) : t.gr = true := decide_eq_true (Or.inl h)
theorem Tr.gr_b {t : Tr} (h : 20 < t.ni) (h1 : t.ni ≠ 101) : t.gr = true := decide_eq_true (Or.inr (Or.inl ⟨h, h1⟩))
theorem Tr.gr_c {t : Tr} {j : Nat} (hj : j < t.ni) (h : 60 < t.ln j) : t.gr = true := decide_eq_true (Or.inr (Or.inr ⟨j, hj, h⟩))
theorem Tr.gr_d {t : Tr} (h : ¬ 60 < t.nf) (h1 : ¬ (20 < t.ni ∧ t.ni ≠ 101)) (h2 : ∀ j, j < t.ni → ¬ 60 < t.ln j) : t.gr = false := decide_eq_false fun h' => by
  rcases h' with h' | h' | ⟨j, hj, h'⟩
  · exact h h'
  · exact h1 h'
  · exact h2 j hj h'

section
variable {c : Cr} {p : Pl} {t : Tr} {q : Tp}
set_option maxRecDepth 100000 in
set_option maxHeartbeats 2000000 in
theorem rGreat6_any (w : World) (ht : TMem w w.heap.size t q) : Calls Try.prog 20 #[tv t q] w fun e w' => e = .returned (.bool t.gr) ∧ Below w.heap.size w w' := by
  have hB0 : Below w.heap.size w w := Below.refl _ _
  have hip := ht.ip
  have ga := @Tr.gr_a t
  have gb := @Tr.gr_b t
  have gc := @Tr.gr_c t
  have gd := @Tr.gr_d t
  obtain ⟨G, hG⟩ : ∃ G, t.gr = G := ⟨_, rfl⟩
  rw [hG] at ga gb gc gd ⊢
  clear hG ht
  obtain ⟨nf, fi, ni, ln, ip⟩ := t
  obtain ⟨A1, k1, A2, k2⟩ := q
  dsimp only at hip ga gb gc gd
  by_cases h1 : 60 < nf
  · obtain rfl := ga h1
    have e1 : (60 : Int) < (nf : Int) := by omega
    clear h1 ga gb gc gd
    go_enter Try.func20, Try.ntmps20
    go_wp2
    go_ret
    exact ⟨rfl, by go_grown⟩
  · have e1 : ¬ ((60 : Int) < (nf : Int)) := by omega
    by_cases h2 : 20 < ni ∧ ni ≠ 101
    · obtain rfl := gb h2.1 h2.2
      have e2 : (20 : Int) < (ni : Int) := by omega
      have e3 : ((ni : Int) != 101) = true := by simp; omega
      clear h1 h2 ga gb gc gd
      go_enter Try.func20, Try.ntmps20
      go_wp2
      go_ret
      exact ⟨rfl, by go_grown⟩
    · have hn1 : ni ≤ 101 := by omega
      have GC : Hid (∀ j, j < ni → 60 < ln j → G = true) := fun j => gc (j := j)
      have GD := Lib.hid (gd h1 h2)
      have hP := hip.keep ((Below.refl w.heap.size w).alloc (Nat.le_refl _) (.cells #[.slice A1 nf k1, .slice A2 ni k2] 32))
      clear ga gb gc gd h1 hip
      by_cases h3 : ni ≤ 20
      · have e2 : ¬ ((20 : Int) < (ni : Int)) := by omega
        clear h2 h3
        go_enter Try.func20, Try.ntmps20
        go_wp2
        go_loop [3] (fun i => ∃ r : Nat, r ≤ ni ∧ i = .int .i64 r ∧ Hid (∀ j, j < r → ¬ 60 < ln j)) (fun i => ni - (intOf i).toNat)
        case atStart => exact ⟨0, Nat.zero_le _, rfl, Lib.hid (fun j hj => absurd hj (Nat.not_lt_zero _))⟩
        case round =>
          obtain ⟨r, hr, rfl, hL⟩ := hrel
          by_cases hlt : r < ni
          · obtain ⟨a, rfl, hab, hcs⟩ := hP (by omega)
            obtain ⟨A', k', y0, hA', _⟩ := hcs r hlt
            have hq0 : (0 : Int) ≤ (r : Int) := by omega
            have hq1 : (r : Int) < (ni : Int) := by omega
            clear hcs
            by_cases h3 : 60 < ln r
            · have e3 : (60 : Int) < (ln r : Int) := by omega
              obtain rfl := GC.out r hlt h3
              clear h3
              go_wp2
              go_ret
              exact ⟨rfl, by go_grown⟩
            · have e3 : ¬ ((60 : Int) < (ln r : Int)) := by omega
              have H3 := Lib.hid h3
              clear h3
              go_wp2
              go_round
              case rel => exact ⟨r + 1, by omega, by go_num, Lib.hid (fun j hj => by
                rcases Nat.lt_succ_iff_lt_or_eq.1 hj with h' | h'
                · exact hL.out j h'
                · subst h'; exact H3.out)⟩
              case measure => simp [intOf]; omega
          · obtain rfl : r = ni := by omega
            obtain rfl := GD.out hL.out
            clear hr hlt
            go_wp2
            go_ret
            exact ⟨rfl, by go_grown⟩
      · obtain rfl : ni = 101 := by omega
        clear h2 h3
        go_enter Try.func20, Try.ntmps20
        go_wp2
        go_loop [3] (fun i => ∃ r : Nat, r ≤ 101 ∧ i = .int .i64 r ∧ Hid (∀ j, j < r → ¬ 60 < ln j)) (fun i => 101 - (intOf i).toNat)
        case atStart => exact ⟨0, Nat.zero_le _, rfl, Lib.hid (fun j hj => absurd hj (Nat.not_lt_zero _))⟩
        case round =>
          obtain ⟨r, hr, rfl, hL⟩ := hrel
          by_cases hlt : r < 101
          · obtain ⟨a, rfl, hab, hcs⟩ := hP (by omega)
            obtain ⟨A', k', y0, hA', _⟩ := hcs r hlt
            have hq0 : (0 : Int) ≤ (r : Int) := by omega
            have hq1 : (r : Int) < 101 := by omega
            clear hcs
            by_cases h3 : 60 < ln r
            · have e3 : (60 : Int) < (ln r : Int) := by omega
              obtain rfl := GC.out r hlt h3
              clear h3
              go_wp2
              go_ret
              exact ⟨rfl, by go_grown⟩
            · have e3 : ¬ ((60 : Int) < (ln r : Int)) := by omega
              have H3 := Lib.hid h3
              clear h3
              go_wp2
              go_round
              case rel => exact ⟨r + 1, by omega, by go_num, Lib.hid (fun j hj => by
                rcases Nat.lt_succ_iff_lt_or_eq.1 hj with h' | h'
                · exact hL.out j h'
                · subst h'; exact H3.out)⟩
              case measure => simp [intOf]; omega
          · have e4 : ¬ ((r : Int) < 101) := by omega
            obtain rfl := GD.out (fun j hj => hL.out j (by omega))
            clear hlt
            go_wp2
            go_ret
            exact ⟨rfl, by go_grown⟩

set_option maxRecDepth 100000 in
set_option maxHeartbeats 4000000 in
theorem rStarts_any (As : Option Addr) (ks : Nat) (s : Nat → Bool) (w : World) (hm : Mem w w.heap.size c p) (hs : Sm c) (hS : BlsAt w w.heap.size As c.nl s) :
    Calls Try.prog 40 #[cv c p, .slice As c.nl ks] w fun e w' => e = .returned (.bool (c.stB c.nl s)) ∧ Below w.heap.size w w' := by
  have g1 := hs.nl
  have hW : Below w.heap.size w (w.alloc (.cells #[.int .i64 c.i, .slice p.A1 c.nl p.k1, .slice p.A2 c.na p.k2, .slice p.A3 c.nb p.k3, .slice p.A4 c.nc p.k4] 28)) := (Below.refl _ _).alloc (Nat.le_refl _) _
  have hla := hm.la.keep hW
  have hS' := hS.keep hW
  have hno := @Cr.stB_no c c.nl
  have hyes := @Cr.stB_yes c c.nl s
  obtain ⟨G, hG⟩ : ∃ G, c.stB c.nl s = G := ⟨_, rfl⟩
  have HNO : Hid (∀ k, k < c.nl → ((c.rs k = 0 ∧ s k = true) ∨ (c.rs k = 1 ∧ s k = false)) → G = false) := fun k hk h => hG ▸ hno hk h
  have HY : Hid ((∀ j, j < c.nl → ¬ (c.rs j = 0 ∧ s j = true) ∧ ¬ (c.rs j = 1 ∧ s j = false)) → G = true) := fun h => hG ▸ hyes h
  rw [hG]
  clear hno hyes hG hS
  obtain ⟨i, nl, na, nb, nc, nx, rs, ga, gb, bd, cn⟩ := c
  obtain ⟨P1, P2, P3, P4, K1, K2, K3, K4⟩ := p
  dsimp only at hla hS' g1 HNO HY hW
  clear hm hs
  go_enter Try.func40, Try.ntmps40
  go_wp2
  go_loop [5] (fun i => ∃ r : Nat, r ≤ nl ∧ i = .int .i64 r ∧ Hid (∀ j, j < r → ¬ (rs j = 0 ∧ s j = true) ∧ ¬ (rs j = 1 ∧ s j = false))) (fun i => nl - (intOf i).toNat)
  case atStart => exact ⟨0, Nat.zero_le _, rfl, Lib.hid (fun j hj => absurd hj (Nat.not_lt_zero _))⟩
  case round =>
    obtain ⟨r, hr, rfl, hL⟩ := hrel
    by_cases hlt : r < nl
    · obtain ⟨a, rfl, hab, hcs⟩ := hla (by omega)
      obtain ⟨a', rfl, hab', hcs'⟩ := hS' (by omega)
      obtain ⟨y0, y1⟩ := hcs r hlt
      have y2 := hcs' r hlt
      have hq0 : (0 : Int) ≤ (r : Int) := by omega
      have hq1 : (r : Int) < (nl : Int) := by omega
      have HNr := Lib.hid (HNO.out r hlt)
      clear hcs hcs'
      obtain ⟨u, hu⟩ : ∃ u, s r = u := ⟨_, rfl⟩
      obtain ⟨x, hx⟩ : ∃ x, rs r = x := ⟨_, rfl⟩
      rw [hu] at y2 HNr
      rw [hx] at y1 HNr
      have HU := Lib.hid hu
      have HX := Lib.hid hx
      clear hu hx
      have step : Hid (¬ (x = 0 ∧ u = true) → ¬ (x = 1 ∧ u = false) → ∀ j, j < r + 1 → ¬ (rs j = 0 ∧ s j = true) ∧ ¬ (rs j = 1 ∧ s j = false)) := fun h1 h2 j hj => by
        rcases Nat.lt_succ_iff_lt_or_eq.1 hj with h' | h'
        · exact hL.out j h'
        · subst h'; rw [HU.out, HX.out]; exact ⟨h1, h2⟩
      cases u
      · cases h0 : (x == 1)
        · have HS := Lib.hid (step.out (by simp) (by simpa using h0))
          go_wp2
          go_round
          case rel => exact ⟨r + 1, by omega, by go_num, HS⟩
          case measure => simp [intOf]; omega
        · obtain rfl := HNr.out (Or.inr ⟨by simpa using h0, rfl⟩)
          go_wp2
          go_ret
          exact ⟨rfl, by go_grown⟩
      · cases h0 : (x == 0)
        · have HS := Lib.hid (step.out (by simpa using h0) (by simp))
          go_wp2
          go_round
          case rel => exact ⟨r + 1, by omega, by go_num, HS⟩
          case measure => simp [intOf]; omega
        · obtain rfl := HNr.out (Or.inl ⟨by simpa using h0, rfl⟩)
          go_wp2
          go_ret
          exact ⟨rfl, by go_grown⟩
    · obtain rfl : r = nl := by omega
      obtain rfl := HY.out hL.out
      clear hr hlt
      go_wp2
      go_ret
      exact ⟨rfl, by go_grown⟩

set_option maxRecDepth 100000 in
set_option maxHeartbeats 2000000 in
theorem rFirst_any (c : Cr) (p : Pl) (As : Option Addr) (ns ks : Nat) (s : Nat → Bool) (w : World) (hm : Mem w w.heap.size c p) (hs : Sm c) (hS : BlsAt w w.heap.size As ns s) (hn : ns ≤ 100000) :
    Calls Try.prog 21 #[cv c p, .slice As ns ks] w fun e w' => e = .returned (.tuple #[.bool (c.fst ns s), .int .i64 (c.fck ns)]) ∧ Below w.heap.size w w' := by
  have hB0 : Below w.heap.size w w := Below.refl _ _
  have g1 := hs.nl
  by_cases hk : c.chk = 0
  · by_cases h1 : ns = c.nl
    · subst h1
      have HF := Lib.hid (show c.fck c.nl = 0 by unfold Cr.fck; rw [if_neg (by omega), if_neg (by omega)])
      have HG := Lib.hid (show c.fst c.nl s = c.stB c.nl s by unfold Cr.fst; rw [if_pos HF.out])
      have t1 : ((c.nl : Int) != (c.nl : Int)) = false := by simp
      rw [HF.out, HG.out]
      have h : (c.chk != 0) = false := by simp [hk]
      clear hk
      go_enter Try.func21, Try.ntmps21
      go_wp2_with (first
        | (go_at_call 39; (with_reducible refine (rCheck_any c p (w.alloc _) (hm.to (by go_grown) (by go_size)) hs).mono ?_); rintro e w1 ⟨rfl, hb1⟩; obtain ⟨hc1, hf1⟩ := bcell hb1; have hz1 : w.heap.size < w1.heap.size := (by have := hb1.size; (try simp at this); omega); have hB1 : Below w.heap.size w w1 := Below.step (by go_grown) (by go_size) hb1)
        | (go_at_call 40; (with_reducible refine (rStarts_any As ks s w1 (hm.to hB1 hB1.size) hs (hS.to hB1 hB1.size)).mono ?_); rintro e w2 ⟨rfl, hb2⟩; have hB2 := Below.step hB1 hB1.size hb2))
      go_ret2
      exact ⟨rfl, hB2⟩
    · have HF := Lib.hid (show c.fck ns = 2 by unfold Cr.fck; rw [if_neg (by omega), if_pos h1])
      have HG := Lib.hid (show c.fst ns s = false by unfold Cr.fst; rw [if_neg (by rw [HF.out]; decide)])
      have t1 : ((ns : Int) != (c.nl : Int)) = true := by simp; omega
      rw [HF.out, HG.out]
      have h : (c.chk != 0) = false := by simp [hk]
      clear hk h1
      go_enter Try.func21, Try.ntmps21
      go_wp2_with (first
        | (go_at_call 39; (with_reducible refine (rCheck_any c p (w.alloc _) (hm.to (by go_grown) (by go_size)) hs).mono ?_); rintro e w1 ⟨rfl, hb1⟩; obtain ⟨hc1, hf1⟩ := bcell hb1; have hz1 : w.heap.size < w1.heap.size := (by have := hb1.size; (try simp at this); omega); have hB1 : Below w.heap.size w w1 := Below.step (by go_grown) (by go_size) hb1))
      go_ret2
      exact ⟨rfl, hB1⟩
  · have h : (c.chk != 0) = true := by simpa [bne] using hk
    have HF := Lib.hid (show c.fck ns = c.chk from if_pos hk)
    have HG := Lib.hid (show c.fst ns s = false by unfold Cr.fst; rw [if_neg (by rw [HF.out]; exact hk)])
    rw [HF.out, HG.out]
    clear hk
    go_enter Try.func21, Try.ntmps21
    go_wp2_with (first
      | (go_at_call 39; (with_reducible refine (rCheck_any c p (w.alloc _) (hm.to (by go_grown) (by go_size)) hs).mono ?_); rintro e w1 ⟨rfl, hb1⟩; obtain ⟨hc1, hf1⟩ := bcell hb1; have hz1 : w.heap.size < w1.heap.size := (by have := hb1.size; (try simp at this); omega); have hB1 : Below w.heap.size w w1 := Below.step (by go_grown) (by go_size) hb1)
      | (go_at_call 39; (with_reducible refine (rCheck_any c p w1 (hm.to hB1 hB1.size) hs).mono ?_); rintro e w2 ⟨rfl, hb2⟩; have hB2 : Below w.heap.size w w2 := Below.step hB1 hB1.size hb2))
    go_ret2
    exact ⟨rfl, hB2⟩
end
