/- The contracts of traces.isRight and Check, and of slices.Index and Contains at bool. -/
import Derived.Test.YtpobkemgbbgolaaTraceOf
import Derived.Test.YtpobkemgbbgolaaHeadTail
namespace Go.Proofs.Ytpobkemgbbgolaa
open Go.RowKit
set_option linter.unusedVariables false
set_option linter.unusedSimpArgs false

/-- a circuit and a run, as a call has them -/
structure RArg (w : World) (B : Nat) (c : Cr) (p : Pl) (t : Tr) (q : Tp) : Prop where
  hm : Mem w B c p
  hs : Sm c
  ht : TMem w B t q
  hts : TSm t
theorem RArg.to {w W : World} {B : Nat} {c : Cr} {p : Pl} {t : Tr} {q : Tp} (h : RArg w B c p t q) (hb : Below B w W) (hB : B ≤ W.heap.size) : RArg W W.heap.size c p t q := ⟨h.hm.to hb hB, h.hs, h.ht.to hb hB, h.hts⟩
/-- the cells of a box that holds a run -/
theorem Has.tbox {w : World} {b : Nat} {t : Tr} {q : Tp} (h : Has w b 32 (tcs t q)) : w.cell? ⟨b, 0, none⟩ = some (.slice q.A1 t.nf q.k1) ∧ w.cell? ⟨b, 1, none⟩ = some (.slice q.A2 t.ni q.k2) := ⟨h.cell 0, h.cell 1⟩
/-- the two boxes that a call lays for its arguments -/
abbrev ctW (w : World) (c : Cr) (p : Pl) (t : Tr) (q : Tp) : World := (w.alloc (.cells #[.int .i64 c.i, .slice p.A1 c.nl p.k1, .slice p.A2 c.na p.k2, .slice p.A3 c.nb p.k3, .slice p.A4 c.nc p.k4] 28)).alloc (.cells #[.slice q.A1 t.nf q.k1, .slice q.A2 t.ni q.k2] 32)
theorem ct_c (w : World) (c : Cr) (p : Pl) (t : Tr) (q : Tp) : Has (ctW w c p t q) w.heap.size 28 (cc c p) := (Has.new w 28 (cc c p)).al _
theorem ct_t (w : World) (c : Cr) (p : Pl) (t : Tr) (q : Tp) : Has (ctW w c p t q) (w.heap.size + 1) 32 (tcs t q) := Has.new' _ _ (by simp)
theorem ct_b (w : World) (c : Cr) (p : Pl) (t : Tr) (q : Tp) : Below w.heap.size w (ctW w c p t q) := ((Below.refl _ _).alloc (Nat.le_refl _) _).alloc (by simp) _
theorem ct_z (w : World) (c : Cr) (p : Pl) (t : Tr) (q : Tp) : w.heap.size ≤ (ctW w c p t q).heap.size := (ct_b w c p t q).size
/-- what is known behind the first call -/
theorem ct_k {w w1 : World} {c : Cr} {p : Pl} {t : Tr} {q : Tp} (hb : Below (ctW w c p t q).heap.size (ctW w c p t q) w1) : Below w.heap.size w w1 ∧ Has w1 w.heap.size 28 (cc c p) ∧ Has w1 (w.heap.size + 1) 32 (tcs t q) ∧ w.heap.size + 1 < w1.heap.size :=
  ⟨Below.step (ct_b w c p t q) (ct_z w c p t q) hb, (ct_c w c p t q).keep hb (ct_c w c p t q).lt, (ct_t w c p t q).keep hb (ct_t w c p t q).lt, ((ct_t w c p t q).keep hb (ct_t w c p t q).lt).lt⟩

/-- a box that holds a circuit, and one cell more -/
abbrev CS (b : Nat) (c : Cr) (p : Pl) (a : Addr) (v : Value) : World → Prop := fun w => w.cell? ⟨b, 0, none⟩ = some (.int .i64 c.i) ∧ w.cell? ⟨b, 1, none⟩ = some (.slice p.A1 c.nl p.k1) ∧ w.cell? ⟨b, 2, none⟩ = some (.slice p.A2 c.na p.k2) ∧ w.cell? ⟨b, 3, none⟩ = some (.slice p.A3 c.nb p.k3) ∧ w.cell? ⟨b, 4, none⟩ = some (.slice p.A4 c.nc p.k4) ∧ w.cell? a = some v
theorem cs_of {w : World} {b : Nat} {c : Cr} {p : Pl} {a : Addr} {v : Value} (h : Has w b 28 (cc c p)) (hv : w.cell? a = some v) : CS b c p a v w := ⟨h.cell 0, h.cell 1, h.cell 2, h.cell 3, h.cell 4, hv⟩
theorem CS.keep {w w' : World} {b : Nat} {c : Cr} {p : Pl} {a : Addr} {v : Value} (h : CS b c p a v w) (hb : Below w.heap.size w w') : CS b c p a v w' := by
  obtain ⟨h0, h1, h2, h3, h4, h5⟩ := h
  exact ⟨(hb.cell (cell_lt h0)).trans h0, (hb.cell (cell_lt h1)).trans h1, (hb.cell (cell_lt h2)).trans h2, (hb.cell (cell_lt h3)).trans h3, (hb.cell (cell_lt h4)).trans h4, (hb.cell (cell_lt h5)).trans h5⟩
/-- what isRight says of a run of a valid circuit -/
def rtB (c : Cr) (t : Tr) : Bool := c.fst t.nf t.fi && (decide (0 < t.ni) && t.lnB c.i)

section
variable {c : Cr} {p : Pl} {t : Tr} {q : Tp}
set_option maxRecDepth 100000 in
set_option maxHeartbeats 2000000 in
theorem isRight_any (w : World) (h : RArg w w.heap.size c p t q) :
    Calls Try.prog 24 #[cv c p, tv t q] w fun e w' => e = .returned (.bool (rtB c t)) ∧ Below w.heap.size w w' := by
  have hn := h.hts.nf
  have hni := h.hts.ni
  have HR := Lib.hid (show rtB c t = (c.fst t.nf t.fi && (decide (0 < t.ni) && t.lnB c.i)) from rfl)
  cases h1 : c.fst t.nf t.fi
  · rw [h1] at HR
    have H1 := Lib.hid h1
    clear h1
    go_enter Try.func24, Try.ntmps24
    go_wp2_with (first
      | (go_at_call 8; (with_reducible refine (first_any c p q.A1 t.nf q.k1 t.fi _ (h.hm.to (ct_b w c p t q) (ct_z w c p t q)) h.hs (h.ht.fi.to (ct_b w c p t q) (ct_z w c p t q)) (by omega)).mono ?_); rw [H1.out]; rintro e w1 ⟨rfl, hb1⟩; obtain ⟨hB1, hA1, hT1, hz1⟩ := ct_k hb1))
    go_ret
    exact ⟨by rw [HR.out]; rfl, hB1⟩
  · rw [h1] at HR
    have H1 := Lib.hid h1
    clear h1
    by_cases h2 : 0 < t.ni
    · have e2 : (0 : Int) < (t.ni : Int) := by omega
      cases h3 : t.lnB c.i
      all_goals
        rw [h3] at HR
        have HS := Lib.hid (HR.out.trans (by simp [h2, h3] : _ = t.lnB c.i))
        rw [h3] at HS
        have H3 := Lib.hid h3
        clear h2 h3 HR
        go_enter Try.func24, Try.ntmps24
        go_wp2_with (first
          | (go_at_call 8; (with_reducible refine (first_any c p q.A1 t.nf q.k1 t.fi _ (h.hm.to (ct_b w c p t q) (ct_z w c p t q)) h.hs (h.ht.fi.to (ct_b w c p t q) (ct_z w c p t q)) (by omega)).mono ?_); rw [H1.out]; rintro e w1 ⟨rfl, hb1⟩; obtain ⟨hB1, hA1, hT1, hz1⟩ := ct_k hb1; obtain ⟨z0, z1⟩ := hT1.tbox)
          | (go_at_call 33; (with_reducible refine (containsWrong_any c p t w.heap.size q.A2 q.k2 w.heap.size w1 hni (h.ht.ip.keep hB1) hA1).mono ?_); rw [H3.out]; rintro e w2 ⟨rfl, hb2⟩; have hB2 := Below.step hB1 hB1.size hb2))
        go_ret
        exact ⟨by rw [HS.out]; rfl, hB2⟩
    · have e2 : ¬ ((0 : Int) < (t.ni : Int)) := by omega
      have HS := Lib.hid (HR.out.trans (by simp [h2] : _ = false))
      clear h2 HR
      go_enter Try.func24, Try.ntmps24
      go_wp2_with (first
        | (go_at_call 8; (with_reducible refine (first_any c p q.A1 t.nf q.k1 t.fi _ (h.hm.to (ct_b w c p t q) (ct_z w c p t q)) h.hs (h.ht.fi.to (ct_b w c p t q) (ct_z w c p t q)) (by omega)).mono ?_); rw [H1.out]; rintro e w1 ⟨rfl, hb1⟩; obtain ⟨hB1, hA1, hT1, hz1⟩ := ct_k hb1; obtain ⟨z0, z1⟩ := hT1.tbox))
      go_ret
      exact ⟨by rw [HS.out]; rfl, hB1⟩

theorem rtB_iff (hk : c.chk = 0) : rtB c t = true ↔ ¬ (t.ni = 0 ∨ t.nf ≠ c.nl ∨ c.stB t.nf t.fi = false ∨ t.lnB c.i = false) := by
  unfold rtB Cr.fst Cr.fck
  rw [if_neg (show ¬ c.chk ≠ 0 by omega)]
  by_cases h1 : t.nf = c.nl
  · rw [if_neg (show ¬ t.nf ≠ c.nl by omega), if_pos rfl]
    cases c.stB t.nf t.fi <;> cases t.lnB c.i <;> simp [h1] <;> omega
  · rw [if_pos h1]
    simp [h1]

set_option maxRecDepth 100000 in
set_option maxHeartbeats 2000000 in
theorem check_any (w : World) (h : RArg w w.heap.size c p t q) :
    Calls Try.prog 10 #[cv c p, tv t q] w fun e w' => e = .returned (.int .i64 (c.tck t)) ∧ Below w.heap.size w w' := by
  have hni := h.hts.ni
  have hB0 := ct_b w c p t q
  by_cases hk : c.chk = 0
  · have h0 : (c.chk != 0) = false := by simp [hk]
    have HK := Lib.hid hk
    by_cases h1 : 100 < t.ni
    · have HR := Lib.hid (Cr.tck_many hk h1)
      have e1 : (100 : Int) < (t.ni : Int) := by omega
      rw [HR.out]
      clear hk h1
      go_enter Try.func10, Try.ntmps10
      go_wp2_with (first
        | (go_at_call 21; (with_reducible refine (gCheck_any c p _ (h.hm.to (ct_b w c p t q) (ct_z w c p t q)) h.hs).mono ?_); rintro e w1 ⟨rfl, hb1⟩; obtain ⟨hB1, hA1, hT1, hz1⟩ := ct_k hb1; obtain ⟨z0, z1⟩ := hT1.tbox; obtain ⟨x0, x1, x2, x3, x4⟩ := hA1.box))
      go_ret
      exact ⟨rfl, hB1⟩
    · have e1 : ¬ ((100 : Int) < (t.ni : Int)) := by omega
      cases h2 : rtB c t
      · have HR := Lib.hid (Cr.tck_wrong (t := t) hk (by omega) (Classical.byContradiction fun h => by rw [(rtB_iff hk).2 h] at h2; cases h2))
        have H2 := Lib.hid h2
        rw [HR.out]
        clear hk h1 h2
        go_enter Try.func10, Try.ntmps10
        go_wp2_with (first
          | (go_at_call 21; (with_reducible refine (gCheck_any c p _ (h.hm.to (ct_b w c p t q) (ct_z w c p t q)) h.hs).mono ?_); rintro e w1 ⟨rfl, hb1⟩; obtain ⟨hB1, hA1, hT1, hz1⟩ := ct_k hb1; obtain ⟨z0, z1⟩ := hT1.tbox; obtain ⟨x0, x1, x2, x3, x4⟩ := hA1.box)
          | (go_at_call 24; (with_reducible refine (isRight_any w1 (h.to hB1 hB1.size)).mono ?_); rw [H2.out]; rintro e w2 ⟨rfl, hb2⟩; have hB2 := Below.step hB1 hB1.size hb2))
        go_ret
        exact ⟨rfl, hB2⟩
      · have HR := Lib.hid (Cr.tck_right (t := t) hk (by omega) ((rtB_iff hk).1 h2))
        have H2 := Lib.hid h2
        rw [HR.out]
        clear hk h1 h2
        go_enter Try.func10, Try.ntmps10
        go_wp2_with (first
          | (go_at_call 21; (with_reducible refine (gCheck_any c p _ (h.hm.to (ct_b w c p t q) (ct_z w c p t q)) h.hs).mono ?_); rintro e w1 ⟨rfl, hb1⟩; obtain ⟨hB1, hA1, hT1, hz1⟩ := ct_k hb1; obtain ⟨z0, z1⟩ := hT1.tbox; obtain ⟨x0, x1, x2, x3, x4⟩ := hA1.box)
          | (go_at_call 24; (with_reducible refine (isRight_any w1 (h.to hB1 hB1.size)).mono ?_); rw [H2.out]; rintro e w2 ⟨rfl, hb2⟩; have hB2 := Below.step hB1 hB1.size hb2))
        go_ret
        exact ⟨rfl, hB2⟩
  · have h0 : (c.chk != 0) = true := by simpa [bne] using hk
    have HR := Lib.hid (Cr.tck_bad (t := t) hk)
    rw [HR.out]
    clear hk
    go_enter Try.func10, Try.ntmps10
    go_wp2_with (first
      | (go_at_call 21; (with_reducible refine (gCheck_any c p _ (h.hm.to (ct_b w c p t q) (ct_z w c p t q)) h.hs).mono ?_); rintro e w1 ⟨rfl, hb1⟩; obtain ⟨hB1, hA1, hT1, hz1⟩ := ct_k hb1))
    go_ret
    exact ⟨rfl, hB1⟩
end

/-- an index, or -1 -/
def ixI (k n : Nat) : Int := if k < n then (k : Int) else -1
set_option maxHeartbeats 2000000 in
theorem index_any (A : Option Addr) (n k : Nat) (f : Nat → Bool) (x : Bool) (B : Nat) (w : World) (hn : n ≤ 100000) (hA : BlsAt w B A n f) :
    Calls Try.prog 18 #[.slice A n k, .bool x] w fun e w' => e = .returned (.int .i64 (ixI (led (fun j => !(x == f j)) n) n)) ∧ w = w' := by
  go_enter Try.func18, Try.ntmps18
  go_wp2
  go_loop [8] (fun i => ∃ q : Nat, q ≤ n ∧ i = .int .i64 q ∧ Hid (∀ j, j < q → (!(x == f j)) = true)) (fun i => n - (intOf i).toNat)
  case atStart => exact ⟨0, Nat.zero_le _, rfl, Lib.hid (fun j hj => absurd hj (Nat.not_lt_zero _))⟩
  case round =>
    obtain ⟨q, hq, rfl, hL⟩ := hrel
    by_cases hlt : q < n
    · obtain ⟨a, rfl, hab, hcs⟩ := hA (by omega)
      have y0 := hcs q hlt
      have hq0 : (0 : Int) ≤ (q : Int) := by omega
      have hq1 : (q : Int) < n := by omega
      clear hcs
      obtain ⟨u, hu⟩ : ∃ u, f q = u := ⟨_, rfl⟩
      rw [hu] at y0
      have HU := Lib.hid hu
      clear hu
      cases hv : (x == u)
      · have HW := Lib.hid hv
        go_wp2
        go_round
        case rel => exact ⟨q + 1, by omega, by go_num, Lib.hid (fun j hj => by
          rcases Nat.lt_succ_iff_lt_or_eq.1 hj with h' | h'
          · exact hL.out j h'
          · subst h'; rw [HU.out, HW.out]; rfl)⟩
        case measure => simp [intOf]; omega
      · have HV := Lib.hid (show ixI (led (fun j => !(x == f j)) n) n = (q : Int) by rw [led_at hlt hL.out (by rw [HU.out, hv]; rfl)]; exact if_pos hlt)
        go_wp2
        go_ret
        exact ⟨by rw [HV.out]; rfl, rfl⟩
    · obtain rfl : q = n := by omega
      have HV := Lib.hid (show ixI (led (fun j => !(x == f j)) q) q = -1 by rw [led_end hL.out]; exact if_neg (by omega))
      clear hq hlt
      go_wp2
      go_ret
      exact ⟨by rw [HV.out]; rfl, rfl⟩
set_option maxHeartbeats 2000000 in
theorem contains_any (A : Option Addr) (n k : Nat) (f : Nat → Bool) (x : Bool) (B : Nat) (w : World) (hn : n ≤ 100000) (hA : BlsAt w B A n f) :
    Calls Try.prog 19 #[.slice A n k, .bool x] w fun e w' => e = .returned (.bool (decide (led (fun j => !(x == f j)) n < n))) ∧ w = w' := by
  have HR := Lib.hid (show decide (led (fun j => !(x == f j)) n < n) = decide (0 ≤ ixI (led (fun j => !(x == f j)) n) n) by
    unfold ixI
    split <;> simp <;> omega)
  obtain ⟨m, hm⟩ : ∃ m, ixI (led (fun j => !(x == f j)) n) n = m := ⟨_, rfl⟩
  have HM := Lib.hid hm
  rw [HR.out, HM.out]
  clear hm
  go_enter Try.func19, Try.ntmps19
  go_wp2_with (go_at_call 18; (with_reducible refine (index_any A n k f x B _ hn hA).mono ?_); rw [HM.out]; rintro e w1 ⟨rfl, rfl⟩)
  go_ret
  exact ⟨rfl, rfl⟩
