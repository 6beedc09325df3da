/- The contracts of traces.isRight and Check, and of slices.Index and Contains at bool. -/
import Derived.Test.YtbppdifghkkooaaDoorTraceOf
import Derived.Test.YtbppdifghkkooaaDoorHeadTail
import Derived.WalkMore
namespace Go.Proofs.YtbppdifghkkooaaDoor
open Go.RowKit
set_option linter.unusedVariables false

set_option linter.unusedSimpArgs false

/-- a circuit and a run, as a call has them -/
structure RArg (w : World) (B : Nat) (c : Cr) (p : Pl) (t : Tr) (q : Tp) : Prop where
  hm : Mem w B c p
  hs : Sm c
  ht : TMem w B t q
  hts : TSm t
theorem RArg.to {w W : World} {B : Nat} {c : Cr} {p : Pl} {t : Tr} {q : Tp} (h : RArg w B c p t q) (hb : Below B w W) (hB : B ≤ W.heap.size) : RArg W W.heap.size c p t q := ⟨h.hm.to hb hB, h.hs, h.ht.to hb hB, h.hts⟩
/-- the cells of a box that holds a run -/
theorem Has.tbox {w : World} {b : Nat} {t : Tr} {q : Tp} (h : Has w b 30 (tcs t q)) : w.cell? ⟨b, 0, none⟩ = some (.slice q.A1 t.nf q.k1) ∧ w.cell? ⟨b, 1, none⟩ = some (.slice q.A2 t.ni q.k2) := ⟨h.cell 0, h.cell 1⟩
/-- the two boxes that a call lays for its arguments -/
abbrev ctW (w : World) (c : Cr) (p : Pl) (t : Tr) (q : Tp) : World := (w.alloc (.cells #[.int .i64 c.i, .slice p.A1 c.nl p.k1, .slice p.A2 c.na p.k2, .slice p.A3 c.nb p.k3, .slice p.A4 c.nc p.k4] 26)).alloc (.cells #[.slice q.A1 t.nf q.k1, .slice q.A2 t.ni q.k2] 30)
theorem ct_c (w : World) (c : Cr) (p : Pl) (t : Tr) (q : Tp) : Has (ctW w c p t q) w.heap.size 26 (cc c p) := (Has.new w 26 (cc c p)).al _
theorem ct_t (w : World) (c : Cr) (p : Pl) (t : Tr) (q : Tp) : Has (ctW w c p t q) (w.heap.size + 1) 30 (tcs t q) := Has.new' _ _ (by simp)
theorem ct_b (w : World) (c : Cr) (p : Pl) (t : Tr) (q : Tp) : Below w.heap.size w (ctW w c p t q) := ((Below.refl _ _).alloc (Nat.le_refl _) _).alloc (by simp) _
theorem ct_z (w : World) (c : Cr) (p : Pl) (t : Tr) (q : Tp) : w.heap.size ≤ (ctW w c p t q).heap.size := (ct_b w c p t q).size
/-- what is known behind the first call -/
theorem ct_k {w w1 : World} {c : Cr} {p : Pl} {t : Tr} {q : Tp} (hb : Below (ctW w c p t q).heap.size (ctW w c p t q) w1) : Below w.heap.size w w1 ∧ Has w1 w.heap.size 26 (cc c p) ∧ Has w1 (w.heap.size + 1) 30 (tcs t q) ∧ w.heap.size + 1 < w1.heap.size :=
  ⟨Below.step (ct_b w c p t q) (ct_z w c p t q) hb, (ct_c w c p t q).keep hb (ct_c w c p t q).lt, (ct_t w c p t q).keep hb (ct_t w c p t q).lt, ((ct_t w c p t q).keep hb (ct_t w c p t q).lt).lt⟩

/-- a box that holds a circuit, and one cell more -/
abbrev CS (b : Nat) (c : Cr) (p : Pl) (a : Addr) (v : Value) : World → Prop := fun w => w.cell? ⟨b, 0, none⟩ = some (.int .i64 c.i) ∧ w.cell? ⟨b, 1, none⟩ = some (.slice p.A1 c.nl p.k1) ∧ w.cell? ⟨b, 2, none⟩ = some (.slice p.A2 c.na p.k2) ∧ w.cell? ⟨b, 3, none⟩ = some (.slice p.A3 c.nb p.k3) ∧ w.cell? ⟨b, 4, none⟩ = some (.slice p.A4 c.nc p.k4) ∧ w.cell? a = some v
theorem cs_of {w : World} {b : Nat} {c : Cr} {p : Pl} {a : Addr} {v : Value} (h : Has w b 26 (cc c p)) (hv : w.cell? a = some v) : CS b c p a v w := ⟨h.cell 0, h.cell 1, h.cell 2, h.cell 3, h.cell 4, hv⟩
theorem CS.keep {w w' : World} {b : Nat} {c : Cr} {p : Pl} {a : Addr} {v : Value} (h : CS b c p a v w) (hb : Below w.heap.size w w') : CS b c p a v w' := by
  obtain ⟨h0, h1, h2, h3, h4, h5⟩ := h
  exact ⟨(hb.cell (cell_lt h0)).trans h0, (hb.cell (cell_lt h1)).trans h1, (hb.cell (cell_lt h2)).trans h2, (hb.cell (cell_lt h3)).trans h3, (hb.cell (cell_lt h4)).trans h4, (hb.cell (cell_lt h5)).trans h5⟩
/-- what isRight says of a run of a valid circuit -/
def rtB (c : Cr) (t : Tr) : Bool := c.fst t.nf t.fi && (decide (0 < t.ni) && t.lnB c.i)

section
variable {c : Cr} {p : Pl} {t : Tr} {q : Tp}

set_option maxRecDepth 100000 in
set_option maxHeartbeats 2000000 in
theorem isRight_any (w : World) (h : RArg w w.heap.size c p t q) :
    Calls Tryd.prog 29 #[cv c p, tv t q] w fun e w' => e = .returned (.bool (rtB c t)) ∧ Below w.heap.size w w' := by
  have hn := h.hts.nf
  have hni := h.hts.ni
  have HR := Lib.hid (show rtB c t = (c.fst t.nf t.fi && (decide (0 < t.ni) && t.lnB c.i)) from rfl)
  cases h1 : c.fst t.nf t.fi
  · rw [h1] at HR
    have H1 := Lib.hid h1
    clear h1
    go_enter Tryd.func29, Tryd.ntmps29
    go_wp2_with (first
      | (go_at_call 45; (with_reducible refine (first_any c p q.A1 t.nf q.k1 t.fi _ (h.hm.to (ct_b w c p t q) (ct_z w c p t q)) h.hs (h.ht.fi.to (ct_b w c p t q) (ct_z w c p t q)) (by omega)).mono ?_); rw [H1.out]; rintro e w1 ⟨rfl, hb1⟩; obtain ⟨hB1, hA1, hT1, hz1⟩ := ct_k hb1))
    go_ret
    exact ⟨by rw [HR.out]; rfl, hB1⟩
  · rw [h1] at HR
    have H1 := Lib.hid h1
    clear h1
    by_cases h2 : 0 < t.ni
    · have e2 : (0 : Int) < (t.ni : Int) := by omega
      cases h3 : t.lnB c.i
      all_goals
        rw [h3] at HR
        have HS := Lib.hid (HR.out.trans (by simp [h2, h3] : _ = t.lnB c.i))
        rw [h3] at HS
        have H3 := Lib.hid h3
        clear h2 h3 HR
        go_enter Tryd.func29, Tryd.ntmps29
        go_wp2_with (first
          | (go_at_call 45; (with_reducible refine (first_any c p q.A1 t.nf q.k1 t.fi _ (h.hm.to (ct_b w c p t q) (ct_z w c p t q)) h.hs (h.ht.fi.to (ct_b w c p t q) (ct_z w c p t q)) (by omega)).mono ?_); rw [H1.out]; rintro e w1 ⟨rfl, hb1⟩; obtain ⟨hB1, hA1, hT1, hz1⟩ := ct_k hb1; obtain ⟨z0, z1⟩ := hT1.tbox)
          | (go_at_call 47; (with_reducible refine (containsWrong_any c p t w.heap.size q.A2 q.k2 w.heap.size w1 hni (h.ht.ip.keep hB1) hA1).mono ?_); rw [H3.out]; rintro e w2 ⟨rfl, hb2⟩; have hB2 := Below.step hB1 hB1.size hb2))
        go_ret
        exact ⟨by rw [HS.out]; rfl, hB2⟩
    · have e2 : ¬ ((0 : Int) < (t.ni : Int)) := by omega
      have HS := Lib.hid (HR.out.trans (by simp [h2] : _ = false))
      clear h2 HR
      go_enter Tryd.func29, Tryd.ntmps29
      go_wp2_with (first
        | (go_at_call 45; (with_reducible refine (first_any c p q.A1 t.nf q.k1 t.fi _ (h.hm.to (ct_b w c p t q) (ct_z w c p t q)) h.hs (h.ht.fi.to (ct_b w c p t q) (ct_z w c p t q)) (by omega)).mono ?_); rw [H1.out]; rintro e w1 ⟨rfl, hb1⟩; obtain ⟨hB1, hA1, hT1, hz1⟩ := ct_k hb1; obtain ⟨z0, z1⟩ := hT1.tbox))
      go_ret
      exact ⟨by rw [HS.out]; rfl, hB1⟩

theorem rtB_iff (hk : c.chk = 0) : rtB c t = true ↔ ¬ (t.ni = 0 ∨ t.nf ≠ c.nl ∨ c.stB t.nf t.fi = false ∨ t.lnB c.i = false) := by
  unfold rtB Cr.fst Cr.fck
  rw [if_neg (show ¬ c.chk ≠ 0 by omega)]
  by_cases h1 : t.nf = c.nl
  · rw [if_neg (show ¬ t.nf ≠ c.nl by omega), if_pos rfl]
    cases c.stB t.nf t.fi <;> cases t.lnB c.i <;> simp [h1] <;> omega
  · rw [if_pos h1]
    simp [h1]

set_option maxRecDepth 100000 in
set_option maxHeartbeats 2000000 in
theorem check_any (w : World) (h : RArg w w.heap.size c p t q) :
    Calls Tryd.prog 16 #[cv c p, tv t q] w fun e w' => e = .returned (.int .i64 (c.tck t)) ∧ Below w.heap.size w w' := by
  have hni := h.hts.ni
  have hB0 := ct_b w c p t q
  by_cases hk : c.chk = 0
  · have h0 : (c.chk != 0) = false := by simp [hk]
    have HK := Lib.hid hk
    by_cases h1 : 100 < t.ni
    · have HR := Lib.hid (Cr.tck_many hk h1)
      have e1 : (100 : Int) < (t.ni : Int) := by omega
      rw [HR.out]
      clear hk h1
      go_enter Tryd.func16, Tryd.ntmps16
      go_wp2_with (first
        | (go_at_call 28; (with_reducible refine (gCheck_any c p _ (h.hm.to (ct_b w c p t q) (ct_z w c p t q)) h.hs).mono ?_); rintro e w1 ⟨rfl, hb1⟩; obtain ⟨hB1, hA1, hT1, hz1⟩ := ct_k hb1; obtain ⟨z0, z1⟩ := hT1.tbox; obtain ⟨x0, x1, x2, x3, x4⟩ := hA1.box))
      go_ret
      exact ⟨rfl, hB1⟩
    · have e1 : ¬ ((100 : Int) < (t.ni : Int)) := by omega
      cases h2 : rtB c t
      · have HR := Lib.hid (Cr.tck_wrong (t := t) hk (by omega) (Classical.byContradiction fun h => by rw [(rtB_iff hk).2 h] at h2; cases h2))
        have H2 := Lib.hid h2
        rw [HR.out]
        clear hk h1 h2
        go_enter Tryd.func16, Tryd.ntmps16
        go_wp2_with (first
          | (go_at_call 28; (with_reducible refine (gCheck_any c p _ (h.hm.to (ct_b w c p t q) (ct_z w c p t q)) h.hs).mono ?_); rintro e w1 ⟨rfl, hb1⟩; obtain ⟨hB1, hA1, hT1, hz1⟩ := ct_k hb1; obtain ⟨z0, z1⟩ := hT1.tbox; obtain ⟨x0, x1, x2, x3, x4⟩ := hA1.box)
          | (go_at_call 29; (with_reducible refine (isRight_any w1 (h.to hB1 hB1.size)).mono ?_); rw [H2.out]; rintro e w2 ⟨rfl, hb2⟩; have hB2 := Below.step hB1 hB1.size hb2))
        go_ret
        exact ⟨rfl, hB2⟩
      · have HR := Lib.hid (Cr.tck_right (t := t) hk (by omega) ((rtB_iff hk).1 h2))
        have H2 := Lib.hid h2
        rw [HR.out]
        clear hk h1 h2
        go_enter Tryd.func16, Tryd.ntmps16
        go_wp2_with (first
          | (go_at_call 28; (with_reducible refine (gCheck_any c p _ (h.hm.to (ct_b w c p t q) (ct_z w c p t q)) h.hs).mono ?_); rintro e w1 ⟨rfl, hb1⟩; obtain ⟨hB1, hA1, hT1, hz1⟩ := ct_k hb1; obtain ⟨z0, z1⟩ := hT1.tbox; obtain ⟨x0, x1, x2, x3, x4⟩ := hA1.box)
          | (go_at_call 29; (with_reducible refine (isRight_any w1 (h.to hB1 hB1.size)).mono ?_); rw [H2.out]; rintro e w2 ⟨rfl, hb2⟩; have hB2 := Below.step hB1 hB1.size hb2))
        go_ret
        exact ⟨rfl, hB2⟩
  · have h0 : (c.chk != 0) = true := by simpa [bne] using hk
    have HR := Lib.hid (Cr.tck_bad (t := t) hk)
    rw [HR.out]
    clear hk
    go_enter Tryd.func16, Tryd.ntmps16
    go_wp2_with (first
      | (go_at_call 28; (with_reducible refine (gCheck_any c p _ (h.hm.to (ct_b w c p t q) (ct_z w c p t q)) h.hs).mono ?_); rintro e w1 ⟨rfl, hb1⟩; obtain ⟨hB1, hA1, hT1, hz1⟩ := ct_k hb1))
    go_ret
    exact ⟨rfl, hB1⟩

end

/-- an index, or -1 -/
def ixI (k n : Nat) : Int := if k < n then (k : Int) else -1
set_option maxHeartbeats 2000000 in
theorem index_any (A : Option Addr) (n k : Nat) (f : Nat → Bool) (x : Bool) (B : Nat) (w : World) (hn : n ≤ 100000) (hA : BlsAt w B A n f) :
    Calls Tryd.prog 31 #[.slice A n k, .bool x] w fun e w' => e = .returned (.int .i64 (ixI (led (fun j => !(x == f j)) n) n)) ∧ w = w' := by
  go_enter Tryd.func31, Tryd.ntmps31
  go_wp2
  go_loop [8] (fun i => ∃ q : Nat, q ≤ n ∧ i = .int .i64 q ∧ Hid (∀ j, j < q → (!(x == f j)) = true)) (fun i => n - (intOf i).toNat)
  case atStart => exact ⟨0, Nat.zero_le _, rfl, Lib.hid (fun j hj => absurd hj (Nat.not_lt_zero _))⟩
  case round =>
    obtain ⟨q, hq, rfl, hL⟩ := hrel
    by_cases hlt : q < n
    · obtain ⟨a, rfl, hab, hcs⟩ := hA (by omega)
      have y0 := hcs q hlt
      have hq0 : (0 : Int) ≤ (q : Int) := by omega
      have hq1 : (q : Int) < n := by omega
      clear hcs
      obtain ⟨u, hu⟩ : ∃ u, f q = u := ⟨_, rfl⟩
      rw [hu] at y0
      have HU := Lib.hid hu
      clear hu
      cases hv : (x == u)
      · have HW := Lib.hid hv
        go_wp2
        go_round
        case rel => exact ⟨q + 1, by omega, by go_num, Lib.hid (fun j hj => by
          rcases Nat.lt_succ_iff_lt_or_eq.1 hj with h' | h'
          · exact hL.out j h'
          · subst h'; rw [HU.out, HW.out]; rfl)⟩
        case measure => simp [intOf]; omega
      · have HV := Lib.hid (show ixI (led (fun j => !(x == f j)) n) n = (q : Int) by rw [led_at hlt hL.out (by rw [HU.out, hv]; rfl)]; exact if_pos hlt)
        go_wp2
        go_ret
        exact ⟨by rw [HV.out]; rfl, rfl⟩
    · obtain rfl : q = n := by omega
      have HV := Lib.hid (show ixI (led (fun j => !(x == f j)) q) q = -1 by rw [led_end hL.out]; exact if_neg (by omega))
      clear hq hlt
      go_wp2
      go_ret
      exact ⟨by rw [HV.out]; rfl, rfl⟩
set_option maxHeartbeats 2000000 in
theorem contains_any (A : Option Addr) (n k : Nat) (f : Nat → Bool) (x : Bool) (B : Nat) (w : World) (hn : n ≤ 100000) (hA : BlsAt w B A n f) :
    Calls Tryd.prog 32 #[.slice A n k, .bool x] w fun e w' => e = .returned (.bool (decide (led (fun j => !(x == f j)) n < n))) ∧ w = w' := by
  have HR := Lib.hid (show decide (led (fun j => !(x == f j)) n < n) = decide (0 ≤ ixI (led (fun j => !(x == f j)) n) n) by
    unfold ixI
    split <;> simp <;> omega)
  obtain ⟨m, hm⟩ : ∃ m, ixI (led (fun j => !(x == f j)) n) n = m := ⟨_, rfl⟩
  have HM := Lib.hid hm
  rw [HR.out, HM.out]
  clear hm
  go_enter Tryd.func32, Tryd.ntmps32
  go_wp2_with (go_at_call 31; (with_reducible refine (index_any A n k f x B _ hn hA).mono ?_); rw [HM.out]; rintro e w1 ⟨rfl, rfl⟩)
  go_ret
  exact ⟨rfl, rfl⟩

end Go.Proofs.YtbppdifghkkooaaDoor

namespace Go.Proofs.YtbppdifghkkooaaDoor
open Go.RowKit
set_option linter.unusedVariables false

set_option linter.unusedSimpArgs false

/-- a list of lists, and an error -/
def RowsErr (n : Nat) (L : Nat → Nat) (f : Nat → Nat → Bool) (x : Int) (w : World) (e : Ending) (w' : World) : Prop :=
  ∃ A k, e = .returned (.tuple #[.slice A n k, .int .i64 x]) ∧ RowsAt w' w'.heap.size A n L f ∧ (n ≤ k ∧ k ≤ maxLen) ∧ Below w.heap.size w w'
/-- how many states there are -/
def Cr.tn (c : Cr) (t : Tr) : Nat := if c.tck t = 0 then t.ni else 0
theorem rowsNil {w : World} {B : Nat} {A : Option Addr} {L : Nat → Nat} {f : Nat → Nat → Bool} : RowsAt w B A 0 L f := fun h => absurd h (Nat.not_lt_zero _)
/-- a list of one list that a call has just laid -/
theorem Grid.one {w : World} {base : Nat} {A : Option Addr} {k : Nat} {L : Nat → Nat} {f : Nat → Nat → Bool} (hb : base ≤ w.heap.size) (hA : BlsAt w w.heap.size A (L 0) (f 0)) (hN : A = none → L 0 = 0 ∧ k = 0) : Grid (w.alloc (.cells #[.slice A (L 0) k] 27)) base (.slice (some ⟨w.heap.size, 0, none⟩) 1 1) 1 L f none := by
  refine ⟨⟨_, own_new1 w (.slice A (L 0) k) 27 base hb, fun j hj => ?_⟩⟩
  obtain rfl : j = 0 := by omega
  refine ⟨A, k, rfl, hA.to ((Below.refl _ _).alloc (Nat.le_refl _) _) (by simp), hN, fun hm a ha => ⟨fun e => ?_, by simp, Nat.zero_le _⟩⟩
  obtain ⟨a', ea, hl, _⟩ := hA hm
  rw [ha] at ea
  cases ea
  have e : a.block = w.heap.size := by simpa [Value.ownBlock] using e
  omega

section
variable {c : Cr} {p : Pl} {t : Tr} {q : Tp}

set_option maxRecDepth 100000 in
set_option maxHeartbeats 2000000 in
theorem states_no (hk : c.tck t ≠ 0) (w : World) (h : RArg w w.heap.size c p t q) :
    Calls Tryd.prog 48 #[cv c p, tv t q] w (RowsErr (c.tn t) (fun _ => c.nl) (c.sts t) (c.tck t) w) := by
  have h1 : (c.tck t != 0) = true := by simpa [bne] using hk
  have HF := Lib.hid (show c.tn t = 0 from if_neg hk)
  rw [HF.out]
  clear HF hk
  go_enter Tryd.func48, Tryd.ntmps48
  go_wp2_with (first
    | (go_at_call 16; (with_reducible refine (check_any _ (h.to (ct_b w c p t q) (ct_z w c p t q))).mono ?_); rintro e w1 ⟨rfl, hb1⟩; obtain ⟨hB1, hA1, hT1, hz1⟩ := ct_k hb1))
  go_ret2
  exact ⟨none, 0, rfl, rowsNil, ⟨Nat.le_refl _, Nat.zero_le _⟩, hB1⟩

theorem check_ok (hk : c.tck t = 0) (w : World) (h : RArg w w.heap.size c p t q) :
    Calls Tryd.prog 16 #[cv c p, tv t q] w fun e w' => e = .returned (.int .i64 0) ∧ Below w.heap.size w w' := by
  have := check_any w h
  rwa [hk] at this
theorem next_at (hc : c.chk = 0) {As At : Option Addr} {ns ks ni ki : Nat} {s u : Nat → Bool} (h1 : ns = c.nl) (h2 : (ni : Int) = c.i) (w : World) (h : Arg w w.heap.size c p As ns ks s At ni ki u) :
    Calls Tryd.prog 73 #[cv c p, .slice As ns ks, .slice At ni ki] w (BoolsNew c.nl (c.nv s u) 0 w) := next_new (Cr.ask_ok hc h1 h2) w h

set_option maxRecDepth 100000 in
set_option maxHeartbeats 4000000 in
theorem states_yes (hk : c.tck t = 0) (w : World) (h : RArg w w.heap.size c p t q) :
    Calls Tryd.prog 48 #[cv c p, tv t q] w (RowsErr t.ni (fun _ => c.nl) (c.sts t) 0 w) := by
  obtain ⟨hc, hn0, hn1, hnf, hst, hln⟩ := Cr.tck_ok hk
  have hs := h.hs
  have g1 := hs.nl
  have hi := Cr.chk_i (c := c) (by simpa using hc) hs
  have hip := h.ht.ip
  have hc2 := h.ht.c2
  have hfi := h.ht.fi
  have hnf1 := h.hts.nf
  obtain ⟨nf, fi, ni, ln, ip⟩ := t
  obtain ⟨A1, k1, A2, k2⟩ := q
  obtain ⟨F, hF⟩ : ∃ F, c.sts ⟨nf, fi, ni, ln, ip⟩ = F := ⟨_, rfl⟩
  have hF0 : F 0 = fi := by rw [← hF]; rfl
  have hFs : ∀ j, F (j + 1) = c.nv (F j) (ip j) := fun j => by rw [← hF]; rfl
  dsimp only at hn0 hn1 hnf hst hln hip hc2 hfi hnf1
  obtain ⟨m, rfl⟩ : ∃ m, ni = m + 1 := ⟨ni - 1, by omega⟩
  obtain ⟨a2, rfl, ha2, hr2⟩ := hip hn0
  have HK := Lib.hid hk
  have HC := Lib.hid hc
  have HL := Lib.hid hln
  have H0 := Lib.hid hF0
  have HFS := Lib.hid hFs
  have HR := Lib.hid hr2
  subst hnf
  have hm1 : m ≤ 99 := by omega
  have hmk : m ≤ k2 := by omega
  have e1 : ((m + 1 : Nat) : Int) - 1 = (m : Int) := by omega
  rw [hF]
  clear hc hn0 hn1 hst hln hk hr2 hF hF0 hFs hip
  have hW := h.to (ct_b w c p ⟨c.nl, fi, m + 1, ln, ip⟩ ⟨A1, k1, some a2, k2⟩) (ct_z w c p ⟨c.nl, fi, m + 1, ln, ip⟩ ⟨A1, k1, some a2, k2⟩)
  go_enter Tryd.func48, Tryd.ntmps48
  go_wp2_with (first
    | (go_at_call 16; (with_reducible refine (check_ok HK.out _ hW).mono ?_); rintro e w1 ⟨rfl, hb1⟩; obtain ⟨hB1, hA1, hT1, hz1⟩ := ct_k hb1; obtain ⟨z0, z1⟩ := hT1.tbox; try dsimp only at z0 z1)
    | (go_at_call 72; (with_reducible refine (copied_any A1 c.nl k1 fi w1 (by omega) (hfi.to hB1 hB1.size)).mono ?_); rintro e w2 ⟨A, k, rfl, hi2, hb2, hn2, _⟩; have hB2 := Below.step hB1 hB1.size hb2; have hA2 := hA1.keep hb2 hA1.lt; have hT2 := hT1.keep hb2 hT1.lt; obtain ⟨z0, z1⟩ := hT2.tbox; try dsimp only at z0 z1; have hz2 := hT2.lt))
  have hG2 : Grid (w2.alloc (.cells #[.slice A c.nl k] 27)) w2.heap.size (.slice (some ⟨w2.heap.size, 0, none⟩) 1 1) 1 (fun _ => c.nl) F none := Grid.one (L := fun _ => c.nl) (f := F) (Nat.le_refl _) (by rw [H0.out]; exact hi2) hn2
  have hX2 : Has (w2.alloc (.cells #[.slice A c.nl k] 27)) w.heap.size 26 (cc c p) := hA2.al _
  have hY2 : Below w.heap.size w (w2.alloc (.cells #[.slice A c.nl k] 27)) := hB2.alloc hB2.size _
  clear hA1 hT1 hA2 hT2 hb1 hb2 hB1 hi2 hn2 z0 z1
  go_loopw [7, 30] (fun v i wr => ∃ r : Nat, r ≤ m ∧ i = .int .i64 r ∧ Grid wr w2.heap.size v (r + 1) (fun _ => c.nl) F none ∧ Has wr w.heap.size 26 (cc c p) ∧ Below w.heap.size w wr) (fun _ i _ => m - (intOf i).toNat)
  case atStart => exact ⟨0, Nat.zero_le _, rfl, hG2, hX2, hY2⟩
  case round =>
    clear hG2 hX2 hY2
    obtain ⟨r, hr, rfl, hG, hX, hBr⟩ := hrel
    obtain ⟨x0, x1, x2, x3, x4⟩ := hX.box
    by_cases hlt : r < m
    · obtain ⟨A', k', y0, hy, hyn⟩ := HR.out r (by omega)
      have y0 : wr.cell? (a2.add r) = some (.slice A' (ln r) k') := (hBr.cell (by rw [add_block]; exact ha2)).trans y0
      have hy := hy.to hBr hBr.size
      obtain ⟨N, hN⟩ : ∃ N, N = r + 1 := ⟨_, rfl⟩
      rw [← hN] at hG
      obtain ⟨g, kk, A'', k'', rfl, u0, hu, hun⟩ := hG.row (j := r) (by omega)
      have hq0 : (0 : Int) ≤ (r : Int) := by omega
      have hq1 : (r : Int) < (m : Int) := by omega
      have hq2 : (r : Int) < (N : Int) := by omega
      have HN := Lib.hid hN
      clear hN
      go_wp2
      have hBd : Below w.heap.size w wr.drew := below_dn hBr 1
      have hgd : Arg wr.drew wr.drew.heap.size c p A'' c.nl k'' (F r) A' (ln r) k' (ip r) := ⟨h.hm.to hBd hBd.size, hs, hu, hy, hun, hyn, by omega, by have := HL.out r (by omega); omega⟩
      have hGd : Grid wr.drew w2.heap.size (.slice (some ⟨g, 0, none⟩) N kk) N (fun _ => c.nl) F none := ⟨hG.ex⟩
      have hXd : Has wr.drew w.heap.size 26 (cc c p) := hX
      have hl := HL.out r (by omega)
      have HLr := Lib.hid hl
      have hS0 : CS w.heap.size c p ⟨g, r, none⟩ (.slice A'' c.nl k'') wr.drew := cs_of hXd u0
      have HS1 := Lib.hid hS0
      clear hl hu hy hun hyn
      refine wp_region_T (CS w.heap.size c p ⟨g, r, none⟩ (.slice A'' c.nl k'')) 12 (by kernel_rfl) ?_
      (refine wpT_take 0 (v := ?_) rfl (by kernel_rfl) (by kernel_rfl) (by kernel_rfl) (by kernel_rfl) (fun _ _ _ h => h) rfl hS0 (fun w hS => ?_) ?_; rotate_left; focus (obtain ⟨j0, j1, j2, j3, j4, j5⟩ := hS; go_simp; rfl)); (refine wpT_take 1 (v := ?_) rfl (by kernel_rfl) (by kernel_rfl) (by kernel_rfl) (by kernel_rfl) (fun _ _ _ h => h) rfl hS0 (fun w hS => ?_) ?_; rotate_left; focus (obtain ⟨j0, j1, j2, j3, j4, j5⟩ := hS; go_simp; rfl)); (refine wpT_take 2 (v := ?_) rfl (by kernel_rfl) (by kernel_rfl) (by kernel_rfl) (by kernel_rfl) (fun _ _ _ h => h) rfl hS0 (fun w hS => ?_) ?_; rotate_left; focus (obtain ⟨j0, j1, j2, j3, j4, j5⟩ := hS; go_simp; rfl)); (refine wpT_take 3 (v := ?_) rfl (by kernel_rfl) (by kernel_rfl) (by kernel_rfl) (by kernel_rfl) (fun _ _ _ h => h) rfl hS0 (fun w hS => ?_) ?_; rotate_left; focus (obtain ⟨j0, j1, j2, j3, j4, j5⟩ := hS; go_simp; rfl)); (refine wpT_take 4 (v := ?_) rfl (by kernel_rfl) (by kernel_rfl) (by kernel_rfl) (by kernel_rfl) (fun _ _ _ h => h) rfl hS0 (fun w hS => ?_) ?_; rotate_left; focus (obtain ⟨j0, j1, j2, j3, j4, j5⟩ := hS; go_simp; rfl)); (refine wpT_take 5 (v := ?_) rfl (by kernel_rfl) (by kernel_rfl) (by kernel_rfl) (by kernel_rfl) (fun _ _ _ h => h) rfl hS0 (fun w hS => ?_) ?_; rotate_left; focus (obtain ⟨j0, j1, j2, j3, j4, j5⟩ := hS; go_simp; rfl))
      refine wpT_one 6 (by kernel_rfl) (wpOp_go rfl rfl fun K hK => ?_)
      go_simp
      go_at_call 73
      (with_reducible refine (next_at HC.out rfl HLr.out wr.drew hgd).mono ?_)
      rintro e w5 ⟨A5, k5, rfl, hi5, hb5, hn5, hf5⟩
      have hB5 := Below.step hBd hBd.size hb5
      have hG5 := hGd.call hb5
      have hX5 := hXd.keep hb5 hXd.lt
      have hz5 := hX5.lt
      have hS0 : CS w.heap.size c p ⟨g, r, none⟩ (.slice A'' c.nl k'') w5 := HS1.out.keep hb5
      refine hK _ _ ⟨fun _ => hS0, ?_⟩
      (refine wpT_take 7 (v := ?_) rfl (by kernel_rfl) (by kernel_rfl) (by kernel_rfl) (by kernel_rfl) (fun _ _ _ h => h) rfl hS0 (fun w hS => ?_) ?_; rotate_left; focus (go_simp; rfl)); (refine wpT_take 8 (v := ?_) rfl (by kernel_rfl) (by kernel_rfl) (by kernel_rfl) (by kernel_rfl) (fun _ _ _ h => h) rfl hS0 (fun w hS => ?_) ?_; rotate_left; focus (go_simp; rfl)); (refine wpT_take 9 (v := ?_) rfl (by kernel_rfl) (by kernel_rfl) (by kernel_rfl) (by kernel_rfl) (fun _ _ _ h => h) rfl hS0 (fun w hS => ?_) ?_; rotate_left; focus (go_simp; rfl)); (refine wpT_take 10 (v := ?_) rfl (by kernel_rfl) (by kernel_rfl) (by kernel_rfl) (by kernel_rfl) (fun _ _ _ h => h) rfl hS0 (fun w hS => ?_) ?_; rotate_left; focus (go_simp; rfl)); (refine wpT_take 11 (v := ?_) rfl (by kernel_rfl) (by kernel_rfl) (by kernel_rfl) (by kernel_rfl) (fun _ _ _ h => h) rfl hS0 (fun w hS => ?_) ?_; rotate_left; focus (go_simp; rfl))
      refine wpT_done (by kernel_rfl) (NoPanic.normal ?_) _
      clear hS0 hK
      go_wp2_with (first
        | (at_builtin; (refine append_row rfl (.tmp 45) (.tmp 47) _ rfl Tryd.underlying28 w2.heap.size _ N (fun _ => c.nl) F none rfl (hG5.al _) w5.heap.size 1 A5 k5 rfl ((Has.new w5 27 #[.slice A5 c.nl k5]).cell 0) (by rw [HN.out, HFS.out]; exact hi5.to ((Below.refl _ _).alloc (Nat.le_refl _) _) (by simp)) hn5 (hGd.apart hf5 (fun g hg => by cases hg)) (by have := HN.out; omega) (by have := hGd.lt (g := g) rfl; have := hb5.size; simp; omega) ?_); intro v8 w8 hG8 hg8 hat8))
      go_roundw
      case rel => exact ⟨r + 1, by omega, by go_num, by rw [HN.out] at hG8; exact hG8, (hG5.al _).has (hX5.al _) hg8 (by omega), (hG5.al _).below (hB5.alloc hB5.size _) (by simp; omega) (by omega) hg8⟩
      case measure => simp [intOf]; omega
    · obtain rfl : r = m := by omega
      clear hr hlt
      go_wp2
      go_ret2
      obtain ⟨A', k', rfl, hi', _, hcap, _⟩ := hG.at
      exact ⟨A', k', rfl, hi', hcap, hBr⟩

end

end Go.Proofs.YtbppdifghkkooaaDoor

namespace Go.Proofs.YtbppdifghkkooaaDoor
open Go.RowKit
set_option linter.unusedVariables false

set_option linter.unusedSimpArgs false

/-- what the call owns, while it does something elsewhere -/
theorem own_by {w w' : World} {base : Nat} {e : TypeId} {size n : Nat} {v : Value} {xs : List Value} {r : Option Nat} (h : w.ownsRow base e size v n xs) (hg : w.grownBy w' r) (hr : r = none ∨ v.ownBlock ≠ r) : w'.ownsRow base e size v n xs := by
  rcases h.2 with ⟨hv, hn⟩ | ⟨g, cap, cur, rfl, hb, hh, hrest⟩
  · exact ⟨h.1, Or.inl ⟨hv, hn⟩⟩
  · refine ⟨h.1, Or.inr ⟨g, cap, cur, rfl, hb, (hg.block g (Has.lt (t := e) (cs := cur) hh) ?_).trans hh, hrest⟩⟩
    rcases hr with rfl | hr
    · simp
    · exact hr
theorem own_under {w w' : World} {B base : Nat} {e : TypeId} {size n : Nat} {v : Value} {xs : List Value} (h : w.ownsRow base e size v n xs) (hb : Below B w w') (hB : ∀ g, v.ownBlock = some g → g < B) : w'.ownsRow base e size v n xs := by
  rcases h.2 with ⟨hv, hn⟩ | ⟨g, cap, cur, rfl, hg, hh, hrest⟩
  · exact ⟨h.1, Or.inl ⟨hv, hn⟩⟩
  · exact ⟨h.1, Or.inr ⟨g, cap, cur, rfl, hg, (hb.block g (hB g rfl)).trans hh, hrest⟩⟩
theorem own_in {w : World} {base : Nat} {e : TypeId} {size n : Nat} {v : Value} {xs : List Value} (h : w.ownsRow base e size v n xs) {g : Nat} (hg : v.ownBlock = some g) : base ≤ g ∧ g < w.heap.size := by
  rcases h.2 with ⟨rfl, _⟩ | ⟨g', cap, cur, rfl, hb, hh, _⟩
  · cases hg
  · obtain rfl : g' = g := by simpa [Value.ownBlock] using hg
    exact ⟨hb, Has.lt (t := e) (cs := cur) hh⟩
theorem own_apart2 {w : World} {base base' n m : Nat} {v v' : Value} {L : Nat → Nat} {f : Nat → Nat → Bool} {D : Option Nat} {xs : List Value} {lo : Nat} (h : Grid w base v n L f D lo) (h' : w.ownsRow base' 4 1 v' m xs) : v.ownBlock = none ∨ v'.ownBlock ≠ v.ownBlock := by
  rcases own_apart h h' with e | e
  · exact Or.inl e
  · exact Or.inr fun e' => e e'.symm
/-- a list that lies apart from two more -/
theorem row_far {w : World} {A5 : Option Addr} {m : Nat} {f : Nat → Bool} {v1 v1' : Value} {d : Nat} {o : Obj} (hi : BlsAt w w.heap.size A5 m f) (hf : ∀ a, A5 = some a → d ≤ a.block) (hv : ∀ g, v1.ownBlock = some g → g < d) (hat : v1'.ownBlock = v1.ownBlock ∨ v1'.ownBlock = some (w.alloc o).heap.size) : 0 < m → ∀ a, A5 = some a → some a.block ≠ v1.ownBlock ∧ some a.block ≠ v1'.ownBlock := fun hm a ha => by
  obtain ⟨a', ea, hl, _⟩ := hi hm
  rw [ha] at ea
  cases ea
  have h1 : some a.block ≠ v1.ownBlock := fun e => by have := hf a ha; have := hv _ e.symm; omega
  refine ⟨h1, ?_⟩
  rcases hat with e | e
  · rw [e]; exact h1
  · rw [e]
    intro e
    injection e with e
    simp at e
    omega

theorem blsN {w : World} {B : Nat} {A : Option Addr} {f : Nat → Bool} : BlsAt w B A 0 f := fun h => absurd h (Nat.not_lt_zero _)
/-- what props returns -/
def PrErr (n : Nat) (R : Nat → Bool) (L : Nat → Nat) (f : Nat → Nat → Bool) (x : Int) (w : World) (e : Ending) (w' : World) : Prop :=
  ∃ A k A' k', e = .returned (.tuple #[.slice A n k, .slice A' n k', .int .i64 x]) ∧ BlsAt w' w'.heap.size A n R ∧ RowsAt w' w'.heap.size A' n L f ∧ Below w.heap.size w w'

section
variable {c : Cr} {p : Pl} {t : Tr} {q : Tp}

theorem states_at {n : Nat} {F : Nat → Nat → Bool} (hF : c.sts t = F) (hk : c.tck t = 0) (hn : t.ni = n) (w : World) (h : RArg w w.heap.size c p t q) :
    Calls Tryd.prog 48 #[cv c p, tv t q] w (RowsErr n (fun _ => c.nl) F 0 w) := by
  subst hn hF
  exact states_yes hk w h
theorem props_at (hc : c.chk = 0) {As At : Option Addr} {ns ks ni ki : Nat} {s u : Nat → Bool} (h1 : ns = c.nl) (h2 : (ni : Int) = c.i) (w : World) (h : Arg w w.heap.size c p As ns ks s At ni ki u) :
    Calls Tryd.prog 49 #[cv c p, .slice As ns ks, .slice At ni ki] w (PropsNew (c.hol s u) c.nb (c.bv s u) 0 w) := props_new (Cr.ask_ok hc h1 h2) w h

set_option maxRecDepth 100000 in
set_option maxHeartbeats 2000000 in
theorem tprops_no (hk : c.tck t ≠ 0) (w : World) (h : RArg w w.heap.size c p t q) :
    Calls Tryd.prog 30 #[cv c p, tv t q] w (PrErr 0 (c.hf t) (fun _ => c.nb) (c.bf t) (c.tck t) w) := by
  have h1 : (c.tck t != 0) = true := by simpa [bne] using hk
  have hB0 := ct_b w c p t q
  go_enter Tryd.func30, Tryd.ntmps30
  go_wp2_with (first
    | (go_at_call 48; (with_reducible refine (states_no hk _ (h.to (ct_b w c p t q) (ct_z w c p t q))).mono ?_); rintro e w1 ⟨A, k, rfl, hi, _, hb1⟩; obtain ⟨hB1, hA1, hT1, hz1⟩ := ct_k hb1))
  go_ret3
  exact ⟨none, 0, none, 0, rfl, blsN, rowsNil, hB1⟩

set_option maxRecDepth 100000 in
set_option maxHeartbeats 4000000 in
theorem tprops_yes (hk : c.tck t = 0) {n : Nat} (hn : t.ni = n) (w : World) (h : RArg w w.heap.size c p t q) :
    Calls Tryd.prog 30 #[cv c p, tv t q] w (PrErr n (c.hf t) (fun _ => c.nb) (c.bf t) 0 w) := by
  obtain ⟨hc, hn0, hn1, hnf, hst, hln⟩ := Cr.tck_ok hk
  have hs := h.hs
  have g1 := hs.nl
  have g2 := hs.nb
  have hi := Cr.chk_i (c := c) (by simpa using hc) hs
  have hip := h.ht.ip
  rw [hn] at hn0 hn1 hln hip
  obtain ⟨F, hF⟩ : ∃ F, c.sts t = F := ⟨_, rfl⟩
  obtain ⟨R, hR⟩ : ∃ R, c.hf t = R := ⟨_, rfl⟩
  obtain ⟨G, hG⟩ : ∃ G, c.bf t = G := ⟨_, rfl⟩
  have hRr : ∀ r, R r = c.hol (F r) (t.ip r) := fun r => by rw [← hR, ← hF]; rfl
  have hGr : ∀ r, G r = c.bv (F r) (t.ip r) := fun r => by rw [← hG, ← hF]; rfl
  rw [hR, hG]
  obtain ⟨a2, hA2, ha2, hr2⟩ := hip hn0
  obtain ⟨i0, hi0, hzz0, hs0, hy0⟩ := info_parts info_bool1
  have HK := Lib.hid hk
  have HC := Lib.hid hc
  have HL := Lib.hid hln
  have HI := Lib.hid hr2
  have HN := Lib.hid hn
  have HF := Lib.hid hF
  have HRr := Lib.hid hRr
  have HGr := Lib.hid hGr
  have HA2 := Lib.hid hA2
  have hW := h.to (ct_b w c p t q) (ct_z w c p t q)
  clear hc hst hln hk hr2 hF hRr hGr hip hn hnf hA2 hR hG
  go_enter Tryd.func30, Tryd.ntmps30
  go_wp2_with (first
    | (go_at_call 48; (with_reducible refine (states_at HF.out HK.out HN.out _ hW).mono ?_); rintro e w1 ⟨A, k, rfl, hi1, hcap1, hb1⟩; obtain ⟨hB1, hA1, hT1, hz1⟩ := ct_k hb1))
  obtain ⟨a1, rfl, ha1, hr1⟩ := hi1 hn0
  have HS := Lib.hid hr1
  clear hb1 hr1 hi1 hW
  go_loopw [4, 5, 24] (fun v1 v2 i wr => ∃ r : Nat, r ≤ n ∧ i = .int .i64 r ∧ wr.ownsRow w1.heap.size 4 1 v1 r (bL R r) ∧ Grid wr w1.heap.size v2 r (fun _ => c.nb) G v1.ownBlock ∧ Has wr w.heap.size 26 (cc c p) ∧ Has wr (w.heap.size + 1) 30 (tcs t q) ∧ Below w1.heap.size w1 wr) (fun _ _ i _ => n - (intOf i).toNat)
  case atStart => exact ⟨0, Nat.zero_le _, rfl, World.ownsRow_nil _ _ _ _, Grid.nil _ _ _ _ _, hA1, hT1, Below.refl _ _⟩
  case round =>
    obtain ⟨r, hr, rfl, hO, hG, hX, hT, hB1r⟩ := hrel
    have hBr : Below w.heap.size w wr := Below.step hB1 hB1.size hB1r
    by_cases hlt : r < n
    · obtain ⟨x0, x1, x2, x3, x4⟩ := hX.box
      obtain ⟨z0, z1⟩ := hT.tbox
      rw [HN.out, HA2.out] at z1
      obtain ⟨A', k', y0, hy, hyn⟩ := HI.out r hlt
      have y0 : wr.cell? (a2.add r) = some (.slice A' (t.ln r) k') := (hBr.cell (by rw [add_block]; exact ha2)).trans y0
      have hy := hy.to hBr hBr.size
      obtain ⟨A'', k'', u0, hu, hun⟩ := HS.out r hlt
      have u0 : wr.cell? (a1.add r) = some (.slice A'' c.nl k'') := (hB1r.cell (by rw [add_block]; exact ha1)).trans u0
      have hu := hu.to hB1r hB1r.size
      have hq0 : (0 : Int) ≤ (r : Int) := by omega
      have hq1 : (r : Int) < (n : Int) := by omega
      have hln := HL.out r hlt
      have HLr := Lib.hid hln
      have hBd : Below w.heap.size w wr.drew := below_dn hBr 1
      have hgd : Arg wr.drew wr.drew.heap.size c p A'' c.nl k'' (F r) A' (t.ln r) k' (t.ip r) := ⟨h.hm.to hBd hBd.size, hs, hu, hy, hun, hyn, by omega, by omega⟩
      have hGd : Grid wr.drew w1.heap.size u5 r (fun _ => c.nb) G u4.ownBlock := ⟨hG.ex⟩
      have hOd : wr.drew.ownsRow w1.heap.size 4 1 u4 r (bL R r) := hO
      have hXd : Has wr.drew w.heap.size 26 (cc c p) := hX
      have hTd : Has wr.drew (w.heap.size + 1) 30 (tcs t q) := hT
      have hB1d : Below w1.heap.size w1 wr.drew := below_dn hB1r 1
      have hS0 : CS w.heap.size c p (a2.add r) (.slice A' (t.ln r) k') wr.drew ∧ wr.drew.cell? ⟨w.heap.size + 1, 1, none⟩ = some (.slice (some a2) n q.k2) := ⟨cs_of hXd y0, z1⟩
      have HS1 := Lib.hid hS0
      clear hln hu hy hun hyn
      go_wp2
      refine wp_region_T (fun w' => CS w.heap.size c p (a2.add r) (.slice A' (t.ln r) k') w' ∧ w'.cell? ⟨w.heap.size + 1, 1, none⟩ = some (.slice (some a2) n q.k2)) 15 (by kernel_rfl) ?_
      (refine wpT_take 0 (v := ?_) rfl (by kernel_rfl) (by kernel_rfl) (by kernel_rfl) (by kernel_rfl) (fun _ _ _ h => h) rfl hS0 (fun w hS => ?_) ?_; rotate_left; focus (obtain ⟨⟨j0, j1, j2, j3, j4, j5⟩, j6⟩ := hS; go_simp; rfl)); (refine wpT_take 1 (v := ?_) rfl (by kernel_rfl) (by kernel_rfl) (by kernel_rfl) (by kernel_rfl) (fun _ _ _ h => h) rfl hS0 (fun w hS => ?_) ?_; rotate_left; focus (obtain ⟨⟨j0, j1, j2, j3, j4, j5⟩, j6⟩ := hS; go_simp; rfl)); (refine wpT_take 2 (v := ?_) rfl (by kernel_rfl) (by kernel_rfl) (by kernel_rfl) (by kernel_rfl) (fun _ _ _ h => h) rfl hS0 (fun w hS => ?_) ?_; rotate_left; focus (obtain ⟨⟨j0, j1, j2, j3, j4, j5⟩, j6⟩ := hS; go_simp; rfl)); (refine wpT_take 3 (v := ?_) rfl (by kernel_rfl) (by kernel_rfl) (by kernel_rfl) (by kernel_rfl) (fun _ _ _ h => h) rfl hS0 (fun w hS => ?_) ?_; rotate_left; focus (obtain ⟨⟨j0, j1, j2, j3, j4, j5⟩, j6⟩ := hS; go_simp; rfl)); (refine wpT_take 4 (v := ?_) rfl (by kernel_rfl) (by kernel_rfl) (by kernel_rfl) (by kernel_rfl) (fun _ _ _ h => h) rfl hS0 (fun w hS => ?_) ?_; rotate_left; focus (obtain ⟨⟨j0, j1, j2, j3, j4, j5⟩, j6⟩ := hS; go_simp; rfl)); (refine wpT_take 5 (v := ?_) rfl (by kernel_rfl) (by kernel_rfl) (by kernel_rfl) (by kernel_rfl) (fun _ _ _ h => h) rfl hS0 (fun w hS => ?_) ?_; rotate_left; focus (obtain ⟨⟨j0, j1, j2, j3, j4, j5⟩, j6⟩ := hS; go_simp; rfl)); (refine wpT_take 6 (v := ?_) rfl (by kernel_rfl) (by kernel_rfl) (by kernel_rfl) (by kernel_rfl) (fun _ _ _ h => h) rfl hS0 (fun w hS => ?_) ?_; rotate_left; focus (obtain ⟨⟨j0, j1, j2, j3, j4, j5⟩, j6⟩ := hS; go_simp; rfl))
      refine wpT_one 7 (by kernel_rfl) (wpOp_go rfl rfl fun K hK => ?_)
      go_simp
      go_at_call 49
      (with_reducible refine (props_at HC.out rfl HLr.out wr.drew hgd).mono ?_)
      rintro e w5 ⟨A5, k5, rfl, hi5, hb5, hn5, hf5⟩
      rw [← HRr.out] 
      rw [← HGr.out] at hi5
      have hB5 := Below.step hBd hBd.size hb5
      have hG5 := hGd.call hb5
      have hO5 := own_by hOd (grown_below hb5) (Or.inl rfl)
      have hX5 := hXd.keep hb5 hXd.lt
      have hT5 := hTd.keep hb5 hTd.lt
      have hB15 := hB1d.trans (hb5.mono hB1d.size)
      have hz5 := hT5.lt
      have hz15 := hB15.size
      have hv5 : ∀ g, u4.ownBlock = some g → g < wr.drew.heap.size := fun g hg => (own_in hOd hg).2
      have hS0 : CS w.heap.size c p (a2.add r) (.slice A' (t.ln r) k') w5 ∧ w5.cell? ⟨w.heap.size + 1, 1, none⟩ = some (.slice (some a2) n q.k2) := ⟨HS1.out.1.keep hb5, (hb5.cell (cell_lt HS1.out.2)).trans HS1.out.2⟩
      refine hK _ _ ⟨fun _ => hS0, ?_⟩
      (refine wpT_take 8 (v := ?_) rfl (by kernel_rfl) (by kernel_rfl) (by kernel_rfl) (by kernel_rfl) (fun _ _ _ h => h) rfl hS0 (fun w hS => ?_) ?_; rotate_left; focus (go_simp; rfl)); (refine wpT_take 9 (v := ?_) rfl (by kernel_rfl) (by kernel_rfl) (by kernel_rfl) (by kernel_rfl) (fun _ _ _ h => h) rfl hS0 (fun w hS => ?_) ?_; rotate_left; focus (go_simp; rfl)); (refine wpT_take 10 (v := ?_) rfl (by kernel_rfl) (by kernel_rfl) (by kernel_rfl) (by kernel_rfl) (fun _ _ _ h => h) rfl hS0 (fun w hS => ?_) ?_; rotate_left; focus (go_simp; rfl)); (refine wpT_take 11 (v := ?_) rfl (by kernel_rfl) (by kernel_rfl) (by kernel_rfl) (by kernel_rfl) (fun _ _ _ h => h) rfl hS0 (fun w hS => ?_) ?_; rotate_left; focus (go_simp; rfl)); (refine wpT_take 12 (v := ?_) rfl (by kernel_rfl) (by kernel_rfl) (by kernel_rfl) (by kernel_rfl) (fun _ _ _ h => h) rfl hS0 (fun w hS => ?_) ?_; rotate_left; focus (go_simp; rfl)); (refine wpT_take 13 (v := ?_) rfl (by kernel_rfl) (by kernel_rfl) (by kernel_rfl) (by kernel_rfl) (fun _ _ _ h => h) rfl hS0 (fun w hS => ?_) ?_; rotate_left; focus (go_simp; rfl)); (refine wpT_take 14 (v := ?_) rfl (by kernel_rfl) (by kernel_rfl) (by kernel_rfl) (by kernel_rfl) (fun _ _ _ h => h) rfl hS0 (fun w hS => ?_) ?_; rotate_left; focus (go_simp; rfl))
      refine wpT_done (by kernel_rfl) (NoPanic.normal ?_) _
      clear hS0 hK hb5 hgd hGd hOd hXd hTd hB1d hBd x0 x1 x2 x3 x4 z0 z1
      obtain ⟨RR, hRR⟩ : ∃ x, R r = x := ⟨_, rfl⟩
      rw [hRR]
      have HRR := Lib.hid hRR
      clear hRR
      have HX := Lib.hid (show bL R (r + 1) = bL R r ++ [.bool RR] by rw [← HRR.out]; rfl)
      go_wp2_with (first
        | (at_builtin; (refine wpList_append_own_at _ rfl (.tmp 41) (.tmp 43) 27 rfl w1.heap.size 4 i0 (.bool false) 1 1 Tryd.underlying27 hi0 hzz0 hs0 hy0 rfl (by decide) u4 r (bL R r) rfl (hO5.alloc _) ⟨w5.heap.size, 0, none⟩ 1 1 [.bool RR] rfl (by simp) (cell_one_new _ _ _) (by simp [Value.oneCell']) (by simp only [maxLen]; omega) (by omega) (by simp; omega) ?_); intro v6 w6 hO6 hg6 _ hat6
           have hfar := row_far hi5 hf5 hv5 hat6
           have hG6 := (hG5.al (.cells #[.bool RR] 4)).far hg6 (Or.inr rfl) (own_apart (hG5.al (.cells #[.bool RR] 4)) (hO5.alloc (.cells #[.bool RR] 4))) (hat6.imp_right Or.inl)
           have hi6 := (hi5.to ((Below.refl _ _).alloc (Nat.le_refl _) (.cells #[.bool RR] 4)) (by simp)).by hg6 (fun hm a ha => (hfar hm a ha).1)
           have hX6 : Has w6 w.heap.size 26 (cc c p) := app_has hX5 hO5 hg6 (by omega)
           have hT6 : Has w6 (w.heap.size + 1) 30 (tcs t q) := app_has hT5 hO5 hg6 (by omega)
           have hB6 := app_below hB15 hz15 (Nat.le_refl _) hO5 hg6
           have hz6 := hB6.size)
        | (at_builtin; (refine append_row rfl (.tmp 45) (.tmp 47) _ rfl Tryd.underlying28 w1.heap.size u5 r (fun _ => c.nb) G v6.ownBlock rfl (hG6.al _) w6.heap.size 1 A5 k5 rfl ((Has.new w6 27 #[.slice A5 c.nb k5]).cell 0) (hi6.to ((Below.refl _ _).alloc (Nat.le_refl _) _) (by simp)) hn5 (fun hm a ha => ⟨fun e => by have := hf5 a ha; have h2 : a.block < wr.drew.heap.size := (hG.lt e.symm).2; omega, (hfar hm a ha).2⟩) (by omega) (by simp; omega) ?_); intro v8 w8 hG8 hg8 hat8))
      go_roundw
      case rel => exact ⟨r + 1, by omega, by go_num, by rw [HX.out]; exact own_by (hO6.alloc _) hg8 (own_apart2 (hG6.al (.cells #[.slice A5 c.nb k5] 27)) (hO6.alloc (.cells #[.slice A5 c.nb k5] 27))), hG8, (hG6.al _).has (hX6.al _) hg8 (by omega), (hG6.al _).has (hT6.al _) hg8 (by omega), (hG6.al _).below (hB6.alloc hB6.size _) (by simp; omega) (Nat.le_refl _) hg8⟩
      case measure => simp [intOf]; omega
    · obtain rfl : r = n := by omega
      clear hr hlt
      go_wp2
      go_ret3
      obtain ⟨A', k', rfl, hi', _⟩ := own_bools hO
      obtain ⟨A'', k'', rfl, hi'', _⟩ := hG.at
      exact ⟨A', k', A'', k'', rfl, hi', hi'', hBr⟩

end

/-- what Right and Witness return -/
def Cr.rgt (c : Cr) (t : Tr) : Nat := if c.tck t = 0 then c.alw t else 0
def Cr.wti (c : Cr) (t : Tr) : Int := if c.tck t = 0 ∧ 0 ≤ c.shw t then c.shw t else 0
def Cr.wte (c : Cr) (t : Tr) : Int := if c.tck t = 0 then (if 0 ≤ c.shw t then 0 else 57) else c.tck t
theorem led_f (f : Nat → Bool) (n : Nat) : led (fun j => !(false == f j)) n = led f n := led_congr n fun j _ => by cases f j <;> rfl
theorem led_t (f : Nat → Bool) (n : Nat) : led (fun j => !(true == f j)) n = led (fun j => !f j) n := led_congr n fun j _ => by cases f j <;> rfl

section
variable {c : Cr} {p : Pl} {t : Tr} {q : Tp}

theorem idx_f {A : Option Addr} {n k : Nat} {f : Nat → Bool} {m : Nat} (hm : led f n = m) (B : Nat) (w : World) (hn : n ≤ 100000) (hA : BlsAt w B A n f) :
    Calls Tryd.prog 31 #[.slice A n k, .bool false] w fun e w' => e = .returned (.int .i64 (ixI m n)) ∧ w = w' := by
  have := index_any A n k f false B w hn hA
  rwa [led_f, hm] at this
theorem idx_t {A : Option Addr} {n k : Nat} {f : Nat → Bool} {m : Nat} (hm : led (fun j => !f j) n = m) (B : Nat) (w : World) (hn : n ≤ 100000) (hA : BlsAt w B A n f) :
    Calls Tryd.prog 31 #[.slice A n k, .bool true] w fun e w' => e = .returned (.int .i64 (ixI m n)) ∧ w = w' := by
  have := index_any A n k f true B w hn hA
  rwa [led_t, hm] at this
theorem con_f {A : Option Addr} {n k : Nat} {f : Nat → Bool} {b : Bool} (hm : decide (led f n < n) = b) (B : Nat) (w : World) (hn : n ≤ 100000) (hA : BlsAt w B A n f) :
    Calls Tryd.prog 32 #[.slice A n k, .bool false] w fun e w' => e = .returned (.bool b) ∧ w = w' := by
  have := contains_any A n k f false B w hn hA
  rwa [led_f, hm] at this

set_option maxRecDepth 100000 in
set_option maxHeartbeats 2000000 in
theorem twitness_any (w : World) (h : RArg w w.heap.size c p t q) :
    Calls Tryd.prog 17 #[cv c p, tv t q] w fun e w' => e = .returned (.tuple #[.int .i64 (c.wti t), .int .i64 (c.wte t)]) ∧ Below w.heap.size w w' := by
  have hB0 := ct_b w c p t q
  by_cases hk : c.tck t = 0
  · have hn0 := (Cr.tck_ok hk).2.1
    have hn1 := (Cr.tck_ok hk).2.2.1
    obtain ⟨m, hm⟩ : ∃ m, t.ni = m + 1 := ⟨t.ni - 1, by omega⟩
    obtain ⟨N, hN⟩ : ∃ N, N = m + 1 := ⟨_, rfl⟩
    rw [← hN] at hm
    obtain ⟨b, hb⟩ : ∃ b, c.ff t m = b := ⟨_, rfl⟩
    have hle := Cr.ff_le c t m
    have hl : led (fun j => !c.bf t m j) c.nb = b := by rw [← hb]; rfl
    have e2 : (N : Int) - 1 = (m : Int) := by omega
    have g1 := h.hs.nb
    obtain ⟨x, hx⟩ : ∃ x, decide (led (c.hf t) N < N) = x := ⟨_, rfl⟩
    have hx2 : decide (c.alw t < t.ni) = x := by rw [← hx, hm]; unfold Cr.alw; rw [hm]
    have hw : c.shw t = if x = true ∨ b = c.nb then -1 else (b : Int) := by
      unfold Cr.shw
      have : t.ni - 1 = m := by omega
      rw [this, hb]
      have : (c.alw t < t.ni) ↔ x = true := by rw [← hx2]; simp
      simp only [this]
    rw [hb] at hle
    have hmN : (m : Int) < (N : Int) := by omega
    have hm0 : (0 : Int) ≤ (m : Int) := by omega
    have hm9 : (m : Int) ≤ 100 := by omega
    have HK := Lib.hid hk
    have HM := Lib.hid hm
    have HL := Lib.hid hl
    have HX := Lib.hid hx
    have HW := Lib.hid hw
    have HNN := Lib.hid (show 0 < N ∧ m < N ∧ N ≤ 100 by omega)
    clear hk hm hl hx hx2 hw hb hN hn0 hn1
    by_cases hb : b < c.nb
    · have e3 : (0 : Int) ≤ (b : Int) := by omega
      have HI := Lib.hid (show ixI b c.nb = (b : Int) from if_pos hb)
      have hbn : ¬ b = c.nb := by omega
      cases x
      · have HR1 := Lib.hid (show c.wti t = b by simp [Cr.wti, HW.out, HK.out, hbn])
        have HR2 := Lib.hid (show c.wte t = 0 by simp [Cr.wte, HW.out, HK.out, hbn])
        rw [HR1.out, HR2.out]
        clear hbn hb
        go_enter Tryd.func17, Tryd.ntmps17
        go_wp2_with (first
          | (go_at_call 30; (with_reducible refine (tprops_yes HK.out HM.out _ (h.to (ct_b w c p t q) (ct_z w c p t q))).mono ?_); rintro e w1 ⟨A, k, A', k', rfl, hi1, hi2, hb1⟩; obtain ⟨hB1, hA1, hT1, hz1⟩ := ct_k hb1; obtain ⟨a2, rfl, ha2, hr2⟩ := hi2 HNN.out.1; obtain ⟨A5, k5, y0, hy, _⟩ := hr2 m HNN.out.2.1)
          | (go_at_call 31; (with_reducible refine (idx_t HL.out w1.heap.size w1 (by omega) hy).mono ?_); rw [HI.out]; rintro e w2 ⟨rfl, rfl⟩)
          | (go_at_call 32; (with_reducible refine (con_f HX.out w1.heap.size w1 (by have := HNN.out; omega) hi1).mono ?_); rintro e w2 ⟨rfl, rfl⟩))
        go_ret2
        exact ⟨rfl, hB1⟩
      · have HR1 := Lib.hid (show c.wti t = 0 by simp [Cr.wti, HW.out, HK.out])
        have HR2 := Lib.hid (show c.wte t = 57 by simp [Cr.wte, HW.out, HK.out])
        rw [HR1.out, HR2.out]
        clear hbn hb
        go_enter Tryd.func17, Tryd.ntmps17
        go_wp2_with (first
          | (go_at_call 30; (with_reducible refine (tprops_yes HK.out HM.out _ (h.to (ct_b w c p t q) (ct_z w c p t q))).mono ?_); rintro e w1 ⟨A, k, A', k', rfl, hi1, hi2, hb1⟩; obtain ⟨hB1, hA1, hT1, hz1⟩ := ct_k hb1; obtain ⟨a2, rfl, ha2, hr2⟩ := hi2 HNN.out.1; obtain ⟨A5, k5, y0, hy, _⟩ := hr2 m HNN.out.2.1)
          | (go_at_call 31; (with_reducible refine (idx_t HL.out w1.heap.size w1 (by omega) hy).mono ?_); rw [HI.out]; rintro e w2 ⟨rfl, rfl⟩)
          | (go_at_call 32; (with_reducible refine (con_f HX.out w1.heap.size w1 (by have := HNN.out; omega) hi1).mono ?_); rintro e w2 ⟨rfl, rfl⟩))
        go_ret2
        exact ⟨rfl, hB1⟩
    · obtain rfl : b = c.nb := by omega
      have HI := Lib.hid (show ixI c.nb c.nb = -1 from if_neg (by omega))
      have HR1 := Lib.hid (show c.wti t = 0 by simp [Cr.wti, HW.out, HK.out])
      have HR2 := Lib.hid (show c.wte t = 57 by simp [Cr.wte, HW.out, HK.out])
      rw [HR1.out, HR2.out]
      clear hb hle
      go_enter Tryd.func17, Tryd.ntmps17
      go_wp2_with (first
        | (go_at_call 30; (with_reducible refine (tprops_yes HK.out HM.out _ (h.to (ct_b w c p t q) (ct_z w c p t q))).mono ?_); rintro e w1 ⟨A, k, A', k', rfl, hi1, hi2, hb1⟩; obtain ⟨hB1, hA1, hT1, hz1⟩ := ct_k hb1; obtain ⟨a2, rfl, ha2, hr2⟩ := hi2 HNN.out.1; obtain ⟨A5, k5, y0, hy, _⟩ := hr2 m HNN.out.2.1)
        | (go_at_call 31; (with_reducible refine (idx_t HL.out w1.heap.size w1 (by omega) hy).mono ?_); rw [HI.out]; rintro e w2 ⟨rfl, rfl⟩))
      go_ret2
      exact ⟨rfl, hB1⟩
  · have h1 : (c.tck t != 0) = true := by simpa [bne] using hk
    have HR1 := Lib.hid (show c.wti t = 0 from if_neg fun h => hk h.1)
    have HR2 := Lib.hid (show c.wte t = c.tck t from if_neg hk)
    have HK := Lib.hid hk
    rw [HR1.out, HR2.out]
    clear hk
    go_enter Tryd.func17, Tryd.ntmps17
    go_wp2_with (first
      | (go_at_call 30; (with_reducible refine (tprops_no HK.out _ (h.to (ct_b w c p t q) (ct_z w c p t q))).mono ?_); rintro e w1 ⟨A, k, A', k', rfl, hi1, hi2, hb1⟩; obtain ⟨hB1, hA1, hT1, hz1⟩ := ct_k hb1))
    go_ret2
    exact ⟨rfl, hB1⟩

end

end Go.Proofs.YtbppdifghkkooaaDoor

namespace Go.Proofs.YtbppdifghkkooaaDoor
open Go.RowKit
set_option linter.unusedVariables false

set_option linter.unusedSimpArgs false

/-- a run in memory of its own -/
structure OwnT (w : World) (base : Nat) (t : Tr) (A : Option Addr) (k : Nat) (v : Value) : Prop where
  ex : ∃ lo, base ≤ lo ∧ w.ownsRow base 4 1 (.slice A t.nf k) t.nf (bL t.fi t.nf) ∧ (∀ g, (Value.slice A t.nf k).ownBlock = some g → g < lo) ∧ Grid w lo v t.ni t.ln t.ip none lo
/-- what Twin returns -/
def TwinIs (t : Tr) (w : World) (e : Ending) (w' : World) : Prop :=
  ∃ A k v, e = .returned (.agg #[.slice A t.nf k, v]) ∧ OwnT w' w.heap.size t A k v ∧ Below w.heap.size w w'
theorem OwnT.mem {w : World} {base : Nat} {t : Tr} {A : Option Addr} {k : Nat} {v : Value} (h : OwnT w base t A k v) : ∃ q : Tp, Value.agg #[.slice A t.nf k, v] = tv t q ∧ TMem w w.heap.size t q := by
  obtain ⟨lo, hb, ho, hd, hG⟩ := h.ex
  obtain ⟨A', k', e, hi, hn, hf⟩ := own_bools2 ho
  obtain ⟨A2, k2, rfl, hi2, hn2, hc2, _⟩ := hG.at
  injection e with e1 e2 e3
  subst e1 e3
  exact ⟨⟨A, k, A2, k2⟩, rfl, hi, hi2, hn, hn2, hc2⟩
theorem TwinIs.at {t : Tr} {w w' : World} {e : Ending} (h : TwinIs t w e w') : ∃ q, e = .returned (tv t q) ∧ TMem w' w'.heap.size t q ∧ Below w.heap.size w w' := by
  obtain ⟨A, k, v, rfl, ho, hb⟩ := h
  obtain ⟨q, e, hm⟩ := ho.mem
  exact ⟨q, by rw [e], hm, hb⟩
/-- the same, with less said of where -/
theorem Grid.weak {w : World} {base base' : Nat} {v : Value} {n : Nat} {L : Nat → Nat} {f : Nat → Nat → Bool} {D : Option Nat} {lo lo' : Nat} (h : Grid w base v n L f D lo) (h1 : base' ≤ base) (h2 : lo' ≤ lo) : Grid w base' v n L f none lo' := by
  obtain ⟨xs, ho, hc⟩ := h.ex
  refine ⟨⟨xs, own_base ho h1, fun j hj => ?_⟩⟩
  obtain ⟨A, k, e1, e2, e3, e4⟩ := hc j hj
  exact ⟨A, k, e1, e2, e3, fun hn a ha => ⟨(e4 hn a ha).1, by simp, Nat.le_trans h2 (e4 hn a ha).2.2⟩⟩
theorem grown_set (w : World) (g j : Nat) (u : Value) : w.grownBy (w.setCell ⟨g, j, none⟩ u) (some g) := ⟨rfl, rfl, rfl, by simp, fun k hk hne => Below.heap_setCell w ⟨g, j, none⟩ u k (fun e => hne (by rw [e]))⟩

/-- a run in memory from a block on -/
structure TNew (w : World) (base : Nat) (t : Tr) (q : Tp) : Prop where
  fi : BlsAt w w.heap.size q.A1 t.nf t.fi
  n1 : q.A1 = none → t.nf = 0 ∧ q.k1 = 0
  l1 : ∀ a, q.A1 = some a → base ≤ a.block
  ip : Grid w base (.slice q.A2 t.ni q.k2) t.ni t.ln t.ip none base
theorem TNew.mem {w : World} {base : Nat} {t : Tr} {q : Tp} (h : TNew w base t q) : TMem w w.heap.size t q := by
  obtain ⟨A2, k2, e, hi2, hn2, hc2, _⟩ := h.ip.at
  injection e with e1 e2 e3
  subst e3
  rw [← e1] at hi2 hn2
  exact ⟨h.fi, hi2, h.n1, hn2, hc2⟩
theorem TNew.set {w : World} {base : Nat} {t : Tr} {q : Tp} (h : TNew w base t q) {x : Nat} (hx : x < base) (j : Nat) (u : Value) : TNew (w.setCell ⟨x, j, none⟩ u) base t q :=
  ⟨h.fi.by (grown_set w x j u) (fun _ a ha e => by have := h.l1 a ha; injection e with e; omega), h.n1, h.l1, h.ip.under (grown_set w x j u) hx hx⟩
/-- a run that a call returns -/
def RunIs (t : Tr) (w : World) (e : Ending) (w' : World) : Prop := ∃ q, e = .returned (tv t q) ∧ TNew w' w.heap.size t q ∧ Below w.heap.size w w'
theorem TwinIs.run {t : Tr} {w w' : World} {e : Ending} (h : TwinIs t w e w') : RunIs t w e w' := by
  obtain ⟨A, k, v, rfl, ho, hb⟩ := h
  obtain ⟨lo, hl, ho, hd, hG⟩ := ho.ex
  obtain ⟨A', k', e, hi, hn, hf⟩ := own_bools2 ho
  obtain ⟨A2, k2, rfl, _⟩ := hG.at
  injection e with e1 e2 e3
  subst e1 e3
  exact ⟨⟨A, k, A2, k2⟩, rfl, ⟨hi, hn, hf, hG.weak hl hl⟩, hb⟩

abbrev zt : Array Value := #[.slice none 0 0, .slice none 0 0]
section
variable {t : Tr} {q : Tp}

set_option maxRecDepth 100000 in
set_option maxHeartbeats 4000000 in
theorem twin6_any (w : World) (ht : TMem w w.heap.size t q) (hts : TSm t) : Calls Tryd.prog 6 #[tv t q] w (TwinIs t w) := by
  have n1 := hts.nf
  have n2 := hts.ni
  have HLn := Lib.hid hts.ln
  have hip := ht.ip
  have hfi := ht.fi
  have hnil := ht.n1
  obtain ⟨nf, fi, ni, ln, ip⟩ := t
  obtain ⟨A1, k1, A2, k2⟩ := q
  dsimp only at n1 n2 HLn hip hfi hnil
  have HX0 : Hid (Has (((w.alloc (.cells #[.slice A1 nf k1, .slice A2 ni k2] 30)).alloc (.cells #[.slice none 0 0, .slice none 0 0] 30)).alloc (.cells #[] 4)) (w.heap.size + 1 + 1) 4 #[]) := Has.new' _ _ (by simp)
  have hB0 : Below w.heap.size w (((w.alloc (.cells #[.slice A1 nf k1, .slice A2 ni k2] 30)).alloc (.cells #[.slice none 0 0, .slice none 0 0] 30)).alloc (.cells #[] 4)) := (((Below.refl _ _).alloc (Nat.le_refl _) _).alloc (by simp) _).alloc (by simp; omega) _
  have hT0 : Has (((w.alloc (.cells #[.slice A1 nf k1, .slice A2 ni k2] 30)).alloc (.cells #[.slice none 0 0, .slice none 0 0] 30)).alloc (.cells #[] 4)) w.heap.size 30 #[.slice A1 nf k1, .slice A2 ni k2] := ((Has.new w 30 #[.slice A1 nf k1, .slice A2 ni k2]).al _).al _
  have hZ0 : Has (((w.alloc (.cells #[.slice A1 nf k1, .slice A2 ni k2] 30)).alloc (.cells #[.slice none 0 0, .slice none 0 0] 30)).alloc (.cells #[] 4)) (w.heap.size + 1) 30 #[.slice none 0 0, .slice none 0 0] := (Has.new' _ _ (by simp)).al _
  go_enter Tryd.func6, Tryd.ntmps6
  go_wp2_with (first
    | (at_builtin; (refine append_new rfl (.tmp 5) (.tmp 7) rfl (w.heap.size + 1 + 1) rfl HX0.out A1 nf k1 fi rfl (hfi.to hB0 hB0.size) hnil (by omega) ?_); intro A k w2 hi2 hn2 hf2 hg2 ho2; have hT2 := hT0.grow hg2 (by omega); have hZ2 := hZ0.grow hg2 (by omega); have hB2 := hB0.grown hg2 hB0.size (fun k hk => by cases hk; omega)))
  have hX3 : Has (w2.alloc (.cells #[.slice A nf k, .slice none 0 0] 30)) w2.heap.size 30 #[.slice A nf k, .slice none 0 0] := Has.new _ _ _
  have hT3 := hT2.al (.cells #[.slice A nf k, .slice none 0 0] 30)
  have hZ3 := hZ2.al (.cells #[.slice A nf k, .slice none 0 0] 30)
  have hB3 := hB2.alloc hB2.size (.cells #[.slice A nf k, .slice none 0 0] 30)
  have hO3 := own_by ho2 (grown_al w2 (.cells #[.slice A nf k, .slice none 0 0] 30)) (Or.inl rfl)
  have hO3b : ∀ g, (Value.slice A nf k).ownBlock = some g → w.heap.size + 1 + 1 ≤ g ∧ g < w2.heap.size := fun g hg => own_in ho2 hg
  have hz2 := hZ2.lt
  have hz3 : w2.heap.size < (w2.alloc (.cells #[.slice A nf k, .slice none 0 0] 30)).heap.size := by simp
  obtain ⟨W3, hW3⟩ : ∃ W3, w2.alloc (.cells #[.slice A nf k, .slice none 0 0] 30) = W3 := ⟨_, rfl⟩
  rw [hW3] at hX3 hT3 hZ3 hB3 hO3 hz3 ⊢
  clear hW3 hT2 hZ2 hB2 ho2 hi2 hg2 hf2 hT0 hZ0 hB0
  go_loopw [4] (fun i wr => ∃ r : Nat, ∃ v, r ≤ ni ∧ i = .int .i64 r ∧ Has wr w2.heap.size 30 #[.slice A nf k, v] ∧ Grid wr (w2.heap.size + 1) v r ln ip (some w2.heap.size) (w2.heap.size + 1) ∧ Below w2.heap.size W3 wr) (fun i _ => ni - (intOf i).toNat)
  case atStart => exact ⟨0, _, Nat.zero_le _, rfl, hX3, Grid.nil _ _ _ _ _, Below.refl _ _⟩
  case round =>
    obtain ⟨r, v, hr, rfl, hX, hG, hB3r⟩ := hrel
    have hBr : Below w.heap.size w wr := hB3.trans (hB3r.mono (by omega))
    have hT := hT3.keep hB3r (by omega)
    have hZ := hZ3.keep hB3r (by omega)
    have x1 : wr.cell? ⟨w.heap.size, 1, none⟩ = some (.slice A2 ni k2) := hT.cell 1
    have x2 : wr.cell? ⟨w2.heap.size, 1, none⟩ = some v := hX.cell 1
    have hXl := hX.lt
    by_cases hlt : r < ni
    · obtain ⟨a2, hA2, ha2, hr2⟩ := (hip.keep hBr) (by omega)
      obtain ⟨A', k', y0, hy, hyn⟩ := hr2 r hlt
      have hy := hy.more hBr.size
      rw [hA2] at x1
      have HA2 := Lib.hid hA2
      have hlr := HLn.out r hlt
      have hq0 : (0 : Int) ≤ (r : Int) := by omega
      have hq1 : (r : Int) < (ni : Int) := by omega
      have hS0 : wr.drew.cell? ⟨w2.heap.size, 1, none⟩ = some v ∧ wr.drew.cell? ⟨w.heap.size, 1, none⟩ = some (.slice (some a2) ni k2) ∧ wr.drew.cell? (a2.add r) = some (.slice A' (ln r) k') := ⟨x2, x1, y0⟩
      have HS1 := Lib.hid hS0
      have hGd : Grid wr.drew (w2.heap.size + 1) v r ln ip (some w2.heap.size) (w2.heap.size + 1) := ⟨hG.ex⟩
      have hXd : Has wr.drew w2.heap.size 30 #[.slice A nf k, v] := hX
      have hTd : Has wr.drew w.heap.size 30 #[.slice A1 nf k1, .slice A2 ni k2] := hT
      have hBd : Below w2.heap.size W3 wr.drew := below_dn hB3r 1
      have hyd : BlsAt (wr.drew.alloc (.cells #[] 4)) (wr.drew.alloc (.cells #[] 4)).heap.size A' (ln r) (ip r) := (show BlsAt wr.drew wr.drew.heap.size A' (ln r) (ip r) from hy).to ((Below.refl _ _).alloc (Nat.le_refl _) _) (by simp)
      clear hr2 hA2 hy
      go_wp2
      refine wp_region_T (fun w' => w'.cell? ⟨w2.heap.size, 1, none⟩ = some v ∧ w'.cell? ⟨w.heap.size, 1, none⟩ = some (.slice (some a2) ni k2) ∧ w'.cell? (a2.add r) = some (.slice A' (ln r) k')) 12 (by kernel_rfl) ?_
      (refine wpT_take 0 (v := ?_) rfl (by kernel_rfl) (by kernel_rfl) (by kernel_rfl) (by kernel_rfl) (fun _ _ _ h => h) rfl hS0 (fun w hS => ?_) ?_; rotate_left; focus (obtain ⟨j0, j1, j2⟩ := hS; go_simp; rfl)); (refine wpT_take 1 (v := ?_) rfl (by kernel_rfl) (by kernel_rfl) (by kernel_rfl) (by kernel_rfl) (fun _ _ _ h => h) rfl hS0 (fun w hS => ?_) ?_; rotate_left; focus (obtain ⟨j0, j1, j2⟩ := hS; go_simp; rfl)); (refine wpT_take 3 (v := ?_) rfl (by kernel_rfl) (by kernel_rfl) (by kernel_rfl) (by kernel_rfl) (fun _ _ _ h => h) rfl hS0 (fun w hS => ?_) ?_; rotate_left; focus (obtain ⟨j0, j1, j2⟩ := hS; go_simp; rfl)); (refine wpT_take 4 (v := ?_) rfl (by kernel_rfl) (by kernel_rfl) (by kernel_rfl) (by kernel_rfl) (fun _ _ _ h => h) rfl hS0 (fun w hS => ?_) ?_; rotate_left; focus (obtain ⟨j0, j1, j2⟩ := hS; go_simp; rfl)); (refine wpT_take 5 (v := ?_) rfl (by kernel_rfl) (by kernel_rfl) (by kernel_rfl) (by kernel_rfl) (fun _ _ _ h => h) rfl hS0 (fun w hS => ?_) ?_; rotate_left; focus (obtain ⟨j0, j1, j2⟩ := hS; go_simp; rfl)); (refine wpT_take 6 (v := ?_) rfl (by kernel_rfl) (by kernel_rfl) (by kernel_rfl) (by kernel_rfl) (fun _ _ _ h => h) rfl hS0 (fun w hS => ?_) ?_; rotate_left; focus (obtain ⟨j0, j1, j2⟩ := hS; go_simp; rfl)); (refine wpT_take 7 (v := ?_) rfl (by kernel_rfl) (by kernel_rfl) (by kernel_rfl) (by kernel_rfl) (fun _ _ _ h => h) rfl hS0 (fun w hS => ?_) ?_; rotate_left; focus (obtain ⟨j0, j1, j2⟩ := hS; go_simp; rfl))
      refine wpT_one 2 (by kernel_rfl) (wpOp_go rfl rfl fun K hK => ?_)
      go_simp
      refine hK _ _ ⟨fun _ => ⟨ca hS0.1 _, ca hS0.2.1 _, ca hS0.2.2 _⟩, ?_⟩
      refine wpT_one 8 (by kernel_rfl) (wpOp_go rfl rfl fun K hK => ?_)
      refine wp_append_new _ _ (by rfl) wr.drew.heap.size (by rfl) (Has.new' _ _ rfl) A' (ln r) k' (ip r) (by rfl) hyd hyn (by omega) ?_
      intro A6 k6 w6 hi6 hn6 hf6 hg6 _
      have hb6 : Below wr.drew.heap.size wr.drew w6 := ((Below.refl _ _).alloc (Nat.le_refl _) _).grown hg6 (by simp) (fun k hk => by cases hk; exact Nat.le_refl _)
      have hS6 : w6.cell? ⟨w2.heap.size, 1, none⟩ = some v ∧ w6.cell? ⟨w.heap.size, 1, none⟩ = some (.slice (some a2) ni k2) ∧ w6.cell? (a2.add r) = some (.slice A' (ln r) k') := ⟨(hb6.cell (cell_lt HS1.out.1)).trans HS1.out.1, (hb6.cell (cell_lt HS1.out.2.1)).trans HS1.out.2.1, (hb6.cell (cell_lt HS1.out.2.2)).trans HS1.out.2.2⟩
      have hG6 := hGd.call hb6
      have hX6 := hXd.keep hb6 hXd.lt
      have hT6 := hTd.keep hb6 hTd.lt
      have hB6 := hBd.trans (hb6.mono (by have : w2.heap.size < wr.drew.heap.size := hXd.lt; omega))
      have hap := hGd.apart (m := ln r) hf6 (E := some w2.heap.size) (fun g hg => by cases hg; exact hXd.lt)
      refine hK _ _ ⟨fun _ => hS6, ?_⟩
      refine wpT_one 9 (by kernel_rfl) (wpOp_go rfl rfl fun K hK => ?_)
      go_simp
      refine hK _ _ ⟨fun _ => ⟨ca hS6.1 _, ca hS6.2.1 _, ca hS6.2.2 _⟩, ?_⟩
      refine wpT_one 10 (by kernel_rfl) (wpOp_go rfl rfl fun K hK => ?_)
      have hl6 := hX6.lt
      refine wp_append_row _ _ (by rfl) (w2.heap.size + 1) v r ln ip (some w2.heap.size) (by rfl) (hG6.al _) w6.heap.size 1 A6 k6 (by rfl) ((Has.new w6 27 #[.slice A6 (ln r) k6]).cell 0) (hi6.to ((Below.refl _ _).alloc (Nat.le_refl _) _) (by simp)) hn6 hap (by omega) (by simp; omega) ?_ (fun _ a ha => by have := hf6 a ha; have : w2.heap.size < wr.drew.heap.size := hXd.lt; omega)
      intro g8 k8 w8 hG8 hg8 hl8 hkp8
      have hX8 := (hG6.al (.cells #[.slice A6 (ln r) k6] 27)).has (hX6.al _) hg8 (by omega)
      have hT8 := (hG6.al (.cells #[.slice A6 (ln r) k6] 27)).has (hT6.al _) hg8 (by omega)
      have hB8 := (hG6.al (.cells #[.slice A6 (ln r) k6] 27)).below (hB6.alloc (by omega) _) (by simp; omega) (by omega) hg8
      have y8 : w8.cell? ⟨w2.heap.size, 1, none⟩ = some v := hX8.cell 1
      have yf8 : w8.frozen? ⟨w2.heap.size, 1, none⟩ = false := hX8.fz 1
      have hS8 : w8.cell? ⟨w2.heap.size, 1, none⟩ = some v ∧ w8.cell? ⟨w.heap.size, 1, none⟩ = some (.slice (some a2) ni k2) ∧ w8.cell? (a2.add r) = some (.slice A' (ln r) k') := ⟨y8, by rw [← HA2.out]; exact hT8.cell 1, (hg8.cell_far _ (by rw [add_block]; have := hB6.size; simp; omega) (by rw [add_block]; intro e; have := (hGd.lt e.symm).1; omega)).trans (ca hS6.2.2 _)⟩
      refine hK _ _ ⟨fun _ => hS8, ?_⟩
      refine wpT_one 11 (by kernel_rfl) (wpOp_go rfl rfl fun K hK => ?_)
      go_simp
      refine hK _ _ ⟨fun _ => hS8, ?_⟩
      refine wpT_one 12 (by kernel_rfl) (wpOp_go rfl rfl fun K hK => ?_)
      go_simp
      refine hK _ _ ⟨fun h => absurd h (by decide), ?_⟩
      refine wpT_done (by kernel_rfl) (NoPanic.normal ?_) _
      go_wp2
      go_roundw
      case rel => exact ⟨r + 1, _, by omega, by go_num, hX8.set 1 _, hG8.far (grown_set w8 w2.heap.size 1 _) (Or.inr rfl) (Or.inr fun e => by have := (hG8.lt e).1; omega) (Or.inl rfl), hB8.setCell (Nat.le_refl _) _⟩
      case measure => simp [intOf]; omega
    · obtain rfl : r = ni := by omega
      have x0 : wr.cell? ⟨w2.heap.size, 0, none⟩ = some (.slice A nf k) := hX.cell 0
      have z0 : wr.cell? ⟨w.heap.size + 1, 0, none⟩ = some (.slice none 0 0) := hZ.cell 0
      have z1 : wr.cell? ⟨w.heap.size + 1, 1, none⟩ = some (.slice none 0 0) := hZ.cell 1
      have f0 := hZ.fz 0
      have f1 := hZ.fz 1
      obtain ⟨A5, k5, rfl, hi5, hn5, hc5, hl5⟩ := hG.at
      clear hr hlt
      go_wp2
      refine bodyPost_ret (v := .agg #[.slice A nf k, .slice A5 r k5]) (by simp [results, Tryd.results6, go_sem, z0, z1]) rfl ⟨A, k, .slice A5 r k5, rfl, ⟨w2.heap.size + 1, by omega, ?_, fun g hg => by have := hO3b g hg; omega, ?_⟩, (hBr.setCell (by simp) _).setCell (by simp) _⟩
      · have hne : (Value.slice A nf k).ownBlock ≠ some (w.heap.size + 1) := fun e => by have := hO3b _ e; omega
        exact own_by (own_by (own_base (own_under hO3 hB3r fun g hg => (hO3b g hg).2) (by omega)) (grown_set wr (w.heap.size + 1) 0 _) (Or.inr hne)) (grown_set _ (w.heap.size + 1) 1 _) (Or.inr hne)
      · exact (hG.under (grown_set wr (w.heap.size + 1) 0 _) (by omega) (by omega)).under (grown_set _ (w.heap.size + 1) 1 _) (by omega) (by omega)

end

end Go.Proofs.YtbppdifghkkooaaDoor

namespace Go.Proofs.YtbppdifghkkooaaDoor
open Go.RowKit
set_option linter.unusedVariables false

set_option linter.unusedSimpArgs false

section
variable {t : Tr} {q : Tp}

end

end Go.Proofs.YtbppdifghkkooaaDoor

namespace Go.Proofs.YtbppdifghkkooaaDoor
open Go.RowKit
set_option linter.unusedVariables false

set_option linter.unusedSimpArgs false

/-- the run of nothing -/
def z0T : Tr := ⟨0, fun _ => false, 0, fun _ => 0, fun _ _ => false⟩
theorem z0T_mem (w : World) (B : Nat) : TMem w B z0T ⟨none, 0, none, 0⟩ := ⟨fun h => absurd h (Nat.not_lt_zero _), fun h => absurd h (Nat.not_lt_zero _), fun _ => ⟨rfl, rfl⟩, fun _ => ⟨rfl, rfl⟩, Nat.le_refl _, Nat.zero_le _⟩
/-- what Cut returns -/
def Cr.cutT (c : Cr) (t : Tr) : Tr := if c.tck t = 0 ∧ 0 < c.cun t then t.cut (c.cun t) else z0T
def Cr.cutE (c : Cr) (t : Tr) : Int := if c.tck t = 0 then (if 0 < c.cun t then 0 else 6) else c.tck t
def CutIs (u : Tr) (x : Int) (w : World) (e : Ending) (w' : World) : Prop := ∃ q, e = .returned (.tuple #[tv u q, .int .i64 x]) ∧ TMem w' w'.heap.size u q ∧ Below w.heap.size w w'

/-- the three boxes of Cut -/
abbrev ct3 (w : World) (c : Cr) (p : Pl) (t : Tr) (q : Tp) : World := (ctW w c p t q).alloc (.cells #[.slice none 0 0, .slice none 0 0] 30)
theorem ct3_b (w : World) (c : Cr) (p : Pl) (t : Tr) (q : Tp) : Below w.heap.size w (ct3 w c p t q) := (ct_b w c p t q).alloc (ct_z w c p t q) _
theorem ct3_z (w : World) (c : Cr) (p : Pl) (t : Tr) (q : Tp) : w.heap.size ≤ (ct3 w c p t q).heap.size := (ct3_b w c p t q).size
theorem ct3_k {w w1 : World} {c : Cr} {p : Pl} {t : Tr} {q : Tp} (hb : Below (ct3 w c p t q).heap.size (ct3 w c p t q) w1) : Below w.heap.size w w1 ∧ Has w1 w.heap.size 26 (cc c p) ∧ Has w1 (w.heap.size + 1) 30 (tcs t q) ∧ Has w1 (w.heap.size + 1 + 1) 30 #[.slice none 0 0, .slice none 0 0] ∧ w.heap.size + 1 + 1 < w1.heap.size := by
  have h0 := (ct_c w c p t q).al (.cells #[.slice none 0 0, .slice none 0 0] 30)
  have h1 := (ct_t w c p t q).al (.cells #[.slice none 0 0, .slice none 0 0] 30)
  have h2 : Has (ct3 w c p t q) (w.heap.size + 1 + 1) 30 #[.slice none 0 0, .slice none 0 0] := Has.new' _ _ (by simp)
  exact ⟨Below.step (ct3_b w c p t q) (ct3_z w c p t q) hb, h0.keep hb h0.lt, h1.keep hb h1.lt, h2.keep hb h2.lt, (h2.keep hb h2.lt).lt⟩
theorem below_set2 {B : Nat} {w w1 : World} (h : Below B w w1) {x : Nat} (hx : B ≤ x) (u v : Value) : Below B w ((w1.setCell ⟨x, 0, none⟩ u).setCell ⟨x, 1, none⟩ v) := (h.setCell (by simpa using hx) _).setCell (by simpa using hx) _

section
variable {c : Cr} {p : Pl} {t : Tr} {q : Tp}

end

end Go.Proofs.YtbppdifghkkooaaDoor
