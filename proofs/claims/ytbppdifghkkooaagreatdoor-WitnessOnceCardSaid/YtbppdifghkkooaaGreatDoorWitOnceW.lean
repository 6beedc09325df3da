/- The statement WitnessOnce's walk. -/
import Derived.Test.YtbppdifghkkooaaGreatDoorWitAlive
import Derived.Test.YtbppdifghkkooaaGreatDoorTraceRef4
namespace Go.Proofs.YtbppdifghkkooaaGreatDoor
open Go Go.RowKit
set_option linter.unusedVariables false
set_option linter.unusedSimpArgs false

/-- a circuit's box and two runs', in a later world -/
structure Bw3 (w wk : World) (c : Cr) (p : Pl) (t : Tr) (q : Tp) (u : Tr) (r : Tp) : Prop where
  b : Below w.heap.size w wk
  c : Has wk w.heap.size 34 (cc c p)
  t : Has wk (w.heap.size + 1) 47 (tcs t q)
  u : Has wk (w.heap.size + 1 + 1) 47 (tcs u r)
abbrev ct3w (w : World) (c : Cr) (p : Pl) (t : Tr) (q : Tp) (u : Tr) (r : Tp) : World := (ctW w c p t q).alloc (.cells #[.slice r.A1 u.nf r.k1, .slice r.A2 u.ni r.k2] 47)
theorem Bw3.new (w : World) (c : Cr) (p : Pl) (t : Tr) (q : Tp) (u : Tr) (r : Tp) : Bw3 w (ct3w w c p t q u r) c p t q u r := ⟨(ct_b w c p t q).alloc (ct_z w c p t q) _, (ct_c w c p t q).al _, (ct_t w c p t q).al _, Has.new' _ _ (by simp)⟩
theorem Bw3.call {w wk wl : World} {c : Cr} {p : Pl} {t u : Tr} {q r : Tp} (h : Bw3 w wk c p t q u r) (hb : Below wk.heap.size wk wl) : Bw3 w wl c p t q u r := ⟨Below.step h.b h.b.size hb, h.c.keep hb h.c.lt, h.t.keep hb h.t.lt, h.u.keep hb h.u.lt⟩
theorem Bw3.cells {w wk : World} {c : Cr} {p : Pl} {t u : Tr} {q r : Tp} (h : Bw3 w wk c p t q u r) :
    wk.cell? ⟨w.heap.size, 0, none⟩ = some (.int .i64 c.i) ∧ wk.cell? ⟨w.heap.size, 1, none⟩ = some (.slice p.A1 c.nl p.k1) ∧ wk.cell? ⟨w.heap.size, 2, none⟩ = some (.slice p.A2 c.na p.k2) ∧ wk.cell? ⟨w.heap.size, 3, none⟩ = some (.slice p.A3 c.nb p.k3) ∧ wk.cell? ⟨w.heap.size, 4, none⟩ = some (.slice p.A4 c.nc p.k4) ∧
    wk.cell? ⟨w.heap.size + 1, 0, none⟩ = some (.slice q.A1 t.nf q.k1) ∧ wk.cell? ⟨w.heap.size + 1, 1, none⟩ = some (.slice q.A2 t.ni q.k2) ∧ wk.cell? ⟨w.heap.size + 1 + 1, 0, none⟩ = some (.slice r.A1 u.nf r.k1) ∧ wk.cell? ⟨w.heap.size + 1 + 1, 1, none⟩ = some (.slice r.A2 u.ni r.k2) ∧ w.heap.size + 1 + 1 < wk.heap.size :=
  ⟨h.c.cell 0, h.c.cell 1, h.c.cell 2, h.c.cell 3, h.c.cell 4, h.t.cell 0, h.t.cell 1, h.u.cell 0, h.u.cell 1, h.u.lt⟩

set_option maxRecDepth 100000 in
set_option maxHeartbeats 8000000 in
theorem wonce_walk (c0 : Cr) (p0 : Pl) (t1 : Tr) (q1 : Tp) (t2 : Tr) (q2 : Tp) (a3 a4 : Int) (w : World) (hm0 : Mem w w.heap.size c0 p0) (hN0 : Nils c0 p0) (hv0 : Vals c0) (hC0 : Caps c0 p0) (ht1 : TMem w w.heap.size t1 q1) (ht2 : TMem w w.heap.size t2 q2) (w3 : (Lit.int .i64 a3).wf = true) (w4 : (Lit.int .i64 a4).wf = true) (henv : EnvW w.heap.size w) :
    Calls Tryz.prog 9 #[cv c0 p0, tv t1 q1, tv t2 q2, .int .i64 a3, .int .i64 a4] w fun e w' => e = .returned (.bool true) ∧ Below w.heap.size w w' := by
  have hi3 := i64_of w3
  have hi4 := i64_of w4
  have AL : Hid (∀ W, Below w.heap.size w W → Calls Tryz.prog 20 #[] W fun e w' => e = .returned (.bool true) ∧ Below W.heap.size W w') := Lib.hid fun W hb => alive11_any w.heap.size W (henv.on hb) hb.size
  have DG := Lib.hid (rGreat_any c0 p0 (ct3w w c0 p0 t1 q1 t2 q2))
  have DG1 : Hid (∀ W, Below w.heap.size w W → Calls Tryz.prog 25 #[tv t1 q1] W fun e w' => e = .returned (.bool t1.gr) ∧ Below W.heap.size W w') := Lib.hid fun W hb => rGreat6_any W (ht1.to hb hb.size)
  have DG2 : Hid (∀ W, Below w.heap.size w W → Calls Tryz.prog 25 #[tv t2 q2] W fun e w' => e = .returned (.bool t2.gr) ∧ Below W.heap.size W w') := Lib.hid fun W hb => rGreat6_any W (ht2.to hb hb.size)
  have HX0 := Lib.hid (Bw3.new w c0 p0 t1 q1 t2 q2)
  cases hg : c0.gr
  · have hgr := Cr.gr_no hg
    have hs : Sm c0 := hv0.sm (by omega) (by omega) (by omega) (by omega)
    rw [hg] at DG
    cases hg1 : t1.gr
    · have hts1 := Tr.gr_no hg1
      rw [hg1] at DG1
      cases hg2 : t2.gr
      · have hts2 := Tr.gr_no hg2
        rw [hg2] at DG2
        obtain ⟨x, hx⟩ : ∃ x, x = c0.wck t1 a3 := ⟨_, rfl⟩
        obtain ⟨y, hy⟩ : ∃ y, y = c0.wck t2 a4 := ⟨_, rfl⟩
        obtain ⟨S1, hS1⟩ : ∃ S, S = str (c0.wrW t1 a3) := ⟨_, rfl⟩
        obtain ⟨S2, hS2⟩ : ∃ S, S = str (c0.wrW t2 a4) := ⟨_, rfl⟩
        have DW1 : Hid (∀ W, Below w.heap.size w W → Calls Tryz.prog 16 #[cv c0 p0, tv t1 q1, .int .i64 a3] W fun e w' => e = .returned (.tuple #[.string S1, .int .i64 x]) ∧ Below W.heap.size W w') := Lib.hid fun W hb => by
          rw [hx, hS1]
          exact wWrite_any a3 hi3 W ⟨hm0.to hb hb.size, hs, ht1.to hb hb.size, hts1⟩ hC0.bd
        have DW2 : Hid (∀ W, Below w.heap.size w W → Calls Tryz.prog 16 #[cv c0 p0, tv t2 q2, .int .i64 a4] W fun e w' => e = .returned (.tuple #[.string S2, .int .i64 y]) ∧ Below W.heap.size W w') := Lib.hid fun W hb => by
          rw [hy, hS2]
          exact wWrite_any a4 hi4 W ⟨hm0.to hb hb.size, hs, ht2.to hb hb.size, hts2⟩ hC0.bd
        have HS : Hid (x = 0 → y = 0 → (S1.toList == S2.toList) = (decide (a3 = a4) && samT t1 t2)) := Lib.hid fun h1 h2 => by
          have k1 : c0.wck t1 a3 = 0 := hx.symm.trans h1
          have k2 : c0.wck t2 a4 = 0 := hy.symm.trans h2
          have h := wtx_same k1 k2 hs.nb
          rw [hS1, hS2, str_list, str_list]
          unfold Cr.wrW
          rw [if_pos k1, if_pos k2, Bool.eq_iff_iff, Bool.and_eq_true, decide_eq_true_eq]
          exact beq_iff_eq.trans h
        obtain ⟨sm, hsm⟩ : ∃ sm, samT t1 t2 = sm := ⟨_, rfl⟩
        rw [hsm] at HS
        have HT := Lib.hid (And.intro ht1 (And.intro hts1 (And.intro ht2 (And.intro hts2 hsm))))
        have hz0 : ((0 : Int) != 0) = false := by decide
        by_cases h0 : x = 0
        · by_cases h1 : y = 0
          · have HE := Lib.hid (HS.out h0 h1)
            have e0 : (x != 0) = false := by simpa using h0
            have e1 : (y != 0) = false := by simpa using h1
            clear HS hg hm0 hN0 hv0 hC0 ht1 ht2 henv w3 w4 hi3 hi4 hs hgr hts1 hts2 hg1 hg2 hx hy hS1 hS2 hsm h0 h1
            by_cases h2 : a3 = a4
            · have e2 : (a3 == a4) = true := by simpa using h2
              have e3 : (S1.toList == S2.toList) = sm := by rw [HE.out, decide_eq_true h2, Bool.true_and]
              have e4 : (sm == sm) = true := by simp
              clear h2
              go_enter Tryz.func9, Tryz.ntmps9
              go_wp2_with (first
                | (go_at_call 21; (with_reducible refine DG.out.mono ?_); rintro e w1 ⟨rfl, hb1⟩; have hX1 := HX0.out.call hb1; obtain ⟨x0, x1, x2, x3, x4, x5, x6, x7, x8, z0⟩ := hX1.cells)
                | (go_at_call 25; (with_reducible refine (DG1.out w1 hX1.b).mono ?_); rintro e w2 ⟨rfl, hb2⟩; have hX2 := hX1.call hb2; obtain ⟨x0, x1, x2, x3, x4, x5, x6, x7, x8, z0⟩ := hX2.cells)
                | (go_at_call 25; (with_reducible refine (DG2.out w2 hX2.b).mono ?_); rintro e w3 ⟨rfl, hb3⟩; have hX3 := hX2.call hb3; obtain ⟨x0, x1, x2, x3, x4, x5, x6, x7, x8, z0⟩ := hX3.cells)
                | (go_at_call 16; (with_reducible refine (DW1.out w3 hX3.b).mono ?_); rintro e w4 ⟨rfl, hb4⟩; have hX4 := hX3.call hb4; obtain ⟨x0, x1, x2, x3, x4, x5, x6, x7, x8, z0⟩ := hX4.cells)
                | (go_at_call 16; (with_reducible refine (DW2.out w4 hX4.b).mono ?_); rintro e w5 ⟨rfl, hb5⟩; have hX5 := hX4.call hb5; obtain ⟨x0, x1, x2, x3, x4, x5, x6, x7, x8, z0⟩ := hX5.cells)
                | (go_at_call 24; (with_reducible refine (samT_at HT.out.2.2.2.2 w5 (HT.out.1.to hX5.b hX5.b.size) HT.out.2.1 (HT.out.2.2.1.to hX5.b hX5.b.size) HT.out.2.2.2.1).mono ?_); rintro e w6 ⟨rfl, hb6⟩; have hX6 := hX5.call hb6)
                | (go_at_call 20; (with_reducible refine (AL.out w6 hX6.b).mono ?_); rintro e w7 ⟨rfl, hb7⟩; have hX7 := hX6.call hb7))
              go_ret
              exact ⟨by simp, hX7.b⟩
            · have e2 : (a3 == a4) = false := by simpa using h2
              have e3 : (S1.toList == S2.toList) = false := by rw [HE.out, decide_eq_false h2, Bool.false_and]
              clear h2
              go_enter Tryz.func9, Tryz.ntmps9
              go_wp2_with (first
                | (go_at_call 21; (with_reducible refine DG.out.mono ?_); rintro e w1 ⟨rfl, hb1⟩; have hX1 := HX0.out.call hb1; obtain ⟨x0, x1, x2, x3, x4, x5, x6, x7, x8, z0⟩ := hX1.cells)
                | (go_at_call 25; (with_reducible refine (DG1.out w1 hX1.b).mono ?_); rintro e w2 ⟨rfl, hb2⟩; have hX2 := hX1.call hb2; obtain ⟨x0, x1, x2, x3, x4, x5, x6, x7, x8, z0⟩ := hX2.cells)
                | (go_at_call 25; (with_reducible refine (DG2.out w2 hX2.b).mono ?_); rintro e w3 ⟨rfl, hb3⟩; have hX3 := hX2.call hb3; obtain ⟨x0, x1, x2, x3, x4, x5, x6, x7, x8, z0⟩ := hX3.cells)
                | (go_at_call 16; (with_reducible refine (DW1.out w3 hX3.b).mono ?_); rintro e w4 ⟨rfl, hb4⟩; have hX4 := hX3.call hb4; obtain ⟨x0, x1, x2, x3, x4, x5, x6, x7, x8, z0⟩ := hX4.cells)
                | (go_at_call 16; (with_reducible refine (DW2.out w4 hX4.b).mono ?_); rintro e w5 ⟨rfl, hb5⟩; have hX5 := hX4.call hb5; obtain ⟨x0, x1, x2, x3, x4, x5, x6, x7, x8, z0⟩ := hX5.cells)
                | (go_at_call 20; (with_reducible refine (AL.out w5 hX5.b).mono ?_); rintro e w7 ⟨rfl, hb7⟩; have hX7 := hX5.call hb7))
              go_ret
              exact ⟨by simp, hX7.b⟩
          · have e1 : (y != 0) = true := by simpa using h1
            have e0 : (x != 0) = false := by simpa using h0
            clear HS hg hm0 hN0 hv0 hC0 ht1 ht2 henv w3 w4 hi3 hi4 hs hgr hts1 hts2 hg1 hg2 hx hy hS1 hS2 hsm h0 h1
            go_enter Tryz.func9, Tryz.ntmps9
            go_wp2_with (first
              | (go_at_call 21; (with_reducible refine DG.out.mono ?_); rintro e w1 ⟨rfl, hb1⟩; have hX1 := HX0.out.call hb1; obtain ⟨x0, x1, x2, x3, x4, x5, x6, x7, x8, z0⟩ := hX1.cells)
              | (go_at_call 25; (with_reducible refine (DG1.out w1 hX1.b).mono ?_); rintro e w2 ⟨rfl, hb2⟩; have hX2 := hX1.call hb2; obtain ⟨x0, x1, x2, x3, x4, x5, x6, x7, x8, z0⟩ := hX2.cells)
              | (go_at_call 25; (with_reducible refine (DG2.out w2 hX2.b).mono ?_); rintro e w3 ⟨rfl, hb3⟩; have hX3 := hX2.call hb3; obtain ⟨x0, x1, x2, x3, x4, x5, x6, x7, x8, z0⟩ := hX3.cells)
              | (go_at_call 16; (with_reducible refine (DW1.out w3 hX3.b).mono ?_); rintro e w4 ⟨rfl, hb4⟩; have hX4 := hX3.call hb4; obtain ⟨x0, x1, x2, x3, x4, x5, x6, x7, x8, z0⟩ := hX4.cells)
              | (go_at_call 16; (with_reducible refine (DW2.out w4 hX4.b).mono ?_); rintro e w5 ⟨rfl, hb5⟩; have hX5 := hX4.call hb5; obtain ⟨x0, x1, x2, x3, x4, x5, x6, x7, x8, z0⟩ := hX5.cells)
              | (go_at_call 20; (with_reducible refine (AL.out w5 hX5.b).mono ?_); rintro e w7 ⟨rfl, hb7⟩; have hX7 := hX5.call hb7))
            go_ret
            exact ⟨rfl, hX7.b⟩
        · have e0 : (x != 0) = true := by simpa using h0
          clear HS hg hm0 hN0 hv0 hC0 ht1 ht2 henv w3 w4 hi3 hi4 hs hgr hts1 hts2 hg1 hg2 hx hy hS1 hS2 hsm h0
          go_enter Tryz.func9, Tryz.ntmps9
          go_wp2_with (first
            | (go_at_call 21; (with_reducible refine DG.out.mono ?_); rintro e w1 ⟨rfl, hb1⟩; have hX1 := HX0.out.call hb1; obtain ⟨x0, x1, x2, x3, x4, x5, x6, x7, x8, z0⟩ := hX1.cells)
            | (go_at_call 25; (with_reducible refine (DG1.out w1 hX1.b).mono ?_); rintro e w2 ⟨rfl, hb2⟩; have hX2 := hX1.call hb2; obtain ⟨x0, x1, x2, x3, x4, x5, x6, x7, x8, z0⟩ := hX2.cells)
            | (go_at_call 25; (with_reducible refine (DG2.out w2 hX2.b).mono ?_); rintro e w3 ⟨rfl, hb3⟩; have hX3 := hX2.call hb3; obtain ⟨x0, x1, x2, x3, x4, x5, x6, x7, x8, z0⟩ := hX3.cells)
            | (go_at_call 16; (with_reducible refine (DW1.out w3 hX3.b).mono ?_); rintro e w4 ⟨rfl, hb4⟩; have hX4 := hX3.call hb4; obtain ⟨x0, x1, x2, x3, x4, x5, x6, x7, x8, z0⟩ := hX4.cells)
            | (go_at_call 16; (with_reducible refine (DW2.out w4 hX4.b).mono ?_); rintro e w5 ⟨rfl, hb5⟩; have hX5 := hX4.call hb5; obtain ⟨x0, x1, x2, x3, x4, x5, x6, x7, x8, z0⟩ := hX5.cells)
            | (go_at_call 20; (with_reducible refine (AL.out w5 hX5.b).mono ?_); rintro e w7 ⟨rfl, hb7⟩; have hX7 := hX5.call hb7))
          go_ret
          exact ⟨rfl, hX7.b⟩
      · rw [hg2] at DG2
        clear hg hm0 hN0 hv0 hC0 ht1 ht2 henv w3 w4 hi3 hi4 hs hgr hts1 hg1 hg2
        go_enter Tryz.func9, Tryz.ntmps9
        go_wp2_with (first
          | (go_at_call 21; (with_reducible refine DG.out.mono ?_); rintro e w1 ⟨rfl, hb1⟩; have hX1 := HX0.out.call hb1; obtain ⟨x0, x1, x2, x3, x4, x5, x6, x7, x8, z0⟩ := hX1.cells)
          | (go_at_call 25; (with_reducible refine (DG1.out w1 hX1.b).mono ?_); rintro e w2 ⟨rfl, hb2⟩; have hX2 := hX1.call hb2; obtain ⟨x0, x1, x2, x3, x4, x5, x6, x7, x8, z0⟩ := hX2.cells)
          | (go_at_call 25; (with_reducible refine (DG2.out w2 hX2.b).mono ?_); rintro e w3 ⟨rfl, hb3⟩; have hX3 := hX2.call hb3)
          | (go_at_call 20; (with_reducible refine (AL.out w3 hX3.b).mono ?_); rintro e w7 ⟨rfl, hb7⟩; have hX7 := hX3.call hb7))
        go_ret
        exact ⟨rfl, hX7.b⟩
    · rw [hg1] at DG1
      clear hg hm0 hN0 hv0 hC0 ht1 ht2 henv w3 w4 hi3 hi4 hs hgr hg1
      go_enter Tryz.func9, Tryz.ntmps9
      go_wp2_with (first
        | (go_at_call 21; (with_reducible refine DG.out.mono ?_); rintro e w1 ⟨rfl, hb1⟩; have hX1 := HX0.out.call hb1; obtain ⟨x0, x1, x2, x3, x4, x5, x6, x7, x8, z0⟩ := hX1.cells)
        | (go_at_call 25; (with_reducible refine (DG1.out w1 hX1.b).mono ?_); rintro e w2 ⟨rfl, hb2⟩; have hX2 := hX1.call hb2)
        | (go_at_call 20; (with_reducible refine (AL.out w2 hX2.b).mono ?_); rintro e w7 ⟨rfl, hb7⟩; have hX7 := hX2.call hb7))
      go_ret
      exact ⟨rfl, hX7.b⟩
  · rw [hg] at DG
    clear hg hm0 hN0 hv0 hC0 ht1 ht2 henv w3 w4 hi3 hi4
    go_enter Tryz.func9, Tryz.ntmps9
    go_wp2_with (first
      | (go_at_call 21; (with_reducible refine DG.out.mono ?_); rintro e w1 ⟨rfl, hb1⟩; have hX1 := HX0.out.call hb1; obtain ⟨x0, x1, x2, x3, x4, x5, x6, x7, x8, z0⟩ := hX1.cells)
      | (go_at_call 20; (with_reducible refine (AL.out w1 hX1.b).mono ?_); rintro e w7 ⟨rfl, hb7⟩; have hX7 := hX1.call hb7))
    go_ret
    exact ⟨rfl, hX7.b⟩

end Go.Proofs.YtbppdifghkkooaaGreatDoor
