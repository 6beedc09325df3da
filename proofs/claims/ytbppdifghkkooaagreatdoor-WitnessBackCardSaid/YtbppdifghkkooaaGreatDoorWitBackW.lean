/- The statement WitnessBack's walk. -/
import Derived.Test.YtbppdifghkkooaaGreatDoorWitAlive
import Derived.Test.YtbppdifghkkooaaGreatDoorTraceRef4
namespace Go.Proofs.YtbppdifghkkooaaGreatDoor
open Go Go.RowKit
set_option linter.unusedVariables false
set_option linter.unusedSimpArgs false

/-- a run that shows a bad literal is a witness -/
theorem wte_of {c : Cr} {t : Tr} {b : Nat} (hk : c.tck t = 0) (hb : b < c.nb) (h : c.shB t b = true) : c.wte t = 0 := by
  unfold Cr.shB at h
  rw [Bool.and_eq_true, decide_eq_true_eq] at h
  have hn : c.ff t (t.ni - 1) ≠ c.nb := fun e => by
    unfold Cr.ff Cr.fb at e
    have := led_all (fun j => !c.bv (c.sts t (t.ni - 1)) (t.ip (t.ni - 1)) j) c.nb b (by rw [e]; exact hb)
    have h2 : c.bv (c.sts t (t.ni - 1)) (t.ip (t.ni - 1)) b = true := h.2
    rw [h2] at this
    cases this
  unfold Cr.wte
  rw [if_pos hk, Cr.shw_yes (by rw [h.1]; omega), if_pos (by omega)]

set_option maxRecDepth 100000 in
set_option maxHeartbeats 8000000 in
theorem wback_walk (c0 : Cr) (p0 : Pl) (t1 : Tr) (q1 : Tp) (a2 : Int) (w : World) (hm0 : Mem w w.heap.size c0 p0) (hN0 : Nils c0 p0) (hv0 : Vals c0) (hC0 : Caps c0 p0) (ht1 : TMem w w.heap.size t1 q1) (w2 : (Lit.int .i64 a2).wf = true) (henv : EnvW w.heap.size w) :
    Calls Tryz.prog 6 #[cv c0 p0, tv t1 q1, .int .i64 a2] w fun e w' => e = .returned (.bool true) ∧ Below w.heap.size w w' := by
  have hi2 := i64_of w2
  have AL : Hid (∀ W, Below w.heap.size w W → Calls Tryz.prog 20 #[] W fun e w' => e = .returned (.bool true) ∧ Below W.heap.size W w') := Lib.hid fun W hb => alive11_any w.heap.size W (henv.on hb) hb.size
  have DG := Lib.hid (rGreat_any c0 p0 (ctW w c0 p0 t1 q1))
  have DG6 : Hid (∀ W, Below w.heap.size w W → Calls Tryz.prog 25 #[tv t1 q1] W fun e w' => e = .returned (.bool t1.gr) ∧ Below W.heap.size W w') := Lib.hid fun W hb => rGreat6_any W (ht1.to hb hb.size)
  cases hg : c0.gr
  · have hgr := Cr.gr_no hg
    have hs : Sm c0 := hv0.sm (by omega) (by omega) (by omega) (by omega)
    rw [hg] at DG
    cases hg1 : t1.gr
    · have hts := Tr.gr_no hg1
      rw [hg1] at DG6
      have hR : ∀ W, Below w.heap.size w W → RArg W W.heap.size c0 p0 t1 q1 := fun W hb => ⟨hm0.to hb hb.size, hs, ht1.to hb hb.size, hts⟩
      obtain ⟨x, hx⟩ : ∃ x, x = c0.wck t1 a2 := ⟨_, rfl⟩
      obtain ⟨S, hS⟩ : ∃ S, S = str (c0.wrW t1 a2) := ⟨_, rfl⟩
      have DW : Hid (∀ W, Below w.heap.size w W → Calls Tryz.prog 16 #[cv c0 p0, tv t1 q1, .int .i64 a2] W fun e w' => e = .returned (.tuple #[.string S, .int .i64 x]) ∧ Below W.heap.size W w') := Lib.hid fun W hb => by
        rw [hx, hS]
        exact wWrite_any a2 hi2 W (hR W hb) hC0.bd
      have DC : Hid (∀ W, Below w.heap.size w W → Calls Tryz.prog 17 #[cv c0 p0, tv t1 q1, .int .i64 a2] W fun e w' => e = .returned (.int .i64 x) ∧ Below W.heap.size W w') := Lib.hid fun W hb => by
        rw [hx]
        exact wCheck_any a2 hi2 W (hR W hb) hC0.bd
      by_cases h0 : x = 0
      · have hk : c0.wck t1 a2 = 0 := hx.symm.trans h0
        obtain ⟨k1, k2, k3, k4⟩ := Cr.wck_ok hk
        obtain ⟨b1, b2, b3⟩ := back_all hk hs.nb
        have hS2 : S = str (wtx t1 a2) := by rw [hS]; unfold Cr.wrW; rw [if_pos hk]
        have hlen := wtx_short hg1 hk
        have hnb := Cr.chk_nb (Cr.tck_ok k1).1
        have hwt : c0.wte t1 = 0 := wte_of (b := a2.toNat) k1 (by omega) k4
        have DT : Hid (∀ W, Below w.heap.size w W → Calls Tryz.prog 26 #[cv c0 p0, tv t1 q1] W fun e w' => ∃ y, e = .returned (.tuple #[.int .i64 y, .int .i64 0]) ∧ Below W.heap.size W w') := Lib.hid fun W hb => by
          have := twitness_any W (hR W hb)
          rw [hwt] at this
          exact this.mono fun e w' ⟨he, hb'⟩ => ⟨_, he, hb'⟩
        obtain ⟨u, hu⟩ : ∃ u, u = wTr c0 (wtx t1 a2) := ⟨_, rfl⟩
        have hi0 := Cr.chk_i (c := c0) (by simpa using (Cr.tck_ok k1).1) hs
        have hus : TSm u := by rw [hu]; exact wTr_sm hs (wbk_ok k1 k2 (by omega)) (by omega)
        have DR : Hid (∀ W, Below w.heap.size w W → Calls Tryz.prog 22 #[cv c0 p0, .string S] W fun e w' => ∃ q, e = .returned (.tuple #[tv u q, .int .i64 a2, .int .i64 0]) ∧ TMem w' w'.heap.size u q ∧ Below W.heap.size W w') := Lib.hid fun W hb => by
          rw [hS2]
          refine (wRead_any (wtx t1 a2) (by omega) w.heap.size W (hm0.to hb hb.size) hs hC0.bd (henv.on hb) hb.size).mono fun e w' h => ?_
          obtain ⟨q, he, hT, hb'⟩ := h
          have e1 : c0.wrT (wtx t1 a2) = u := by unfold Cr.wrT; rw [if_pos b1, hu]
          have e2 : (c0.wrB (wtx t1 a2) : Int) = a2 := by unfold Cr.wrB; rw [if_pos b1]; exact b3
          rw [e1, e2, b1] at he
          rw [e1] at hT
          exact ⟨q, he, hT, hb'⟩
        rw [← hu] at b2
        have HU := Lib.hid (And.intro b2 (And.intro hus hts))
        have HT := Lib.hid ht1
        rw [h0] at DW DC
        clear h0 hx hS hS2 hR hts hs hgr hg hg1 hm0 hN0 hv0 hC0 ht1 henv w2 hi2 hk k1 k2 k3 k4 b1 b2 b3 hlen hnb hwt hu hi0 hus
        go_enter Tryz.func6, Tryz.ntmps6
        go_wp2_with (first
          | (go_at_call 21; (with_reducible refine DG.out.mono ?_); rintro e w1 ⟨rfl, hb1⟩; have hX1 := Bx.first hb1; obtain ⟨x0, x1, x2, x3, x4, x5, x6, z0, z1⟩ := hX1.cells)
          | (go_at_call 25; (with_reducible refine (DG6.out w1 hX1.b).mono ?_); rintro e w2 ⟨rfl, hb2⟩; have hX2 := hX1.call hb2; obtain ⟨x0, x1, x2, x3, x4, x5, x6, z0, z1⟩ := hX2.cells)
          | (go_at_call 16; (with_reducible refine (DW.out w2 hX2.b).mono ?_); rintro e w3 ⟨rfl, hb3⟩; have hX3 := hX2.call hb3; obtain ⟨x0, x1, x2, x3, x4, x5, x6, z0, z1⟩ := hX3.cells)
          | (go_at_call 22; (with_reducible refine (DR.out w3 hX3.b).mono ?_); rintro e w4 ⟨q, rfl, hT4, hb4⟩; have hX4 := (hX3.call hb4).al (.cells #[.slice q.A1 u.nf q.k1, .slice q.A2 u.ni q.k2] 47); obtain ⟨x0, x1, x2, x3, x4, x5, x6, z0, z1⟩ := hX4.cells; have hY4 : Has (w4.alloc (.cells #[.slice q.A1 u.nf q.k1, .slice q.A2 u.ni q.k2] 47)) w4.heap.size 47 #[.slice q.A1 u.nf q.k1, .slice q.A2 u.ni q.k2] := Has.new _ _ _; have hT4 := hT4.to ((Below.refl w4.heap.size w4).alloc (Nat.le_refl _) (.cells #[.slice q.A1 u.nf q.k1, .slice q.A2 u.ni q.k2] 47)) (by simp))
          | (go_at_call 26; (with_reducible refine (DT.out _ hX4.b).mono ?_); rintro e w5 ⟨y, rfl, hb5⟩; have hX5 := hX4.call hb5; obtain ⟨x0, x1, x2, x3, x4, x5, x6, z0, z1⟩ := hX5.cells; have hY5 := hY4.keep hb5 hY4.lt; have hT5 := hT4.to hb5 hb5.size)
          | (go_at_call 17; (with_reducible refine (DC.out w5 hX5.b).mono ?_); rintro e w6 ⟨rfl, hb6⟩; have hX6 := hX5.call hb6; obtain ⟨x0, x1, x2, x3, x4, x5, x6, z0, z1⟩ := hX6.cells; have hY6 := hY5.keep hb6 hY5.lt; obtain ⟨y0, y1, y2, y3⟩ := box_two hY6; have hT6 := hT5.to hb6 hb6.size)
          | (go_at_call 24; (with_reducible refine (samT_at HU.out.1 w6 hT6 HU.out.2.1 (HT.out.to hX6.b hX6.b.size) HU.out.2.2).mono ?_); rintro e w7 ⟨rfl, hb7⟩; have hX7 := hX6.call hb7)
          | (go_at_call 20; (with_reducible refine (AL.out w7 hX7.b).mono ?_); rintro e w8 ⟨rfl, hb8⟩; have hX8 := hX7.call hb8))
        go_ret
        exact ⟨by simp, hX8.b⟩
      · have e0 : (x != 0) = true := by simpa using h0
        have hS2 : (S.toList == ([] : List UInt8)) = true := by rw [hS, str_list]; unfold Cr.wrW; rw [if_neg (by omega)]; rfl
        clear h0 hx hS hR hts hs hgr hg hg1 hm0 hN0 hv0 hC0 ht1 henv w2 hi2
        go_enter Tryz.func6, Tryz.ntmps6
        go_wp2_with (first
          | (go_at_call 21; (with_reducible refine DG.out.mono ?_); rintro e w1 ⟨rfl, hb1⟩; have hX1 := Bx.first hb1; obtain ⟨x0, x1, x2, x3, x4, x5, x6, z0, z1⟩ := hX1.cells)
          | (go_at_call 25; (with_reducible refine (DG6.out w1 hX1.b).mono ?_); rintro e w2 ⟨rfl, hb2⟩; have hX2 := hX1.call hb2; obtain ⟨x0, x1, x2, x3, x4, x5, x6, z0, z1⟩ := hX2.cells)
          | (go_at_call 16; (with_reducible refine (DW.out w2 hX2.b).mono ?_); rintro e w3 ⟨rfl, hb3⟩; have hX3 := hX2.call hb3; obtain ⟨x0, x1, x2, x3, x4, x5, x6, z0, z1⟩ := hX3.cells)
          | (go_at_call 17; (with_reducible refine (DC.out w3 hX3.b).mono ?_); rintro e w4 ⟨rfl, hb4⟩; have hX4 := hX3.call hb4)
          | (go_at_call 20; (with_reducible refine (AL.out w4 hX4.b).mono ?_); rintro e w5 ⟨rfl, hb5⟩; have hX5 := hX4.call hb5))
        go_ret
        exact ⟨by simp, hX5.b⟩
    · rw [hg1] at DG6
      clear hs hgr hg hg1 hm0 hN0 hv0 hC0 ht1 henv w2 hi2
      go_enter Tryz.func6, Tryz.ntmps6
      go_wp2_with (first
        | (go_at_call 21; (with_reducible refine DG.out.mono ?_); rintro e w1 ⟨rfl, hb1⟩; have hX1 := Bx.first hb1; obtain ⟨x0, x1, x2, x3, x4, x5, x6, z0, z1⟩ := hX1.cells)
        | (go_at_call 25; (with_reducible refine (DG6.out w1 hX1.b).mono ?_); rintro e w2 ⟨rfl, hb2⟩; have hX2 := hX1.call hb2)
        | (go_at_call 20; (with_reducible refine (AL.out w2 hX2.b).mono ?_); rintro e w5 ⟨rfl, hb5⟩; have hX5 := hX2.call hb5))
      go_ret
      exact ⟨rfl, hX5.b⟩
  · rw [hg] at DG
    clear hg hm0 hN0 hv0 hC0 ht1 henv w2 hi2
    go_enter Tryz.func6, Tryz.ntmps6
    go_wp2_with (first
      | (go_at_call 21; (with_reducible refine DG.out.mono ?_); rintro e w1 ⟨rfl, hb1⟩; have hX1 := Bx.first hb1; obtain ⟨x0, x1, x2, x3, x4, x5, x6, z0, z1⟩ := hX1.cells)
      | (go_at_call 20; (with_reducible refine (AL.out w1 hX1.b).mono ?_); rintro e w5 ⟨rfl, hb5⟩; have hX5 := hX1.call hb5))
    go_ret
    exact ⟨rfl, hX5.b⟩

end Go.Proofs.YtbppdifghkkooaaGreatDoor
