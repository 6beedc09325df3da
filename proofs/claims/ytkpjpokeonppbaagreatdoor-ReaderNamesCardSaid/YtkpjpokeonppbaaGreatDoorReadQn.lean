/- The statement ReaderBack's walk. The statement ReaderNames: its texts, and its texts. The statement ReaderNames's walk. -/
import Derived.Test.YtkpjpokeonppbaaGreatDoorReadPd
import Derived.Test.YtkpjpokeonppbaaGreatDoorAsciiRef
namespace Go.Proofs.YtkpjpokeonppbaaGreatDoor
open Go Go.RowKit
set_option linter.unusedVariables false
set_option linter.unusedSimpArgs false

/-- the cells of a raw circuit's box, later -/
theorem six_cells {w : World} {b : Nat} {r : Rw} {p : Rp} (h : Has w b 26 (rc r p)) : w.cell? ⟨b, 0, none⟩ = some (.int .i64 r.m) ∧ w.cell? ⟨b, 1, none⟩ = some (.slice p.A1 r.ni p.k1) ∧ w.cell? ⟨b, 2, none⟩ = some (.slice p.A2 r.nl p.k2) ∧ w.cell? ⟨b, 3, none⟩ = some (.slice p.A3 r.na p.k3) ∧ w.cell? ⟨b, 4, none⟩ = some (.slice p.A4 r.nb p.k4) ∧ w.cell? ⟨b, 5, none⟩ = some (.slice p.A5 r.nc p.k5) :=
  ⟨h.cell 0, h.cell 1, h.cell 2, h.cell 3, h.cell 4, h.cell 5⟩

set_option maxRecDepth 100000 in
set_option maxHeartbeats 8000000 in
theorem back_walk (c0 : Rw) (p0 : Rp) (w : World) (hm0 : RMem w w.heap.size c0 p0) (hN0 : RNils c0 p0) (hv0 : RVals c0) (henv : Env w.heap.size w) :
    Calls Tryz.prog 5 #[rv c0 p0] w fun e w' => e = .returned (.bool true) ∧ Below w.heap.size w w' := by
  have HE := Lib.hid henv
  clear henv
  have hsz : 0 ≤ w.heap.size := Nat.zero_le _
  have AL : Hid (∀ W, Below w.heap.size w W → Calls Tryz.prog 14 #[] W fun e w' => e = .returned (.bool true) ∧ Below W.heap.size W w') := Lib.hid fun W hb => alive8_any w.heap.size W (HE.out.on hb) hb.size
  obtain ⟨hB0, hH0⟩ := rbox_new w c0 p0
  have HH0 := Lib.hid (And.intro hB0 hH0)
  have HM0 := Lib.hid (And.intro hm0 hN0)
  have DG := Lib.hid (oGreat_any c0 p0 (w.alloc (.cells (rcL c0 p0) 26)))
  cases hg : c0.gr
  · have HS := Lib.hid (hv0.sm hg)
    rw [hg] at DG
    have DA : Hid (∀ W, Below w.heap.size w W → Calls Tryz.prog 20 #[rv c0 p0] W fun e w' => e = .returned (.tuple #[.string (str c0.txtE), .int .i64 c0.chk]) ∧ Below W.heap.size W w') := Lib.hid fun W hb => aRaw_any c0 p0 W HS.out (HM0.out.1.to hb hb.size) HM0.out.2 (Tab.up (HE.out.t.on hb) hb.size)
    clear hg hm0 hN0 hv0 hB0 hH0
    by_cases hk : c0.chk = 0
    · have HK := Lib.hid hk
      have hk' : (c0.chk != 0) = false := by simpa using hk
      obtain ⟨b1, b2, b3⟩ := back_E hk
      have hsh := txt_short hk
      have e1 : c0.txtE = c0.txt := by unfold Rw.txtE; rw [if_pos hk]
      obtain ⟨x, hx⟩ : ∃ x, x = rdW c0.txt := ⟨_, rfl⟩
      have DR : Hid (∀ W, Below w.heap.size w W → Calls Tryz.prog 10 #[.string (str c0.txt)] W fun e w' => (∃ p, e = .returned (.tuple #[rv x p, .int .i64 0, .int .i64 0]) ∧ RMem w' w'.heap.size x p ∧ RNils x p) ∧ Below W.heap.size W w') := Lib.hid fun W hb => by
        refine (pRaw_any c0.txt (by omega) w.heap.size W (HE.out.on hb) hb.size).mono fun e w' h => ?_
        obtain ⟨⟨p, he, hm, hn⟩, hb'⟩ := h
        rw [b1, b2, ← hx] at he
        rw [← hx] at hm hn
        exact ⟨⟨p, he, hm, hn⟩, hb'⟩
      have HX := Lib.hid (And.intro (show RSm x by rw [hx]; exact rdW_sm _) (show sameR x c0 = true by rw [hx]; exact b3.same))
      rw [e1] at DA
      obtain ⟨S, hS⟩ : ∃ S, S = str c0.txt := ⟨_, rfl⟩
      rw [← hS] at DA DR
      rw [hk] at DA
      clear hk hS hx e1 b1 b2 b3 hsh
      go_enter Tryz.func5, Tryz.ntmps5
      go_wp2_with (go_at_call 19; (with_reducible refine DG.out.mono ?_); rintro e w1 ⟨rfl, hb1⟩; have hH1 := HH0.out.2.keep hb1 HH0.out.2.lt; have H1 := Lib.hid (And.intro (Below.step HH0.out.1 HH0.out.1.size hb1) hH1); obtain ⟨x0, x1, x2, x3, x4, x5⟩ := six_cells hH1; clear hb1 hH1)
      go_wp2_with (go_at_call 20; (with_reducible refine (DA.out _ H1.out.1).mono ?_); rintro e w2 ⟨rfl, hb2⟩; have hH2 := H1.out.2.keep hb2 H1.out.2.lt; have H2 := Lib.hid (And.intro (Below.step H1.out.1 H1.out.1.size hb2) hH2); clear hb2 hH2)
      go_wp2_with (go_at_call 10; (with_reducible refine (DR.out _ H2.out.1).mono ?_); rintro e w3 ⟨⟨p, rfl, hm3, hn3⟩, hb3⟩; have hH3 := H2.out.2.keep hb3 H2.out.2.lt; have H3 := Lib.hid (And.intro (Below.step H2.out.1 H2.out.1.size hb3) (And.intro hH3 hm3)); have x0 := fun o : Obj => ((hH3.al o).cell 0); have x1 := fun o : Obj => ((hH3.al o).cell 1); have x2 := fun o : Obj => ((hH3.al o).cell 2); have x3 := fun o : Obj => ((hH3.al o).cell 3); have x4 := fun o : Obj => ((hH3.al o).cell 4); have x5 := fun o : Obj => ((hH3.al o).cell 5); simp only [rc, List.getElem?_toArray, List.getElem?_cons_zero, List.getElem?_cons_succ] at x0 x1 x2 x3 x4 x5; have DS := Lib.hid (oSame_any x c0 p p0 (w3.alloc (.cells (rcL x p) 26)) HX.out.1 HS.out (hm3.to ((Below.refl _ _).alloc (Nat.le_refl _) _) (by simp)) (HM0.out.1.to (H3.out.1.alloc H3.out.1.size _) (H3.out.1.alloc H3.out.1.size _).size)); rw [HX.out.2] at DS; clear hb3 hH3 hm3 hn3)
      go_wp2_with (go_at_call 11; (with_reducible refine DS.out.mono ?_); rintro e w4 ⟨rfl, hb4⟩; have H4 := Lib.hid (Below.step (H3.out.1.alloc H3.out.1.size _) (H3.out.1.alloc H3.out.1.size _).size hb4); clear hb4)
      go_wp2_with (go_at_call 14; (with_reducible refine (AL.out _ H4.out).mono ?_); rintro e w5 ⟨rfl, hb5⟩; have H5 := Lib.hid (Below.step H4.out H4.out.size hb5); clear hb5)
      go_ret
      exact ⟨by simp, H5.out⟩
    · have hk' : (c0.chk != 0) = true := by simpa using hk
      obtain ⟨x, hx⟩ : ∃ x, x = c0.chk := ⟨_, rfl⟩
      have DC : Hid (∀ W, Below w.heap.size w W → Calls Tryz.prog 21 #[rv c0 p0] W fun e w' => e = .returned (.int .i64 x) ∧ Below W.heap.size W w') := Lib.hid fun W hb => by rw [hx]; exact pCheck_any c0 p0 W HS.out (HM0.out.1.to hb hb.size) HM0.out.2
      rw [← hx] at DA hk'
      clear hk hx
      go_enter Tryz.func5, Tryz.ntmps5
      go_wp2_with (go_at_call 19; (with_reducible refine DG.out.mono ?_); rintro e w1 ⟨rfl, hb1⟩; have hH1 := HH0.out.2.keep hb1 HH0.out.2.lt; have H1 := Lib.hid (And.intro (Below.step HH0.out.1 HH0.out.1.size hb1) hH1); obtain ⟨x0, x1, x2, x3, x4, x5⟩ := six_cells hH1; clear hb1 hH1)
      go_wp2_with (go_at_call 20; (with_reducible refine (DA.out _ H1.out.1).mono ?_); rintro e w2 ⟨rfl, hb2⟩; have hH2 := H1.out.2.keep hb2 H1.out.2.lt; have H2 := Lib.hid (And.intro (Below.step H1.out.1 H1.out.1.size hb2) hH2); obtain ⟨y0, y1, y2, y3, y4, y5⟩ := six_cells hH2; clear hb2 hH2)
      go_wp2_with (go_at_call 21; (with_reducible refine (DC.out _ H2.out.1).mono ?_); rintro e w3 ⟨rfl, hb3⟩; have H3 := Lib.hid (Below.step H2.out.1 H2.out.1.size hb3); clear hb3)
      go_wp2_with (go_at_call 14; (with_reducible refine (AL.out _ H3.out).mono ?_); rintro e w5 ⟨rfl, hb5⟩; have H5 := Lib.hid (Below.step H3.out H3.out.size hb5); clear hb5)
      go_ret
      exact ⟨by simp, H5.out⟩
  · rw [hg] at DG
    clear hg hm0 hN0 hv0 hB0 hH0
    go_enter Tryz.func5, Tryz.ntmps5
    go_wp2_with (go_at_call 19; (with_reducible refine DG.out.mono ?_); rintro e w1 ⟨rfl, hb1⟩; have H1 := Lib.hid (Below.step HH0.out.1 HH0.out.1.size hb1); clear hb1)
    go_wp2_with (go_at_call 14; (with_reducible refine (AL.out _ H1.out).mono ?_); rintro e w5 ⟨rfl, hb5⟩; have H5 := Lib.hid (Below.step H1.out H1.out.size hb5); clear hb5)
    go_ret
    exact ⟨by simp, H5.out⟩

end Go.Proofs.YtkpjpokeonppbaaGreatDoor

namespace Go.Proofs.YtkpjpokeonppbaaGreatDoor
open Go Go.RowKit
set_option linter.unusedVariables false
set_option linter.unusedSimpArgs false

set_option maxRecDepth 100000 in
set_option maxHeartbeats 8000000 in
theorem again_walk (l0 : List UInt8) (w : World) (henv : Env w.heap.size w) :
    Calls Tryz.prog 7 #[.string (str l0)] w fun e w' => e = .returned (.bool true) ∧ Below w.heap.size w w' := by
  have HE := Lib.hid henv
  clear henv
  have AL : Hid (∀ W, Below w.heap.size w W → Calls Tryz.prog 14 #[] W fun e w' => e = .returned (.bool true) ∧ Below W.heap.size W w') := Lib.hid fun W hb => alive8_any w.heap.size W (HE.out.on hb) hb.size
  have k0 : ∀ W : World, (Builtin.len_ #[9] 3 #[.string (str l0)]).run Tryz.prog W = .ok (.int .i64 (l0.length : Int)) W := fun W => str_len Tryz.underlying9 l0 W
  obtain ⟨m, hmm⟩ : ∃ m : Int, m = (l0.length : Int) := ⟨_, rfl⟩
  rw [← hmm] at k0
  by_cases hm : 5000 < l0.length
  · have e0 : decide ((5000 : Int) < m) = true := decide_eq_true (by omega)
    clear hm hmm
    go_enter Tryz.func7, Tryz.ntmps7
    go_wp2_with (go_at_call 14; (with_reducible refine (AL.out _ (Below.refl _ _)).mono ?_); rintro e w5 ⟨rfl, hb5⟩; have H5 := Lib.hid hb5; clear hb5)
    go_ret
    exact ⟨by simp, H5.out⟩
  · have e0 : decide ((5000 : Int) < m) = false := decide_eq_false (by omega)
    have hl : l0.length ≤ 100000 := by omega
    have D0 := pRaw_any l0 hl w.heap.size w HE.out (Nat.le_refl _)
    by_cases hk : rdE l0 = 0
    · obtain ⟨g1, g2⟩ := rd_good hk
      obtain ⟨b1, b2, b3⟩ := back_E g1
      have hsh := txt_short g1
      have hsm := rdW_sm l0
      have hsm2 := rdW_sm (rdW l0).txt
      obtain ⟨x, hx⟩ : ∃ x, x = rdW l0 := ⟨_, rfl⟩
      obtain ⟨y, hy⟩ : ∃ y, y = rdW x.txt := ⟨_, rfl⟩
      rw [← hx] at g1 b1 b2 b3 hsh hsm hsm2
      rw [← hy] at b3 hsm2
      have D1 : Hid (Calls Tryz.prog 10 #[.string (str l0)] w fun e w' => (∃ p, e = .returned (.tuple #[rv x p, .int .i64 0, .int .i64 0]) ∧ RMem w' w'.heap.size x p ∧ RNils x p) ∧ Below w.heap.size w w') := Lib.hid (D0.mono fun e w' h => by
        obtain ⟨⟨p, he, hm, hn⟩, hb'⟩ := h
        rw [hk, g2, ← hx] at he
        rw [← hx] at hm hn
        exact ⟨⟨p, he, hm, hn⟩, hb'⟩)
      have DA : Hid (∀ W p, Below w.heap.size w W → RMem W W.heap.size x p → RNils x p → Calls Tryz.prog 20 #[rv x p] W fun e w' => e = .returned (.tuple #[.string (str x.txt), .int .i64 0]) ∧ Below W.heap.size W w') := Lib.hid fun W p hb hm hn => aRaw_yes x p W g1 hsm hm hn (Tab.up (HE.out.t.on hb) hb.size)
      have DR : Hid (∀ W, Below w.heap.size w W → Calls Tryz.prog 10 #[.string (str x.txt)] W fun e w' => (∃ p, e = .returned (.tuple #[rv y p, .int .i64 0, .int .i64 0]) ∧ RMem w' w'.heap.size y p ∧ RNils y p) ∧ Below W.heap.size W w') := Lib.hid fun W hb => by
        refine (pRaw_any x.txt (by omega) w.heap.size W (HE.out.on hb) hb.size).mono fun e w' h => ?_
        obtain ⟨⟨p, he, hm, hn⟩, hb'⟩ := h
        rw [b1, b2, ← hy] at he
        rw [← hy] at hm hn
        exact ⟨⟨p, he, hm, hn⟩, hb'⟩
      have HX := Lib.hid (And.intro hsm (And.intro hsm2 b3.same))
      obtain ⟨S, hS⟩ : ∃ S, S = str x.txt := ⟨_, rfl⟩
      rw [← hS] at DA DR
      clear hk hS hx hy g1 g2 b1 b2 b3 hsh hsm hsm2 D0 hm hmm hl
      go_enter Tryz.func7, Tryz.ntmps7
      go_wp2_with (go_at_call 10; (with_reducible refine D1.out.mono ?_); rintro e w1 ⟨⟨p, rfl, hm1, hn1⟩, hb1⟩; have hB1 := hb1.alloc hb1.size (.cells (rcL x p) 26); have H1 := Lib.hid (And.intro hB1 (And.intro (Has.new w1 26 (rcL x p)) (And.intro (hm1.to ((Below.refl _ _).alloc (Nat.le_refl _) (.cells (rcL x p) 26)) (by simp)) hn1))); clear hm1 hn1 hb1 hB1)
      go_wp2_with (go_at_call 20; (with_reducible refine (DA.out _ p H1.out.1 H1.out.2.2.1 H1.out.2.2.2).mono ?_); rintro e w2 ⟨rfl, hb2⟩; have hH2 := H1.out.2.1.keep hb2 H1.out.2.1.lt; have H2 := Lib.hid (And.intro (Below.step H1.out.1 H1.out.1.size hb2) (And.intro hH2 (H1.out.2.2.1.to hb2 hb2.size))); clear hb2 hH2)
      go_wp2_with (go_at_call 10; (with_reducible refine (DR.out _ H2.out.1).mono ?_); rintro e w3 ⟨⟨q, rfl, hm3, hn3⟩, hb3⟩; have hH3 := H2.out.2.1.keep hb3 H2.out.2.1.lt; have H3 := Lib.hid (Below.step H2.out.1 H2.out.1.size hb3); have x0 := fun o : Obj => ((hH3.al o).cell 0); have x1 := fun o : Obj => ((hH3.al o).cell 1); have x2 := fun o : Obj => ((hH3.al o).cell 2); have x3 := fun o : Obj => ((hH3.al o).cell 3); have x4 := fun o : Obj => ((hH3.al o).cell 4); have x5 := fun o : Obj => ((hH3.al o).cell 5); simp only [rcL, List.getElem?_toArray, List.getElem?_cons_zero, List.getElem?_cons_succ] at x0 x1 x2 x3 x4 x5; have DS := Lib.hid (oSame_any y x q p (w3.alloc (.cells (rcL y q) 26)) HX.out.2.1 HX.out.1 (hm3.to ((Below.refl _ _).alloc (Nat.le_refl _) _) (by simp)) ((H2.out.2.2.to hb3 hb3.size).to ((Below.refl _ _).alloc (Nat.le_refl _) _) (by simp))); rw [HX.out.2.2] at DS; clear hb3 hH3 hm3 hn3)
      go_wp2_with (go_at_call 11; (with_reducible refine DS.out.mono ?_); rintro e w4 ⟨rfl, hb4⟩; have H4 := Lib.hid (Below.step (H3.out.alloc H3.out.size _) (H3.out.alloc H3.out.size _).size hb4); clear hb4)
      go_wp2_with (go_at_call 14; (with_reducible refine (AL.out _ H4.out).mono ?_); rintro e w5 ⟨rfl, hb5⟩; have H5 := Lib.hid (Below.step H4.out H4.out.size hb5); clear hb5)
      go_ret
      exact ⟨by simp, H5.out⟩
    · obtain ⟨x, hx⟩ : ∃ x, x = rdE l0 := ⟨_, rfl⟩
      obtain ⟨N, hN⟩ : ∃ N : Int, N = (rdN l0 : Int) := ⟨_, rfl⟩
      have D1 := Lib.hid (D0.mono fun e w' h => rd_err (x := x) (N := N) (by rw [hx]; exact hk) hx.symm hN.symm h)
      have e1 : (x != 0) = true := by rw [hx]; simpa using hk
      have e2 : decide (N ≥ 0) = true := decide_eq_true (by omega)
      have e3 : decide ((0 : Int) ≤ N) = true := decide_eq_true (by omega)
      clear hk hx hN D0 hm hmm hl
      go_enter Tryz.func7, Tryz.ntmps7
      go_wp2_with (go_at_call 10; (with_reducible refine D1.out.mono ?_); rintro e w1 ⟨⟨p, rfl⟩, hb1⟩; have H1 := Lib.hid (hb1.alloc hb1.size (.cells #[.int .i64 0, .slice p.A1 0 p.k1, .slice p.A2 0 p.k2, .slice p.A3 0 p.k3, .slice p.A4 0 p.k4, .slice p.A5 0 p.k5] 26)); clear hb1)
      go_wp2_with (go_at_call 14; (with_reducible refine (AL.out _ H1.out).mono ?_); rintro e w5 ⟨rfl, hb5⟩; have H5 := Lib.hid (Below.step H1.out H1.out.size hb5); clear hb5)
      go_ret
      exact ⟨by simp, H5.out⟩

end Go.Proofs.YtkpjpokeonppbaaGreatDoor

namespace Go.Proofs.YtkpjpokeonppbaaGreatDoor
open Go Go.RowKit
set_option linter.unusedVariables false
set_option linter.unusedSimpArgs false

theorem cut_ext {c d : Cr} (hi : c.i = d.i) (h1 : c.nl = d.nl) (h2 : c.na = d.na) (h3 : c.nb = d.nb) (h4 : c.nc = d.nc)
    (e1 : ∀ j, j < c.nl → c.nx j = d.nx j ∧ c.rs j = d.rs j) (e2 : ∀ j, j < c.na → c.ga j = d.ga j ∧ c.gb j = d.gb j) (e3 : ∀ j, j < c.nb → c.bd j = d.bd j) (e4 : ∀ j, j < c.nc → c.cn j = d.cn j) : c.cut = d.cut := by
  obtain ⟨i, nl, na, nb, nc, nx, rs, ga, gb, bd, cn⟩ := c
  obtain ⟨i', nl', na', nb', nc', nx', rs', ga', gb', bd', cn'⟩ := d
  simp only at hi h1 h2 h3 h4 e1 e2 e3 e4
  subst hi h1 h2 h3 h4
  unfold Cr.cut
  simp only [Cr.mk.injEq, true_and]
  refine ⟨?_, ?_, ?_, ?_, ?_, ?_⟩
  · funext j; by_cases h : j < nl; rw [if_pos h, if_pos h, (e1 j h).1]; rw [if_neg h, if_neg h]
  · funext j; by_cases h : j < nl; rw [if_pos h, if_pos h, (e1 j h).2]; rw [if_neg h, if_neg h]
  · funext j; by_cases h : j < na; rw [if_pos h, if_pos h, (e2 j h).1]; rw [if_neg h, if_neg h]
  · funext j; by_cases h : j < na; rw [if_pos h, if_pos h, (e2 j h).2]; rw [if_neg h, if_neg h]
  · funext j; by_cases h : j < nb; rw [if_pos h, if_pos h, e3 j h]; rw [if_neg h, if_neg h]
  · funext j; by_cases h : j < nc; rw [if_pos h, if_pos h, e4 j h]; rw [if_neg h, if_neg h]
/-- a circuit's raw one has it as its circuit -/
theorem raw_oc {c : Cr} (hk : c.chk = 0) : c.raw.oc = c.cut := by
  obtain ⟨s1, s2, s3, s4⟩ := szN_eq hk
  obtain ⟨h0, h1, h2, h3, h4, h5, h6, h7⟩ := Cr.chk_zero hk
  have h4 := of_decide_eq_true h4
  have h5 := of_decide_eq_true h5
  have h6 := of_decide_eq_true h6
  have ho := raw_ord hk
  have hol : c.raw.ord.length = c.na := by rw [ho, List.length_range]
  rw [Rw.oc_yes (raw_chk hk)]
  refine cut_ext s2.symm rfl hol rfl rfl (fun j hj => ⟨raw_told hk (h6 j hj).1 (h6 j hj).2.1, rfl⟩) (fun j hj => ?_) (fun j hj => raw_told hk (h4 j hj).1 (h4 j hj).2) fun j hj => raw_told hk (h5 j hj).1 (h5 j hj).2
  have hj' : j < c.na := by rw [← hol]; exact hj
  obtain ⟨k1, k2, k3, k4, k5⟩ := gate_ok7 hk hj'
  have ej : c.raw.ord.getD j 0 = j := by rw [ho, List.getD_eq_getElem?_getD, List.getElem?_range hj']; rfl
  have t1 : c.raw.told (c.ga j) = c.ga j := raw_told hk (by omega) (by unfold Cr.sz; omega)
  have t2 : c.raw.told (c.gb j) = c.gb j := raw_told hk (by omega) (by unfold Cr.sz; omega)
  show max (c.raw.told (c.ga (c.raw.ord.getD j 0))) (c.raw.told (c.gb (c.raw.ord.getD j 0))) = c.ga j ∧ min (c.raw.told (c.ga (c.raw.ord.getD j 0))) (c.raw.told (c.gb (c.raw.ord.getD j 0))) = c.gb j
  rw [ej, t1, t2]
  omega

/-- raw circuits that agree have the same circuit -/
theorem Agr.oc {r s : Rw} (h : Agr r s) (hk : r.chk = 0) : r.oc = s.oc := by
  have hk' : s.chk = 0 := by rw [← h.chk]; exact hk
  have ef : ∀ {r s : Rw}, Agr r s → ∀ B, r.fnd B = s.fnd B := fun {r s} h B => fnd_same h.na fun i hi => by
    unfold Rw.may; rw [(h.an i hi).1, (h.an i hi).2.1, (h.an i hi).2.2]
  have e0 : r.rd0 = s.rd0 := by
    unfold Rw.rd0
    rw [h.na]
    rw [lst_eq (fun j hj => (h.an j (by rw [h.na]; exact hj)).1)]
  have est : ∀ k, r.st k = s.st k := fun k => by
    induction k with
    | zero => show (r.rd0, []) = (s.rd0, []); rw [e0]
    | succ k ih =>
      rw [Rw.st, Rw.st, ih, ef h, h.na]
      split
      · next hlt => rw [(h.an _ (by rw [h.na]; exact hlt)).1]
      · rfl
  have eo : r.ord = s.ord := by
    show (r.st r.na).2 = (s.st s.na).2
    rw [est, h.na]
  have eL : r.oL = s.oL := by
    unfold Rw.oL
    rw [eo, h.ni, h.nl, lst_eq (fun j hj => h.ip j (by rw [h.ni]; exact hj)), lst_eq (fun j hj => (h.la j (by rw [h.nl]; exact hj)).1)]
    congr 1
    exact List.map_congr_left fun i hi => (h.an i (by rw [h.na]; exact Rw.ord_lt i hi)).1
  have ek : ∀ k, r.nwk k = s.nwk k := fun k => by
    induction k with
    | zero => rfl
    | succ k ih => rw [Rw.nwk, Rw.nwk, ih, eL]
  have en : r.nw = s.nw := by unfold Rw.nw; rw [eL, ek]
  have et : ∀ x, r.told x = s.told x := fun x => by unfold Rw.told; rw [en]
  rw [Rw.oc_yes hk, Rw.oc_yes hk']
  refine cut_ext ?_ h.nl ?_ h.nb h.nc (fun j hj => ?_) (fun j hj => ?_) (fun j hj => ?_) fun j hj => ?_
  · show ((r.ni : Nat) : Int) = s.ni
    rw [h.ni]
  · show r.ord.length = s.ord.length
    rw [eo]
  · show r.told (r.la j) = s.told (s.la j) ∧ r.lb j = s.lb j
    rw [et, (h.la j hj).2.1, (h.la j hj).2.2]
    exact ⟨rfl, rfl⟩
  · have hj' : j < s.ord.length := by rw [← eo]; exact hj
    have hg := h.an (s.ord.getD j 0) (by rw [h.na]; exact Rw.ord_at hj')
    show max (r.told (r.ga (r.ord.getD j 0))) (r.told (r.gb (r.ord.getD j 0))) = max (s.told (s.ga (s.ord.getD j 0))) (s.told (s.gb (s.ord.getD j 0))) ∧ min (r.told (r.ga (r.ord.getD j 0))) (r.told (r.gb (r.ord.getD j 0))) = min (s.told (s.ga (s.ord.getD j 0))) (s.told (s.gb (s.ord.getD j 0)))
    rw [eo, et, et, hg.2.1, hg.2.2]
    exact ⟨rfl, rfl⟩
  · show r.told (r.bd j) = s.told (s.bd j)
    rw [et, h.bd j hj]
  · show r.told (r.cn j) = s.told (s.cn j)
    rw [et, h.cn j hj]

end Go.Proofs.YtkpjpokeonppbaaGreatDoor

namespace Go.Proofs.YtkpjpokeonppbaaGreatDoor
open Go Go.RowKit
set_option linter.unusedVariables false
set_option linter.unusedSimpArgs false

/-- the three texts of one raw circuit -/
def nmT : List (List UInt8) := [[97, 97, 103, 32, 50, 32, 48, 32, 50, 32, 48, 32, 48, 10, 50, 32, 52, 32, 49, 10, 52, 32, 50, 32, 52, 10], [97, 97, 103, 32, 50, 32, 48, 32, 50, 32, 48, 32, 48, 32, 48, 32, 48, 32, 48, 32, 48, 10, 50, 32, 52, 32, 49, 10, 52, 32, 50, 32, 52], [97, 97, 103, 32, 50, 32, 48, 32, 50, 32, 48, 32, 48, 10, 50, 32, 52, 32, 49, 10, 52, 32, 50, 32, 52, 10, 105, 48, 32, 120, 10, 108, 49, 10, 99, 10, 10, 97, 110, 121, 116, 104, 105, 110, 103, 10]]
/-- the raw circuit -/
def nmK : Rw := ⟨2, 0, 2, 0, 0, 0, fun _ => 0, fun j => if j = 0 then 2 else 4, fun j => if j = 0 then 4 else 2, fun j => if j = 0 then 1 else 2, fun _ => 0, fun _ => 0, fun _ => 0, fun _ => 0, fun _ => 0⟩
theorem nmT_ok : ∀ q, q < 3 → rdE (nmT.getD q []) = 0 ∧ rdN (nmT.getD q []) = 0 ∧ sameR (rdW (nmT.getD q [])) nmK = true ∧ (nmT.getD q []).length ≤ 100000 := by decide +kernel
theorem nmK_sm : RSm nmK := ⟨i64_k 2 (by decide) (by decide), by decide, by decide, by decide, by decide, by decide, fun _ _ => ze_i, fun j _ => by show I64 (if j = 0 then 2 else 4); split <;> exact i64_k _ (by decide) (by decide), fun j _ => by show I64 (if j = 0 then 4 else 2); split <;> exact i64_k _ (by decide) (by decide), fun j _ => by show I64 (if j = 0 then 1 else 2); split <;> exact i64_k _ (by decide) (by decide), fun _ _ => ze_i, fun _ _ => ze_i, fun _ _ => ze_i, fun _ _ => ze_i, fun _ _ => ze_i⟩
theorem nmK_mem {X : World} {b : Nat} (h : Has X b 32 #[.int .i64 2, .int .i64 4, .int .i64 1, .int .i64 4, .int .i64 2, .int .i64 2]) : RMem X X.heap.size nmK ⟨none, some ⟨b, 0, none⟩, none, none, none, 0, 2, 0, 0, 0⟩ :=
  ⟨fun h => absurd h (Nat.not_lt_zero _), trips_has h (fun j hj => by
    rcases (show j = 0 ∨ j = 1 by have : j < 2 := hj; omega) with rfl | rfl <;> exact ⟨rfl, rfl, rfl⟩), fun h => absurd h (Nat.not_lt_zero _), fun h => absurd h (Nat.not_lt_zero _), fun h => absurd h (Nat.not_lt_zero _)⟩
theorem nf0 : rdE [] = 12 ∧ rdN [] = 1 := by decide +kernel
theorem nf1 : rdE [97, 105, 103, 32, 48, 32, 48, 32, 48, 32, 48, 32, 48] = 12 ∧ rdN [97, 105, 103, 32, 48, 32, 48, 32, 48, 32, 48, 32, 48] = 1 := by decide +kernel
theorem nf2 : rdE [97, 97, 103, 32, 32, 48, 32, 48, 32, 48, 32, 48, 32, 48] = 12 ∧ rdN [97, 97, 103, 32, 32, 48, 32, 48, 32, 48, 32, 48, 32, 48] = 1 := by decide +kernel
theorem nf3 : rdE [97, 97, 103, 32, 48, 32, 48, 32, 48, 32, 48, 32, 48, 32] = 12 ∧ rdN [97, 97, 103, 32, 48, 32, 48, 32, 48, 32, 48, 32, 48, 32] = 1 := by decide +kernel
theorem nf4 : rdE [97, 97, 103, 32, 48, 48, 32, 48, 32, 48, 32, 48, 32, 48] = 12 ∧ rdN [97, 97, 103, 32, 48, 48, 32, 48, 32, 48, 32, 48, 32, 48] = 1 := by decide +kernel
theorem nf5 : rdE [97, 97, 103, 32, 48, 32, 48, 32, 48, 32, 48, 32, 48, 32, 48, 32, 48, 32, 48, 32, 48, 32, 48] = 12 ∧ rdN [97, 97, 103, 32, 48, 32, 48, 32, 48, 32, 48, 32, 48, 32, 48, 32, 48, 32, 48, 32, 48, 32, 48] = 1 := by decide +kernel
theorem nf6 : rdE [97, 97, 103, 32, 43, 49, 32, 48, 32, 48, 32, 48, 32, 48] = 12 ∧ rdN [97, 97, 103, 32, 43, 49, 32, 48, 32, 48, 32, 48, 32, 48] = 1 := by decide +kernel
theorem nf7 : rdE [97, 97, 103, 32, 49, 48, 48, 49, 32, 48, 32, 48, 32, 48, 32, 48] = 16 ∧ rdN [97, 97, 103, 32, 49, 48, 48, 49, 32, 48, 32, 48, 32, 48, 32, 48] = 1 := by decide +kernel
theorem nf8 : rdE [97, 97, 103, 32, 48, 32, 48, 32, 48, 32, 49, 48, 48, 49, 32, 48, 32, 48, 32, 48, 32, 49] = 16 ∧ rdN [97, 97, 103, 32, 48, 32, 48, 32, 48, 32, 49, 48, 48, 49, 32, 48, 32, 48, 32, 48, 32, 49] = 1 := by decide +kernel
theorem nf9 : rdE [97, 97, 103, 32, 49, 48, 48, 48, 48, 48, 48, 48, 48, 48, 32, 48, 32, 48, 32, 48, 32, 48] = 12 ∧ rdN [97, 97, 103, 32, 49, 48, 48, 48, 48, 48, 48, 48, 48, 48, 32, 48, 32, 48, 32, 48, 32, 48] = 1 := by decide +kernel
theorem nf10 : rdE [97, 97, 103, 32, 48, 32, 48, 32, 48, 32, 48, 32, 48, 32, 48, 32, 48, 32, 48, 32, 57] = 47 ∧ rdN [97, 97, 103, 32, 48, 32, 48, 32, 48, 32, 48, 32, 48, 32, 48, 32, 48, 32, 48, 32, 57] = 1 := by decide +kernel
theorem nf11 : rdE [97, 97, 103, 32, 49, 32, 49, 32, 48, 32, 48, 32, 48, 10] = 12 ∧ rdN [97, 97, 103, 32, 49, 32, 49, 32, 48, 32, 48, 32, 48, 10] = 2 := by decide +kernel
theorem nf12 : rdE [97, 97, 103, 32, 49, 32, 49, 32, 48, 32, 48, 32, 48, 10, 50, 32, 50, 10] = 12 ∧ rdN [97, 97, 103, 32, 49, 32, 49, 32, 48, 32, 48, 32, 48, 10, 50, 32, 50, 10] = 2 := by decide +kernel
theorem nf13 : rdE [97, 97, 103, 32, 49, 32, 48, 32, 49, 32, 48, 32, 48, 10, 50, 32, 51, 32, 53, 10] = 12 ∧ rdN [97, 97, 103, 32, 49, 32, 48, 32, 49, 32, 48, 32, 48, 10, 50, 32, 51, 32, 53, 10] = 2 := by decide +kernel
theorem nf14 : rdE [97, 97, 103, 32, 49, 32, 48, 32, 49, 32, 48, 32, 48, 10, 50, 10] = 12 ∧ rdN [97, 97, 103, 32, 49, 32, 48, 32, 49, 32, 48, 32, 48, 10, 50, 10] = 2 := by decide +kernel
theorem nf15 : rdE [97, 97, 103, 32, 49, 32, 49, 32, 48, 32, 48, 32, 48, 32, 49, 10, 50, 10, 10] = 12 ∧ rdN [97, 97, 103, 32, 49, 32, 49, 32, 48, 32, 48, 32, 48, 32, 49, 10, 50, 10, 10] = 3 := by decide +kernel
theorem nf16 : rdE [97, 97, 103, 32, 50, 32, 49, 32, 48, 32, 48, 32, 49, 10, 50, 10, 52, 32, 50] = 12 ∧ rdN [97, 97, 103, 32, 50, 32, 49, 32, 48, 32, 48, 32, 49, 10, 50, 10, 52, 32, 50] = 3 := by decide +kernel
theorem nf17 : rdE [97, 97, 103, 32, 49, 32, 49, 32, 48, 32, 48, 32, 48, 10, 50, 10, 120] = 38 ∧ rdN [97, 97, 103, 32, 49, 32, 49, 32, 48, 32, 48, 32, 48, 10, 50, 10, 120] = 3 := by decide +kernel
theorem nf18 : rdE [97, 97, 103, 32, 49, 32, 49, 32, 48, 32, 48, 32, 48, 10, 50, 10, 10] = 38 ∧ rdN [97, 97, 103, 32, 49, 32, 49, 32, 48, 32, 48, 32, 48, 10, 50, 10, 10] = 3 := by decide +kernel
theorem nf19 : rdE [97, 97, 103, 32, 49, 32, 49, 32, 48, 32, 48, 32, 48, 10, 50, 10, 99, 49, 10, 50, 10] = 38 ∧ rdN [97, 97, 103, 32, 49, 32, 49, 32, 48, 32, 48, 32, 48, 10, 50, 10, 99, 49, 10, 50, 10] = 4 := by decide +kernel
theorem nf20 : rdE [97, 97, 103, 32, 49, 32, 49, 32, 48, 32, 48, 32, 48, 10, 51, 10] = 8 ∧ rdN [97, 97, 103, 32, 49, 32, 49, 32, 48, 32, 48, 32, 48, 10, 51, 10] = 0 := by decide +kernel
theorem nf21 : rdE [97, 97, 103, 32, 49, 32, 50, 32, 48, 32, 48, 32, 48, 10, 50, 10, 50, 10] = 43 ∧ rdN [97, 97, 103, 32, 49, 32, 50, 32, 48, 32, 48, 32, 48, 10, 50, 10, 50, 10] = 0 := by decide +kernel
theorem nf22 : rdE [97, 97, 103, 32, 49, 32, 48, 32, 48, 32, 49, 32, 48, 10, 50, 10] = 46 ∧ rdN [97, 97, 103, 32, 49, 32, 48, 32, 48, 32, 49, 32, 48, 10, 50, 10] = 0 := by decide +kernel
theorem nf23 : rdE [97, 97, 103, 32, 50, 32, 48, 32, 48, 32, 48, 32, 50, 10, 50, 32, 52, 32, 52, 10, 52, 32, 50, 32, 50, 10] = 41 ∧ rdN [97, 97, 103, 32, 50, 32, 48, 32, 48, 32, 48, 32, 50, 10, 50, 32, 52, 32, 52, 10, 52, 32, 50, 32, 50, 10] = 0 := by decide +kernel
def nr0 : List UInt8 := [97, 97, 103, 32, 49, 32, 49, 32, 48, 32, 50, 32, 48, 10, 50, 10, 51, 10, 49, 10]
theorem nr0_E : rdE nr0 = 0 ∧ rdN nr0 = 0 := by decide +kernel
def nr1 : List UInt8 := [97, 97, 103, 32, 49, 32, 49, 32, 48, 32, 49, 32, 48, 32, 49, 10, 50, 10, 51, 10, 48, 10]
theorem nr1_E : rdE nr1 = 0 ∧ rdN nr1 = 0 := by decide +kernel
def nr2 : List UInt8 := [97, 97, 103, 32, 49, 32, 48, 32, 49, 32, 48, 32, 48, 10, 50, 32, 50, 32, 48, 10]
theorem nr2_E : rdE nr2 = 0 ∧ rdN nr2 = 0 := by decide +kernel
theorem nr0_b : sameB (rdW nr0).nb 2 (rdW nr0).bd (fun j => if j = 0 then 3 else 1) = true := by decide +kernel
theorem nr1_b : sameB (rdW nr1).nb 1 (rdW nr1).bd (fun j => 0) = true := by decide +kernel
theorem nr2_b : (rdW nr2).nl = 1 ∧ (rdW nr2).lb 0 = 0 := by decide +kernel

/-- forty digits, so many times -/
def dg40 : List UInt8 := [48, 49, 50, 51, 52, 53, 54, 55, 56, 57, 48, 49, 50, 51, 52, 53, 54, 55, 56, 57, 48, 49, 50, 51, 52, 53, 54, 55, 56, 57, 48, 49, 50, 51, 52, 53, 54, 55, 56, 57]
def dgN : Nat → List UInt8
  | 0 => []
  | n + 1 => dgN n ++ dg40
theorem dgN_len : ∀ n, (dgN n).length = 40 * n
  | 0 => rfl
  | n + 1 => by rw [dgN, List.length_append, dgN_len n]; show 40 * n + 40 = _; omega
theorem dgN_no : ∀ n, ∀ x ∈ dgN n, x ≠ (10 : UInt8)
  | 0, x, h => by cases h
  | n + 1, x, h => by
    rw [dgN] at h
    rcases List.mem_append.1 h with h | h
    · exact dgN_no n x h
    · intro e; subst e; exact absurd h (by decide)
/-- the long text's beginning -/
def lg0 : List UInt8 := [97, 97, 103, 32, 48, 32, 48, 32, 48, 32, 48, 32, 48, 10, 99, 10]
theorem lg_E {D : List UInt8} (h : ∀ x ∈ D, x ≠ (10 : UInt8)) (hl : (lg0 ++ D).length ≤ 40000) (hD : D ≠ []) : rdE (lg0 ++ D) = 0 := by
  have e1 : lg0 ++ D = [97, 97, 103, 32, 48, 32, 48, 32, 48, 32, 48, 32, 48] ++ 10 :: ([99] ++ 10 :: D) := rfl
  have e2 : pcs 10 (lg0 ++ D) = [[97, 97, 103, 32, 48, 32, 48, 32, 48, 32, 48, 32, 48], [99], D] := by
    rw [e1, pcs_app _ (by decide), pcs_app _ (by decide), pcs_one h]
  have e3 : lno (lg0 ++ D) = [[97, 97, 103, 32, 48, 32, 48, 32, 48, 32, 48, 32, 48], [99], D] := by
    unfold lno
    rw [e2, if_neg (by simpa using hD)]
  obtain ⟨L, hL⟩ : ∃ L : List (List UInt8), L = [[97, 97, 103, 32, 48, 32, 48, 32, 48, 32, 48, 32, 48], [99], D] := ⟨_, rfl⟩
  have h1 : hdr L = (0, [0, 0, 0, 0, 0]) := by rw [hL, hdr_one]; show hdr1 [97, 97, 103, 32, 48, 32, 48, 32, 48, 32, 48, 32, 48] = _; decide +kernel
  have h2 : ctO (hdr L).2 = ⟨0, 0, 0, 0, 0, 0, 0⟩ := by rw [h1]; rfl
  have h3 : talN L 1 = 0 := talN_c (i := 1) (j := 0) (fun t ht => absurd ht (Nat.not_lt_zero _)) (by rw [hL]; simp) (by rw [hL]; rfl)
  have h4 : ltF L = (0, 0) := by
    unfold ltF
    rw [h2, h1, if_neg (by simp)]
    rw [if_neg (by show ¬ gdL L ⟨0, 0, 0, 0, 0, 0, 0⟩ < 0; exact Nat.not_lt_zero _)]
    show (if 0 < talN L 1 then (38, talN L 1) else (0, 0)) = ((0 : Int), 0)
    rw [h3, if_neg (Nat.lt_irrefl 0)]
  have h5 : Agr (rdR L ⟨0, 0, 0, 0, 0, 0, 0⟩) zRw := ⟨rfl, rfl, rfl, rfl, rfl, rfl, fun j hj => absurd hj (Nat.not_lt_zero _), fun j hj => absurd hj (Nat.not_lt_zero _), fun j hj => absurd hj (Nat.not_lt_zero _), fun j hj => absurd hj (Nat.not_lt_zero _), fun j hj => absurd hj (Nat.not_lt_zero _)⟩
  unfold rdE
  rw [if_neg (by omega), e3, ← hL, h4, if_neg (by simp), h2, h5.chk]
  decide +kernel
/-- the long text, cut -/
def lgL : List UInt8 := (lg0 ++ dgN 1000).take 40000
theorem lgL_is : ∃ D, lgL = lg0 ++ D ∧ (∀ x ∈ D, x ≠ (10 : UInt8)) ∧ D.length = 39984 := by
  refine ⟨(dgN 1000).take 39984, ?_, fun x hx => dgN_no 1000 x (List.mem_of_mem_take hx), by rw [List.length_take, dgN_len]; omega⟩
  unfold lgL
  rw [List.take_append, List.take_of_length_le (show lg0.length ≤ 40000 by show 16 ≤ 40000; omega)]
  rfl
theorem lgL_len : lgL.length = 40000 := by
  obtain ⟨D, h1, h2, h3⟩ := lgL_is
  rw [h1, List.length_append, h3]; rfl
theorem lgL_E : rdE lgL = 0 ∧ rdN lgL = 0 := by
  obtain ⟨D, h1, h2, h3⟩ := lgL_is
  have hl := lgL_len
  have e : rdE lgL = 0 := by
    rw [h1]
    refine lg_E h2 (by rw [← h1]; omega) (fun h => by rw [h] at h3; simp at h3)
  exact ⟨e, (rd_good e).2⟩
theorem lgX_E : rdE (lgL ++ [120]) = 4 ∧ rdN (lgL ++ [120]) = 0 := by
  have hl : 40000 < (lgL ++ [120]).length := by rw [List.length_append, lgL_len]; exact Nat.lt_succ_self _
  exact ⟨by unfold rdE; rw [if_pos hl], by unfold rdN; rw [if_pos hl]⟩

end Go.Proofs.YtkpjpokeonppbaaGreatDoor

namespace Go.Proofs.YtkpjpokeonppbaaGreatDoor
open Go Go.RowKit
set_option linter.unusedVariables false
set_option linter.unusedSimpArgs false

/-- what is read, its raw circuit as a letter -/
theorem rd_x {l : List UInt8} (hl : l.length ≤ 100000) (h1 : rdE l = 0) (h2 : rdN l = 0) {B : Nat} {w : World} (hE : Env B w) (hB : B ≤ w.heap.size) :
    Calls Tryz.prog 10 #[.string (str l)] w fun e w' => (∃ p, e = .returned (.tuple #[rv (rdW l) p, .int .i64 0, .int .i64 0]) ∧ RMem w' w'.heap.size (rdW l) p ∧ RNils (rdW l) p) ∧ Below w.heap.size w w' :=
  (pRaw_any l hl B w hE hB).mono fun e w' h => by
    obtain ⟨⟨p, a, b, c⟩, d⟩ := h
    rw [h1, h2] at a
    exact ⟨⟨p, a, b, c⟩, d⟩
/-- the world since two others -/
structure Bt (w V W : World) : Prop where
  b : Below w.heap.size w W
  c : Below V.heap.size V W
theorem Bt.step {w V W W' : World} (h : Bt w V W) (hb : Below W.heap.size W W') : Bt w V W' := ⟨Below.step h.b h.b.size hb, Below.step h.c h.c.size hb⟩
theorem Bt.al {w V W : World} (h : Bt w V W) (o : Obj) : Bt w V (W.alloc o) := ⟨h.b.alloc h.b.size o, h.c.alloc h.c.size o⟩
theorem nfc0 {B : Nat} {w : World} (hE : Env B w) (hB : B ≤ w.heap.size) : Calls Tryz.prog 12 #[.string ⟨#[]⟩, .int .i64 1, .int .i64 12] w fun e w' => e = .returned (.bool true) ∧ Below w.heap.size w w' := fails8_any [] (by decide) 1 12 (by decide) nf0.1 (by rw [nf0.2]; rfl) B w hE hB
theorem nfc1 {B : Nat} {w : World} (hE : Env B w) (hB : B ≤ w.heap.size) : Calls Tryz.prog 12 #[.string ⟨#[97, 105, 103, 32, 48, 32, 48, 32, 48, 32, 48, 32, 48]⟩, .int .i64 1, .int .i64 12] w fun e w' => e = .returned (.bool true) ∧ Below w.heap.size w w' := fails8_any [97, 105, 103, 32, 48, 32, 48, 32, 48, 32, 48, 32, 48] (by decide) 1 12 (by decide) nf1.1 (by rw [nf1.2]; rfl) B w hE hB
theorem nfc2 {B : Nat} {w : World} (hE : Env B w) (hB : B ≤ w.heap.size) : Calls Tryz.prog 12 #[.string ⟨#[97, 97, 103, 32, 32, 48, 32, 48, 32, 48, 32, 48, 32, 48]⟩, .int .i64 1, .int .i64 12] w fun e w' => e = .returned (.bool true) ∧ Below w.heap.size w w' := fails8_any [97, 97, 103, 32, 32, 48, 32, 48, 32, 48, 32, 48, 32, 48] (by decide) 1 12 (by decide) nf2.1 (by rw [nf2.2]; rfl) B w hE hB
theorem nfc3 {B : Nat} {w : World} (hE : Env B w) (hB : B ≤ w.heap.size) : Calls Tryz.prog 12 #[.string ⟨#[97, 97, 103, 32, 48, 32, 48, 32, 48, 32, 48, 32, 48, 32]⟩, .int .i64 1, .int .i64 12] w fun e w' => e = .returned (.bool true) ∧ Below w.heap.size w w' := fails8_any [97, 97, 103, 32, 48, 32, 48, 32, 48, 32, 48, 32, 48, 32] (by decide) 1 12 (by decide) nf3.1 (by rw [nf3.2]; rfl) B w hE hB
theorem nfc4 {B : Nat} {w : World} (hE : Env B w) (hB : B ≤ w.heap.size) : Calls Tryz.prog 12 #[.string ⟨#[97, 97, 103, 32, 48, 48, 32, 48, 32, 48, 32, 48, 32, 48]⟩, .int .i64 1, .int .i64 12] w fun e w' => e = .returned (.bool true) ∧ Below w.heap.size w w' := fails8_any [97, 97, 103, 32, 48, 48, 32, 48, 32, 48, 32, 48, 32, 48] (by decide) 1 12 (by decide) nf4.1 (by rw [nf4.2]; rfl) B w hE hB
theorem nfc5 {B : Nat} {w : World} (hE : Env B w) (hB : B ≤ w.heap.size) : Calls Tryz.prog 12 #[.string ⟨#[97, 97, 103, 32, 48, 32, 48, 32, 48, 32, 48, 32, 48, 32, 48, 32, 48, 32, 48, 32, 48, 32, 48]⟩, .int .i64 1, .int .i64 12] w fun e w' => e = .returned (.bool true) ∧ Below w.heap.size w w' := fails8_any [97, 97, 103, 32, 48, 32, 48, 32, 48, 32, 48, 32, 48, 32, 48, 32, 48, 32, 48, 32, 48, 32, 48] (by decide) 1 12 (by decide) nf5.1 (by rw [nf5.2]; rfl) B w hE hB
theorem nfc6 {B : Nat} {w : World} (hE : Env B w) (hB : B ≤ w.heap.size) : Calls Tryz.prog 12 #[.string ⟨#[97, 97, 103, 32, 43, 49, 32, 48, 32, 48, 32, 48, 32, 48]⟩, .int .i64 1, .int .i64 12] w fun e w' => e = .returned (.bool true) ∧ Below w.heap.size w w' := fails8_any [97, 97, 103, 32, 43, 49, 32, 48, 32, 48, 32, 48, 32, 48] (by decide) 1 12 (by decide) nf6.1 (by rw [nf6.2]; rfl) B w hE hB
theorem nfc7 {B : Nat} {w : World} (hE : Env B w) (hB : B ≤ w.heap.size) : Calls Tryz.prog 12 #[.string ⟨#[97, 97, 103, 32, 49, 48, 48, 49, 32, 48, 32, 48, 32, 48, 32, 48]⟩, .int .i64 1, .int .i64 16] w fun e w' => e = .returned (.bool true) ∧ Below w.heap.size w w' := fails8_any [97, 97, 103, 32, 49, 48, 48, 49, 32, 48, 32, 48, 32, 48, 32, 48] (by decide) 1 16 (by decide) nf7.1 (by rw [nf7.2]; rfl) B w hE hB
theorem nfc8 {B : Nat} {w : World} (hE : Env B w) (hB : B ≤ w.heap.size) : Calls Tryz.prog 12 #[.string ⟨#[97, 97, 103, 32, 48, 32, 48, 32, 48, 32, 49, 48, 48, 49, 32, 48, 32, 48, 32, 48, 32, 49]⟩, .int .i64 1, .int .i64 16] w fun e w' => e = .returned (.bool true) ∧ Below w.heap.size w w' := fails8_any [97, 97, 103, 32, 48, 32, 48, 32, 48, 32, 49, 48, 48, 49, 32, 48, 32, 48, 32, 48, 32, 49] (by decide) 1 16 (by decide) nf8.1 (by rw [nf8.2]; rfl) B w hE hB
theorem nfc9 {B : Nat} {w : World} (hE : Env B w) (hB : B ≤ w.heap.size) : Calls Tryz.prog 12 #[.string ⟨#[97, 97, 103, 32, 49, 48, 48, 48, 48, 48, 48, 48, 48, 48, 32, 48, 32, 48, 32, 48, 32, 48]⟩, .int .i64 1, .int .i64 12] w fun e w' => e = .returned (.bool true) ∧ Below w.heap.size w w' := fails8_any [97, 97, 103, 32, 49, 48, 48, 48, 48, 48, 48, 48, 48, 48, 32, 48, 32, 48, 32, 48, 32, 48] (by decide) 1 12 (by decide) nf9.1 (by rw [nf9.2]; rfl) B w hE hB
theorem nfc10 {B : Nat} {w : World} (hE : Env B w) (hB : B ≤ w.heap.size) : Calls Tryz.prog 12 #[.string ⟨#[97, 97, 103, 32, 48, 32, 48, 32, 48, 32, 48, 32, 48, 32, 48, 32, 48, 32, 48, 32, 57]⟩, .int .i64 1, .int .i64 47] w fun e w' => e = .returned (.bool true) ∧ Below w.heap.size w w' := fails8_any [97, 97, 103, 32, 48, 32, 48, 32, 48, 32, 48, 32, 48, 32, 48, 32, 48, 32, 48, 32, 57] (by decide) 1 47 (by decide) nf10.1 (by rw [nf10.2]; rfl) B w hE hB
theorem nfc11 {B : Nat} {w : World} (hE : Env B w) (hB : B ≤ w.heap.size) : Calls Tryz.prog 12 #[.string ⟨#[97, 97, 103, 32, 49, 32, 49, 32, 48, 32, 48, 32, 48, 10]⟩, .int .i64 2, .int .i64 12] w fun e w' => e = .returned (.bool true) ∧ Below w.heap.size w w' := fails8_any [97, 97, 103, 32, 49, 32, 49, 32, 48, 32, 48, 32, 48, 10] (by decide) 2 12 (by decide) nf11.1 (by rw [nf11.2]; rfl) B w hE hB
theorem nfc12 {B : Nat} {w : World} (hE : Env B w) (hB : B ≤ w.heap.size) : Calls Tryz.prog 12 #[.string ⟨#[97, 97, 103, 32, 49, 32, 49, 32, 48, 32, 48, 32, 48, 10, 50, 32, 50, 10]⟩, .int .i64 2, .int .i64 12] w fun e w' => e = .returned (.bool true) ∧ Below w.heap.size w w' := fails8_any [97, 97, 103, 32, 49, 32, 49, 32, 48, 32, 48, 32, 48, 10, 50, 32, 50, 10] (by decide) 2 12 (by decide) nf12.1 (by rw [nf12.2]; rfl) B w hE hB
theorem nfc13 {B : Nat} {w : World} (hE : Env B w) (hB : B ≤ w.heap.size) : Calls Tryz.prog 12 #[.string ⟨#[97, 97, 103, 32, 49, 32, 48, 32, 49, 32, 48, 32, 48, 10, 50, 32, 51, 32, 53, 10]⟩, .int .i64 2, .int .i64 12] w fun e w' => e = .returned (.bool true) ∧ Below w.heap.size w w' := fails8_any [97, 97, 103, 32, 49, 32, 48, 32, 49, 32, 48, 32, 48, 10, 50, 32, 51, 32, 53, 10] (by decide) 2 12 (by decide) nf13.1 (by rw [nf13.2]; rfl) B w hE hB
theorem nfc14 {B : Nat} {w : World} (hE : Env B w) (hB : B ≤ w.heap.size) : Calls Tryz.prog 12 #[.string ⟨#[97, 97, 103, 32, 49, 32, 48, 32, 49, 32, 48, 32, 48, 10, 50, 10]⟩, .int .i64 2, .int .i64 12] w fun e w' => e = .returned (.bool true) ∧ Below w.heap.size w w' := fails8_any [97, 97, 103, 32, 49, 32, 48, 32, 49, 32, 48, 32, 48, 10, 50, 10] (by decide) 2 12 (by decide) nf14.1 (by rw [nf14.2]; rfl) B w hE hB
theorem nfc15 {B : Nat} {w : World} (hE : Env B w) (hB : B ≤ w.heap.size) : Calls Tryz.prog 12 #[.string ⟨#[97, 97, 103, 32, 49, 32, 49, 32, 48, 32, 48, 32, 48, 32, 49, 10, 50, 10, 10]⟩, .int .i64 3, .int .i64 12] w fun e w' => e = .returned (.bool true) ∧ Below w.heap.size w w' := fails8_any [97, 97, 103, 32, 49, 32, 49, 32, 48, 32, 48, 32, 48, 32, 49, 10, 50, 10, 10] (by decide) 3 12 (by decide) nf15.1 (by rw [nf15.2]; rfl) B w hE hB
theorem nfc16 {B : Nat} {w : World} (hE : Env B w) (hB : B ≤ w.heap.size) : Calls Tryz.prog 12 #[.string ⟨#[97, 97, 103, 32, 50, 32, 49, 32, 48, 32, 48, 32, 49, 10, 50, 10, 52, 32, 50]⟩, .int .i64 3, .int .i64 12] w fun e w' => e = .returned (.bool true) ∧ Below w.heap.size w w' := fails8_any [97, 97, 103, 32, 50, 32, 49, 32, 48, 32, 48, 32, 49, 10, 50, 10, 52, 32, 50] (by decide) 3 12 (by decide) nf16.1 (by rw [nf16.2]; rfl) B w hE hB
theorem nfc17 {B : Nat} {w : World} (hE : Env B w) (hB : B ≤ w.heap.size) : Calls Tryz.prog 12 #[.string ⟨#[97, 97, 103, 32, 49, 32, 49, 32, 48, 32, 48, 32, 48, 10, 50, 10, 120]⟩, .int .i64 3, .int .i64 38] w fun e w' => e = .returned (.bool true) ∧ Below w.heap.size w w' := fails8_any [97, 97, 103, 32, 49, 32, 49, 32, 48, 32, 48, 32, 48, 10, 50, 10, 120] (by decide) 3 38 (by decide) nf17.1 (by rw [nf17.2]; rfl) B w hE hB
theorem nfc18 {B : Nat} {w : World} (hE : Env B w) (hB : B ≤ w.heap.size) : Calls Tryz.prog 12 #[.string ⟨#[97, 97, 103, 32, 49, 32, 49, 32, 48, 32, 48, 32, 48, 10, 50, 10, 10]⟩, .int .i64 3, .int .i64 38] w fun e w' => e = .returned (.bool true) ∧ Below w.heap.size w w' := fails8_any [97, 97, 103, 32, 49, 32, 49, 32, 48, 32, 48, 32, 48, 10, 50, 10, 10] (by decide) 3 38 (by decide) nf18.1 (by rw [nf18.2]; rfl) B w hE hB
theorem nfc19 {B : Nat} {w : World} (hE : Env B w) (hB : B ≤ w.heap.size) : Calls Tryz.prog 12 #[.string ⟨#[97, 97, 103, 32, 49, 32, 49, 32, 48, 32, 48, 32, 48, 10, 50, 10, 99, 49, 10, 50, 10]⟩, .int .i64 4, .int .i64 38] w fun e w' => e = .returned (.bool true) ∧ Below w.heap.size w w' := fails8_any [97, 97, 103, 32, 49, 32, 49, 32, 48, 32, 48, 32, 48, 10, 50, 10, 99, 49, 10, 50, 10] (by decide) 4 38 (by decide) nf19.1 (by rw [nf19.2]; rfl) B w hE hB
theorem nfc20 {B : Nat} {w : World} (hE : Env B w) (hB : B ≤ w.heap.size) : Calls Tryz.prog 12 #[.string ⟨#[97, 97, 103, 32, 49, 32, 49, 32, 48, 32, 48, 32, 48, 10, 51, 10]⟩, .int .i64 0, .int .i64 8] w fun e w' => e = .returned (.bool true) ∧ Below w.heap.size w w' := fails8_any [97, 97, 103, 32, 49, 32, 49, 32, 48, 32, 48, 32, 48, 10, 51, 10] (by decide) 0 8 (by decide) nf20.1 (by rw [nf20.2]; rfl) B w hE hB
theorem nfc21 {B : Nat} {w : World} (hE : Env B w) (hB : B ≤ w.heap.size) : Calls Tryz.prog 12 #[.string ⟨#[97, 97, 103, 32, 49, 32, 50, 32, 48, 32, 48, 32, 48, 10, 50, 10, 50, 10]⟩, .int .i64 0, .int .i64 43] w fun e w' => e = .returned (.bool true) ∧ Below w.heap.size w w' := fails8_any [97, 97, 103, 32, 49, 32, 50, 32, 48, 32, 48, 32, 48, 10, 50, 10, 50, 10] (by decide) 0 43 (by decide) nf21.1 (by rw [nf21.2]; rfl) B w hE hB
theorem nfc22 {B : Nat} {w : World} (hE : Env B w) (hB : B ≤ w.heap.size) : Calls Tryz.prog 12 #[.string ⟨#[97, 97, 103, 32, 49, 32, 48, 32, 48, 32, 49, 32, 48, 10, 50, 10]⟩, .int .i64 0, .int .i64 46] w fun e w' => e = .returned (.bool true) ∧ Below w.heap.size w w' := fails8_any [97, 97, 103, 32, 49, 32, 48, 32, 48, 32, 49, 32, 48, 10, 50, 10] (by decide) 0 46 (by decide) nf22.1 (by rw [nf22.2]; rfl) B w hE hB
theorem nfc23 {B : Nat} {w : World} (hE : Env B w) (hB : B ≤ w.heap.size) : Calls Tryz.prog 12 #[.string ⟨#[97, 97, 103, 32, 50, 32, 48, 32, 48, 32, 48, 32, 50, 10, 50, 32, 52, 32, 52, 10, 52, 32, 50, 32, 50, 10]⟩, .int .i64 0, .int .i64 41] w fun e w' => e = .returned (.bool true) ∧ Below w.heap.size w w' := fails8_any [97, 97, 103, 32, 50, 32, 48, 32, 48, 32, 48, 32, 50, 10, 50, 32, 52, 32, 52, 10, 52, 32, 50, 32, 50, 10] (by decide) 0 41 (by decide) nf23.1 (by rw [nf23.2]; rfl) B w hE hB
theorem nrc0 {B : Nat} {w : World} (hE : Env B w) (hB : B ≤ w.heap.size) : Calls Tryz.prog 10 #[.string ⟨#[97, 97, 103, 32, 49, 32, 49, 32, 48, 32, 50, 32, 48, 10, 50, 10, 51, 10, 49, 10]⟩] w fun e w' => (∃ p, e = .returned (.tuple #[rv (rdW nr0) p, .int .i64 0, .int .i64 0]) ∧ RMem w' w'.heap.size (rdW nr0) p ∧ RNils (rdW nr0) p) ∧ Below w.heap.size w w' := rd_x (l := nr0) (by decide) nr0_E.1 nr0_E.2 hE hB
theorem nrc1 {B : Nat} {w : World} (hE : Env B w) (hB : B ≤ w.heap.size) : Calls Tryz.prog 10 #[.string ⟨#[97, 97, 103, 32, 49, 32, 49, 32, 48, 32, 49, 32, 48, 32, 49, 10, 50, 10, 51, 10, 48, 10]⟩] w fun e w' => (∃ p, e = .returned (.tuple #[rv (rdW nr1) p, .int .i64 0, .int .i64 0]) ∧ RMem w' w'.heap.size (rdW nr1) p ∧ RNils (rdW nr1) p) ∧ Below w.heap.size w w' := rd_x (l := nr1) (by decide) nr1_E.1 nr1_E.2 hE hB
theorem nrc2 {B : Nat} {w : World} (hE : Env B w) (hB : B ≤ w.heap.size) : Calls Tryz.prog 10 #[.string ⟨#[97, 97, 103, 32, 49, 32, 48, 32, 49, 32, 48, 32, 48, 10, 50, 32, 50, 32, 48, 10]⟩] w fun e w' => (∃ p, e = .returned (.tuple #[rv (rdW nr2) p, .int .i64 0, .int .i64 0]) ∧ RMem w' w'.heap.size (rdW nr2) p ∧ RNils (rdW nr2) p) ∧ Below w.heap.size w w' := rd_x (l := nr2) (by decide) nr2_E.1 nr2_E.2 hE hB
theorem nrcz {B : Nat} {w : World} (hE : Env B w) (hB : B ≤ w.heap.size) : Calls Tryz.prog 10 #[.string ⟨#[97, 97, 103, 32, 49, 32, 48, 32, 49, 32, 48, 32, 48, 10, 50, 32, 50, 32, 48, 10]⟩] w fun e w' => (∃ m A1 n1 k1 a k2 A3 n3 k3 A4 n4 k4 A5 n5 k5, e = .returned (.tuple #[.agg #[.int .i64 m, .slice A1 n1 k1, .slice (some a) 1 k2, .slice A3 n3 k3, .slice A4 n4 k4, .slice A5 n5 k5], .int .i64 0, .int .i64 0]) ∧ a.block < w'.heap.size ∧ w'.cell? ⟨a.block, a.off + 2, none⟩ = some (.int .i64 0)) ∧ Below w.heap.size w w' := by
  refine (nrc2 hE hB).mono fun e w' h => ?_
  obtain ⟨⟨⟨A1, A2, A3, A4, A5, k1, k2, k3, k4, k5⟩, he, hm, hn⟩, hb⟩ := h
  obtain ⟨e1, e2⟩ := nr2_b
  obtain ⟨x, hx⟩ : ∃ x, x = rdW nr2 := ⟨_, rfl⟩
  rw [← hx] at he hm e1 e2
  obtain ⟨m, ni, nl, na, nb, nc, ip, ll, la, lb, gl, ga, gb, bd, cn⟩ := x
  dsimp only at e1 e2
  subst e1
  obtain ⟨a, ha, hl, hc⟩ := hm.la Nat.one_pos
  dsimp only at ha
  subst ha
  obtain ⟨c0, c1, c2⟩ := hc 0 Nat.one_pos
  have ea : a.add (0 * 3) = a := by unfold Addr.add; split <;> simp_all
  rw [ea] at c2
  refine ⟨⟨m, A1, ni, k1, a, k2, A3, na, k3, A4, nb, k4, A5, nc, k5, he, hl, ?_⟩, hb⟩
  rw [c2]
  show some (Value.int .i64 (lb 0)) = _
  rw [e2]
/-- a string's bytes -/
def strN (v : Value) : Nat := match v with
  | .string s => s.size
  | _ => 0
theorem nm_same {x : Rw} {p : Rp} {X : World} {b : Nat} (hx : RSm x) (hs : sameR x nmK = true) (hm : RMem X X.heap.size x p) (h : Has X b 32 #[.int .i64 2, .int .i64 4, .int .i64 1, .int .i64 4, .int .i64 2, .int .i64 2]) :
    Calls Tryz.prog 11 #[rv x p, .agg #[.int .i64 2, .slice none 0 0, .slice (some ⟨b, 0, none⟩) 2 2, .slice none 0 0, .slice none 0 0, .slice none 0 0]] X fun e w' => e = .returned (.bool true) ∧ Below X.heap.size X w' := by
  have h := oSame_any x nmK p ⟨none, some ⟨b, 0, none⟩, none, none, none, 0, 2, 0, 0, 0⟩ X hx nmK_sm hm (nmK_mem h)
  rw [hs] at h
  exact h

set_option maxRecDepth 100000 in
set_option maxHeartbeats 16000000 in
theorem names_walk (w : World) (henv : Env w.heap.size w) : Calls Tryz.prog 3 #[] w fun e w' => e = .returned (.bool true) ∧ Below w.heap.size w w' := by
  have HE := Lib.hid henv
  clear henv
  have AL : Hid (∀ W, Below w.heap.size w W → Calls Tryz.prog 14 #[] W fun e w' => e = .returned (.bool true) ∧ Below W.heap.size W w') := Lib.hid fun W hb => alive8_any w.heap.size W (HE.out.on hb) hb.size
  have HT : Hid (Below w.heap.size w (w.alloc (.cells #[.string ⟨#[97, 97, 103, 32, 50, 32, 48, 32, 50, 32, 48, 32, 48, 10, 50, 32, 52, 32, 49, 10, 52, 32, 50, 32, 52, 10]⟩, .string ⟨#[97, 97, 103, 32, 50, 32, 48, 32, 50, 32, 48, 32, 48, 32, 48, 32, 48, 32, 48, 32, 48, 10, 50, 32, 52, 32, 49, 10, 52, 32, 50, 32, 52]⟩, .string ⟨#[97, 97, 103, 32, 50, 32, 48, 32, 50, 32, 48, 32, 48, 10, 50, 32, 52, 32, 49, 10, 52, 32, 50, 32, 52, 10, 105, 48, 32, 120, 10, 108, 49, 10, 99, 10, 10, 97, 110, 121, 116, 104, 105, 110, 103, 10]⟩] 9)) ∧ Has (w.alloc (.cells #[.string ⟨#[97, 97, 103, 32, 50, 32, 48, 32, 50, 32, 48, 32, 48, 10, 50, 32, 52, 32, 49, 10, 52, 32, 50, 32, 52, 10]⟩, .string ⟨#[97, 97, 103, 32, 50, 32, 48, 32, 50, 32, 48, 32, 48, 32, 48, 32, 48, 32, 48, 32, 48, 10, 50, 32, 52, 32, 49, 10, 52, 32, 50, 32, 52]⟩, .string ⟨#[97, 97, 103, 32, 50, 32, 48, 32, 50, 32, 48, 32, 48, 10, 50, 32, 52, 32, 49, 10, 52, 32, 50, 32, 52, 10, 105, 48, 32, 120, 10, 108, 49, 10, 99, 10, 10, 97, 110, 121, 116, 104, 105, 110, 103, 10]⟩] 9)) w.heap.size 9 #[.string ⟨#[97, 97, 103, 32, 50, 32, 48, 32, 50, 32, 48, 32, 48, 10, 50, 32, 52, 32, 49, 10, 52, 32, 50, 32, 52, 10]⟩, .string ⟨#[97, 97, 103, 32, 50, 32, 48, 32, 50, 32, 48, 32, 48, 32, 48, 32, 48, 32, 48, 32, 48, 10, 50, 32, 52, 32, 49, 10, 52, 32, 50, 32, 52]⟩, .string ⟨#[97, 97, 103, 32, 50, 32, 48, 32, 50, 32, 48, 32, 48, 10, 50, 32, 52, 32, 49, 10, 52, 32, 50, 32, 52, 10, 105, 48, 32, 120, 10, 108, 49, 10, 99, 10, 10, 97, 110, 121, 116, 104, 105, 110, 103, 10]⟩]) := Lib.hid ⟨(Below.refl _ _).alloc (Nat.le_refl _) _, Has.new _ _ _⟩
  obtain ⟨xa, hxa⟩ : ∃ x, x = rdW nr0 := ⟨_, rfl⟩
  obtain ⟨xb, hxb⟩ : ∃ x, x = rdW nr1 := ⟨_, rfl⟩
  have Ra : Hid (∀ W, Below w.heap.size w W → Calls Tryz.prog 10 #[.string ⟨#[97, 97, 103, 32, 49, 32, 49, 32, 48, 32, 50, 32, 48, 10, 50, 10, 51, 10, 49, 10]⟩] W fun e w' => (∃ p, e = .returned (.tuple #[rv xa p, .int .i64 0, .int .i64 0]) ∧ RMem w' w'.heap.size xa p ∧ RNils xa p) ∧ Below W.heap.size W w') := Lib.hid fun W hb => by rw [hxa]; exact nrc0 (HE.out.on hb) hb.size
  have Rb : Hid (∀ W, Below w.heap.size w W → Calls Tryz.prog 10 #[.string ⟨#[97, 97, 103, 32, 49, 32, 49, 32, 48, 32, 49, 32, 48, 32, 49, 10, 50, 10, 51, 10, 48, 10]⟩] W fun e w' => (∃ p, e = .returned (.tuple #[rv xb p, .int .i64 0, .int .i64 0]) ∧ RMem w' w'.heap.size xb p ∧ RNils xb p) ∧ Below W.heap.size W w') := Lib.hid fun W hb => by rw [hxb]; exact nrc1 (HE.out.on hb) hb.size
  have HXA : Hid (RSm xa ∧ sameB xa.nb 2 xa.bd (fun j => if j = 0 then 3 else 1) = true) := Lib.hid (by rw [hxa]; exact ⟨rdW_sm _, nr0_b⟩)
  have HXB : Hid (RSm xb ∧ sameB xb.nb 1 xb.bd (fun j => 0) = true) := Lib.hid (by rw [hxb]; exact ⟨rdW_sm _, nr1_b⟩)
  clear hxa hxb
  go_enter Tryz.func3, Tryz.ntmps3
  go_wp2
  go_loopw [2] (fun i wr => ∃ q : Nat, q ≤ 3 ∧ i = .int .i64 q ∧ Hid (Below w.heap.size w wr ∧ Has wr w.heap.size 9 #[.string ⟨#[97, 97, 103, 32, 50, 32, 48, 32, 50, 32, 48, 32, 48, 10, 50, 32, 52, 32, 49, 10, 52, 32, 50, 32, 52, 10]⟩, .string ⟨#[97, 97, 103, 32, 50, 32, 48, 32, 50, 32, 48, 32, 48, 32, 48, 32, 48, 32, 48, 32, 48, 10, 50, 32, 52, 32, 49, 10, 52, 32, 50, 32, 52]⟩, .string ⟨#[97, 97, 103, 32, 50, 32, 48, 32, 50, 32, 48, 32, 48, 10, 50, 32, 52, 32, 49, 10, 52, 32, 50, 32, 52, 10, 105, 48, 32, 120, 10, 108, 49, 10, 99, 10, 10, 97, 110, 121, 116, 104, 105, 110, 103, 10]⟩])) (fun i _ => 3 - (intOf i).toNat)
  case atStart => exact ⟨0, Nat.zero_le _, rfl, HT⟩
  case round =>
    obtain ⟨q, hq, rfl, hW⟩ := hrel
    by_cases hlt : q < 3
    · have hq0 : (0 : Int) ≤ (q : Int) := by omega
      have hq1 : (q : Int) < 3 := by omega
      obtain ⟨t1, t2, t3, t4⟩ := nmT_ok q hlt
      obtain ⟨l, hl⟩ : ∃ l, l = nmT.getD q [] := ⟨_, rfl⟩
      rw [← hl] at t1 t2 t3 t4
      have y1 : wr.cell? ⟨w.heap.size, q, none⟩ = some (.string (str l)) := by
        rw [hW.out.2.cell, hl]
        rcases (show q = 0 ∨ q = 1 ∨ q = 2 by omega) with rfl | rfl | rfl <;> rfl
      have y2 : wr.cell? ((⟨w.heap.size, 0, none⟩ : Addr).add q) = some (.string (str l)) := by
        have e : (⟨w.heap.size, 0, none⟩ : Addr).add q = ⟨w.heap.size, q, none⟩ := by unfold Addr.add; split <;> simp_all
        rw [e]; exact y1
      have DR := rd_x (l := l) t4 t1 t2 (HE.out.on hW.out.1) hW.out.1.size
      have hxs := rdW_sm l
      obtain ⟨x, hx⟩ : ∃ x, x = rdW l := ⟨_, rfl⟩
      rw [← hx] at DR t3 hxs
      obtain ⟨S, hS⟩ : ∃ S, S = str l := ⟨_, rfl⟩
      rw [← hS] at DR y1 y2
      have D := Lib.hid DR
      have HX := Lib.hid (And.intro hxs t3)
      clear DR hx hS hl t1 t2 t3 t4 hxs
      go_wp2_with (go_at_call 10; (with_reducible refine D.out.mono ?_); rintro e w1 ⟨⟨p, rfl, hm1, hn1⟩, hb1⟩; have HM1 := Lib.hid hm1; have HB1 := Lib.hid hb1; clear hm1 hn1 hb1)
      have hb3 : Below w1.heap.size w1 ((w1.alloc (.cells (rcL x p) 26)).alloc (.cells #[.int .i64 2, .int .i64 4, .int .i64 1, .int .i64 4, .int .i64 2, .int .i64 2] 32)) := ((Below.refl _ _).alloc (Nat.le_refl _) _).alloc (by simp) _
      have DS := Lib.hid (nm_same (b := w1.heap.size + 1) HX.out.1 HX.out.2 (HM1.out.to hb3 hb3.size) (Has.new' _ _ (by simp)))
      have HB3 := Lib.hid (Below.step HB1.out HB1.out.size hb3)
      have HW3 : Hid (Below w.heap.size w ((w1.alloc (.cells (rcL x p) 26)).alloc (.cells #[.int .i64 2, .int .i64 4, .int .i64 1, .int .i64 4, .int .i64 2, .int .i64 2] 32)) ∧ Has ((w1.alloc (.cells (rcL x p) 26)).alloc (.cells #[.int .i64 2, .int .i64 4, .int .i64 1, .int .i64 4, .int .i64 2, .int .i64 2] 32)) w.heap.size 9 #[.string ⟨#[97, 97, 103, 32, 50, 32, 48, 32, 50, 32, 48, 32, 48, 10, 50, 32, 52, 32, 49, 10, 52, 32, 50, 32, 52, 10]⟩, .string ⟨#[97, 97, 103, 32, 50, 32, 48, 32, 50, 32, 48, 32, 48, 32, 48, 32, 48, 32, 48, 32, 48, 10, 50, 32, 52, 32, 49, 10, 52, 32, 50, 32, 52]⟩, .string ⟨#[97, 97, 103, 32, 50, 32, 48, 32, 50, 32, 48, 32, 48, 10, 50, 32, 52, 32, 49, 10, 52, 32, 50, 32, 52, 10, 105, 48, 32, 120, 10, 108, 49, 10, 99, 10, 10, 97, 110, 121, 116, 104, 105, 110, 103, 10]⟩]) := Lib.hid ⟨Below.step hW.out.1 hW.out.1.size HB3.out, hW.out.2.keep HB3.out hW.out.2.lt⟩
      clear hb3 y1 y2
      go_wp2_with (go_at_call 11; (with_reducible refine DS.out.mono ?_); rintro e w4 ⟨rfl, hb4⟩; have HW4 := Lib.hid (And.intro (Below.step HW3.out.1 HW3.out.1.size hb4) (HW3.out.2.keep hb4 HW3.out.2.lt)); clear hb4)
      go_roundw
      case rel => exact ⟨q + 1, by omega, by go_num, HW4⟩
      case measure => simp [intOf]; omega
    · have hqn : ¬ (q : Int) < 3 := by omega
      clear hlt hq
      go_wp2_with (go_at_call 10; (with_reducible refine (Ra.out _ hW.out.1).mono ?_); rintro e w6 ⟨⟨p6, rfl, hm6, hn6⟩, hb6⟩; have hb6' := (Below.step hW.out.1 hW.out.1.size hb6); have H6 := Lib.hid (And.intro (hb6'.alloc hb6'.size (.cells (rcL xa p6) 26)) (And.intro (Has.new w6 26 (rcL xa p6)) (hm6.to ((Below.refl _ _).alloc (Nat.le_refl _) (.cells (rcL xa p6) 26)) (by simp)))); clear hm6 hn6 hb6 hb6')
      go_wp2_with (go_at_call 10; (with_reducible refine (Rb.out _ H6.out.1).mono ?_); rintro e w9 ⟨⟨p9, rfl, hm9, hn9⟩, hb9⟩; have hb9' := (Below.step H6.out.1 H6.out.1.size hb9).alloc (Below.step H6.out.1 H6.out.1.size hb9).size (.cells (rcL xb p9) 26); have hq9 := hb9.alloc hb9.size (.cells (rcL xb p9) 26); have H9 := Lib.hid (And.intro hb9' (And.intro (H6.out.2.1.keep hq9 H6.out.2.1.lt) (And.intro (H6.out.2.2.to hq9 hq9.size) (And.intro (Has.new w9 26 (rcL xb p9)) (hm9.to ((Below.refl _ _).alloc (Nat.le_refl _) (.cells (rcL xb p9) 26)) (by simp)))))); clear hm9 hn9 hb9 hb9' hq9)
      go_upto_region 11 with (go_at_call 10; (with_reducible refine (nrcz (HE.out.on H9.out.1) H9.out.1.size).mono ?_); rintro e w12 ⟨⟨m, B1, n1, k1, a, k2, B3, n3, k3, B4, n4, k4, B5, n5, k5, rfl, hal, hac⟩, hb12⟩; have H12 := Lib.hid (And.intro hb12 (And.intro hal hac)); clear hb12 hal hac)
      obtain ⟨V, hV⟩ : ∃ V, V = w12.alloc (.cells #[.int .i64 m, .slice B1 n1 k1, .slice (some a) 1 k2, .slice B3 n3 k3, .slice B4 n4 k4, .slice B5 n5 k5] 26) := ⟨_, rfl⟩
      obtain ⟨b6, hb6⟩ : ∃ b, b = w6.heap.size := ⟨_, rfl⟩
      obtain ⟨b9, hb9⟩ : ∃ b, b = w9.heap.size := ⟨_, rfl⟩
      obtain ⟨b12, hb12⟩ : ∃ b, b = w12.heap.size := ⟨_, rfl⟩
      have hq12 : Below (w9.alloc (.cells (rcL xb p9) 26)).heap.size (w9.alloc (.cells (rcL xb p9) 26)) V := by rw [hV]; exact H12.out.1.alloc H12.out.1.size _
      have K6 : Hid (Has V b6 26 (rcL xa p6) ∧ RMem V V.heap.size xa p6) := Lib.hid ⟨by rw [hb6]; exact H9.out.2.1.keep hq12 H9.out.2.1.lt, H9.out.2.2.1.to hq12 hq12.size⟩
      have K9 : Hid (Has V b9 26 (rcL xb p9) ∧ RMem V V.heap.size xb p9) := Lib.hid ⟨by rw [hb9]; exact H9.out.2.2.2.1.keep hq12 H9.out.2.2.2.1.lt, H9.out.2.2.2.2.to hq12 hq12.size⟩
      have K12 : Hid (Has V b12 26 #[.int .i64 m, .slice B1 n1 k1, .slice (some a) 1 k2, .slice B3 n3 k3, .slice B4 n4 k4, .slice B5 n5 k5] ∧ a.block < V.heap.size ∧ V.cell? ⟨a.block, a.off + 2, none⟩ = some (.int .i64 0)) := Lib.hid ⟨by rw [hV, hb12]; exact Has.new _ _ _, by rw [hV]; have := H12.out.2.1; simp; omega, by rw [hV]; exact (((Below.refl w12.heap.size w12).alloc (Nat.le_refl _) _).cell (p := ⟨a.block, a.off + 2, none⟩) H12.out.2.1).trans H12.out.2.2⟩
      have T0 : Hid (Bt w V V) := Lib.hid ⟨Below.step H9.out.1 H9.out.1.size hq12, Below.refl _ _⟩
      rw [← hV, ← hb6, ← hb9, ← hb12]
      clear hV hb6 hb9 hb12 hq12 H12 H9 H6 hW
      go_wp2_with (go_at_call 12; (with_reducible refine (nfc0 (HE.out.on T0.out.b) T0.out.b.size).mono ?_); rintro e w20 ⟨rfl, hb⟩; have T1 := Lib.hid (T0.out.step hb); clear hb T0)
      go_wp2_with (go_at_call 12; (with_reducible refine (nfc1 (HE.out.on T1.out.b) T1.out.b.size).mono ?_); rintro e w21 ⟨rfl, hb⟩; have T2 := Lib.hid (T1.out.step hb); clear hb T1)
      go_wp2_with (go_at_call 12; (with_reducible refine (nfc2 (HE.out.on T2.out.b) T2.out.b.size).mono ?_); rintro e w22 ⟨rfl, hb⟩; have T3 := Lib.hid (T2.out.step hb); clear hb T2)
      go_wp2_with (go_at_call 12; (with_reducible refine (nfc3 (HE.out.on T3.out.b) T3.out.b.size).mono ?_); rintro e w23 ⟨rfl, hb⟩; have T4 := Lib.hid (T3.out.step hb); clear hb T3)
      go_wp2_with (go_at_call 12; (with_reducible refine (nfc4 (HE.out.on T4.out.b) T4.out.b.size).mono ?_); rintro e w24 ⟨rfl, hb⟩; have T5 := Lib.hid (T4.out.step hb); clear hb T4)
      go_wp2_with (go_at_call 12; (with_reducible refine (nfc5 (HE.out.on T5.out.b) T5.out.b.size).mono ?_); rintro e w25 ⟨rfl, hb⟩; have T6 := Lib.hid (T5.out.step hb); clear hb T5)
      go_wp2_with (go_at_call 12; (with_reducible refine (nfc6 (HE.out.on T6.out.b) T6.out.b.size).mono ?_); rintro e w26 ⟨rfl, hb⟩; have T7 := Lib.hid (T6.out.step hb); clear hb T6)
      go_wp2_with (go_at_call 12; (with_reducible refine (nfc7 (HE.out.on T7.out.b) T7.out.b.size).mono ?_); rintro e w27 ⟨rfl, hb⟩; have T8 := Lib.hid (T7.out.step hb); clear hb T7)
      go_wp2_with (go_at_call 12; (with_reducible refine (nfc8 (HE.out.on T8.out.b) T8.out.b.size).mono ?_); rintro e w28 ⟨rfl, hb⟩; have T9 := Lib.hid (T8.out.step hb); clear hb T8)
      go_wp2_with (go_at_call 12; (with_reducible refine (nfc9 (HE.out.on T9.out.b) T9.out.b.size).mono ?_); rintro e w29 ⟨rfl, hb⟩; have T10 := Lib.hid (T9.out.step hb); clear hb T9)
      go_wp2_with (go_at_call 12; (with_reducible refine (nfc10 (HE.out.on T10.out.b) T10.out.b.size).mono ?_); rintro e w30 ⟨rfl, hb⟩; have T11 := Lib.hid (T10.out.step hb); clear hb T10)
      go_wp2_with (go_at_call 12; (with_reducible refine (nfc11 (HE.out.on T11.out.b) T11.out.b.size).mono ?_); rintro e w31 ⟨rfl, hb⟩; have T12 := Lib.hid (T11.out.step hb); clear hb T11)
      go_wp2_with (go_at_call 12; (with_reducible refine (nfc12 (HE.out.on T12.out.b) T12.out.b.size).mono ?_); rintro e w32 ⟨rfl, hb⟩; have T13 := Lib.hid (T12.out.step hb); clear hb T12)
      go_wp2_with (go_at_call 12; (with_reducible refine (nfc13 (HE.out.on T13.out.b) T13.out.b.size).mono ?_); rintro e w33 ⟨rfl, hb⟩; have T14 := Lib.hid (T13.out.step hb); clear hb T13)
      go_wp2_with (go_at_call 12; (with_reducible refine (nfc14 (HE.out.on T14.out.b) T14.out.b.size).mono ?_); rintro e w34 ⟨rfl, hb⟩; have T15 := Lib.hid (T14.out.step hb); clear hb T14)
      go_wp2_with (go_at_call 12; (with_reducible refine (nfc15 (HE.out.on T15.out.b) T15.out.b.size).mono ?_); rintro e w35 ⟨rfl, hb⟩; have T16 := Lib.hid (T15.out.step hb); clear hb T15)
      go_wp2_with (go_at_call 12; (with_reducible refine (nfc16 (HE.out.on T16.out.b) T16.out.b.size).mono ?_); rintro e w36 ⟨rfl, hb⟩; have T17 := Lib.hid (T16.out.step hb); clear hb T16)
      go_wp2_with (go_at_call 12; (with_reducible refine (nfc17 (HE.out.on T17.out.b) T17.out.b.size).mono ?_); rintro e w37 ⟨rfl, hb⟩; have T18 := Lib.hid (T17.out.step hb); clear hb T17)
      go_wp2_with (go_at_call 12; (with_reducible refine (nfc18 (HE.out.on T18.out.b) T18.out.b.size).mono ?_); rintro e w38 ⟨rfl, hb⟩; have T19 := Lib.hid (T18.out.step hb); clear hb T18)
      go_wp2_with (go_at_call 12; (with_reducible refine (nfc19 (HE.out.on T19.out.b) T19.out.b.size).mono ?_); rintro e w39 ⟨rfl, hb⟩; have T20 := Lib.hid (T19.out.step hb); clear hb T19)
      go_wp2_with (go_at_call 12; (with_reducible refine (nfc20 (HE.out.on T20.out.b) T20.out.b.size).mono ?_); rintro e w40 ⟨rfl, hb⟩; have T21 := Lib.hid (T20.out.step hb); clear hb T20)
      go_wp2_with (go_at_call 12; (with_reducible refine (nfc21 (HE.out.on T21.out.b) T21.out.b.size).mono ?_); rintro e w41 ⟨rfl, hb⟩; have T22 := Lib.hid (T21.out.step hb); clear hb T21)
      go_wp2_with (go_at_call 12; (with_reducible refine (nfc22 (HE.out.on T22.out.b) T22.out.b.size).mono ?_); rintro e w42 ⟨rfl, hb⟩; have T23 := Lib.hid (T22.out.step hb); clear hb T22)
      go_wp2_with (go_at_call 12; (with_reducible refine (nfc23 (HE.out.on T23.out.b) T23.out.b.size).mono ?_); rintro e w43 ⟨rfl, hb⟩; have T24 := Lib.hid (T23.out.step hb); clear hb T23)
      go_loopw [18] (fun u wr => ∃ (k : Nat) (S : ByteArray), k ≤ 1000 ∧ u = .string S ∧ Hid (S = str (lg0 ++ dgN k)) ∧ Hid (Bt w V wr)) (fun u _ => 50000 - strN u)
      case atStart => exact ⟨0, _, Nat.zero_le _, rfl, Lib.hid rfl, T24⟩
      case round =>
        obtain ⟨k, S, hk, rfl, hS, hT⟩ := hrel
        have kl : ∀ W : World, (Builtin.len_ #[9] 3 #[.string S]).run Tryz.prog W = .ok (.int .i64 (16 + 40 * (k : Int))) W := fun W => by
          rw [hS.out, str_len Tryz.underlying9 _ W, List.length_append, dgN_len]
          congr 2
        by_cases hlt : k < 1000
        · have g1 : decide (16 + 40 * (k : Int) < 40000) = true := decide_eq_true (by omega)
          have ka : ∀ W : World, (Op.stringOp .add S ⟨#[48, 49, 50, 51, 52, 53, 54, 55, 56, 57, 48, 49, 50, 51, 52, 53, 54, 55, 56, 57, 48, 49, 50, 51, 52, 53, 54, 55, 56, 57, 48, 49, 50, 51, 52, 53, 54, 55, 56, 57]⟩).run Tryz.prog W = .ok (.string (str (lg0 ++ dgN (k + 1)))) W := fun W => by
            rw [hS.out, dgN, ← List.append_assoc]
            exact str_add (l := lg0 ++ dgN k) (m := dg40) (by rw [List.length_append, dgN_len]; show 16 + 40 * k + 40 ≤ _; omega) W
          obtain ⟨S2, hS2⟩ : ∃ S2, S2 = str (lg0 ++ dgN (k + 1)) := ⟨_, rfl⟩
          rw [← hS2] at ka
          have HS2 := Lib.hid hS2
          have hz : strN (.string S) = 16 + 40 * k := by rw [hS.out]; show (str _).size = _; rw [str_size, List.length_append, dgN_len]; rfl
          have hz2 : strN (.string S2) = 16 + 40 * k + 40 := by rw [hS2]; show (str _).size = _; rw [str_size, List.length_append, dgN_len]; show 16 + 40 * (k + 1) = _; omega
          have HZ := Lib.hid (And.intro hz hz2)
          clear hS2 hz hz2
          go_wp2
          go_roundw
          case rel => exact ⟨k + 1, S2, by omega, rfl, HS2, hT⟩
          case measure => have := HZ.out; omega
        · have g1 : decide (16 + 40 * (k : Int) < 40000) = false := decide_eq_false (by omega)
          have hk9 : k = 1000 := by omega
          have ks : ∀ W : World, (Instr.slice 9 (.string S) none (some (.int .i64 40000)) none).run Tryz.prog W = .ok (.string (str lgL)) W := fun W => by
            rw [hS.out, hk9]
            exact str_to Tryz.underlying9 (lg0 ++ dgN 1000) (j := 40000) rfl (by rw [List.length_append, dgN_len]; show 40000 ≤ 16 + 40 * 1000; omega) W
          have kx : ∀ W : World, (Op.stringOp .add (str lgL) ⟨#[120]⟩).run Tryz.prog W = .ok (.string (str (lgL ++ [120]))) W := fun W => str_add (l := lgL) (m := [120]) (by rw [lgL_len]; show 40000 + 1 ≤ _; omega) W
          obtain ⟨y, hy⟩ : ∃ y, y = rdW lgL := ⟨_, rfl⟩
          have RL : Hid (∀ W, Below w.heap.size w W → Calls Tryz.prog 10 #[.string (str lgL)] W fun e w' => (∃ p, e = .returned (.tuple #[rv y p, .int .i64 0, .int .i64 0]) ∧ RMem w' w'.heap.size y p ∧ RNils y p) ∧ Below W.heap.size W w') := Lib.hid fun W hb => by rw [hy]; exact rd_x (l := lgL) (by rw [lgL_len]; omega) lgL_E.1 lgL_E.2 (HE.out.on hb) hb.size
          have FX : Hid (∀ W, Below w.heap.size w W → Calls Tryz.prog 12 #[.string (str (lgL ++ [120])), .int .i64 0, .int .i64 4] W fun e w' => e = .returned (.bool true) ∧ Below W.heap.size W w') := Lib.hid fun W hb => fails8_any (lgL ++ [120]) (by rw [List.length_append, lgL_len]; show 40000 + 1 ≤ _; omega) 0 4 (by decide) lgX_E.1 (by rw [lgX_E.2]; rfl) w.heap.size W (HE.out.on hb) hb.size
          obtain ⟨SL, hSL⟩ : ∃ s, s = str lgL := ⟨_, rfl⟩
          obtain ⟨SX, hSX⟩ : ∃ s, s = str (lgL ++ [120]) := ⟨_, rfl⟩
          rw [← hSL] at ks kx RL
          rw [← hSX] at kx FX
          clear hSL hSX hy hk9 hlt hk hS
          go_wp2_with (go_at_call 10; (with_reducible refine (RL.out _ hT.out.b).mono ?_); rintro e w50 ⟨⟨p, rfl, hm, hn⟩, hb⟩; have T50 := Lib.hid ((hT.out.step hb).al (.cells (rcL y p) 26)); have f6 : ∀ o : Obj, (w50.alloc o).cell? ⟨b6, 4, none⟩ = some (.slice p6.A4 xa.nb p6.k4) := fun o => ((K6.out.1.keep (hT.out.step hb).c K6.out.1.lt).al o).cell 4; have qa := (Below.refl (w50.alloc (.cells (rcL y p) 26)).heap.size (w50.alloc (.cells (rcL y p) 26))).alloc (Nat.le_refl _) (.cells #[.int .i64 3, .int .i64 1] 3); have s1 := sameInts_any p6.A4 (some ⟨(w50.alloc (.cells (rcL y p) 26)).heap.size, 0, none⟩) xa.nb 2 p6.k4 2 xa.bd (fun j => if j = 0 then 3 else 1) ((w50.alloc (.cells (rcL y p) 26)).alloc (.cells #[.int .i64 3, .int .i64 1] 3)).heap.size ((w50.alloc (.cells (rcL y p) 26)).alloc (.cells #[.int .i64 3, .int .i64 1] 3)) (by have := HXA.out.1.nb; omega) (by omega) ((K6.out.2.to T50.out.c T50.out.c.size).to qa qa.size).bd (ints_of_has (Has.new _ _ _) (fun j hj => by rcases (show j = 0 ∨ j = 1 by omega) with rfl | rfl <;> rfl)); rw [HXA.out.2] at s1; simp only [World.size_alloc] at s1; have S1 := Lib.hid s1; have QA := Lib.hid qa; clear s1 qa hm hn hb)
          go_wp2_with (go_at_call 13; (with_reducible refine S1.out.mono ?_); rintro e w51 ⟨rfl, hb0⟩; have hb : Below ((w50.alloc (.cells (rcL y p) 26)).alloc (.cells #[.int .i64 3, .int .i64 1] 3)).heap.size ((w50.alloc (.cells (rcL y p) 26)).alloc (.cells #[.int .i64 3, .int .i64 1] 3)) w51 := (by simpa only [World.size_alloc] using hb0); have T51 := Lib.hid ((T50.out.step QA.out).step hb); clear hb0; have f9 : w51.cell? ⟨b9, 4, none⟩ = some (.slice p9.A4 xb.nb p9.k4) := (K9.out.1.keep T51.out.c K9.out.1.lt).cell 4; have qb := (Below.refl w51.heap.size w51).alloc (Nat.le_refl _) (.cells #[.int .i64 0] 3); have s2 := sameInts_any p9.A4 (some ⟨w51.heap.size, 0, none⟩) xb.nb 1 p9.k4 1 xb.bd (fun _ => 0) (w51.alloc (.cells #[.int .i64 0] 3)).heap.size (w51.alloc (.cells #[.int .i64 0] 3)) (by have := HXB.out.1.nb; omega) (by omega) ((K9.out.2.to T51.out.c T51.out.c.size).to qb qb.size).bd (ints_of_has (Has.new _ _ _) (fun j hj => by rw [Nat.lt_one_iff.1 hj]; rfl)); rw [HXB.out.2] at s2; have S2 := Lib.hid s2; have QB := Lib.hid qb; clear s2 qb hb f6)
          go_wp2_with (go_at_call 13; (with_reducible refine S2.out.mono ?_); rintro e w52 ⟨rfl, hb⟩; have T52 := Lib.hid ((T51.out.step QB.out).step hb); have f12 : w52.cell? ⟨b12, 2, none⟩ = some (.slice (some a) 1 k2) := (K12.out.1.keep T52.out.c K12.out.1.lt).cell 2; have fa : w52.cell? ⟨a.block, a.off + 2, none⟩ = some (.int .i64 0) := (T52.out.c.cell (p := ⟨a.block, a.off + 2, none⟩) K12.out.2.1).trans K12.out.2.2; clear hb f9)
          go_wp2_with (go_at_call 12; (with_reducible refine (FX.out _ T52.out.b).mono ?_); rintro e w53 ⟨rfl, hb⟩; have T53 := Lib.hid (T52.out.step hb); clear hb)
          go_wp2_with (go_at_call 14; (with_reducible refine (AL.out _ T53.out.b).mono ?_); rintro e w54 ⟨rfl, hb⟩; have T54 := Lib.hid (T53.out.step hb); clear hb)
          go_ret
          exact ⟨by simp, T54.out.b⟩

end Go.Proofs.YtkpjpokeonppbaaGreatDoor
