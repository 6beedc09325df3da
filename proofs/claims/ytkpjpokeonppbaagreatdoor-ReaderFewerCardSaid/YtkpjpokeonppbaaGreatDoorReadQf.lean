/- The statement ReaderBack's walk. Fewer lines of a right raw circuit's text; the statement ReaderFewer's walk. -/
import Derived.Test.YtkpjpokeonppbaaGreatDoorReadPd
import Derived.Test.YtkpjpokeonppbaaGreatDoorAsciiRef
namespace Go.Proofs.YtkpjpokeonppbaaGreatDoor
open Go Go.RowKit
set_option linter.unusedVariables false
set_option linter.unusedSimpArgs false

/-- the cells of a raw circuit's box, later -/
theorem six_cells {w : World} {b : Nat} {r : Rw} {p : Rp} (h : Has w b 26 (rc r p)) : w.cell? ⟨b, 0, none⟩ = some (.int .i64 r.m) ∧ w.cell? ⟨b, 1, none⟩ = some (.slice p.A1 r.ni p.k1) ∧ w.cell? ⟨b, 2, none⟩ = some (.slice p.A2 r.nl p.k2) ∧ w.cell? ⟨b, 3, none⟩ = some (.slice p.A3 r.na p.k3) ∧ w.cell? ⟨b, 4, none⟩ = some (.slice p.A4 r.nb p.k4) ∧ w.cell? ⟨b, 5, none⟩ = some (.slice p.A5 r.nc p.k5) :=
  ⟨h.cell 0, h.cell 1, h.cell 2, h.cell 3, h.cell 4, h.cell 5⟩

set_option maxRecDepth 100000 in
set_option maxHeartbeats 8000000 in
theorem back_walk (c0 : Rw) (p0 : Rp) (w : World) (hm0 : RMem w w.heap.size c0 p0) (hN0 : RNils c0 p0) (hv0 : RVals c0) (henv : Env w.heap.size w) :
    Calls Tryz.prog 5 #[rv c0 p0] w fun e w' => e = .returned (.bool true) ∧ Below w.heap.size w w' := by
  have HE := Lib.hid henv
  clear henv
  have hsz : 0 ≤ w.heap.size := Nat.zero_le _
  have AL : Hid (∀ W, Below w.heap.size w W → Calls Tryz.prog 14 #[] W fun e w' => e = .returned (.bool true) ∧ Below W.heap.size W w') := Lib.hid fun W hb => alive8_any w.heap.size W (HE.out.on hb) hb.size
  obtain ⟨hB0, hH0⟩ := rbox_new w c0 p0
  have HH0 := Lib.hid (And.intro hB0 hH0)
  have HM0 := Lib.hid (And.intro hm0 hN0)
  have DG := Lib.hid (oGreat_any c0 p0 (w.alloc (.cells (rcL c0 p0) 26)))
  cases hg : c0.gr
  · have HS := Lib.hid (hv0.sm hg)
    rw [hg] at DG
    have DA : Hid (∀ W, Below w.heap.size w W → Calls Tryz.prog 20 #[rv c0 p0] W fun e w' => e = .returned (.tuple #[.string (str c0.txtE), .int .i64 c0.chk]) ∧ Below W.heap.size W w') := Lib.hid fun W hb => aRaw_any c0 p0 W HS.out (HM0.out.1.to hb hb.size) HM0.out.2 (Tab.up (HE.out.t.on hb) hb.size)
    clear hg hm0 hN0 hv0 hB0 hH0
    by_cases hk : c0.chk = 0
    · have HK := Lib.hid hk
      have hk' : (c0.chk != 0) = false := by simpa using hk
      obtain ⟨b1, b2, b3⟩ := back_E hk
      have hsh := txt_short hk
      have e1 : c0.txtE = c0.txt := by unfold Rw.txtE; rw [if_pos hk]
      obtain ⟨x, hx⟩ : ∃ x, x = rdW c0.txt := ⟨_, rfl⟩
      have DR : Hid (∀ W, Below w.heap.size w W → Calls Tryz.prog 10 #[.string (str c0.txt)] W fun e w' => (∃ p, e = .returned (.tuple #[rv x p, .int .i64 0, .int .i64 0]) ∧ RMem w' w'.heap.size x p ∧ RNils x p) ∧ Below W.heap.size W w') := Lib.hid fun W hb => by
        refine (pRaw_any c0.txt (by omega) w.heap.size W (HE.out.on hb) hb.size).mono fun e w' h => ?_
        obtain ⟨⟨p, he, hm, hn⟩, hb'⟩ := h
        rw [b1, b2, ← hx] at he
        rw [← hx] at hm hn
        exact ⟨⟨p, he, hm, hn⟩, hb'⟩
      have HX := Lib.hid (And.intro (show RSm x by rw [hx]; exact rdW_sm _) (show sameR x c0 = true by rw [hx]; exact b3.same))
      rw [e1] at DA
      obtain ⟨S, hS⟩ : ∃ S, S = str c0.txt := ⟨_, rfl⟩
      rw [← hS] at DA DR
      rw [hk] at DA
      clear hk hS hx e1 b1 b2 b3 hsh
      go_enter Tryz.func5, Tryz.ntmps5
      go_wp2_with (go_at_call 19; (with_reducible refine DG.out.mono ?_); rintro e w1 ⟨rfl, hb1⟩; have hH1 := HH0.out.2.keep hb1 HH0.out.2.lt; have H1 := Lib.hid (And.intro (Below.step HH0.out.1 HH0.out.1.size hb1) hH1); obtain ⟨x0, x1, x2, x3, x4, x5⟩ := six_cells hH1; clear hb1 hH1)
      go_wp2_with (go_at_call 20; (with_reducible refine (DA.out _ H1.out.1).mono ?_); rintro e w2 ⟨rfl, hb2⟩; have hH2 := H1.out.2.keep hb2 H1.out.2.lt; have H2 := Lib.hid (And.intro (Below.step H1.out.1 H1.out.1.size hb2) hH2); clear hb2 hH2)
      go_wp2_with (go_at_call 10; (with_reducible refine (DR.out _ H2.out.1).mono ?_); rintro e w3 ⟨⟨p, rfl, hm3, hn3⟩, hb3⟩; have hH3 := H2.out.2.keep hb3 H2.out.2.lt; have H3 := Lib.hid (And.intro (Below.step H2.out.1 H2.out.1.size hb3) (And.intro hH3 hm3)); have x0 := fun o : Obj => ((hH3.al o).cell 0); have x1 := fun o : Obj => ((hH3.al o).cell 1); have x2 := fun o : Obj => ((hH3.al o).cell 2); have x3 := fun o : Obj => ((hH3.al o).cell 3); have x4 := fun o : Obj => ((hH3.al o).cell 4); have x5 := fun o : Obj => ((hH3.al o).cell 5); simp only [rc, List.getElem?_toArray, List.getElem?_cons_zero, List.getElem?_cons_succ] at x0 x1 x2 x3 x4 x5; have DS := Lib.hid (oSame_any x c0 p p0 (w3.alloc (.cells (rcL x p) 26)) HX.out.1 HS.out (hm3.to ((Below.refl _ _).alloc (Nat.le_refl _) _) (by simp)) (HM0.out.1.to (H3.out.1.alloc H3.out.1.size _) (H3.out.1.alloc H3.out.1.size _).size)); rw [HX.out.2] at DS; clear hb3 hH3 hm3 hn3)
      go_wp2_with (go_at_call 11; (with_reducible refine DS.out.mono ?_); rintro e w4 ⟨rfl, hb4⟩; have H4 := Lib.hid (Below.step (H3.out.1.alloc H3.out.1.size _) (H3.out.1.alloc H3.out.1.size _).size hb4); clear hb4)
      go_wp2_with (go_at_call 14; (with_reducible refine (AL.out _ H4.out).mono ?_); rintro e w5 ⟨rfl, hb5⟩; have H5 := Lib.hid (Below.step H4.out H4.out.size hb5); clear hb5)
      go_ret
      exact ⟨by simp, H5.out⟩
    · have hk' : (c0.chk != 0) = true := by simpa using hk
      obtain ⟨x, hx⟩ : ∃ x, x = c0.chk := ⟨_, rfl⟩
      have DC : Hid (∀ W, Below w.heap.size w W → Calls Tryz.prog 21 #[rv c0 p0] W fun e w' => e = .returned (.int .i64 x) ∧ Below W.heap.size W w') := Lib.hid fun W hb => by rw [hx]; exact pCheck_any c0 p0 W HS.out (HM0.out.1.to hb hb.size) HM0.out.2
      rw [← hx] at DA hk'
      clear hk hx
      go_enter Tryz.func5, Tryz.ntmps5
      go_wp2_with (go_at_call 19; (with_reducible refine DG.out.mono ?_); rintro e w1 ⟨rfl, hb1⟩; have hH1 := HH0.out.2.keep hb1 HH0.out.2.lt; have H1 := Lib.hid (And.intro (Below.step HH0.out.1 HH0.out.1.size hb1) hH1); obtain ⟨x0, x1, x2, x3, x4, x5⟩ := six_cells hH1; clear hb1 hH1)
      go_wp2_with (go_at_call 20; (with_reducible refine (DA.out _ H1.out.1).mono ?_); rintro e w2 ⟨rfl, hb2⟩; have hH2 := H1.out.2.keep hb2 H1.out.2.lt; have H2 := Lib.hid (And.intro (Below.step H1.out.1 H1.out.1.size hb2) hH2); obtain ⟨y0, y1, y2, y3, y4, y5⟩ := six_cells hH2; clear hb2 hH2)
      go_wp2_with (go_at_call 21; (with_reducible refine (DC.out _ H2.out.1).mono ?_); rintro e w3 ⟨rfl, hb3⟩; have H3 := Lib.hid (Below.step H2.out.1 H2.out.1.size hb3); clear hb3)
      go_wp2_with (go_at_call 14; (with_reducible refine (AL.out _ H3.out).mono ?_); rintro e w5 ⟨rfl, hb5⟩; have H5 := Lib.hid (Below.step H3.out H3.out.size hb5); clear hb5)
      go_ret
      exact ⟨by simp, H5.out⟩
  · rw [hg] at DG
    clear hg hm0 hN0 hv0 hB0 hH0
    go_enter Tryz.func5, Tryz.ntmps5
    go_wp2_with (go_at_call 19; (with_reducible refine DG.out.mono ?_); rintro e w1 ⟨rfl, hb1⟩; have H1 := Lib.hid (Below.step HH0.out.1 HH0.out.1.size hb1); clear hb1)
    go_wp2_with (go_at_call 14; (with_reducible refine (AL.out _ H1.out).mono ?_); rintro e w5 ⟨rfl, hb5⟩; have H5 := Lib.hid (Below.step H1.out H1.out.size hb5); clear hb5)
    go_ret
    exact ⟨by simp, H5.out⟩

end Go.Proofs.YtkpjpokeonppbaaGreatDoor

namespace Go.Proofs.YtkpjpokeonppbaaGreatDoor
open Go Go.RowKit
set_option linter.unusedVariables false
set_option linter.unusedSimpArgs false

set_option maxRecDepth 100000 in
set_option maxHeartbeats 8000000 in
theorem again_walk (l0 : List UInt8) (w : World) (henv : Env w.heap.size w) :
    Calls Tryz.prog 7 #[.string (str l0)] w fun e w' => e = .returned (.bool true) ∧ Below w.heap.size w w' := by
  have HE := Lib.hid henv
  clear henv
  have AL : Hid (∀ W, Below w.heap.size w W → Calls Tryz.prog 14 #[] W fun e w' => e = .returned (.bool true) ∧ Below W.heap.size W w') := Lib.hid fun W hb => alive8_any w.heap.size W (HE.out.on hb) hb.size
  have k0 : ∀ W : World, (Builtin.len_ #[9] 3 #[.string (str l0)]).run Tryz.prog W = .ok (.int .i64 (l0.length : Int)) W := fun W => str_len Tryz.underlying9 l0 W
  obtain ⟨m, hmm⟩ : ∃ m : Int, m = (l0.length : Int) := ⟨_, rfl⟩
  rw [← hmm] at k0
  by_cases hm : 5000 < l0.length
  · have e0 : decide ((5000 : Int) < m) = true := decide_eq_true (by omega)
    clear hm hmm
    go_enter Tryz.func7, Tryz.ntmps7
    go_wp2_with (go_at_call 14; (with_reducible refine (AL.out _ (Below.refl _ _)).mono ?_); rintro e w5 ⟨rfl, hb5⟩; have H5 := Lib.hid hb5; clear hb5)
    go_ret
    exact ⟨by simp, H5.out⟩
  · have e0 : decide ((5000 : Int) < m) = false := decide_eq_false (by omega)
    have hl : l0.length ≤ 100000 := by omega
    have D0 := pRaw_any l0 hl w.heap.size w HE.out (Nat.le_refl _)
    by_cases hk : rdE l0 = 0
    · obtain ⟨g1, g2⟩ := rd_good hk
      obtain ⟨b1, b2, b3⟩ := back_E g1
      have hsh := txt_short g1
      have hsm := rdW_sm l0
      have hsm2 := rdW_sm (rdW l0).txt
      obtain ⟨x, hx⟩ : ∃ x, x = rdW l0 := ⟨_, rfl⟩
      obtain ⟨y, hy⟩ : ∃ y, y = rdW x.txt := ⟨_, rfl⟩
      rw [← hx] at g1 b1 b2 b3 hsh hsm hsm2
      rw [← hy] at b3 hsm2
      have D1 : Hid (Calls Tryz.prog 10 #[.string (str l0)] w fun e w' => (∃ p, e = .returned (.tuple #[rv x p, .int .i64 0, .int .i64 0]) ∧ RMem w' w'.heap.size x p ∧ RNils x p) ∧ Below w.heap.size w w') := Lib.hid (D0.mono fun e w' h => by
        obtain ⟨⟨p, he, hm, hn⟩, hb'⟩ := h
        rw [hk, g2, ← hx] at he
        rw [← hx] at hm hn
        exact ⟨⟨p, he, hm, hn⟩, hb'⟩)
      have DA : Hid (∀ W p, Below w.heap.size w W → RMem W W.heap.size x p → RNils x p → Calls Tryz.prog 20 #[rv x p] W fun e w' => e = .returned (.tuple #[.string (str x.txt), .int .i64 0]) ∧ Below W.heap.size W w') := Lib.hid fun W p hb hm hn => aRaw_yes x p W g1 hsm hm hn (Tab.up (HE.out.t.on hb) hb.size)
      have DR : Hid (∀ W, Below w.heap.size w W → Calls Tryz.prog 10 #[.string (str x.txt)] W fun e w' => (∃ p, e = .returned (.tuple #[rv y p, .int .i64 0, .int .i64 0]) ∧ RMem w' w'.heap.size y p ∧ RNils y p) ∧ Below W.heap.size W w') := Lib.hid fun W hb => by
        refine (pRaw_any x.txt (by omega) w.heap.size W (HE.out.on hb) hb.size).mono fun e w' h => ?_
        obtain ⟨⟨p, he, hm, hn⟩, hb'⟩ := h
        rw [b1, b2, ← hy] at he
        rw [← hy] at hm hn
        exact ⟨⟨p, he, hm, hn⟩, hb'⟩
      have HX := Lib.hid (And.intro hsm (And.intro hsm2 b3.same))
      obtain ⟨S, hS⟩ : ∃ S, S = str x.txt := ⟨_, rfl⟩
      rw [← hS] at DA DR
      clear hk hS hx hy g1 g2 b1 b2 b3 hsh hsm hsm2 D0 hm hmm hl
      go_enter Tryz.func7, Tryz.ntmps7
      go_wp2_with (go_at_call 10; (with_reducible refine D1.out.mono ?_); rintro e w1 ⟨⟨p, rfl, hm1, hn1⟩, hb1⟩; have hB1 := hb1.alloc hb1.size (.cells (rcL x p) 26); have H1 := Lib.hid (And.intro hB1 (And.intro (Has.new w1 26 (rcL x p)) (And.intro (hm1.to ((Below.refl _ _).alloc (Nat.le_refl _) (.cells (rcL x p) 26)) (by simp)) hn1))); clear hm1 hn1 hb1 hB1)
      go_wp2_with (go_at_call 20; (with_reducible refine (DA.out _ p H1.out.1 H1.out.2.2.1 H1.out.2.2.2).mono ?_); rintro e w2 ⟨rfl, hb2⟩; have hH2 := H1.out.2.1.keep hb2 H1.out.2.1.lt; have H2 := Lib.hid (And.intro (Below.step H1.out.1 H1.out.1.size hb2) (And.intro hH2 (H1.out.2.2.1.to hb2 hb2.size))); clear hb2 hH2)
      go_wp2_with (go_at_call 10; (with_reducible refine (DR.out _ H2.out.1).mono ?_); rintro e w3 ⟨⟨q, rfl, hm3, hn3⟩, hb3⟩; have hH3 := H2.out.2.1.keep hb3 H2.out.2.1.lt; have H3 := Lib.hid (Below.step H2.out.1 H2.out.1.size hb3); have x0 := fun o : Obj => ((hH3.al o).cell 0); have x1 := fun o : Obj => ((hH3.al o).cell 1); have x2 := fun o : Obj => ((hH3.al o).cell 2); have x3 := fun o : Obj => ((hH3.al o).cell 3); have x4 := fun o : Obj => ((hH3.al o).cell 4); have x5 := fun o : Obj => ((hH3.al o).cell 5); simp only [rcL, List.getElem?_toArray, List.getElem?_cons_zero, List.getElem?_cons_succ] at x0 x1 x2 x3 x4 x5; have DS := Lib.hid (oSame_any y x q p (w3.alloc (.cells (rcL y q) 26)) HX.out.2.1 HX.out.1 (hm3.to ((Below.refl _ _).alloc (Nat.le_refl _) _) (by simp)) ((H2.out.2.2.to hb3 hb3.size).to ((Below.refl _ _).alloc (Nat.le_refl _) _) (by simp))); rw [HX.out.2.2] at DS; clear hb3 hH3 hm3 hn3)
      go_wp2_with (go_at_call 11; (with_reducible refine DS.out.mono ?_); rintro e w4 ⟨rfl, hb4⟩; have H4 := Lib.hid (Below.step (H3.out.alloc H3.out.size _) (H3.out.alloc H3.out.size _).size hb4); clear hb4)
      go_wp2_with (go_at_call 14; (with_reducible refine (AL.out _ H4.out).mono ?_); rintro e w5 ⟨rfl, hb5⟩; have H5 := Lib.hid (Below.step H4.out H4.out.size hb5); clear hb5)
      go_ret
      exact ⟨by simp, H5.out⟩
    · obtain ⟨x, hx⟩ : ∃ x, x = rdE l0 := ⟨_, rfl⟩
      obtain ⟨N, hN⟩ : ∃ N : Int, N = (rdN l0 : Int) := ⟨_, rfl⟩
      have D1 := Lib.hid (D0.mono fun e w' h => rd_err (x := x) (N := N) (by rw [hx]; exact hk) hx.symm hN.symm h)
      have e1 : (x != 0) = true := by rw [hx]; simpa using hk
      have e2 : decide (N ≥ 0) = true := decide_eq_true (by omega)
      have e3 : decide ((0 : Int) ≤ N) = true := decide_eq_true (by omega)
      clear hk hx hN D0 hm hmm hl
      go_enter Tryz.func7, Tryz.ntmps7
      go_wp2_with (go_at_call 10; (with_reducible refine D1.out.mono ?_); rintro e w1 ⟨⟨p, rfl⟩, hb1⟩; have H1 := Lib.hid (hb1.alloc hb1.size (.cells #[.int .i64 0, .slice p.A1 0 p.k1, .slice p.A2 0 p.k2, .slice p.A3 0 p.k3, .slice p.A4 0 p.k4, .slice p.A5 0 p.k5] 26)); clear hb1)
      go_wp2_with (go_at_call 14; (with_reducible refine (AL.out _ H1.out).mono ?_); rintro e w5 ⟨rfl, hb5⟩; have H5 := Lib.hid (Below.step H1.out H1.out.size hb5); clear hb5)
      go_ret
      exact ⟨by simp, H5.out⟩

end Go.Proofs.YtkpjpokeonppbaaGreatDoor

namespace Go.Proofs.YtkpjpokeonppbaaGreatDoor
open Go Go.RowKit
set_option linter.unusedVariables false
set_option linter.unusedSimpArgs false

theorem cut_ext {c d : Cr} (hi : c.i = d.i) (h1 : c.nl = d.nl) (h2 : c.na = d.na) (h3 : c.nb = d.nb) (h4 : c.nc = d.nc)
    (e1 : ∀ j, j < c.nl → c.nx j = d.nx j ∧ c.rs j = d.rs j) (e2 : ∀ j, j < c.na → c.ga j = d.ga j ∧ c.gb j = d.gb j) (e3 : ∀ j, j < c.nb → c.bd j = d.bd j) (e4 : ∀ j, j < c.nc → c.cn j = d.cn j) : c.cut = d.cut := by
  obtain ⟨i, nl, na, nb, nc, nx, rs, ga, gb, bd, cn⟩ := c
  obtain ⟨i', nl', na', nb', nc', nx', rs', ga', gb', bd', cn'⟩ := d
  simp only at hi h1 h2 h3 h4 e1 e2 e3 e4
  subst hi h1 h2 h3 h4
  unfold Cr.cut
  simp only [Cr.mk.injEq, true_and]
  refine ⟨?_, ?_, ?_, ?_, ?_, ?_⟩
  · funext j; by_cases h : j < nl; rw [if_pos h, if_pos h, (e1 j h).1]; rw [if_neg h, if_neg h]
  · funext j; by_cases h : j < nl; rw [if_pos h, if_pos h, (e1 j h).2]; rw [if_neg h, if_neg h]
  · funext j; by_cases h : j < na; rw [if_pos h, if_pos h, (e2 j h).1]; rw [if_neg h, if_neg h]
  · funext j; by_cases h : j < na; rw [if_pos h, if_pos h, (e2 j h).2]; rw [if_neg h, if_neg h]
  · funext j; by_cases h : j < nb; rw [if_pos h, if_pos h, e3 j h]; rw [if_neg h, if_neg h]
  · funext j; by_cases h : j < nc; rw [if_pos h, if_pos h, e4 j h]; rw [if_neg h, if_neg h]
/-- a circuit's raw one has it as its circuit -/
theorem raw_oc {c : Cr} (hk : c.chk = 0) : c.raw.oc = c.cut := by
  obtain ⟨s1, s2, s3, s4⟩ := szN_eq hk
  obtain ⟨h0, h1, h2, h3, h4, h5, h6, h7⟩ := Cr.chk_zero hk
  have h4 := of_decide_eq_true h4
  have h5 := of_decide_eq_true h5
  have h6 := of_decide_eq_true h6
  have ho := raw_ord hk
  have hol : c.raw.ord.length = c.na := by rw [ho, List.length_range]
  rw [Rw.oc_yes (raw_chk hk)]
  refine cut_ext s2.symm rfl hol rfl rfl (fun j hj => ⟨raw_told hk (h6 j hj).1 (h6 j hj).2.1, rfl⟩) (fun j hj => ?_) (fun j hj => raw_told hk (h4 j hj).1 (h4 j hj).2) fun j hj => raw_told hk (h5 j hj).1 (h5 j hj).2
  have hj' : j < c.na := by rw [← hol]; exact hj
  obtain ⟨k1, k2, k3, k4, k5⟩ := gate_ok7 hk hj'
  have ej : c.raw.ord.getD j 0 = j := by rw [ho, List.getD_eq_getElem?_getD, List.getElem?_range hj']; rfl
  have t1 : c.raw.told (c.ga j) = c.ga j := raw_told hk (by omega) (by unfold Cr.sz; omega)
  have t2 : c.raw.told (c.gb j) = c.gb j := raw_told hk (by omega) (by unfold Cr.sz; omega)
  show max (c.raw.told (c.ga (c.raw.ord.getD j 0))) (c.raw.told (c.gb (c.raw.ord.getD j 0))) = c.ga j ∧ min (c.raw.told (c.ga (c.raw.ord.getD j 0))) (c.raw.told (c.gb (c.raw.ord.getD j 0))) = c.gb j
  rw [ej, t1, t2]
  omega

/-- raw circuits that agree have the same circuit -/
theorem Agr.oc {r s : Rw} (h : Agr r s) (hk : r.chk = 0) : r.oc = s.oc := by
  have hk' : s.chk = 0 := by rw [← h.chk]; exact hk
  have ef : ∀ {r s : Rw}, Agr r s → ∀ B, r.fnd B = s.fnd B := fun {r s} h B => fnd_same h.na fun i hi => by
    unfold Rw.may; rw [(h.an i hi).1, (h.an i hi).2.1, (h.an i hi).2.2]
  have e0 : r.rd0 = s.rd0 := by
    unfold Rw.rd0
    rw [h.na]
    rw [lst_eq (fun j hj => (h.an j (by rw [h.na]; exact hj)).1)]
  have est : ∀ k, r.st k = s.st k := fun k => by
    induction k with
    | zero => show (r.rd0, []) = (s.rd0, []); rw [e0]
    | succ k ih =>
      rw [Rw.st, Rw.st, ih, ef h, h.na]
      split
      · next hlt => rw [(h.an _ (by rw [h.na]; exact hlt)).1]
      · rfl
  have eo : r.ord = s.ord := by
    show (r.st r.na).2 = (s.st s.na).2
    rw [est, h.na]
  have eL : r.oL = s.oL := by
    unfold Rw.oL
    rw [eo, h.ni, h.nl, lst_eq (fun j hj => h.ip j (by rw [h.ni]; exact hj)), lst_eq (fun j hj => (h.la j (by rw [h.nl]; exact hj)).1)]
    congr 1
    exact List.map_congr_left fun i hi => (h.an i (by rw [h.na]; exact Rw.ord_lt i hi)).1
  have ek : ∀ k, r.nwk k = s.nwk k := fun k => by
    induction k with
    | zero => rfl
    | succ k ih => rw [Rw.nwk, Rw.nwk, ih, eL]
  have en : r.nw = s.nw := by unfold Rw.nw; rw [eL, ek]
  have et : ∀ x, r.told x = s.told x := fun x => by unfold Rw.told; rw [en]
  rw [Rw.oc_yes hk, Rw.oc_yes hk']
  refine cut_ext ?_ h.nl ?_ h.nb h.nc (fun j hj => ?_) (fun j hj => ?_) (fun j hj => ?_) fun j hj => ?_
  · show ((r.ni : Nat) : Int) = s.ni
    rw [h.ni]
  · show r.ord.length = s.ord.length
    rw [eo]
  · show r.told (r.la j) = s.told (s.la j) ∧ r.lb j = s.lb j
    rw [et, (h.la j hj).2.1, (h.la j hj).2.2]
    exact ⟨rfl, rfl⟩
  · have hj' : j < s.ord.length := by rw [← eo]; exact hj
    have hg := h.an (s.ord.getD j 0) (by rw [h.na]; exact Rw.ord_at hj')
    show max (r.told (r.ga (r.ord.getD j 0))) (r.told (r.gb (r.ord.getD j 0))) = max (s.told (s.ga (s.ord.getD j 0))) (s.told (s.gb (s.ord.getD j 0))) ∧ min (r.told (r.ga (r.ord.getD j 0))) (r.told (r.gb (r.ord.getD j 0))) = min (s.told (s.ga (s.ord.getD j 0))) (s.told (s.gb (s.ord.getD j 0)))
    rw [eo, et, et, hg.2.1, hg.2.2]
    exact ⟨rfl, rfl⟩
  · show r.told (r.bd j) = s.told (s.bd j)
    rw [et, h.bd j hj]
  · show r.told (r.cn j) = s.told (s.cn j)
    rw [et, h.cn j hj]

end Go.Proofs.YtkpjpokeonppbaaGreatDoor

namespace Go.Proofs.YtkpjpokeonppbaaGreatDoor
open Go Go.RowKit
set_option linter.unusedVariables false
set_option linter.unusedSimpArgs false

theorem pcs_mid (c : UInt8) : ∀ (a b : List UInt8), pcs c (a ++ c :: b) = pcs c a ++ pcs c b
  | [], b => by
    show (if c = c then [] :: pcs c b else _) = _
    rw [if_pos rfl]; rfl
  | x :: a, b => by
    have ih := pcs_mid c a b
    by_cases hx : x = c
    · rw [List.cons_append, pcs, if_pos hx, ih, pcs, if_pos hx]; rfl
    · cases h : pcs c a with
      | nil => exact absurd h (pcs_ne c a)
      | cons p ps =>
        rw [h] at ih
        rw [List.cons_append, pcs_cons hx ih, pcs_cons hx h]; rfl
/-- how many line feeds there are -/
def cnt (s : List UInt8) : Nat := (s.filter (· == 10)).length
theorem cnt_pcs (s : List UInt8) : (pcs 10 s).length = cnt s + 1 := pcs_len 10 s
theorem cnt_snoc (s : List UInt8) (x : UInt8) : cnt (s ++ [x]) = cnt s + if x = 10 then 1 else 0 := by
  unfold cnt
  rw [List.filter_append, List.length_append]
  congr 1
  by_cases h : x = 10
  · subst h; rfl
  · rw [if_neg h, List.filter_cons_of_neg (by simpa using h)]; rfl
theorem cnt_le {s : List UInt8} {e n : Nat} (h : e ≤ n) : cnt (s.take e) ≤ cnt (s.take n) := by
  have e1 : (s.take n).take e = s.take e := by rw [List.take_take, Nat.min_eq_left h]
  unfold cnt
  rw [← e1]
  conv => rhs; rw [← List.take_append_drop e (s.take n)]
  rw [List.filter_append, List.length_append]
  omega
theorem few_lno {t : List UInt8} {L : List (List UInt8)} {e : Nat} (h : pcs 10 t = L ++ [[]]) (hK : cnt (t.take e) ≤ L.length) (he : e ≤ t.length) (hend : e = 0 ∨ t.getD (e - 1) 0 = 10) : lno (t.take e) = L.take (cnt (t.take e)) := by
  by_cases h0 : e = 0
  · subst h0; rfl
  · have h10 : t.getD (e - 1) 0 = 10 := by rcases hend with h | h; exact absurd h h0; exact h
    have hlt : e - 1 < t.length := by omega
    have e1 : t.take e = t.take (e - 1) ++ [10] := by
      have := take_one hlt
      rw [show e - 1 + 1 = e by omega, h10] at this
      exact this
    have e2 : t = t.take (e - 1) ++ 10 :: t.drop e := by
      conv => lhs; rw [← List.take_append_drop e t, e1]
      simp
    have e3 := pcs_mid 10 (t.take (e - 1)) (t.drop e)
    rw [← e2, h] at e3
    have e4 : (pcs 10 (t.take (e - 1))).length = cnt (t.take e) := by rw [cnt_pcs, e1, cnt_snoc, if_pos rfl]
    have e5 : pcs 10 (t.take (e - 1)) = L.take (cnt (t.take e)) := by
      have := congrArg (List.take (cnt (t.take e))) e3
      rw [List.take_append_of_le_length hK, ← e4, List.take_left] at this
      rw [← e4]; exact this.symm
    have e6 : pcs 10 (t.take e) = L.take (cnt (t.take e)) ++ [[]] := by
      rw [← e5]
      conv => lhs; rw [e1]
      rw [show t.take (e - 1) ++ [10] = t.take (e - 1) ++ 10 :: [] from rfl, pcs_mid]; rfl
    unfold lno
    rw [e6, if_pos (by simp), List.dropLast_concat]
theorem lnA_take {L : List (List UInt8)} {K i : Nat} (h : i < K) : lnA (L.take K) i = lnA L i := by
  unfold lnA
  rw [List.getD_eq_getElem?_getD, List.getD_eq_getElem?_getD, List.getElem?_take_of_lt h]
theorem lnA_out {L : List (List UInt8)} {i : Nat} (h : L.length ≤ i) : lnA L i = [] := by
  unfold lnA
  rw [List.getD_eq_getElem?_getD, List.getElem?_eq_none h]; rfl
/-- the fault where lines lack -/
theorem few_flt {r : Rw} (hb : Bn r) {K : Nat} (hK : K < (txL r).length) : ltF ((txL r).take K) = (12, K + 1) := by
  have hl := tx_len (r := r)
  have hp7 : r.ct.p7 = 1 + r.ni + r.nl + 0 + r.nb + r.nc + r.na := rfl
  have hlen : ((txL r).take K).length = K := by rw [List.length_take]; omega
  by_cases h0 : K = 0
  · subst h0; rw [List.take_zero]; decide
  · have h1 : hdr ((txL r).take K) = hdr (txL r) := by rw [hdr_one, hdr_one, lnA_take (by omega)]
    have hg : gdL ((txL r).take K) r.ct = K - 1 := by
      refine hld_at (by omega) (fun j hj => ?_) ?_
      · have := back_ok hb (i := 1 + j) (by omega) (by omega)
        unfold okL at this ⊢
        rwa [lnA_take (by omega)]
      · unfold okL
        rw [lnA_out (by rw [hlen]; omega)]
        repeat' split
        all_goals rfl
    unfold ltF
    rw [h1, back_hdr hb, ct_txt, hg, if_neg (by simp), if_pos (by omega)]
    congr 1
    omega
theorem few_E {r : Rw} (hr : r.chk = 0) {e : Nat} (he : e ≤ r.txt.length) (hc : cnt (r.txt.take e) < (txL r).length) (hend : e = 0 ∨ r.txt.getD (e - 1) 0 = 10) : rdE (r.txt.take e) = 12 ∧ rdN (r.txt.take e) = cnt (r.txt.take e) + 1 := by
  have hb := Bn.of hr
  have hs := txt_short hr
  have hp := pcs_more hb []
  rw [List.append_nil] at hp
  have e1 := few_lno (L := txL r) hp (by omega) he hend
  have e2 := few_flt hb hc
  have hl : (r.txt.take e).length ≤ 40000 := by rw [List.length_take]; omega
  refine ⟨?_, ?_⟩
  · unfold rdE
    rw [if_neg (by omega), e1, e2, if_pos (by simp)]
  · unfold rdN
    rw [if_neg (by omega), e1, e2, if_pos (by simp)]
theorem cnt_txt {r : Rw} (hr : r.chk = 0) : cnt r.txt = (txL r).length := by
  have hp := pcs_more (Bn.of hr) []
  rw [List.append_nil] at hp
  have := cnt_pcs r.txt
  rw [hp, List.length_append] at this
  have e : (pcs 10 ([] : List UInt8)).length = 1 := rfl
  omega

set_option maxRecDepth 100000 in
set_option maxHeartbeats 16000000 in
theorem few_walk (c0 : Rw) (p0 : Rp) (a1 : Int) (ha1 : I64 a1) (w : World) (hm0 : RMem w w.heap.size c0 p0) (hN0 : RNils c0 p0) (hv0 : RVals c0) (henv : Env w.heap.size w) :
    Calls Tryz.prog 9 #[rv c0 p0, .int .i64 a1] w fun e w' => e = .returned (.bool true) ∧ Below w.heap.size w w' := by
  have HE := Lib.hid henv
  clear henv
  have AL : Hid (∀ W, Below w.heap.size w W → Calls Tryz.prog 14 #[] W fun e w' => e = .returned (.bool true) ∧ Below W.heap.size W w') := Lib.hid fun W hb => alive8_any w.heap.size W (HE.out.on hb) hb.size
  obtain ⟨hB0, hH0⟩ := rbox_new w c0 p0
  have HH0 := Lib.hid (And.intro hB0 hH0)
  have HM0 := Lib.hid (And.intro hm0 hN0)
  have DG := Lib.hid (oGreat_any c0 p0 (w.alloc (.cells (rcL c0 p0) 26)))
  cases hg : c0.gr
  · have HS := Lib.hid (hv0.sm hg)
    rw [hg] at DG
    have DC : Hid (∀ W, Below w.heap.size w W → Calls Tryz.prog 25 #[rv c0 p0] W fun e w' => e = .returned (.int .i64 c0.chk) ∧ Below W.heap.size W w') := Lib.hid fun W hb => oRCheck_any c0 p0 W HS.out (HM0.out.1.to hb hb.size) HM0.out.2
    clear hg hm0 hN0 hv0 hB0 hH0
    by_cases hk : c0.chk = 0
    · have HK := Lib.hid hk
      rw [hk] at DC
      by_cases h1 : a1 < 1
      · have g1 : decide (a1 < 1) = true := decide_eq_true h1
        clear hk h1 ha1
        go_enter Tryz.func9, Tryz.ntmps9
        go_wp2_with (go_at_call 19; (with_reducible refine DG.out.mono ?_); rintro e w1 ⟨rfl, hb1⟩; have hH1 := HH0.out.2.keep hb1 HH0.out.2.lt; have H1 := Lib.hid (And.intro (Below.step HH0.out.1 HH0.out.1.size hb1) hH1); obtain ⟨x0, x1, x2, x3, x4, x5⟩ := six_cells hH1; clear hb1 hH1)
        go_wp2_with (go_at_call 25; (with_reducible refine (DC.out _ H1.out.1).mono ?_); rintro e w2 ⟨rfl, hb2⟩; have H2 := Lib.hid (Below.step H1.out.1 H1.out.1.size hb2); clear hb2 x0 x1 x2 x3 x4 x5)
        go_wp2_with (go_at_call 14; (with_reducible refine (AL.out _ H2.out).mono ?_); rintro e w5 ⟨rfl, hb5⟩; have H5 := Lib.hid (Below.step H2.out H2.out.size hb5); clear hb5)
        go_ret
        exact ⟨by simp, H5.out⟩
      · have g1 : decide (a1 < 1) = false := decide_eq_false h1
        obtain ⟨S, hS⟩ : ∃ S, S = str c0.txt := ⟨_, rfl⟩
        obtain ⟨ln, hln⟩ : ∃ ln, ln = c0.lns := ⟨_, rfl⟩
        have hlt := tx_len (r := c0)
        have hlN : ln = ((txL c0).length : Int) := by rw [hln, hlt]; unfold Rw.lns; omega
        have DA : Hid (∀ W, Below w.heap.size w W → Calls Tryz.prog 20 #[rv c0 p0] W fun e w' => e = .returned (.tuple #[.string S, .int .i64 0]) ∧ Below W.heap.size W w') := Lib.hid fun W hb => by
          rw [hS]; exact aRaw_yes c0 p0 W HK.out HS.out (HM0.out.1.to hb hb.size) HM0.out.2 (Tab.up (HE.out.t.on hb) hb.size)
        have DL : Hid (∀ W, Below w.heap.size w W → Calls Tryz.prog 26 #[rv c0 p0] W fun e w' => e = .returned (.tuple #[.int .i64 ln, .int .i64 0]) ∧ Below W.heap.size W w') := Lib.hid fun W hb => by
          have h := aLines_any c0 p0 W HS.out (HM0.out.1.to hb hb.size) HM0.out.2
          have e1 : c0.lnsE = ln := by unfold Rw.lnsE; rw [if_pos HK.out, hln]
          rw [e1, HK.out] at h; exact h
        have hbd := Bd.of HK.out
        have hln2 : 1 ≤ ln ∧ ln ≤ 5000 := by have h1 := hbd.n; have h2 := hbd.nb; have h3 := hbd.nc; rw [hln]; unfold Rw.lns; omega
        by_cases h2 : ln < a1
        · have g2 : decide (ln < a1) = true := decide_eq_true h2
          clear hk h1 ha1 hS hln hlt hlN hbd hln2 h2
          go_enter Tryz.func9, Tryz.ntmps9
          go_wp2_with (go_at_call 19; (with_reducible refine DG.out.mono ?_); rintro e w1 ⟨rfl, hb1⟩; have hH1 := HH0.out.2.keep hb1 HH0.out.2.lt; have H1 := Lib.hid (And.intro (Below.step HH0.out.1 HH0.out.1.size hb1) hH1); obtain ⟨x0, x1, x2, x3, x4, x5⟩ := six_cells hH1; clear hb1 hH1)
          go_wp2_with (go_at_call 25; (with_reducible refine (DC.out _ H1.out.1).mono ?_); rintro e w2 ⟨rfl, hb2⟩; have hH2 := H1.out.2.keep hb2 H1.out.2.lt; have H2 := Lib.hid (And.intro (Below.step H1.out.1 H1.out.1.size hb2) hH2); clear hb2 hH2 x0 x1 x2 x3 x4 x5; obtain ⟨x0, x1, x2, x3, x4, x5⟩ := six_cells H2.out.2)
          go_wp2_with (go_at_call 20; (with_reducible refine (DA.out _ H2.out.1).mono ?_); rintro e w3 ⟨rfl, hb3⟩; have hH3 := H2.out.2.keep hb3 H2.out.2.lt; have H3 := Lib.hid (And.intro (Below.step H2.out.1 H2.out.1.size hb3) hH3); clear hb3 hH3 x0 x1 x2 x3 x4 x5; obtain ⟨x0, x1, x2, x3, x4, x5⟩ := six_cells H3.out.2)
          go_wp2_with (go_at_call 26; (with_reducible refine (DL.out _ H3.out.1).mono ?_); rintro e w4 ⟨rfl, hb4⟩; have hH4 := H3.out.2.keep hb4 H3.out.2.lt; have H4 := Lib.hid (And.intro (Below.step H3.out.1 H3.out.1.size hb4) hH4); clear hb4 hH4 x0 x1 x2 x3 x4 x5)
          go_wp2_with (go_at_call 14; (with_reducible refine (AL.out _ H4.out.1).mono ?_); rintro e w5 ⟨rfl, hb5⟩; have H5 := Lib.hid (Below.step H4.out.1 H4.out.1.size hb5); clear hb5)
          go_ret
          exact ⟨by simp, H5.out⟩
        · have g2 : decide (ln < a1) = false := decide_eq_false h2
          have hSF := sf_of c0.txt
          obtain ⟨n, hn⟩ : ∃ n, n = c0.txt.length := ⟨_, rfl⟩
          obtain ⟨X, hX⟩ : ∃ X : Nat → Int, X = fun q => ((c0.txt.getD q 0).toNat : Int) := ⟨_, rfl⟩
          rw [← hn, ← hX, ← hS] at hSF
          have k0 := hSF.len
          have HSF := Lib.hid hSF
          obtain ⟨K, hK⟩ : ∃ K : Nat, (K : Int) = ln - a1 := ⟨(ln - a1).toNat, by omega⟩
          have hKn : K < (txL c0).length := by omega
          have hw0 : IntKind.i64.wrap (ln - a1) = (K : Int) := by rw [hK]; exact IntWalk.i64_in _ (by omega)
          have hw9 : IntKind.i64.wrap ((K : Int) + 1) = (K : Int) + 1 := IntWalk.i64_in _ (by omega)
          have hn2 : n ≤ 18000 := by rw [hn]; exact txt_short HK.out
          have HQ := Lib.hid (And.intro hn (And.intro hX (And.intro hS (And.intro hKn (And.intro hn2 (show K ≤ 5000 by omega))))))
          have hcx : ∀ q, q < n → cnt (c0.txt.take (q + 1)) = cnt (c0.txt.take q) + if X q = 10 then 1 else 0 := fun q hq => by
            rw [take_one (by rw [← hn]; exact hq), cnt_snoc, hX]
            congr 1
            by_cases h : c0.txt.getD q 0 = 10
            · rw [if_pos h, if_pos (by show (((c0.txt.getD q 0).toNat : Nat) : Int) = 10; rw [h]; rfl)]
            · rw [if_neg h, if_neg (fun h9 => h (UInt8.toNat_inj.1 (show (c0.txt.getD q 0).toNat = (10 : UInt8).toNat by have h9 : (((c0.txt.getD q 0).toNat : Nat) : Int) = 10 := h9; show _ = 10; omega)))]
          have HCX := Lib.hid hcx
          have HCN : Hid (K < cnt (c0.txt.take n)) := Lib.hid (by rw [hn, List.take_length, cnt_txt HK.out]; exact hKn)
          have e2 : ln - a1 + 1 = (K : Int) + 1 := by omega
          clear hk h1 ha1 hS hln hlt hlN hbd hln2 h2 hSF hn hX hK hKn hn2 hcx
          go_enter Tryz.func9, Tryz.ntmps9
          go_wp2_with (go_at_call 19; (with_reducible refine DG.out.mono ?_); rintro e w1 ⟨rfl, hb1⟩; have hH1 := HH0.out.2.keep hb1 HH0.out.2.lt; have H1 := Lib.hid (And.intro (Below.step HH0.out.1 HH0.out.1.size hb1) hH1); obtain ⟨x0, x1, x2, x3, x4, x5⟩ := six_cells hH1; clear hb1 hH1)
          go_wp2_with (go_at_call 25; (with_reducible refine (DC.out _ H1.out.1).mono ?_); rintro e w2 ⟨rfl, hb2⟩; have hH2 := H1.out.2.keep hb2 H1.out.2.lt; have H2 := Lib.hid (And.intro (Below.step H1.out.1 H1.out.1.size hb2) hH2); clear hb2 hH2 x0 x1 x2 x3 x4 x5; obtain ⟨x0, x1, x2, x3, x4, x5⟩ := six_cells H2.out.2)
          go_wp2_with (go_at_call 20; (with_reducible refine (DA.out _ H2.out.1).mono ?_); rintro e w3 ⟨rfl, hb3⟩; have hH3 := H2.out.2.keep hb3 H2.out.2.lt; have H3 := Lib.hid (And.intro (Below.step H2.out.1 H2.out.1.size hb3) hH3); clear hb3 hH3 x0 x1 x2 x3 x4 x5; obtain ⟨x0, x1, x2, x3, x4, x5⟩ := six_cells H3.out.2)
          go_wp2_with (go_at_call 26; (with_reducible refine (DL.out _ H3.out.1).mono ?_); rintro e w4 ⟨rfl, hb4⟩; have hH4 := H3.out.2.keep hb4 H3.out.2.lt; have H4 := Lib.hid (And.intro (Below.step H3.out.1 H3.out.1.size hb4) hH4); clear hb4 hH4 x0 x1 x2 x3 x4 x5)
          go_loopw [9, 10, 11] (fun lv ev i wr => ∃ q k ee : Nat, q ≤ n ∧ i = .int .i64 q ∧ ev = .int .i64 ee ∧ (∃ z : Int, lv = .int .i64 z ∧ Hid (z = (K : Int) - k)) ∧ Hid (k ≤ K ∧ cnt (c0.txt.take q) = k ∧ cnt (c0.txt.take ee) = k ∧ ee ≤ q ∧ (ee = 0 ∨ c0.txt.getD (ee - 1) 0 = 10)) ∧ Hid (Below w.heap.size w wr)) (fun _ _ i _ => n - (intOf i).toNat)
          case atStart => exact ⟨0, 0, 0, Nat.zero_le _, rfl, rfl, ⟨_, rfl, Lib.hid (by omega)⟩, Lib.hid ⟨Nat.zero_le _, rfl, rfl, Nat.le_refl _, Or.inl rfl⟩, Lib.hid H4.out.1⟩
          case round =>
            obtain ⟨q, k, ee, hq, rfl, rfl, ⟨z, rfl, hz⟩, hI, hW⟩ := hrel
            by_cases hlt : q < n
            · have hq0 : (0 : Int) ≤ (q : Int) := by omega
              have hq1 : (q : Int) < (n : Int) := by omega
              by_cases hkK : k < K
              · have kx := HSF.out.idx q (q : Int) rfl hlt
                have hz1 : decide (0 < z) = true := decide_eq_true (by have := hz.out; omega)
                have hw1 : IntKind.i64.wrap ((q : Int) + 1) = (q : Int) + 1 := IntWalk.i64_in _ (by have := HQ.out.2.2.2.2.1; omega)
                have hwz : IntKind.i64.wrap (z - 1) = z - 1 := IntWalk.i64_in _ (by have := hz.out; have := HQ.out.2.2.2.2.2; omega)
                have hc1 := HCX.out q hlt
                by_cases hx : X q = 10
                · have ex : (X q == 10) = true := by simpa using hx
                  rw [if_pos hx] at hc1
                  have HI2 : Hid (k + 1 ≤ K ∧ cnt (c0.txt.take (q + 1)) = k + 1 ∧ cnt (c0.txt.take (q + 1)) = k + 1 ∧ q + 1 ≤ q + 1 ∧ (q + 1 = 0 ∨ c0.txt.getD (q + 1 - 1) 0 = 10)) := Lib.hid (by
                    have h9 := hI.out
                    refine ⟨hkK, by rw [hc1, h9.2.1], by rw [hc1, h9.2.1], Nat.le_refl _, Or.inr ?_⟩
                    have hX := HQ.out.2.1
                    rw [hX] at hx
                    rw [Nat.add_sub_cancel]
                    refine UInt8.toNat_inj.1 ?_
                    have h8 : (((c0.txt.getD q 0).toNat : Nat) : Int) = 10 := hx
                    show _ = 10
                    omega)
                  have HZ2 : Hid (z - 1 = (K : Int) - ((k + 1 : Nat) : Int)) := Lib.hid (by have := hz.out; omega)
                  clear hx hc1 hkK
                  go_wp2
                  go_roundw
                  case rel => exact ⟨q + 1, k + 1, q + 1, by omega, by go_num, by go_num, ⟨_, rfl, HZ2⟩, HI2, hW⟩
                  case measure => simp [intOf]; omega
                · have ex : (X q == 10) = false := by simpa using hx
                  rw [if_neg hx] at hc1
                  have HI2 : Hid (k ≤ K ∧ cnt (c0.txt.take (q + 1)) = k ∧ cnt (c0.txt.take ee) = k ∧ ee ≤ q + 1 ∧ (ee = 0 ∨ c0.txt.getD (ee - 1) 0 = 10)) := Lib.hid (by
                    have h9 := hI.out
                    exact ⟨h9.1, by rw [hc1, h9.2.1]; rfl, h9.2.2.1, by omega, h9.2.2.2.2⟩)
                  clear hx hc1 hkK
                  go_wp2
                  go_roundw
                  case rel => exact ⟨q + 1, k, ee, by omega, by go_num, rfl, ⟨_, rfl, hz⟩, HI2, hW⟩
                  case measure => simp [intOf]; omega
              · have hz1 : decide (0 < z) = false := decide_eq_false (by have := hz.out; have := hI.out.1; omega)
                have h9 := hI.out
                have hkE : k = K := by omega
                have hn := HQ.out.1
                have hf := few_E HK.out (e := ee) (by omega) (by rw [h9.2.2.1, hkE]; exact HQ.out.2.2.2.1) h9.2.2.2.2
                rw [h9.2.2.1, hkE] at hf
                have hel : ee ≤ c0.txt.length := by omega
                have ks : ∀ W : World, (Instr.slice 9 (.string S) none (some (.int .i64 (ee : Int))) none).run Tryz.prog W = .ok (.string (str (c0.txt.take ee))) W := fun W => by
                  rw [HQ.out.2.2.1]; exact str_to Tryz.underlying9 c0.txt rfl hel W
                have DF : Hid (∀ W, Below w.heap.size w W → Calls Tryz.prog 12 #[.string (str (c0.txt.take ee)), .int .i64 ((K : Int) + 1), .int .i64 12] W fun e w' => e = .returned (.bool true) ∧ Below W.heap.size W w') := Lib.hid fun W hb =>
                  fails8_any (c0.txt.take ee) (by rw [List.length_take]; have := HQ.out.2.2.2.2.1; omega) ((K : Int) + 1) 12 (by decide) hf.1 (by rw [hf.2]; omega) w.heap.size W (HE.out.on hb) hb.size
                obtain ⟨S9, hS9⟩ : ∃ S9, S9 = str (c0.txt.take ee) := ⟨_, rfl⟩
                rw [← hS9] at DF ks
                clear hkK h9 hkE hn hf hel hS9 hI
                go_wp2_with (go_at_call 12; (with_reducible refine (DF.out _ hW.out).mono ?_); rintro e w6 ⟨rfl, hb6⟩; have H6 := Lib.hid (Below.step hW.out hW.out.size hb6); clear hb6)
                go_wp2_with (go_at_call 14; (with_reducible refine (AL.out _ H6.out).mono ?_); rintro e w7 ⟨rfl, hb7⟩; have H7 := Lib.hid (Below.step H6.out H6.out.size hb7); clear hb7)
                go_ret
                exact ⟨by simp, H7.out⟩
            · have hqn : q = n := by omega
              have h9 := hI.out
              have h8 := HCN.out
              rw [← hqn, h9.2.1] at h8
              exact absurd h9.1 (by omega)
    · have hk' : (c0.chk != 0) = true := by simpa using hk
      obtain ⟨x, hx⟩ : ∃ x, x = c0.chk := ⟨_, rfl⟩
      rw [← hx] at DC hk'
      clear hk hx
      go_enter Tryz.func9, Tryz.ntmps9
      go_wp2_with (go_at_call 19; (with_reducible refine DG.out.mono ?_); rintro e w1 ⟨rfl, hb1⟩; have hH1 := HH0.out.2.keep hb1 HH0.out.2.lt; have H1 := Lib.hid (And.intro (Below.step HH0.out.1 HH0.out.1.size hb1) hH1); obtain ⟨x0, x1, x2, x3, x4, x5⟩ := six_cells hH1; clear hb1 hH1)
      go_wp2_with (go_at_call 25; (with_reducible refine (DC.out _ H1.out.1).mono ?_); rintro e w2 ⟨rfl, hb2⟩; have H2 := Lib.hid (Below.step H1.out.1 H1.out.1.size hb2); clear hb2 x0 x1 x2 x3 x4 x5)
      go_wp2_with (go_at_call 14; (with_reducible refine (AL.out _ H2.out).mono ?_); rintro e w5 ⟨rfl, hb5⟩; have H5 := Lib.hid (Below.step H2.out H2.out.size hb5); clear hb5)
      go_ret
      exact ⟨by simp, H5.out⟩
  · rw [hg] at DG
    clear hg hm0 hN0 hv0 hB0 hH0
    go_enter Tryz.func9, Tryz.ntmps9
    go_wp2_with (go_at_call 19; (with_reducible refine DG.out.mono ?_); rintro e w1 ⟨rfl, hb1⟩; have H1 := Lib.hid (Below.step HH0.out.1 HH0.out.1.size hb1); clear hb1)
    go_wp2_with (go_at_call 14; (with_reducible refine (AL.out _ H1.out).mono ?_); rintro e w5 ⟨rfl, hb5⟩; have H5 := Lib.hid (Below.step H1.out H1.out.size hb5); clear hb5)
    go_ret
    exact ⟨by simp, H5.out⟩

end Go.Proofs.YtkpjpokeonppbaaGreatDoor
