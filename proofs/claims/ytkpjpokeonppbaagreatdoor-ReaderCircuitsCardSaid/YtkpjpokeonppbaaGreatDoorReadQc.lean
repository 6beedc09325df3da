/- The statement ReaderBack's walk. The statement ReaderCircuits's walk. -/
import Derived.Test.YtkpjpokeonppbaaGreatDoorReadPd
import Derived.Test.YtkpjpokeonppbaaGreatDoorAsciiRef
namespace Go.Proofs.YtkpjpokeonppbaaGreatDoor
open Go Go.RowKit
set_option linter.unusedVariables false
set_option linter.unusedSimpArgs false

/-- the cells of a raw circuit's box, later -/
theorem six_cells {w : World} {b : Nat} {r : Rw} {p : Rp} (h : Has w b 26 (rc r p)) : w.cell? ⟨b, 0, none⟩ = some (.int .i64 r.m) ∧ w.cell? ⟨b, 1, none⟩ = some (.slice p.A1 r.ni p.k1) ∧ w.cell? ⟨b, 2, none⟩ = some (.slice p.A2 r.nl p.k2) ∧ w.cell? ⟨b, 3, none⟩ = some (.slice p.A3 r.na p.k3) ∧ w.cell? ⟨b, 4, none⟩ = some (.slice p.A4 r.nb p.k4) ∧ w.cell? ⟨b, 5, none⟩ = some (.slice p.A5 r.nc p.k5) :=
  ⟨h.cell 0, h.cell 1, h.cell 2, h.cell 3, h.cell 4, h.cell 5⟩

set_option maxRecDepth 100000 in
set_option maxHeartbeats 8000000 in
theorem back_walk (c0 : Rw) (p0 : Rp) (w : World) (hm0 : RMem w w.heap.size c0 p0) (hN0 : RNils c0 p0) (hv0 : RVals c0) (henv : Env w.heap.size w) :
    Calls Tryz.prog 5 #[rv c0 p0] w fun e w' => e = .returned (.bool true) ∧ Below w.heap.size w w' := by
  have HE := Lib.hid henv
  clear henv
  have hsz : 0 ≤ w.heap.size := Nat.zero_le _
  have AL : Hid (∀ W, Below w.heap.size w W → Calls Tryz.prog 14 #[] W fun e w' => e = .returned (.bool true) ∧ Below W.heap.size W w') := Lib.hid fun W hb => alive8_any w.heap.size W (HE.out.on hb) hb.size
  obtain ⟨hB0, hH0⟩ := rbox_new w c0 p0
  have HH0 := Lib.hid (And.intro hB0 hH0)
  have HM0 := Lib.hid (And.intro hm0 hN0)
  have DG := Lib.hid (oGreat_any c0 p0 (w.alloc (.cells (rcL c0 p0) 26)))
  cases hg : c0.gr
  · have HS := Lib.hid (hv0.sm hg)
    rw [hg] at DG
    have DA : Hid (∀ W, Below w.heap.size w W → Calls Tryz.prog 20 #[rv c0 p0] W fun e w' => e = .returned (.tuple #[.string (str c0.txtE), .int .i64 c0.chk]) ∧ Below W.heap.size W w') := Lib.hid fun W hb => aRaw_any c0 p0 W HS.out (HM0.out.1.to hb hb.size) HM0.out.2 (Tab.up (HE.out.t.on hb) hb.size)
    clear hg hm0 hN0 hv0 hB0 hH0
    by_cases hk : c0.chk = 0
    · have HK := Lib.hid hk
      have hk' : (c0.chk != 0) = false := by simpa using hk
      obtain ⟨b1, b2, b3⟩ := back_E hk
      have hsh := txt_short hk
      have e1 : c0.txtE = c0.txt := by unfold Rw.txtE; rw [if_pos hk]
      obtain ⟨x, hx⟩ : ∃ x, x = rdW c0.txt := ⟨_, rfl⟩
      have DR : Hid (∀ W, Below w.heap.size w W → Calls Tryz.prog 10 #[.string (str c0.txt)] W fun e w' => (∃ p, e = .returned (.tuple #[rv x p, .int .i64 0, .int .i64 0]) ∧ RMem w' w'.heap.size x p ∧ RNils x p) ∧ Below W.heap.size W w') := Lib.hid fun W hb => by
        refine (pRaw_any c0.txt (by omega) w.heap.size W (HE.out.on hb) hb.size).mono fun e w' h => ?_
        obtain ⟨⟨p, he, hm, hn⟩, hb'⟩ := h
        rw [b1, b2, ← hx] at he
        rw [← hx] at hm hn
        exact ⟨⟨p, he, hm, hn⟩, hb'⟩
      have HX := Lib.hid (And.intro (show RSm x by rw [hx]; exact rdW_sm _) (show sameR x c0 = true by rw [hx]; exact b3.same))
      rw [e1] at DA
      obtain ⟨S, hS⟩ : ∃ S, S = str c0.txt := ⟨_, rfl⟩
      rw [← hS] at DA DR
      rw [hk] at DA
      clear hk hS hx e1 b1 b2 b3 hsh
      go_enter Tryz.func5, Tryz.ntmps5
      go_wp2_with (go_at_call 19; (with_reducible refine DG.out.mono ?_); rintro e w1 ⟨rfl, hb1⟩; have hH1 := HH0.out.2.keep hb1 HH0.out.2.lt; have H1 := Lib.hid (And.intro (Below.step HH0.out.1 HH0.out.1.size hb1) hH1); obtain ⟨x0, x1, x2, x3, x4, x5⟩ := six_cells hH1; clear hb1 hH1)
      go_wp2_with (go_at_call 20; (with_reducible refine (DA.out _ H1.out.1).mono ?_); rintro e w2 ⟨rfl, hb2⟩; have hH2 := H1.out.2.keep hb2 H1.out.2.lt; have H2 := Lib.hid (And.intro (Below.step H1.out.1 H1.out.1.size hb2) hH2); clear hb2 hH2)
      go_wp2_with (go_at_call 10; (with_reducible refine (DR.out _ H2.out.1).mono ?_); rintro e w3 ⟨⟨p, rfl, hm3, hn3⟩, hb3⟩; have hH3 := H2.out.2.keep hb3 H2.out.2.lt; have H3 := Lib.hid (And.intro (Below.step H2.out.1 H2.out.1.size hb3) (And.intro hH3 hm3)); have x0 := fun o : Obj => ((hH3.al o).cell 0); have x1 := fun o : Obj => ((hH3.al o).cell 1); have x2 := fun o : Obj => ((hH3.al o).cell 2); have x3 := fun o : Obj => ((hH3.al o).cell 3); have x4 := fun o : Obj => ((hH3.al o).cell 4); have x5 := fun o : Obj => ((hH3.al o).cell 5); simp only [rc, List.getElem?_toArray, List.getElem?_cons_zero, List.getElem?_cons_succ] at x0 x1 x2 x3 x4 x5; have DS := Lib.hid (oSame_any x c0 p p0 (w3.alloc (.cells (rcL x p) 26)) HX.out.1 HS.out (hm3.to ((Below.refl _ _).alloc (Nat.le_refl _) _) (by simp)) (HM0.out.1.to (H3.out.1.alloc H3.out.1.size _) (H3.out.1.alloc H3.out.1.size _).size)); rw [HX.out.2] at DS; clear hb3 hH3 hm3 hn3)
      go_wp2_with (go_at_call 11; (with_reducible refine DS.out.mono ?_); rintro e w4 ⟨rfl, hb4⟩; have H4 := Lib.hid (Below.step (H3.out.1.alloc H3.out.1.size _) (H3.out.1.alloc H3.out.1.size _).size hb4); clear hb4)
      go_wp2_with (go_at_call 14; (with_reducible refine (AL.out _ H4.out).mono ?_); rintro e w5 ⟨rfl, hb5⟩; have H5 := Lib.hid (Below.step H4.out H4.out.size hb5); clear hb5)
      go_ret
      exact ⟨by simp, H5.out⟩
    · have hk' : (c0.chk != 0) = true := by simpa using hk
      obtain ⟨x, hx⟩ : ∃ x, x = c0.chk := ⟨_, rfl⟩
      have DC : Hid (∀ W, Below w.heap.size w W → Calls Tryz.prog 21 #[rv c0 p0] W fun e w' => e = .returned (.int .i64 x) ∧ Below W.heap.size W w') := Lib.hid fun W hb => by rw [hx]; exact pCheck_any c0 p0 W HS.out (HM0.out.1.to hb hb.size) HM0.out.2
      rw [← hx] at DA hk'
      clear hk hx
      go_enter Tryz.func5, Tryz.ntmps5
      go_wp2_with (go_at_call 19; (with_reducible refine DG.out.mono ?_); rintro e w1 ⟨rfl, hb1⟩; have hH1 := HH0.out.2.keep hb1 HH0.out.2.lt; have H1 := Lib.hid (And.intro (Below.step HH0.out.1 HH0.out.1.size hb1) hH1); obtain ⟨x0, x1, x2, x3, x4, x5⟩ := six_cells hH1; clear hb1 hH1)
      go_wp2_with (go_at_call 20; (with_reducible refine (DA.out _ H1.out.1).mono ?_); rintro e w2 ⟨rfl, hb2⟩; have hH2 := H1.out.2.keep hb2 H1.out.2.lt; have H2 := Lib.hid (And.intro (Below.step H1.out.1 H1.out.1.size hb2) hH2); obtain ⟨y0, y1, y2, y3, y4, y5⟩ := six_cells hH2; clear hb2 hH2)
      go_wp2_with (go_at_call 21; (with_reducible refine (DC.out _ H2.out.1).mono ?_); rintro e w3 ⟨rfl, hb3⟩; have H3 := Lib.hid (Below.step H2.out.1 H2.out.1.size hb3); clear hb3)
      go_wp2_with (go_at_call 14; (with_reducible refine (AL.out _ H3.out).mono ?_); rintro e w5 ⟨rfl, hb5⟩; have H5 := Lib.hid (Below.step H3.out H3.out.size hb5); clear hb5)
      go_ret
      exact ⟨by simp, H5.out⟩
  · rw [hg] at DG
    clear hg hm0 hN0 hv0 hB0 hH0
    go_enter Tryz.func5, Tryz.ntmps5
    go_wp2_with (go_at_call 19; (with_reducible refine DG.out.mono ?_); rintro e w1 ⟨rfl, hb1⟩; have H1 := Lib.hid (Below.step HH0.out.1 HH0.out.1.size hb1); clear hb1)
    go_wp2_with (go_at_call 14; (with_reducible refine (AL.out _ H1.out).mono ?_); rintro e w5 ⟨rfl, hb5⟩; have H5 := Lib.hid (Below.step H1.out H1.out.size hb5); clear hb5)
    go_ret
    exact ⟨by simp, H5.out⟩

end Go.Proofs.YtkpjpokeonppbaaGreatDoor

namespace Go.Proofs.YtkpjpokeonppbaaGreatDoor
open Go Go.RowKit
set_option linter.unusedVariables false
set_option linter.unusedSimpArgs false

set_option maxRecDepth 100000 in
set_option maxHeartbeats 8000000 in
theorem again_walk (l0 : List UInt8) (w : World) (henv : Env w.heap.size w) :
    Calls Tryz.prog 7 #[.string (str l0)] w fun e w' => e = .returned (.bool true) ∧ Below w.heap.size w w' := by
  have HE := Lib.hid henv
  clear henv
  have AL : Hid (∀ W, Below w.heap.size w W → Calls Tryz.prog 14 #[] W fun e w' => e = .returned (.bool true) ∧ Below W.heap.size W w') := Lib.hid fun W hb => alive8_any w.heap.size W (HE.out.on hb) hb.size
  have k0 : ∀ W : World, (Builtin.len_ #[9] 3 #[.string (str l0)]).run Tryz.prog W = .ok (.int .i64 (l0.length : Int)) W := fun W => str_len Tryz.underlying9 l0 W
  obtain ⟨m, hmm⟩ : ∃ m : Int, m = (l0.length : Int) := ⟨_, rfl⟩
  rw [← hmm] at k0
  by_cases hm : 5000 < l0.length
  · have e0 : decide ((5000 : Int) < m) = true := decide_eq_true (by omega)
    clear hm hmm
    go_enter Tryz.func7, Tryz.ntmps7
    go_wp2_with (go_at_call 14; (with_reducible refine (AL.out _ (Below.refl _ _)).mono ?_); rintro e w5 ⟨rfl, hb5⟩; have H5 := Lib.hid hb5; clear hb5)
    go_ret
    exact ⟨by simp, H5.out⟩
  · have e0 : decide ((5000 : Int) < m) = false := decide_eq_false (by omega)
    have hl : l0.length ≤ 100000 := by omega
    have D0 := pRaw_any l0 hl w.heap.size w HE.out (Nat.le_refl _)
    by_cases hk : rdE l0 = 0
    · obtain ⟨g1, g2⟩ := rd_good hk
      obtain ⟨b1, b2, b3⟩ := back_E g1
      have hsh := txt_short g1
      have hsm := rdW_sm l0
      have hsm2 := rdW_sm (rdW l0).txt
      obtain ⟨x, hx⟩ : ∃ x, x = rdW l0 := ⟨_, rfl⟩
      obtain ⟨y, hy⟩ : ∃ y, y = rdW x.txt := ⟨_, rfl⟩
      rw [← hx] at g1 b1 b2 b3 hsh hsm hsm2
      rw [← hy] at b3 hsm2
      have D1 : Hid (Calls Tryz.prog 10 #[.string (str l0)] w fun e w' => (∃ p, e = .returned (.tuple #[rv x p, .int .i64 0, .int .i64 0]) ∧ RMem w' w'.heap.size x p ∧ RNils x p) ∧ Below w.heap.size w w') := Lib.hid (D0.mono fun e w' h => by
        obtain ⟨⟨p, he, hm, hn⟩, hb'⟩ := h
        rw [hk, g2, ← hx] at he
        rw [← hx] at hm hn
        exact ⟨⟨p, he, hm, hn⟩, hb'⟩)
      have DA : Hid (∀ W p, Below w.heap.size w W → RMem W W.heap.size x p → RNils x p → Calls Tryz.prog 20 #[rv x p] W fun e w' => e = .returned (.tuple #[.string (str x.txt), .int .i64 0]) ∧ Below W.heap.size W w') := Lib.hid fun W p hb hm hn => aRaw_yes x p W g1 hsm hm hn (Tab.up (HE.out.t.on hb) hb.size)
      have DR : Hid (∀ W, Below w.heap.size w W → Calls Tryz.prog 10 #[.string (str x.txt)] W fun e w' => (∃ p, e = .returned (.tuple #[rv y p, .int .i64 0, .int .i64 0]) ∧ RMem w' w'.heap.size y p ∧ RNils y p) ∧ Below W.heap.size W w') := Lib.hid fun W hb => by
        refine (pRaw_any x.txt (by omega) w.heap.size W (HE.out.on hb) hb.size).mono fun e w' h => ?_
        obtain ⟨⟨p, he, hm, hn⟩, hb'⟩ := h
        rw [b1, b2, ← hy] at he
        rw [← hy] at hm hn
        exact ⟨⟨p, he, hm, hn⟩, hb'⟩
      have HX := Lib.hid (And.intro hsm (And.intro hsm2 b3.same))
      obtain ⟨S, hS⟩ : ∃ S, S = str x.txt := ⟨_, rfl⟩
      rw [← hS] at DA DR
      clear hk hS hx hy g1 g2 b1 b2 b3 hsh hsm hsm2 D0 hm hmm hl
      go_enter Tryz.func7, Tryz.ntmps7
      go_wp2_with (go_at_call 10; (with_reducible refine D1.out.mono ?_); rintro e w1 ⟨⟨p, rfl, hm1, hn1⟩, hb1⟩; have hB1 := hb1.alloc hb1.size (.cells (rcL x p) 26); have H1 := Lib.hid (And.intro hB1 (And.intro (Has.new w1 26 (rcL x p)) (And.intro (hm1.to ((Below.refl _ _).alloc (Nat.le_refl _) (.cells (rcL x p) 26)) (by simp)) hn1))); clear hm1 hn1 hb1 hB1)
      go_wp2_with (go_at_call 20; (with_reducible refine (DA.out _ p H1.out.1 H1.out.2.2.1 H1.out.2.2.2).mono ?_); rintro e w2 ⟨rfl, hb2⟩; have hH2 := H1.out.2.1.keep hb2 H1.out.2.1.lt; have H2 := Lib.hid (And.intro (Below.step H1.out.1 H1.out.1.size hb2) (And.intro hH2 (H1.out.2.2.1.to hb2 hb2.size))); clear hb2 hH2)
      go_wp2_with (go_at_call 10; (with_reducible refine (DR.out _ H2.out.1).mono ?_); rintro e w3 ⟨⟨q, rfl, hm3, hn3⟩, hb3⟩; have hH3 := H2.out.2.1.keep hb3 H2.out.2.1.lt; have H3 := Lib.hid (Below.step H2.out.1 H2.out.1.size hb3); have x0 := fun o : Obj => ((hH3.al o).cell 0); have x1 := fun o : Obj => ((hH3.al o).cell 1); have x2 := fun o : Obj => ((hH3.al o).cell 2); have x3 := fun o : Obj => ((hH3.al o).cell 3); have x4 := fun o : Obj => ((hH3.al o).cell 4); have x5 := fun o : Obj => ((hH3.al o).cell 5); simp only [rcL, List.getElem?_toArray, List.getElem?_cons_zero, List.getElem?_cons_succ] at x0 x1 x2 x3 x4 x5; have DS := Lib.hid (oSame_any y x q p (w3.alloc (.cells (rcL y q) 26)) HX.out.2.1 HX.out.1 (hm3.to ((Below.refl _ _).alloc (Nat.le_refl _) _) (by simp)) ((H2.out.2.2.to hb3 hb3.size).to ((Below.refl _ _).alloc (Nat.le_refl _) _) (by simp))); rw [HX.out.2.2] at DS; clear hb3 hH3 hm3 hn3)
      go_wp2_with (go_at_call 11; (with_reducible refine DS.out.mono ?_); rintro e w4 ⟨rfl, hb4⟩; have H4 := Lib.hid (Below.step (H3.out.alloc H3.out.size _) (H3.out.alloc H3.out.size _).size hb4); clear hb4)
      go_wp2_with (go_at_call 14; (with_reducible refine (AL.out _ H4.out).mono ?_); rintro e w5 ⟨rfl, hb5⟩; have H5 := Lib.hid (Below.step H4.out H4.out.size hb5); clear hb5)
      go_ret
      exact ⟨by simp, H5.out⟩
    · obtain ⟨x, hx⟩ : ∃ x, x = rdE l0 := ⟨_, rfl⟩
      obtain ⟨N, hN⟩ : ∃ N : Int, N = (rdN l0 : Int) := ⟨_, rfl⟩
      have D1 := Lib.hid (D0.mono fun e w' h => rd_err (x := x) (N := N) (by rw [hx]; exact hk) hx.symm hN.symm h)
      have e1 : (x != 0) = true := by rw [hx]; simpa using hk
      have e2 : decide (N ≥ 0) = true := decide_eq_true (by omega)
      have e3 : decide ((0 : Int) ≤ N) = true := decide_eq_true (by omega)
      clear hk hx hN D0 hm hmm hl
      go_enter Tryz.func7, Tryz.ntmps7
      go_wp2_with (go_at_call 10; (with_reducible refine D1.out.mono ?_); rintro e w1 ⟨⟨p, rfl⟩, hb1⟩; have H1 := Lib.hid (hb1.alloc hb1.size (.cells #[.int .i64 0, .slice p.A1 0 p.k1, .slice p.A2 0 p.k2, .slice p.A3 0 p.k3, .slice p.A4 0 p.k4, .slice p.A5 0 p.k5] 26)); clear hb1)
      go_wp2_with (go_at_call 14; (with_reducible refine (AL.out _ H1.out).mono ?_); rintro e w5 ⟨rfl, hb5⟩; have H5 := Lib.hid (Below.step H1.out H1.out.size hb5); clear hb5)
      go_ret
      exact ⟨by simp, H5.out⟩

end Go.Proofs.YtkpjpokeonppbaaGreatDoor

namespace Go.Proofs.YtkpjpokeonppbaaGreatDoor
open Go Go.RowKit
set_option linter.unusedVariables false
set_option linter.unusedSimpArgs false

theorem cut_ext {c d : Cr} (hi : c.i = d.i) (h1 : c.nl = d.nl) (h2 : c.na = d.na) (h3 : c.nb = d.nb) (h4 : c.nc = d.nc)
    (e1 : ∀ j, j < c.nl → c.nx j = d.nx j ∧ c.rs j = d.rs j) (e2 : ∀ j, j < c.na → c.ga j = d.ga j ∧ c.gb j = d.gb j) (e3 : ∀ j, j < c.nb → c.bd j = d.bd j) (e4 : ∀ j, j < c.nc → c.cn j = d.cn j) : c.cut = d.cut := by
  obtain ⟨i, nl, na, nb, nc, nx, rs, ga, gb, bd, cn⟩ := c
  obtain ⟨i', nl', na', nb', nc', nx', rs', ga', gb', bd', cn'⟩ := d
  simp only at hi h1 h2 h3 h4 e1 e2 e3 e4
  subst hi h1 h2 h3 h4
  unfold Cr.cut
  simp only [Cr.mk.injEq, true_and]
  refine ⟨?_, ?_, ?_, ?_, ?_, ?_⟩
  · funext j; by_cases h : j < nl; rw [if_pos h, if_pos h, (e1 j h).1]; rw [if_neg h, if_neg h]
  · funext j; by_cases h : j < nl; rw [if_pos h, if_pos h, (e1 j h).2]; rw [if_neg h, if_neg h]
  · funext j; by_cases h : j < na; rw [if_pos h, if_pos h, (e2 j h).1]; rw [if_neg h, if_neg h]
  · funext j; by_cases h : j < na; rw [if_pos h, if_pos h, (e2 j h).2]; rw [if_neg h, if_neg h]
  · funext j; by_cases h : j < nb; rw [if_pos h, if_pos h, e3 j h]; rw [if_neg h, if_neg h]
  · funext j; by_cases h : j < nc; rw [if_pos h, if_pos h, e4 j h]; rw [if_neg h, if_neg h]
/-- a circuit's raw one has it as its circuit -/
theorem raw_oc {c : Cr} (hk : c.chk = 0) : c.raw.oc = c.cut := by
  obtain ⟨s1, s2, s3, s4⟩ := szN_eq hk
  obtain ⟨h0, h1, h2, h3, h4, h5, h6, h7⟩ := Cr.chk_zero hk
  have h4 := of_decide_eq_true h4
  have h5 := of_decide_eq_true h5
  have h6 := of_decide_eq_true h6
  have ho := raw_ord hk
  have hol : c.raw.ord.length = c.na := by rw [ho, List.length_range]
  rw [Rw.oc_yes (raw_chk hk)]
  refine cut_ext s2.symm rfl hol rfl rfl (fun j hj => ⟨raw_told hk (h6 j hj).1 (h6 j hj).2.1, rfl⟩) (fun j hj => ?_) (fun j hj => raw_told hk (h4 j hj).1 (h4 j hj).2) fun j hj => raw_told hk (h5 j hj).1 (h5 j hj).2
  have hj' : j < c.na := by rw [← hol]; exact hj
  obtain ⟨k1, k2, k3, k4, k5⟩ := gate_ok7 hk hj'
  have ej : c.raw.ord.getD j 0 = j := by rw [ho, List.getD_eq_getElem?_getD, List.getElem?_range hj']; rfl
  have t1 : c.raw.told (c.ga j) = c.ga j := raw_told hk (by omega) (by unfold Cr.sz; omega)
  have t2 : c.raw.told (c.gb j) = c.gb j := raw_told hk (by omega) (by unfold Cr.sz; omega)
  show max (c.raw.told (c.ga (c.raw.ord.getD j 0))) (c.raw.told (c.gb (c.raw.ord.getD j 0))) = c.ga j ∧ min (c.raw.told (c.ga (c.raw.ord.getD j 0))) (c.raw.told (c.gb (c.raw.ord.getD j 0))) = c.gb j
  rw [ej, t1, t2]
  omega

/-- raw circuits that agree have the same circuit -/
theorem Agr.oc {r s : Rw} (h : Agr r s) (hk : r.chk = 0) : r.oc = s.oc := by
  have hk' : s.chk = 0 := by rw [← h.chk]; exact hk
  have ef : ∀ {r s : Rw}, Agr r s → ∀ B, r.fnd B = s.fnd B := fun {r s} h B => fnd_same h.na fun i hi => by
    unfold Rw.may; rw [(h.an i hi).1, (h.an i hi).2.1, (h.an i hi).2.2]
  have e0 : r.rd0 = s.rd0 := by
    unfold Rw.rd0
    rw [h.na]
    rw [lst_eq (fun j hj => (h.an j (by rw [h.na]; exact hj)).1)]
  have est : ∀ k, r.st k = s.st k := fun k => by
    induction k with
    | zero => show (r.rd0, []) = (s.rd0, []); rw [e0]
    | succ k ih =>
      rw [Rw.st, Rw.st, ih, ef h, h.na]
      split
      · next hlt => rw [(h.an _ (by rw [h.na]; exact hlt)).1]
      · rfl
  have eo : r.ord = s.ord := by
    show (r.st r.na).2 = (s.st s.na).2
    rw [est, h.na]
  have eL : r.oL = s.oL := by
    unfold Rw.oL
    rw [eo, h.ni, h.nl, lst_eq (fun j hj => h.ip j (by rw [h.ni]; exact hj)), lst_eq (fun j hj => (h.la j (by rw [h.nl]; exact hj)).1)]
    congr 1
    exact List.map_congr_left fun i hi => (h.an i (by rw [h.na]; exact Rw.ord_lt i hi)).1
  have ek : ∀ k, r.nwk k = s.nwk k := fun k => by
    induction k with
    | zero => rfl
    | succ k ih => rw [Rw.nwk, Rw.nwk, ih, eL]
  have en : r.nw = s.nw := by unfold Rw.nw; rw [eL, ek]
  have et : ∀ x, r.told x = s.told x := fun x => by unfold Rw.told; rw [en]
  rw [Rw.oc_yes hk, Rw.oc_yes hk']
  refine cut_ext ?_ h.nl ?_ h.nb h.nc (fun j hj => ?_) (fun j hj => ?_) (fun j hj => ?_) fun j hj => ?_
  · show ((r.ni : Nat) : Int) = s.ni
    rw [h.ni]
  · show r.ord.length = s.ord.length
    rw [eo]
  · show r.told (r.la j) = s.told (s.la j) ∧ r.lb j = s.lb j
    rw [et, (h.la j hj).2.1, (h.la j hj).2.2]
    exact ⟨rfl, rfl⟩
  · have hj' : j < s.ord.length := by rw [← eo]; exact hj
    have hg := h.an (s.ord.getD j 0) (by rw [h.na]; exact Rw.ord_at hj')
    show max (r.told (r.ga (r.ord.getD j 0))) (r.told (r.gb (r.ord.getD j 0))) = max (s.told (s.ga (s.ord.getD j 0))) (s.told (s.gb (s.ord.getD j 0))) ∧ min (r.told (r.ga (r.ord.getD j 0))) (r.told (r.gb (r.ord.getD j 0))) = min (s.told (s.ga (s.ord.getD j 0))) (s.told (s.gb (s.ord.getD j 0)))
    rw [eo, et, et, hg.2.1, hg.2.2]
    exact ⟨rfl, rfl⟩
  · show r.told (r.bd j) = s.told (s.bd j)
    rw [et, h.bd j hj]
  · show r.told (r.cn j) = s.told (s.cn j)
    rw [et, h.cn j hj]

end Go.Proofs.YtkpjpokeonppbaaGreatDoor

namespace Go.Proofs.YtkpjpokeonppbaaGreatDoor
open Go Go.RowKit
set_option linter.unusedVariables false
set_option linter.unusedSimpArgs false

/-- both boxes of the statement, later -/
structure Tw2 (w W : World) (c : Cr) (p : Pl) (r : Rw) (q : Rp) : Prop where
  b : Below w.heap.size w W
  C : Has W w.heap.size 41 (cc c p)
  R : Has W (w.heap.size + 1) 26 (rc r q)
theorem Tw2.keep {w W W' : World} {c : Cr} {p : Pl} {r : Rw} {q : Rp} (h : Tw2 w W c p r q) (hb : Below W.heap.size W W') : Tw2 w W' c p r q := ⟨Below.step h.b h.b.size hb, h.C.keep hb h.C.lt, h.R.keep hb h.R.lt⟩
theorem Tw2.al {w W : World} {c : Cr} {p : Pl} {r : Rw} {q : Rp} (h : Tw2 w W c p r q) (o : Obj) : Tw2 w (W.alloc o) c p r q := h.keep ((Below.refl _ _).alloc (Nat.le_refl _) o)
theorem Tw2.c {w W : World} {c : Cr} {p : Pl} {r : Rw} {q : Rp} (h : Tw2 w W c p r q) : W.cell? ⟨w.heap.size, 0, none⟩ = some (.int .i64 c.i) ∧ W.cell? ⟨w.heap.size, 1, none⟩ = some (.slice p.A1 c.nl p.k1) ∧ W.cell? ⟨w.heap.size, 2, none⟩ = some (.slice p.A2 c.na p.k2) ∧ W.cell? ⟨w.heap.size, 3, none⟩ = some (.slice p.A3 c.nb p.k3) ∧ W.cell? ⟨w.heap.size, 4, none⟩ = some (.slice p.A4 c.nc p.k4) := h.C.box
theorem Tw2.r {w W : World} {c : Cr} {p : Pl} {r : Rw} {q : Rp} (h : Tw2 w W c p r q) : W.cell? ⟨w.heap.size + 1, 0, none⟩ = some (.int .i64 r.m) ∧ W.cell? ⟨w.heap.size + 1, 1, none⟩ = some (.slice q.A1 r.ni q.k1) ∧ W.cell? ⟨w.heap.size + 1, 2, none⟩ = some (.slice q.A2 r.nl q.k2) ∧ W.cell? ⟨w.heap.size + 1, 3, none⟩ = some (.slice q.A3 r.na q.k3) ∧ W.cell? ⟨w.heap.size + 1, 4, none⟩ = some (.slice q.A4 r.nb q.k4) ∧ W.cell? ⟨w.heap.size + 1, 5, none⟩ = some (.slice q.A5 r.nc q.k5) := six_cells h.R
theorem circ_oc (r : Rw) (p : Rp) (w : World) (hs : RSm r) (hm : RMem w w.heap.size r p) (hN : RNils r p) (hk : r.chk = 0) :
    Calls Tryz.prog 24 #[rv r p] w fun e w' => (∃ q A n k, e = .returned (.tuple #[cv r.oc q, .slice A n k, .int .i64 0]) ∧ Mem w' w'.heap.size r.oc q) ∧ Below w.heap.size w w' := by
  obtain ⟨h0, _⟩ := Rw.chk_parts hk
  refine (circ_yes r p w r.m.toNat (by omega) hs hm hN hk).mono fun e w' => ?_
  rintro ⟨p', g, rfl, hm', _, _, hb, _, _⟩
  refine ⟨⟨p', some ⟨g, 0, none⟩, r.m.toNat + 1, r.m.toNat + 1, ?_, ?_⟩, hb⟩
  · rw [Rw.oc_yes hk]; rfl
  · rw [Rw.oc_yes hk]; exact Cr.cut_mem hm'
/-- the text of a right circuit, read -/
theorem read_text {c : Cr} (hk : c.chk = 0) {B : Nat} {w : World} (hE : Env B w) (hB : B ≤ w.heap.size) :
    Calls Tryz.prog 16 #[.string (str c.raw.txt)] w fun e w' => (∃ p, e = .returned (.tuple #[cv c p, .int .i64 0, .int .i64 0]) ∧ Mem w' w'.heap.size c.cut p) ∧ Below w.heap.size w w' := by
  have hr := raw_chk hk
  obtain ⟨b1, b2, b3⟩ := back_E hr
  have hsh := txt_short hr
  have hC : rdC c.raw.txt = c.cut := by
    unfold rdC
    rw [if_pos b1, b3.oc (rd_good b1).1, raw_oc hk]
  refine (pCirc_any c.raw.txt (by omega) B w hE hB).mono fun e w' h => ?_
  obtain ⟨⟨p, he, hm, hn⟩, hb⟩ := h
  rw [hC] at he hm
  rw [b1, b2] at he
  exact ⟨⟨p, he, hm⟩, hb⟩
/-- the text of a right raw circuit, read as a circuit -/
theorem read_raw {r : Rw} (hr : r.chk = 0) {B : Nat} {w : World} (hE : Env B w) (hB : B ≤ w.heap.size) :
    Calls Tryz.prog 16 #[.string (str r.txt)] w fun e w' => (∃ p, e = .returned (.tuple #[cv r.oc p, .int .i64 0, .int .i64 0]) ∧ Mem w' w'.heap.size r.oc p) ∧ Below w.heap.size w w' := by
  obtain ⟨b1, b2, b3⟩ := back_E hr
  have hsh := txt_short hr
  have hC : rdC r.txt = r.oc := by
    unfold rdC
    rw [if_pos b1, b3.oc (rd_good b1).1]
  refine (pCirc_any r.txt (by omega) B w hE hB).mono fun e w' h => ?_
  obtain ⟨⟨p, he, hm, hn⟩, hb⟩ := h
  rw [hC] at he hm
  rw [b1, b2] at he
  exact ⟨⟨p, he, hm⟩, hb⟩
theorem same_cut {c : Cr} (hk : c.chk = 0) (p p' : Pl) (w : World) (hm : Mem w w.heap.size c.cut p) (hm' : Mem w w.heap.size c p') : Calls Tryz.prog 18 #[cv c p, cv c p'] w fun e w' => e = .returned (.bool true) ∧ Below w.heap.size w w' :=
  same_self c.cut p p' w (Cr.cut_sm hk) hm (Cr.cut_mem hm')

set_option maxRecDepth 100000 in
set_option maxHeartbeats 16000000 in
theorem circs_walk (c0 : Cr) (p0 : Pl) (c1 : Rw) (p1 : Rp) (w : World) (hm0 : Mem w w.heap.size c0 p0) (hN0 : Nils c0 p0) (hv0 : Vals c0) (hm1 : RMem w w.heap.size c1 p1) (hN1 : RNils c1 p1) (hv1 : RVals c1) (henv : Env w.heap.size w) :
    Calls Tryz.prog 6 #[cv c0 p0, rv c1 p1] w fun e w' => e = .returned (.bool true) ∧ Below w.heap.size w w' := by
  have HE := Lib.hid henv
  clear henv
  have AL : Hid (∀ W, Below w.heap.size w W → Calls Tryz.prog 14 #[] W fun e w' => e = .returned (.bool true) ∧ Below W.heap.size W w') := Lib.hid fun W hb => alive8_any w.heap.size W (HE.out.on hb) hb.size
  have T0 : Hid (Tw2 w ((w.alloc (.cells #[.int .i64 c0.i, .slice p0.A1 c0.nl p0.k1, .slice p0.A2 c0.na p0.k2, .slice p0.A3 c0.nb p0.k3, .slice p0.A4 c0.nc p0.k4] 41)).alloc (.cells (rcL c1 p1) 26)) c0 p0 c1 p1) := Lib.hid ⟨((Below.refl _ _).alloc (Nat.le_refl _) _).alloc (by simp) _, (Has.new w 41 (cc c0 p0)).al _, Has.new' _ _ (by simp)⟩
  have DG0 := Lib.hid (rGreat_any c0 p0 ((w.alloc (.cells #[.int .i64 c0.i, .slice p0.A1 c0.nl p0.k1, .slice p0.A2 c0.na p0.k2, .slice p0.A3 c0.nb p0.k3, .slice p0.A4 c0.nc p0.k4] 41)).alloc (.cells (rcL c1 p1) 26)))
  have DG1 : Hid (∀ W, Calls Tryz.prog 19 #[rv c1 p1] W fun e w' => e = .returned (.bool c1.gr) ∧ Below W.heap.size W w') := Lib.hid fun W => oGreat_any c1 p1 W
  have HM := Lib.hid (And.intro hm0 (And.intro hN0 (And.intro hm1 hN1)))
  clear hm0 hN0 hm1 hN1
  cases hgc : c0.gr
  · have hgr := Cr.gr_no hgc
    have HS0 := Lib.hid (hv0.sm (by omega) (by omega) (by omega) (by omega))
    rw [hgc] at DG0
    cases hg1 : c1.gr
    · have HS1 := Lib.hid (hv1.sm hg1)
      rw [hg1] at DG1
      have DT : Hid (∀ W, Below w.heap.size w W → Calls Tryz.prog 23 #[cv c0 p0] W fun e w' => e = .returned (.tuple #[.string (str c0.tE), .int .i64 c0.tK]) ∧ Below W.heap.size W w') := Lib.hid fun W hb => aText_any c0 p0 W (HM.out.1.to hb hb.size) HS0.out HM.out.2.1 (Tab.up (HE.out.t.on hb) hb.size)
      have DA : Hid (∀ W, Below w.heap.size w W → Calls Tryz.prog 20 #[rv c1 p1] W fun e w' => e = .returned (.tuple #[.string (str c1.txtE), .int .i64 c1.chk]) ∧ Below W.heap.size W w') := Lib.hid fun W hb => aRaw_any c1 p1 W HS1.out (HM.out.2.2.1.to hb hb.size) HM.out.2.2.2 (Tab.up (HE.out.t.on hb) hb.size)
      clear hgc hg1 hgr hv0 hv1
      by_cases hk : c0.chk = 0
      · have h' : (c0.chk == 0) = true := by simpa using hk
        have et : c0.tE = c0.raw.txt ∧ c0.tK = 0 := by
          obtain ⟨a, b⟩ := tE_yes h'
          refine ⟨?_, by rw [b]; exact raw_chk hk⟩
          rw [a]; unfold Rw.txtE; rw [if_pos (raw_chk hk)]
        rw [et.1, et.2] at DT
        have DR1 : Hid (∀ W, Below w.heap.size w W → Calls Tryz.prog 16 #[.string (str c0.raw.txt)] W fun e w' => (∃ p, e = .returned (.tuple #[cv c0 p, .int .i64 0, .int .i64 0]) ∧ Mem w' w'.heap.size c0.cut p) ∧ Below W.heap.size W w') := Lib.hid fun W hb => read_text hk (HE.out.on hb) hb.size
        have HK := Lib.hid hk
        obtain ⟨S0, hS0⟩ : ∃ S, S = str c0.raw.txt := ⟨_, rfl⟩
        rw [← hS0] at DT DR1
        clear hk h' et hS0
        by_cases hr : c1.chk = 0
        · have e9 : c1.txtE = c1.txt := by unfold Rw.txtE; rw [if_pos hr]
          have DR2 : Hid (∀ W, Below w.heap.size w W → Calls Tryz.prog 16 #[.string (str c1.txt)] W fun e w' => (∃ p, e = .returned (.tuple #[cv c1.oc p, .int .i64 0, .int .i64 0]) ∧ Mem w' w'.heap.size c1.oc p) ∧ Below W.heap.size W w') := Lib.hid fun W hb => read_raw hr (HE.out.on hb) hb.size
          have DO : Hid (∀ W, Below w.heap.size w W → Calls Tryz.prog 24 #[rv c1 p1] W fun e w' => (∃ q A n k, e = .returned (.tuple #[cv c1.oc q, .slice A n k, .int .i64 0]) ∧ Mem w' w'.heap.size c1.oc q) ∧ Below W.heap.size W w') := Lib.hid fun W hb => circ_oc c1 p1 W HS1.out (HM.out.2.2.1.to hb hb.size) HM.out.2.2.2 hr
          have HC := Lib.hid (Rw.oc_sm c1)
          rw [e9, hr] at DA
          obtain ⟨C, hC⟩ : ∃ C, C = c1.oc := ⟨_, rfl⟩
          rw [← hC] at DR2 DO HC
          obtain ⟨S1, hS1⟩ : ∃ S, S = str c1.txt := ⟨_, rfl⟩
          rw [← hS1] at DA DR2
          clear hr e9 hC hS1
          go_enter Tryz.func6, Tryz.ntmps6
          go_wp2_with (go_at_call 22; (with_reducible refine DG0.out.mono ?_); rintro e w1 ⟨rfl, hb1⟩; have T1 := Lib.hid (T0.out.keep hb1); clear hb1; obtain ⟨x0, x1, x2, x3, x4⟩ := T1.out.c; obtain ⟨y0, y1, y2, y3, y4, y5⟩ := T1.out.r)
          go_wp2_with (go_at_call 19; (with_reducible refine (DG1.out _).mono ?_); rintro e w2 ⟨rfl, hb2⟩; have T2 := Lib.hid (T1.out.keep hb2); clear hb2; clear x0 x1 x2 x3 x4 y0 y1 y2 y3 y4 y5; obtain ⟨x0, x1, x2, x3, x4⟩ := T2.out.c; obtain ⟨y0, y1, y2, y3, y4, y5⟩ := T2.out.r)
          go_wp2_with (go_at_call 23; (with_reducible refine (DT.out _ T2.out.b).mono ?_); rintro e w3 ⟨rfl, hb3⟩; have T3 := Lib.hid (T2.out.keep hb3); clear hb3; clear x0 x1 x2 x3 x4 y0 y1 y2 y3 y4 y5; obtain ⟨x0, x1, x2, x3, x4⟩ := T3.out.c; obtain ⟨y0, y1, y2, y3, y4, y5⟩ := T3.out.r)
          go_wp2_with (go_at_call 16; (with_reducible refine (DR1.out _ T3.out.b).mono ?_); rintro e w4 ⟨⟨pa, rfl, hm4⟩, hb4⟩; have T4 := Lib.hid ((T3.out.keep hb4).al (.cells #[.int .i64 c0.i, .slice pa.A1 c0.nl pa.k1, .slice pa.A2 c0.na pa.k2, .slice pa.A3 c0.nb pa.k3, .slice pa.A4 c0.nc pa.k4] 41)); have DS4 := Lib.hid (same_cut HK.out pa p0 (w4.alloc (.cells #[.int .i64 c0.i, .slice pa.A1 c0.nl pa.k1, .slice pa.A2 c0.na pa.k2, .slice pa.A3 c0.nb pa.k3, .slice pa.A4 c0.nc pa.k4] 41)) (hm4.to ((Below.refl _ _).alloc (Nat.le_refl _) _) (by simp)) (HM.out.1.to T4.out.b T4.out.b.size)); clear hb4 hm4; clear x0 x1 x2 x3 x4 y0 y1 y2 y3 y4 y5; obtain ⟨x0, x1, x2, x3, x4⟩ := T4.out.c; obtain ⟨y0, y1, y2, y3, y4, y5⟩ := T4.out.r)
          go_wp2_with (go_at_call 18; (with_reducible refine DS4.out.mono ?_); rintro e w5 ⟨rfl, hb5⟩; have T5 := Lib.hid (T4.out.keep hb5); clear hb5; clear x0 x1 x2 x3 x4 y0 y1 y2 y3 y4 y5; obtain ⟨x0, x1, x2, x3, x4⟩ := T5.out.c; obtain ⟨y0, y1, y2, y3, y4, y5⟩ := T5.out.r)
          go_wp2_with (go_at_call 20; (with_reducible refine (DA.out _ T5.out.b).mono ?_); rintro e w6 ⟨rfl, hb6⟩; have T6 := Lib.hid (T5.out.keep hb6); clear hb6; clear x0 x1 x2 x3 x4 y0 y1 y2 y3 y4 y5; obtain ⟨x0, x1, x2, x3, x4⟩ := T6.out.c; obtain ⟨y0, y1, y2, y3, y4, y5⟩ := T6.out.r)
          go_wp2_with (go_at_call 16; (with_reducible refine (DR2.out _ T6.out.b).mono ?_); rintro e w7 ⟨⟨p, rfl, hm7⟩, hb7⟩; have T7 := Lib.hid ((T6.out.keep hb7).al (.cells #[.int .i64 C.i, .slice p.A1 C.nl p.k1, .slice p.A2 C.na p.k2, .slice p.A3 C.nb p.k3, .slice p.A4 C.nc p.k4] 41)); have HX7 := Lib.hid (Has.new w7 41 #[.int .i64 C.i, .slice p.A1 C.nl p.k1, .slice p.A2 C.na p.k2, .slice p.A3 C.nb p.k3, .slice p.A4 C.nc p.k4]); have HM7 := Lib.hid (hm7.to ((Below.refl _ _).alloc (Nat.le_refl _) (.cells #[.int .i64 C.i, .slice p.A1 C.nl p.k1, .slice p.A2 C.na p.k2, .slice p.A3 C.nb p.k3, .slice p.A4 C.nc p.k4] 41)) (by simp)); clear hb7 hm7; clear x0 x1 x2 x3 x4 y0 y1 y2 y3 y4 y5; obtain ⟨x0, x1, x2, x3, x4⟩ := T7.out.c; obtain ⟨y0, y1, y2, y3, y4, y5⟩ := T7.out.r)
          go_wp2_with (go_at_call 24; (with_reducible refine (DO.out _ T7.out.b).mono ?_); rintro e w8 ⟨⟨q, A8, n8, k8, rfl, hm8⟩, hb8⟩; have T8 := Lib.hid ((T7.out.keep hb8).al (.cells #[.int .i64 C.i, .slice q.A1 C.nl q.k1, .slice q.A2 C.na q.k2, .slice q.A3 C.nb q.k3, .slice q.A4 C.nc q.k4] 41)); have hx8 := (HX7.out.keep hb8 HX7.out.lt).al (.cells #[.int .i64 C.i, .slice q.A1 C.nl q.k1, .slice q.A2 C.na q.k2, .slice q.A3 C.nb q.k3, .slice q.A4 C.nc q.k4] 41); have z0 := hx8.cell 0; have z1 := hx8.cell 1; have z2 := hx8.cell 2; have z3 := hx8.cell 3; have z4 := hx8.cell 4; simp only [List.getElem?_toArray, List.getElem?_cons_zero, List.getElem?_cons_succ] at z0 z1 z2 z3 z4; have DS8 := Lib.hid (same_self C p q (w8.alloc (.cells #[.int .i64 C.i, .slice q.A1 C.nl q.k1, .slice q.A2 C.na q.k2, .slice q.A3 C.nb q.k3, .slice q.A4 C.nc q.k4] 41)) HC.out ((HM7.out.to hb8 hb8.size).to ((Below.refl _ _).alloc (Nat.le_refl _) _) (by simp)) (hm8.to ((Below.refl _ _).alloc (Nat.le_refl _) _) (by simp))); clear hb8 hm8 hx8; clear x0 x1 x2 x3 x4 y0 y1 y2 y3 y4 y5)
          go_wp2_with (go_at_call 18; (with_reducible refine DS8.out.mono ?_); rintro e w9 ⟨rfl, hb9⟩; have H9 := Lib.hid (Below.step T8.out.b T8.out.b.size hb9); clear hb9)
          go_wp2_with (go_at_call 14; (with_reducible refine (AL.out _ H9.out).mono ?_); rintro e w10 ⟨rfl, hb10⟩; have H10 := Lib.hid (Below.step H9.out H9.out.size hb10); clear hb10)
          go_ret
          exact ⟨by simp, H10.out⟩
        · have er : (c1.chk == 0) = false := by simpa using hr
          obtain ⟨x9, hx9⟩ : ∃ x, x = c1.chk := ⟨_, rfl⟩
          rw [← hx9] at er DA
          obtain ⟨S1, hS1⟩ : ∃ S, S = str c1.txtE := ⟨_, rfl⟩
          rw [← hS1] at DA
          clear hr hx9 hS1
          go_enter Tryz.func6, Tryz.ntmps6
          go_wp2_with (go_at_call 22; (with_reducible refine DG0.out.mono ?_); rintro e w1 ⟨rfl, hb1⟩; have T1 := Lib.hid (T0.out.keep hb1); clear hb1; obtain ⟨x0, x1, x2, x3, x4⟩ := T1.out.c; obtain ⟨y0, y1, y2, y3, y4, y5⟩ := T1.out.r)
          go_wp2_with (go_at_call 19; (with_reducible refine (DG1.out _).mono ?_); rintro e w2 ⟨rfl, hb2⟩; have T2 := Lib.hid (T1.out.keep hb2); clear hb2; clear x0 x1 x2 x3 x4 y0 y1 y2 y3 y4 y5; obtain ⟨x0, x1, x2, x3, x4⟩ := T2.out.c; obtain ⟨y0, y1, y2, y3, y4, y5⟩ := T2.out.r)
          go_wp2_with (go_at_call 23; (with_reducible refine (DT.out _ T2.out.b).mono ?_); rintro e w3 ⟨rfl, hb3⟩; have T3 := Lib.hid (T2.out.keep hb3); clear hb3; clear x0 x1 x2 x3 x4 y0 y1 y2 y3 y4 y5; obtain ⟨x0, x1, x2, x3, x4⟩ := T3.out.c; obtain ⟨y0, y1, y2, y3, y4, y5⟩ := T3.out.r)
          go_wp2_with (go_at_call 16; (with_reducible refine (DR1.out _ T3.out.b).mono ?_); rintro e w4 ⟨⟨pa, rfl, hm4⟩, hb4⟩; have T4 := Lib.hid ((T3.out.keep hb4).al (.cells #[.int .i64 c0.i, .slice pa.A1 c0.nl pa.k1, .slice pa.A2 c0.na pa.k2, .slice pa.A3 c0.nb pa.k3, .slice pa.A4 c0.nc pa.k4] 41)); have DS4 := Lib.hid (same_cut HK.out pa p0 (w4.alloc (.cells #[.int .i64 c0.i, .slice pa.A1 c0.nl pa.k1, .slice pa.A2 c0.na pa.k2, .slice pa.A3 c0.nb pa.k3, .slice pa.A4 c0.nc pa.k4] 41)) (hm4.to ((Below.refl _ _).alloc (Nat.le_refl _) _) (by simp)) (HM.out.1.to T4.out.b T4.out.b.size)); clear hb4 hm4; clear x0 x1 x2 x3 x4 y0 y1 y2 y3 y4 y5; obtain ⟨x0, x1, x2, x3, x4⟩ := T4.out.c; obtain ⟨y0, y1, y2, y3, y4, y5⟩ := T4.out.r)
          go_wp2_with (go_at_call 18; (with_reducible refine DS4.out.mono ?_); rintro e w5 ⟨rfl, hb5⟩; have T5 := Lib.hid (T4.out.keep hb5); clear hb5; clear x0 x1 x2 x3 x4 y0 y1 y2 y3 y4 y5; obtain ⟨x0, x1, x2, x3, x4⟩ := T5.out.c; obtain ⟨y0, y1, y2, y3, y4, y5⟩ := T5.out.r)
          go_wp2_with (go_at_call 20; (with_reducible refine (DA.out _ T5.out.b).mono ?_); rintro e w6 ⟨rfl, hb6⟩; have T6 := Lib.hid (T5.out.keep hb6); clear hb6; clear x0 x1 x2 x3 x4 y0 y1 y2 y3 y4 y5)
          go_wp2_with (go_at_call 14; (with_reducible refine (AL.out _ T6.out.b).mono ?_); rintro e w10 ⟨rfl, hb10⟩; have H10 := Lib.hid (Below.step T6.out.b T6.out.b.size hb10); clear hb10)
          go_ret
          exact ⟨by simp, H10.out⟩
      · have h' : (c0.chk == 0) = false := by simpa using hk
        obtain ⟨a, b⟩ := tE_no h'
        have ek : (c0.tK == 0) = false := by rw [b]; exact h'
        obtain ⟨x8, hx8⟩ : ∃ x, x = c0.tK := ⟨_, rfl⟩
        obtain ⟨S0, hS0⟩ : ∃ S, S = str c0.tE := ⟨_, rfl⟩
        rw [← hx8, ← hS0] at DT
        rw [← hx8] at ek
        clear hk h' a b hx8 hS0
        by_cases hr : c1.chk = 0
        · have e9 : c1.txtE = c1.txt := by unfold Rw.txtE; rw [if_pos hr]
          have DR2 : Hid (∀ W, Below w.heap.size w W → Calls Tryz.prog 16 #[.string (str c1.txt)] W fun e w' => (∃ p, e = .returned (.tuple #[cv c1.oc p, .int .i64 0, .int .i64 0]) ∧ Mem w' w'.heap.size c1.oc p) ∧ Below W.heap.size W w') := Lib.hid fun W hb => read_raw hr (HE.out.on hb) hb.size
          have DO : Hid (∀ W, Below w.heap.size w W → Calls Tryz.prog 24 #[rv c1 p1] W fun e w' => (∃ q A n k, e = .returned (.tuple #[cv c1.oc q, .slice A n k, .int .i64 0]) ∧ Mem w' w'.heap.size c1.oc q) ∧ Below W.heap.size W w') := Lib.hid fun W hb => circ_oc c1 p1 W HS1.out (HM.out.2.2.1.to hb hb.size) HM.out.2.2.2 hr
          have HC := Lib.hid (Rw.oc_sm c1)
          rw [e9, hr] at DA
          obtain ⟨C, hC⟩ : ∃ C, C = c1.oc := ⟨_, rfl⟩
          rw [← hC] at DR2 DO HC
          obtain ⟨S1, hS1⟩ : ∃ S, S = str c1.txt := ⟨_, rfl⟩
          rw [← hS1] at DA DR2
          clear hr e9 hC hS1
          go_enter Tryz.func6, Tryz.ntmps6
          go_wp2_with (go_at_call 22; (with_reducible refine DG0.out.mono ?_); rintro e w1 ⟨rfl, hb1⟩; have T1 := Lib.hid (T0.out.keep hb1); clear hb1; obtain ⟨x0, x1, x2, x3, x4⟩ := T1.out.c; obtain ⟨y0, y1, y2, y3, y4, y5⟩ := T1.out.r)
          go_wp2_with (go_at_call 19; (with_reducible refine (DG1.out _).mono ?_); rintro e w2 ⟨rfl, hb2⟩; have T2 := Lib.hid (T1.out.keep hb2); clear hb2; clear x0 x1 x2 x3 x4 y0 y1 y2 y3 y4 y5; obtain ⟨x0, x1, x2, x3, x4⟩ := T2.out.c; obtain ⟨y0, y1, y2, y3, y4, y5⟩ := T2.out.r)
          go_wp2_with (go_at_call 23; (with_reducible refine (DT.out _ T2.out.b).mono ?_); rintro e w3 ⟨rfl, hb3⟩; have T3 := Lib.hid (T2.out.keep hb3); clear hb3; clear x0 x1 x2 x3 x4 y0 y1 y2 y3 y4 y5; obtain ⟨x0, x1, x2, x3, x4⟩ := T3.out.c; obtain ⟨y0, y1, y2, y3, y4, y5⟩ := T3.out.r)
          go_wp2_with (go_at_call 20; (with_reducible refine (DA.out _ T3.out.b).mono ?_); rintro e w6 ⟨rfl, hb6⟩; have T6 := Lib.hid (T3.out.keep hb6); clear hb6; clear x0 x1 x2 x3 x4 y0 y1 y2 y3 y4 y5; obtain ⟨x0, x1, x2, x3, x4⟩ := T6.out.c; obtain ⟨y0, y1, y2, y3, y4, y5⟩ := T6.out.r)
          go_wp2_with (go_at_call 16; (with_reducible refine (DR2.out _ T6.out.b).mono ?_); rintro e w7 ⟨⟨p, rfl, hm7⟩, hb7⟩; have T7 := Lib.hid ((T6.out.keep hb7).al (.cells #[.int .i64 C.i, .slice p.A1 C.nl p.k1, .slice p.A2 C.na p.k2, .slice p.A3 C.nb p.k3, .slice p.A4 C.nc p.k4] 41)); have HX7 := Lib.hid (Has.new w7 41 #[.int .i64 C.i, .slice p.A1 C.nl p.k1, .slice p.A2 C.na p.k2, .slice p.A3 C.nb p.k3, .slice p.A4 C.nc p.k4]); have HM7 := Lib.hid (hm7.to ((Below.refl _ _).alloc (Nat.le_refl _) (.cells #[.int .i64 C.i, .slice p.A1 C.nl p.k1, .slice p.A2 C.na p.k2, .slice p.A3 C.nb p.k3, .slice p.A4 C.nc p.k4] 41)) (by simp)); clear hb7 hm7; clear x0 x1 x2 x3 x4 y0 y1 y2 y3 y4 y5; obtain ⟨x0, x1, x2, x3, x4⟩ := T7.out.c; obtain ⟨y0, y1, y2, y3, y4, y5⟩ := T7.out.r)
          go_wp2_with (go_at_call 24; (with_reducible refine (DO.out _ T7.out.b).mono ?_); rintro e w8 ⟨⟨q, A8, n8, k8, rfl, hm8⟩, hb8⟩; have T8 := Lib.hid ((T7.out.keep hb8).al (.cells #[.int .i64 C.i, .slice q.A1 C.nl q.k1, .slice q.A2 C.na q.k2, .slice q.A3 C.nb q.k3, .slice q.A4 C.nc q.k4] 41)); have hx8 := (HX7.out.keep hb8 HX7.out.lt).al (.cells #[.int .i64 C.i, .slice q.A1 C.nl q.k1, .slice q.A2 C.na q.k2, .slice q.A3 C.nb q.k3, .slice q.A4 C.nc q.k4] 41); have z0 := hx8.cell 0; have z1 := hx8.cell 1; have z2 := hx8.cell 2; have z3 := hx8.cell 3; have z4 := hx8.cell 4; simp only [List.getElem?_toArray, List.getElem?_cons_zero, List.getElem?_cons_succ] at z0 z1 z2 z3 z4; have DS8 := Lib.hid (same_self C p q (w8.alloc (.cells #[.int .i64 C.i, .slice q.A1 C.nl q.k1, .slice q.A2 C.na q.k2, .slice q.A3 C.nb q.k3, .slice q.A4 C.nc q.k4] 41)) HC.out ((HM7.out.to hb8 hb8.size).to ((Below.refl _ _).alloc (Nat.le_refl _) _) (by simp)) (hm8.to ((Below.refl _ _).alloc (Nat.le_refl _) _) (by simp))); clear hb8 hm8 hx8; clear x0 x1 x2 x3 x4 y0 y1 y2 y3 y4 y5)
          go_wp2_with (go_at_call 18; (with_reducible refine DS8.out.mono ?_); rintro e w9 ⟨rfl, hb9⟩; have H9 := Lib.hid (Below.step T8.out.b T8.out.b.size hb9); clear hb9)
          go_wp2_with (go_at_call 14; (with_reducible refine (AL.out _ H9.out).mono ?_); rintro e w10 ⟨rfl, hb10⟩; have H10 := Lib.hid (Below.step H9.out H9.out.size hb10); clear hb10)
          go_ret
          exact ⟨by simp, H10.out⟩
        · have er : (c1.chk == 0) = false := by simpa using hr
          obtain ⟨x9, hx9⟩ : ∃ x, x = c1.chk := ⟨_, rfl⟩
          rw [← hx9] at er DA
          obtain ⟨S1, hS1⟩ : ∃ S, S = str c1.txtE := ⟨_, rfl⟩
          rw [← hS1] at DA
          clear hr hx9 hS1
          go_enter Tryz.func6, Tryz.ntmps6
          go_wp2_with (go_at_call 22; (with_reducible refine DG0.out.mono ?_); rintro e w1 ⟨rfl, hb1⟩; have T1 := Lib.hid (T0.out.keep hb1); clear hb1; obtain ⟨x0, x1, x2, x3, x4⟩ := T1.out.c; obtain ⟨y0, y1, y2, y3, y4, y5⟩ := T1.out.r)
          go_wp2_with (go_at_call 19; (with_reducible refine (DG1.out _).mono ?_); rintro e w2 ⟨rfl, hb2⟩; have T2 := Lib.hid (T1.out.keep hb2); clear hb2; clear x0 x1 x2 x3 x4 y0 y1 y2 y3 y4 y5; obtain ⟨x0, x1, x2, x3, x4⟩ := T2.out.c; obtain ⟨y0, y1, y2, y3, y4, y5⟩ := T2.out.r)
          go_wp2_with (go_at_call 23; (with_reducible refine (DT.out _ T2.out.b).mono ?_); rintro e w3 ⟨rfl, hb3⟩; have T3 := Lib.hid (T2.out.keep hb3); clear hb3; clear x0 x1 x2 x3 x4 y0 y1 y2 y3 y4 y5; obtain ⟨x0, x1, x2, x3, x4⟩ := T3.out.c; obtain ⟨y0, y1, y2, y3, y4, y5⟩ := T3.out.r)
          go_wp2_with (go_at_call 20; (with_reducible refine (DA.out _ T3.out.b).mono ?_); rintro e w6 ⟨rfl, hb6⟩; have T6 := Lib.hid (T3.out.keep hb6); clear hb6; clear x0 x1 x2 x3 x4 y0 y1 y2 y3 y4 y5)
          go_wp2_with (go_at_call 14; (with_reducible refine (AL.out _ T6.out.b).mono ?_); rintro e w10 ⟨rfl, hb10⟩; have H10 := Lib.hid (Below.step T6.out.b T6.out.b.size hb10); clear hb10)
          go_ret
          exact ⟨by simp, H10.out⟩
    · rw [hg1] at DG1
      clear hgc hg1 hgr hv0 hv1
      go_enter Tryz.func6, Tryz.ntmps6
      go_wp2_with (go_at_call 22; (with_reducible refine DG0.out.mono ?_); rintro e w1 ⟨rfl, hb1⟩; have T1 := Lib.hid (T0.out.keep hb1); clear hb1; obtain ⟨x0, x1, x2, x3, x4⟩ := T1.out.c; obtain ⟨y0, y1, y2, y3, y4, y5⟩ := T1.out.r)
      go_wp2_with (go_at_call 19; (with_reducible refine (DG1.out _).mono ?_); rintro e w2 ⟨rfl, hb2⟩; have T2 := Lib.hid (T1.out.keep hb2); clear hb2; clear x0 x1 x2 x3 x4 y0 y1 y2 y3 y4 y5; obtain ⟨x0, x1, x2, x3, x4⟩ := T2.out.c; obtain ⟨y0, y1, y2, y3, y4, y5⟩ := T2.out.r)
      go_wp2_with (go_at_call 14; (with_reducible refine (AL.out _ T2.out.b).mono ?_); rintro e w10 ⟨rfl, hb10⟩; have H10 := Lib.hid (Below.step T2.out.b T2.out.b.size hb10); clear hb10)
      go_ret
      exact ⟨by simp, H10.out⟩
  · rw [hgc] at DG0
    clear hgc hv0 hv1
    go_enter Tryz.func6, Tryz.ntmps6
    go_wp2_with (go_at_call 22; (with_reducible refine DG0.out.mono ?_); rintro e w1 ⟨rfl, hb1⟩; have T1 := Lib.hid (T0.out.keep hb1); clear hb1; obtain ⟨x0, x1, x2, x3, x4⟩ := T1.out.c; obtain ⟨y0, y1, y2, y3, y4, y5⟩ := T1.out.r)
    go_wp2_with (go_at_call 14; (with_reducible refine (AL.out _ T1.out.b).mono ?_); rintro e w10 ⟨rfl, hb10⟩; have H10 := Lib.hid (Below.step T1.out.b T1.out.b.size hb10); clear hb10)
    go_ret
    exact ⟨by simp, H10.out⟩

end Go.Proofs.YtkpjpokeonppbaaGreatDoor
