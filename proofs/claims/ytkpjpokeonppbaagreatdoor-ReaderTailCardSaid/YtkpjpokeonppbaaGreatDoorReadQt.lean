/- The statement ReaderBack's walk. The statement ReaderTail's walk. -/
import Derived.Test.YtkpjpokeonppbaaGreatDoorReadPd
import Derived.Test.YtkpjpokeonppbaaGreatDoorAsciiRef
namespace Go.Proofs.YtkpjpokeonppbaaGreatDoor
open Go Go.RowKit
set_option linter.unusedVariables false
set_option linter.unusedSimpArgs false

/-- the cells of a raw circuit's box, later -/
theorem six_cells {w : World} {b : Nat} {r : Rw} {p : Rp} (h : Has w b 26 (rc r p)) : w.cell? ⟨b, 0, none⟩ = some (.int .i64 r.m) ∧ w.cell? ⟨b, 1, none⟩ = some (.slice p.A1 r.ni p.k1) ∧ w.cell? ⟨b, 2, none⟩ = some (.slice p.A2 r.nl p.k2) ∧ w.cell? ⟨b, 3, none⟩ = some (.slice p.A3 r.na p.k3) ∧ w.cell? ⟨b, 4, none⟩ = some (.slice p.A4 r.nb p.k4) ∧ w.cell? ⟨b, 5, none⟩ = some (.slice p.A5 r.nc p.k5) :=
  ⟨h.cell 0, h.cell 1, h.cell 2, h.cell 3, h.cell 4, h.cell 5⟩

set_option maxRecDepth 100000 in
set_option maxHeartbeats 8000000 in
theorem back_walk (c0 : Rw) (p0 : Rp) (w : World) (hm0 : RMem w w.heap.size c0 p0) (hN0 : RNils c0 p0) (hv0 : RVals c0) (henv : Env w.heap.size w) :
    Calls Tryz.prog 5 #[rv c0 p0] w fun e w' => e = .returned (.bool true) ∧ Below w.heap.size w w' := by
  have HE := Lib.hid henv
  clear henv
  have hsz : 0 ≤ w.heap.size := Nat.zero_le _
  have AL : Hid (∀ W, Below w.heap.size w W → Calls Tryz.prog 14 #[] W fun e w' => e = .returned (.bool true) ∧ Below W.heap.size W w') := Lib.hid fun W hb => alive8_any w.heap.size W (HE.out.on hb) hb.size
  obtain ⟨hB0, hH0⟩ := rbox_new w c0 p0
  have HH0 := Lib.hid (And.intro hB0 hH0)
  have HM0 := Lib.hid (And.intro hm0 hN0)
  have DG := Lib.hid (oGreat_any c0 p0 (w.alloc (.cells (rcL c0 p0) 26)))
  cases hg : c0.gr
  · have HS := Lib.hid (hv0.sm hg)
    rw [hg] at DG
    have DA : Hid (∀ W, Below w.heap.size w W → Calls Tryz.prog 20 #[rv c0 p0] W fun e w' => e = .returned (.tuple #[.string (str c0.txtE), .int .i64 c0.chk]) ∧ Below W.heap.size W w') := Lib.hid fun W hb => aRaw_any c0 p0 W HS.out (HM0.out.1.to hb hb.size) HM0.out.2 (Tab.up (HE.out.t.on hb) hb.size)
    clear hg hm0 hN0 hv0 hB0 hH0
    by_cases hk : c0.chk = 0
    · have HK := Lib.hid hk
      have hk' : (c0.chk != 0) = false := by simpa using hk
      obtain ⟨b1, b2, b3⟩ := back_E hk
      have hsh := txt_short hk
      have e1 : c0.txtE = c0.txt := by unfold Rw.txtE; rw [if_pos hk]
      obtain ⟨x, hx⟩ : ∃ x, x = rdW c0.txt := ⟨_, rfl⟩
      have DR : Hid (∀ W, Below w.heap.size w W → Calls Tryz.prog 10 #[.string (str c0.txt)] W fun e w' => (∃ p, e = .returned (.tuple #[rv x p, .int .i64 0, .int .i64 0]) ∧ RMem w' w'.heap.size x p ∧ RNils x p) ∧ Below W.heap.size W w') := Lib.hid fun W hb => by
        refine (pRaw_any c0.txt (by omega) w.heap.size W (HE.out.on hb) hb.size).mono fun e w' h => ?_
        obtain ⟨⟨p, he, hm, hn⟩, hb'⟩ := h
        rw [b1, b2, ← hx] at he
        rw [← hx] at hm hn
        exact ⟨⟨p, he, hm, hn⟩, hb'⟩
      have HX := Lib.hid (And.intro (show RSm x by rw [hx]; exact rdW_sm _) (show sameR x c0 = true by rw [hx]; exact b3.same))
      rw [e1] at DA
      obtain ⟨S, hS⟩ : ∃ S, S = str c0.txt := ⟨_, rfl⟩
      rw [← hS] at DA DR
      rw [hk] at DA
      clear hk hS hx e1 b1 b2 b3 hsh
      go_enter Tryz.func5, Tryz.ntmps5
      go_wp2_with (go_at_call 19; (with_reducible refine DG.out.mono ?_); rintro e w1 ⟨rfl, hb1⟩; have hH1 := HH0.out.2.keep hb1 HH0.out.2.lt; have H1 := Lib.hid (And.intro (Below.step HH0.out.1 HH0.out.1.size hb1) hH1); obtain ⟨x0, x1, x2, x3, x4, x5⟩ := six_cells hH1; clear hb1 hH1)
      go_wp2_with (go_at_call 20; (with_reducible refine (DA.out _ H1.out.1).mono ?_); rintro e w2 ⟨rfl, hb2⟩; have hH2 := H1.out.2.keep hb2 H1.out.2.lt; have H2 := Lib.hid (And.intro (Below.step H1.out.1 H1.out.1.size hb2) hH2); clear hb2 hH2)
      go_wp2_with (go_at_call 10; (with_reducible refine (DR.out _ H2.out.1).mono ?_); rintro e w3 ⟨⟨p, rfl, hm3, hn3⟩, hb3⟩; have hH3 := H2.out.2.keep hb3 H2.out.2.lt; have H3 := Lib.hid (And.intro (Below.step H2.out.1 H2.out.1.size hb3) (And.intro hH3 hm3)); have x0 := fun o : Obj => ((hH3.al o).cell 0); have x1 := fun o : Obj => ((hH3.al o).cell 1); have x2 := fun o : Obj => ((hH3.al o).cell 2); have x3 := fun o : Obj => ((hH3.al o).cell 3); have x4 := fun o : Obj => ((hH3.al o).cell 4); have x5 := fun o : Obj => ((hH3.al o).cell 5); simp only [rc, List.getElem?_toArray, List.getElem?_cons_zero, List.getElem?_cons_succ] at x0 x1 x2 x3 x4 x5; have DS := Lib.hid (oSame_any x c0 p p0 (w3.alloc (.cells (rcL x p) 26)) HX.out.1 HS.out (hm3.to ((Below.refl _ _).alloc (Nat.le_refl _) _) (by simp)) (HM0.out.1.to (H3.out.1.alloc H3.out.1.size _) (H3.out.1.alloc H3.out.1.size _).size)); rw [HX.out.2] at DS; clear hb3 hH3 hm3 hn3)
      go_wp2_with (go_at_call 11; (with_reducible refine DS.out.mono ?_); rintro e w4 ⟨rfl, hb4⟩; have H4 := Lib.hid (Below.step (H3.out.1.alloc H3.out.1.size _) (H3.out.1.alloc H3.out.1.size _).size hb4); clear hb4)
      go_wp2_with (go_at_call 14; (with_reducible refine (AL.out _ H4.out).mono ?_); rintro e w5 ⟨rfl, hb5⟩; have H5 := Lib.hid (Below.step H4.out H4.out.size hb5); clear hb5)
      go_ret
      exact ⟨by simp, H5.out⟩
    · have hk' : (c0.chk != 0) = true := by simpa using hk
      obtain ⟨x, hx⟩ : ∃ x, x = c0.chk := ⟨_, rfl⟩
      have DC : Hid (∀ W, Below w.heap.size w W → Calls Tryz.prog 21 #[rv c0 p0] W fun e w' => e = .returned (.int .i64 x) ∧ Below W.heap.size W w') := Lib.hid fun W hb => by rw [hx]; exact pCheck_any c0 p0 W HS.out (HM0.out.1.to hb hb.size) HM0.out.2
      rw [← hx] at DA hk'
      clear hk hx
      go_enter Tryz.func5, Tryz.ntmps5
      go_wp2_with (go_at_call 19; (with_reducible refine DG.out.mono ?_); rintro e w1 ⟨rfl, hb1⟩; have hH1 := HH0.out.2.keep hb1 HH0.out.2.lt; have H1 := Lib.hid (And.intro (Below.step HH0.out.1 HH0.out.1.size hb1) hH1); obtain ⟨x0, x1, x2, x3, x4, x5⟩ := six_cells hH1; clear hb1 hH1)
      go_wp2_with (go_at_call 20; (with_reducible refine (DA.out _ H1.out.1).mono ?_); rintro e w2 ⟨rfl, hb2⟩; have hH2 := H1.out.2.keep hb2 H1.out.2.lt; have H2 := Lib.hid (And.intro (Below.step H1.out.1 H1.out.1.size hb2) hH2); obtain ⟨y0, y1, y2, y3, y4, y5⟩ := six_cells hH2; clear hb2 hH2)
      go_wp2_with (go_at_call 21; (with_reducible refine (DC.out _ H2.out.1).mono ?_); rintro e w3 ⟨rfl, hb3⟩; have H3 := Lib.hid (Below.step H2.out.1 H2.out.1.size hb3); clear hb3)
      go_wp2_with (go_at_call 14; (with_reducible refine (AL.out _ H3.out).mono ?_); rintro e w5 ⟨rfl, hb5⟩; have H5 := Lib.hid (Below.step H3.out H3.out.size hb5); clear hb5)
      go_ret
      exact ⟨by simp, H5.out⟩
  · rw [hg] at DG
    clear hg hm0 hN0 hv0 hB0 hH0
    go_enter Tryz.func5, Tryz.ntmps5
    go_wp2_with (go_at_call 19; (with_reducible refine DG.out.mono ?_); rintro e w1 ⟨rfl, hb1⟩; have H1 := Lib.hid (Below.step HH0.out.1 HH0.out.1.size hb1); clear hb1)
    go_wp2_with (go_at_call 14; (with_reducible refine (AL.out _ H1.out).mono ?_); rintro e w5 ⟨rfl, hb5⟩; have H5 := Lib.hid (Below.step H1.out H1.out.size hb5); clear hb5)
    go_ret
    exact ⟨by simp, H5.out⟩

end Go.Proofs.YtkpjpokeonppbaaGreatDoor

namespace Go.Proofs.YtkpjpokeonppbaaGreatDoor
open Go Go.RowKit
set_option linter.unusedVariables false
set_option linter.unusedSimpArgs false

set_option maxRecDepth 100000 in
set_option maxHeartbeats 8000000 in
theorem again_walk (l0 : List UInt8) (w : World) (henv : Env w.heap.size w) :
    Calls Tryz.prog 7 #[.string (str l0)] w fun e w' => e = .returned (.bool true) ∧ Below w.heap.size w w' := by
  have HE := Lib.hid henv
  clear henv
  have AL : Hid (∀ W, Below w.heap.size w W → Calls Tryz.prog 14 #[] W fun e w' => e = .returned (.bool true) ∧ Below W.heap.size W w') := Lib.hid fun W hb => alive8_any w.heap.size W (HE.out.on hb) hb.size
  have k0 : ∀ W : World, (Builtin.len_ #[9] 3 #[.string (str l0)]).run Tryz.prog W = .ok (.int .i64 (l0.length : Int)) W := fun W => str_len Tryz.underlying9 l0 W
  obtain ⟨m, hmm⟩ : ∃ m : Int, m = (l0.length : Int) := ⟨_, rfl⟩
  rw [← hmm] at k0
  by_cases hm : 5000 < l0.length
  · have e0 : decide ((5000 : Int) < m) = true := decide_eq_true (by omega)
    clear hm hmm
    go_enter Tryz.func7, Tryz.ntmps7
    go_wp2_with (go_at_call 14; (with_reducible refine (AL.out _ (Below.refl _ _)).mono ?_); rintro e w5 ⟨rfl, hb5⟩; have H5 := Lib.hid hb5; clear hb5)
    go_ret
    exact ⟨by simp, H5.out⟩
  · have e0 : decide ((5000 : Int) < m) = false := decide_eq_false (by omega)
    have hl : l0.length ≤ 100000 := by omega
    have D0 := pRaw_any l0 hl w.heap.size w HE.out (Nat.le_refl _)
    by_cases hk : rdE l0 = 0
    · obtain ⟨g1, g2⟩ := rd_good hk
      obtain ⟨b1, b2, b3⟩ := back_E g1
      have hsh := txt_short g1
      have hsm := rdW_sm l0
      have hsm2 := rdW_sm (rdW l0).txt
      obtain ⟨x, hx⟩ : ∃ x, x = rdW l0 := ⟨_, rfl⟩
      obtain ⟨y, hy⟩ : ∃ y, y = rdW x.txt := ⟨_, rfl⟩
      rw [← hx] at g1 b1 b2 b3 hsh hsm hsm2
      rw [← hy] at b3 hsm2
      have D1 : Hid (Calls Tryz.prog 10 #[.string (str l0)] w fun e w' => (∃ p, e = .returned (.tuple #[rv x p, .int .i64 0, .int .i64 0]) ∧ RMem w' w'.heap.size x p ∧ RNils x p) ∧ Below w.heap.size w w') := Lib.hid (D0.mono fun e w' h => by
        obtain ⟨⟨p, he, hm, hn⟩, hb'⟩ := h
        rw [hk, g2, ← hx] at he
        rw [← hx] at hm hn
        exact ⟨⟨p, he, hm, hn⟩, hb'⟩)
      have DA : Hid (∀ W p, Below w.heap.size w W → RMem W W.heap.size x p → RNils x p → Calls Tryz.prog 20 #[rv x p] W fun e w' => e = .returned (.tuple #[.string (str x.txt), .int .i64 0]) ∧ Below W.heap.size W w') := Lib.hid fun W p hb hm hn => aRaw_yes x p W g1 hsm hm hn (Tab.up (HE.out.t.on hb) hb.size)
      have DR : Hid (∀ W, Below w.heap.size w W → Calls Tryz.prog 10 #[.string (str x.txt)] W fun e w' => (∃ p, e = .returned (.tuple #[rv y p, .int .i64 0, .int .i64 0]) ∧ RMem w' w'.heap.size y p ∧ RNils y p) ∧ Below W.heap.size W w') := Lib.hid fun W hb => by
        refine (pRaw_any x.txt (by omega) w.heap.size W (HE.out.on hb) hb.size).mono fun e w' h => ?_
        obtain ⟨⟨p, he, hm, hn⟩, hb'⟩ := h
        rw [b1, b2, ← hy] at he
        rw [← hy] at hm hn
        exact ⟨⟨p, he, hm, hn⟩, hb'⟩
      have HX := Lib.hid (And.intro hsm (And.intro hsm2 b3.same))
      obtain ⟨S, hS⟩ : ∃ S, S = str x.txt := ⟨_, rfl⟩
      rw [← hS] at DA DR
      clear hk hS hx hy g1 g2 b1 b2 b3 hsh hsm hsm2 D0 hm hmm hl
      go_enter Tryz.func7, Tryz.ntmps7
      go_wp2_with (go_at_call 10; (with_reducible refine D1.out.mono ?_); rintro e w1 ⟨⟨p, rfl, hm1, hn1⟩, hb1⟩; have hB1 := hb1.alloc hb1.size (.cells (rcL x p) 26); have H1 := Lib.hid (And.intro hB1 (And.intro (Has.new w1 26 (rcL x p)) (And.intro (hm1.to ((Below.refl _ _).alloc (Nat.le_refl _) (.cells (rcL x p) 26)) (by simp)) hn1))); clear hm1 hn1 hb1 hB1)
      go_wp2_with (go_at_call 20; (with_reducible refine (DA.out _ p H1.out.1 H1.out.2.2.1 H1.out.2.2.2).mono ?_); rintro e w2 ⟨rfl, hb2⟩; have hH2 := H1.out.2.1.keep hb2 H1.out.2.1.lt; have H2 := Lib.hid (And.intro (Below.step H1.out.1 H1.out.1.size hb2) (And.intro hH2 (H1.out.2.2.1.to hb2 hb2.size))); clear hb2 hH2)
      go_wp2_with (go_at_call 10; (with_reducible refine (DR.out _ H2.out.1).mono ?_); rintro e w3 ⟨⟨q, rfl, hm3, hn3⟩, hb3⟩; have hH3 := H2.out.2.1.keep hb3 H2.out.2.1.lt; have H3 := Lib.hid (Below.step H2.out.1 H2.out.1.size hb3); have x0 := fun o : Obj => ((hH3.al o).cell 0); have x1 := fun o : Obj => ((hH3.al o).cell 1); have x2 := fun o : Obj => ((hH3.al o).cell 2); have x3 := fun o : Obj => ((hH3.al o).cell 3); have x4 := fun o : Obj => ((hH3.al o).cell 4); have x5 := fun o : Obj => ((hH3.al o).cell 5); simp only [rcL, List.getElem?_toArray, List.getElem?_cons_zero, List.getElem?_cons_succ] at x0 x1 x2 x3 x4 x5; have DS := Lib.hid (oSame_any y x q p (w3.alloc (.cells (rcL y q) 26)) HX.out.2.1 HX.out.1 (hm3.to ((Below.refl _ _).alloc (Nat.le_refl _) _) (by simp)) ((H2.out.2.2.to hb3 hb3.size).to ((Below.refl _ _).alloc (Nat.le_refl _) _) (by simp))); rw [HX.out.2.2] at DS; clear hb3 hH3 hm3 hn3)
      go_wp2_with (go_at_call 11; (with_reducible refine DS.out.mono ?_); rintro e w4 ⟨rfl, hb4⟩; have H4 := Lib.hid (Below.step (H3.out.alloc H3.out.size _) (H3.out.alloc H3.out.size _).size hb4); clear hb4)
      go_wp2_with (go_at_call 14; (with_reducible refine (AL.out _ H4.out).mono ?_); rintro e w5 ⟨rfl, hb5⟩; have H5 := Lib.hid (Below.step H4.out H4.out.size hb5); clear hb5)
      go_ret
      exact ⟨by simp, H5.out⟩
    · obtain ⟨x, hx⟩ : ∃ x, x = rdE l0 := ⟨_, rfl⟩
      obtain ⟨N, hN⟩ : ∃ N : Int, N = (rdN l0 : Int) := ⟨_, rfl⟩
      have D1 := Lib.hid (D0.mono fun e w' h => rd_err (x := x) (N := N) (by rw [hx]; exact hk) hx.symm hN.symm h)
      have e1 : (x != 0) = true := by rw [hx]; simpa using hk
      have e2 : decide (N ≥ 0) = true := decide_eq_true (by omega)
      have e3 : decide ((0 : Int) ≤ N) = true := decide_eq_true (by omega)
      clear hk hx hN D0 hm hmm hl
      go_enter Tryz.func7, Tryz.ntmps7
      go_wp2_with (go_at_call 10; (with_reducible refine D1.out.mono ?_); rintro e w1 ⟨⟨p, rfl⟩, hb1⟩; have H1 := Lib.hid (hb1.alloc hb1.size (.cells #[.int .i64 0, .slice p.A1 0 p.k1, .slice p.A2 0 p.k2, .slice p.A3 0 p.k3, .slice p.A4 0 p.k4, .slice p.A5 0 p.k5] 26)); clear hb1)
      go_wp2_with (go_at_call 14; (with_reducible refine (AL.out _ H1.out).mono ?_); rintro e w5 ⟨rfl, hb5⟩; have H5 := Lib.hid (Below.step H1.out H1.out.size hb5); clear hb5)
      go_ret
      exact ⟨by simp, H5.out⟩

end Go.Proofs.YtkpjpokeonppbaaGreatDoor

namespace Go.Proofs.YtkpjpokeonppbaaGreatDoor
open Go Go.RowKit
set_option linter.unusedVariables false
set_option linter.unusedSimpArgs false

theorem cut_ext {c d : Cr} (hi : c.i = d.i) (h1 : c.nl = d.nl) (h2 : c.na = d.na) (h3 : c.nb = d.nb) (h4 : c.nc = d.nc)
    (e1 : ∀ j, j < c.nl → c.nx j = d.nx j ∧ c.rs j = d.rs j) (e2 : ∀ j, j < c.na → c.ga j = d.ga j ∧ c.gb j = d.gb j) (e3 : ∀ j, j < c.nb → c.bd j = d.bd j) (e4 : ∀ j, j < c.nc → c.cn j = d.cn j) : c.cut = d.cut := by
  obtain ⟨i, nl, na, nb, nc, nx, rs, ga, gb, bd, cn⟩ := c
  obtain ⟨i', nl', na', nb', nc', nx', rs', ga', gb', bd', cn'⟩ := d
  simp only at hi h1 h2 h3 h4 e1 e2 e3 e4
  subst hi h1 h2 h3 h4
  unfold Cr.cut
  simp only [Cr.mk.injEq, true_and]
  refine ⟨?_, ?_, ?_, ?_, ?_, ?_⟩
  · funext j; by_cases h : j < nl; rw [if_pos h, if_pos h, (e1 j h).1]; rw [if_neg h, if_neg h]
  · funext j; by_cases h : j < nl; rw [if_pos h, if_pos h, (e1 j h).2]; rw [if_neg h, if_neg h]
  · funext j; by_cases h : j < na; rw [if_pos h, if_pos h, (e2 j h).1]; rw [if_neg h, if_neg h]
  · funext j; by_cases h : j < na; rw [if_pos h, if_pos h, (e2 j h).2]; rw [if_neg h, if_neg h]
  · funext j; by_cases h : j < nb; rw [if_pos h, if_pos h, e3 j h]; rw [if_neg h, if_neg h]
  · funext j; by_cases h : j < nc; rw [if_pos h, if_pos h, e4 j h]; rw [if_neg h, if_neg h]
/-- a circuit's raw one has it as its circuit -/
theorem raw_oc {c : Cr} (hk : c.chk = 0) : c.raw.oc = c.cut := by
  obtain ⟨s1, s2, s3, s4⟩ := szN_eq hk
  obtain ⟨h0, h1, h2, h3, h4, h5, h6, h7⟩ := Cr.chk_zero hk
  have h4 := of_decide_eq_true h4
  have h5 := of_decide_eq_true h5
  have h6 := of_decide_eq_true h6
  have ho := raw_ord hk
  have hol : c.raw.ord.length = c.na := by rw [ho, List.length_range]
  rw [Rw.oc_yes (raw_chk hk)]
  refine cut_ext s2.symm rfl hol rfl rfl (fun j hj => ⟨raw_told hk (h6 j hj).1 (h6 j hj).2.1, rfl⟩) (fun j hj => ?_) (fun j hj => raw_told hk (h4 j hj).1 (h4 j hj).2) fun j hj => raw_told hk (h5 j hj).1 (h5 j hj).2
  have hj' : j < c.na := by rw [← hol]; exact hj
  obtain ⟨k1, k2, k3, k4, k5⟩ := gate_ok7 hk hj'
  have ej : c.raw.ord.getD j 0 = j := by rw [ho, List.getD_eq_getElem?_getD, List.getElem?_range hj']; rfl
  have t1 : c.raw.told (c.ga j) = c.ga j := raw_told hk (by omega) (by unfold Cr.sz; omega)
  have t2 : c.raw.told (c.gb j) = c.gb j := raw_told hk (by omega) (by unfold Cr.sz; omega)
  show max (c.raw.told (c.ga (c.raw.ord.getD j 0))) (c.raw.told (c.gb (c.raw.ord.getD j 0))) = c.ga j ∧ min (c.raw.told (c.ga (c.raw.ord.getD j 0))) (c.raw.told (c.gb (c.raw.ord.getD j 0))) = c.gb j
  rw [ej, t1, t2]
  omega

/-- raw circuits that agree have the same circuit -/
theorem Agr.oc {r s : Rw} (h : Agr r s) (hk : r.chk = 0) : r.oc = s.oc := by
  have hk' : s.chk = 0 := by rw [← h.chk]; exact hk
  have ef : ∀ {r s : Rw}, Agr r s → ∀ B, r.fnd B = s.fnd B := fun {r s} h B => fnd_same h.na fun i hi => by
    unfold Rw.may; rw [(h.an i hi).1, (h.an i hi).2.1, (h.an i hi).2.2]
  have e0 : r.rd0 = s.rd0 := by
    unfold Rw.rd0
    rw [h.na]
    rw [lst_eq (fun j hj => (h.an j (by rw [h.na]; exact hj)).1)]
  have est : ∀ k, r.st k = s.st k := fun k => by
    induction k with
    | zero => show (r.rd0, []) = (s.rd0, []); rw [e0]
    | succ k ih =>
      rw [Rw.st, Rw.st, ih, ef h, h.na]
      split
      · next hlt => rw [(h.an _ (by rw [h.na]; exact hlt)).1]
      · rfl
  have eo : r.ord = s.ord := by
    show (r.st r.na).2 = (s.st s.na).2
    rw [est, h.na]
  have eL : r.oL = s.oL := by
    unfold Rw.oL
    rw [eo, h.ni, h.nl, lst_eq (fun j hj => h.ip j (by rw [h.ni]; exact hj)), lst_eq (fun j hj => (h.la j (by rw [h.nl]; exact hj)).1)]
    congr 1
    exact List.map_congr_left fun i hi => (h.an i (by rw [h.na]; exact Rw.ord_lt i hi)).1
  have ek : ∀ k, r.nwk k = s.nwk k := fun k => by
    induction k with
    | zero => rfl
    | succ k ih => rw [Rw.nwk, Rw.nwk, ih, eL]
  have en : r.nw = s.nw := by unfold Rw.nw; rw [eL, ek]
  have et : ∀ x, r.told x = s.told x := fun x => by unfold Rw.told; rw [en]
  rw [Rw.oc_yes hk, Rw.oc_yes hk']
  refine cut_ext ?_ h.nl ?_ h.nb h.nc (fun j hj => ?_) (fun j hj => ?_) (fun j hj => ?_) fun j hj => ?_
  · show ((r.ni : Nat) : Int) = s.ni
    rw [h.ni]
  · show r.ord.length = s.ord.length
    rw [eo]
  · show r.told (r.la j) = s.told (s.la j) ∧ r.lb j = s.lb j
    rw [et, (h.la j hj).2.1, (h.la j hj).2.2]
    exact ⟨rfl, rfl⟩
  · have hj' : j < s.ord.length := by rw [← eo]; exact hj
    have hg := h.an (s.ord.getD j 0) (by rw [h.na]; exact Rw.ord_at hj')
    show max (r.told (r.ga (r.ord.getD j 0))) (r.told (r.gb (r.ord.getD j 0))) = max (s.told (s.ga (s.ord.getD j 0))) (s.told (s.gb (s.ord.getD j 0))) ∧ min (r.told (r.ga (r.ord.getD j 0))) (r.told (r.gb (r.ord.getD j 0))) = min (s.told (s.ga (s.ord.getD j 0))) (s.told (s.gb (s.ord.getD j 0)))
    rw [eo, et, et, hg.2.1, hg.2.2]
    exact ⟨rfl, rfl⟩
  · show r.told (r.bd j) = s.told (s.bd j)
    rw [et, h.bd j hj]
  · show r.told (r.cn j) = s.told (s.cn j)
    rw [et, h.cn j hj]

end Go.Proofs.YtkpjpokeonppbaaGreatDoor

namespace Go.Proofs.YtkpjpokeonppbaaGreatDoor
open Go Go.RowKit
set_option linter.unusedVariables false
set_option linter.unusedSimpArgs false

/-- what stands behind the gates in the first text -/
def tb1 (b : List UInt8) : List UInt8 := [105, 48, 32] ++ b ++ [10, 98] ++ b ++ [10, 99, 10] ++ b ++ [10]
theorem tb1_lno {b : List UInt8} (h : ∀ x ∈ b, x ≠ (10 : UInt8)) : lno (tb1 b) = [[105, 48, 32] ++ b, 98 :: b, [99], b] := by
  have e : tb1 b = ([105, 48, 32] ++ b) ++ 10 :: ((98 :: b) ++ 10 :: ([99] ++ 10 :: (b ++ 10 :: []))) := by
    unfold tb1; simp
  have h1 : ∀ x ∈ ([105, 48, 32] ++ b : List UInt8), x ≠ 10 := fun x hx => by
    rcases List.mem_append.1 hx with hx | hx
    · intro e; subst e; exact absurd hx (by decide)
    · exact h x hx
  have h2 : ∀ x ∈ (98 :: b : List UInt8), x ≠ 10 := fun x hx => by
    rcases List.mem_cons.1 hx with rfl | hx
    · decide
    · exact h x hx
  have h3 : ∀ x ∈ ([99] : List UInt8), x ≠ 10 := by decide
  have e2 : pcs 10 (tb1 b) = [[105, 48, 32] ++ b, 98 :: b, [99], b, []] := by
    rw [e, pcs_app _ h1, pcs_app _ h2, pcs_app _ h3, pcs_app _ h]; rfl
  unfold lno
  rw [e2]
  rfl
theorem tb1_tal {b : List UInt8} (h : ∀ x ∈ b, x ≠ (10 : UInt8)) : talN (lno (tb1 b)) 0 = 0 := by
  rw [tb1_lno h]
  refine talN_c (i := 0) (j := 2) (fun t ht => ?_) (by simp) rfl
  rcases (show t = 0 ∨ t = 1 by omega) with rfl | rfl
  · show (okZ ([105, 48, 32] ++ b) && !decide ([105, 48, 32] ++ b = [99])) = true
    simp [okZ]
  · show (okZ (98 :: b) && !decide (98 :: b = [99])) = true
    simp [okZ]
theorem tb2_lno {b : List UInt8} (h : ∀ x ∈ b, x ≠ (10 : UInt8)) : lno (b ++ [10]) = [b] := by
  have e2 : pcs 10 (b ++ [10]) = [b, []] := by
    rw [show b ++ [10] = b ++ 10 :: [] from rfl, pcs_app _ h]; rfl
  unfold lno
  rw [e2]
  rfl
theorem tb_all {b : List UInt8} (h : ∀ t, t < b.length → ¬ ((b.getD t 0).toNat : Int) = 10) : ∀ x ∈ b, x ≠ (10 : UInt8) := fun x hx e => by
  obtain ⟨t, ht, rfl⟩ := List.getElem_of_mem hx
  refine h t ht ?_
  rw [List.getD_eq_getElem?_getD, List.getElem?_eq_getElem ht]
  show ((b[t].toNat : Nat) : Int) = 10
  rw [e]; rfl

/-- what Raw returns, its parts as letters -/
theorem rd_let {l : List UInt8} {w w' : World} {e : Ending} (h : RdIs l w e w') {x : Rw} {N E : Int} (hx : x = rdW l) (hN : N = (rdN l : Int)) (hE : E = rdE l) : (∃ p, e = .returned (.tuple #[rv x p, .int .i64 N, .int .i64 E]) ∧ RMem w' w'.heap.size x p ∧ RNils x p) ∧ Below w.heap.size w w' := by
  subst hx hN hE
  obtain ⟨⟨p, a, b, c⟩, d⟩ := h
  exact ⟨⟨p, a, b, c⟩, d⟩

set_option maxRecDepth 100000 in
set_option maxHeartbeats 16000000 in
theorem tail_walk (c0 : Rw) (p0 : Rp) (l1 : List UInt8) (w : World) (hm0 : RMem w w.heap.size c0 p0) (hN0 : RNils c0 p0) (hv0 : RVals c0) (henv : Env w.heap.size w) :
    Calls Tryz.prog 8 #[rv c0 p0, .string (str l1)] w fun e w' => e = .returned (.bool true) ∧ Below w.heap.size w w' := by
  have HE := Lib.hid henv
  clear henv
  have AL : Hid (∀ W, Below w.heap.size w W → Calls Tryz.prog 14 #[] W fun e w' => e = .returned (.bool true) ∧ Below W.heap.size W w') := Lib.hid fun W hb => alive8_any w.heap.size W (HE.out.on hb) hb.size
  obtain ⟨hB0, hH0⟩ := rbox_new w c0 p0
  have HH0 := Lib.hid (And.intro hB0 hH0)
  have HM0 := Lib.hid (And.intro hm0 hN0)
  have DG := Lib.hid (oGreat_any c0 p0 (w.alloc (.cells (rcL c0 p0) 26)))
  cases hg : c0.gr
  · have HS := Lib.hid (hv0.sm hg)
    rw [hg] at DG
    have DC : Hid (∀ W, Below w.heap.size w W → Calls Tryz.prog 25 #[rv c0 p0] W fun e w' => e = .returned (.int .i64 c0.chk) ∧ Below W.heap.size W w') := Lib.hid fun W hb => oRCheck_any c0 p0 W HS.out (HM0.out.1.to hb hb.size) HM0.out.2
    clear hg hm0 hN0 hv0 hB0 hH0
    by_cases hk : c0.chk = 0
    · have hSF := sf_of l1
      obtain ⟨n, hn⟩ : ∃ n, n = l1.length := ⟨_, rfl⟩
      obtain ⟨X, hX⟩ : ∃ X : Nat → Int, X = fun q => ((l1.getD q 0).toNat : Int) := ⟨_, rfl⟩
      obtain ⟨S, hS⟩ : ∃ S, S = str l1 := ⟨_, rfl⟩
      rw [← hn, ← hX, ← hS] at hSF
      have k0 := hSF.len
      have HSF := Lib.hid hSF
      have HK := Lib.hid hk
      rw [hk] at DC
      rw [← hS]
      have HQ := Lib.hid (And.intro hn (And.intro hX hS))
      by_cases hl : 200 < n
      · have e0 : decide ((200 : Int) < (n : Int)) = true := decide_eq_true (by omega)
        clear hk hSF hn hX hS hl
        go_enter Tryz.func8, Tryz.ntmps8
        go_wp2_with (go_at_call 19; (with_reducible refine DG.out.mono ?_); rintro e w1 ⟨rfl, hb1⟩; have hH1 := HH0.out.2.keep hb1 HH0.out.2.lt; have H1 := Lib.hid (And.intro (Below.step HH0.out.1 HH0.out.1.size hb1) hH1); obtain ⟨x0, x1, x2, x3, x4, x5⟩ := six_cells hH1; clear hb1 hH1)
        go_wp2_with (go_at_call 25; (with_reducible refine (DC.out _ H1.out.1).mono ?_); rintro e w2 ⟨rfl, hb2⟩; have H2 := Lib.hid (Below.step H1.out.1 H1.out.1.size hb2); clear hb2 x0 x1 x2 x3 x4 x5)
        go_wp2_with (go_at_call 14; (with_reducible refine (AL.out _ H2.out).mono ?_); rintro e w5 ⟨rfl, hb5⟩; have H5 := Lib.hid (Below.step H2.out H2.out.size hb5); clear hb5)
        go_ret
        exact ⟨by simp, H5.out⟩
      · have e0 : decide ((200 : Int) < (n : Int)) = false := decide_eq_false (by omega)
        have Hl : Hid (n ≤ 200) := Lib.hid (by omega)
        clear hk hSF hn hX hS hl
        go_enter Tryz.func8, Tryz.ntmps8
        go_wp2_with (go_at_call 19; (with_reducible refine DG.out.mono ?_); rintro e w1 ⟨rfl, hb1⟩; have hH1 := HH0.out.2.keep hb1 HH0.out.2.lt; have H1 := Lib.hid (And.intro (Below.step HH0.out.1 HH0.out.1.size hb1) hH1); obtain ⟨x0, x1, x2, x3, x4, x5⟩ := six_cells hH1; clear hb1 hH1)
        go_wp2_with (go_at_call 25; (with_reducible refine (DC.out _ H1.out.1).mono ?_); rintro e w2 ⟨rfl, hb2⟩; have hH2 := H1.out.2.keep hb2 H1.out.2.lt; have H2 := Lib.hid (And.intro (Below.step H1.out.1 H1.out.1.size hb2) hH2); clear hb2 hH2 x0 x1 x2 x3 x4 x5)
        go_loopw [5] (fun i wr => ∃ q : Nat, q ≤ n ∧ i = .int .i64 q ∧ Hid (∀ t, t < q → ¬ X t = 10) ∧ Hid (Below w.heap.size w wr ∧ Has wr w.heap.size 26 (rc c0 p0))) (fun i _ => n - (intOf i).toNat)
        case atStart => exact ⟨0, Nat.zero_le _, rfl, Lib.hid (fun t ht => absurd ht (Nat.not_lt_zero _)), H2⟩
        case round =>
          obtain ⟨q, hq, rfl, hno, hW⟩ := hrel
          by_cases hlt : q < n
          · have hq0 : (0 : Int) ≤ (q : Int) := by omega
            have hq1 : (q : Int) < (n : Int) := by omega
            have kx := HSF.out.idx q (q : Int) rfl hlt
            by_cases hx : X q = 10
            · have ex : (X q == 10) = true := by simpa using hx
              clear hx
              go_wp2_with (go_at_call 14; (with_reducible refine (AL.out _ hW.out.1).mono ?_); rintro e w5 ⟨rfl, hb5⟩; have H5 := Lib.hid (Below.step hW.out.1 hW.out.1.size hb5); clear hb5)
              go_ret
              exact ⟨by simp, H5.out⟩
            · have ex : (X q == 10) = false := by simpa using hx
              have HNX := Lib.hid hx
              clear hx
              have hw1 : IntKind.i64.wrap ((q : Int) + 1) = (q : Int) + 1 := IntWalk.i64_in _ (by have := Hl.out; omega)
              go_wp2
              go_roundw
              case rel => exact ⟨q + 1, by omega, by go_num, Lib.hid (fun t ht => by
                rcases Nat.lt_succ_iff_lt_or_eq.1 ht with h' | h'
                · exact hno.out t h'
                · subst h'; exact HNX.out), hW⟩
              case measure => simp [intOf]; omega
          · obtain ⟨hn, hX, hS⟩ := HQ.out
            have hs0 := txt_short HK.out
            have hb : ∀ x ∈ l1, x ≠ (10 : UInt8) := tb_all fun t ht => by
              have h1 := hno.out t (by omega)
              rw [hX] at h1; exact h1
            have hln : l1.length ≤ 200 := by have := Hl.out; omega
            obtain ⟨T, hT⟩ : ∃ T, T = c0.txt := ⟨_, rfl⟩
            have htb : T ++ [105, 48, 32] ++ l1 ++ [10, 98] ++ l1 ++ [10, 99, 10] ++ l1 ++ [10] = c0.txt ++ tb1 l1 := by rw [hT]; simp [tb1]
            have htl : (c0.txt ++ tb1 l1).length ≤ 40000 := by simp [tb1]; omega
            have htl2 : (c0.txt ++ (l1 ++ [10])).length ≤ 40000 := by simp; omega
            obtain ⟨r1, r2, r3⟩ := more_E HK.out (tb1 l1) htl
            rw [tb1_tal hb, if_neg (Nat.lt_irrefl 0)] at r1 r2
            have r3 := r3 (by rw [tb1_tal hb]; exact Nat.lt_irrefl 0)
            obtain ⟨z1, z2, z3⟩ := more_E HK.out (l1 ++ [10]) htl2
            rw [tb2_lno hb, tal_one] at z1 z2
            have htx := tx_len (r := c0)
            rw [htx] at z2
            obtain ⟨x, hx⟩ : ∃ x, x = rdW (c0.txt ++ tb1 l1) := ⟨_, rfl⟩
            rw [← hx] at r3
            have hxs : RSm x := by rw [hx]; exact rdW_sm _
            obtain ⟨y, hy⟩ : ∃ y, y = rdW (c0.txt ++ (l1 ++ [10])) := ⟨_, rfl⟩
            obtain ⟨N9, hN9⟩ : ∃ N : Int, N = (rdN (c0.txt ++ (l1 ++ [10])) : Int) := ⟨_, rfl⟩
            obtain ⟨E9, hE9⟩ : ∃ E : Int, E = rdE (c0.txt ++ (l1 ++ [10])) := ⟨_, rfl⟩
            rw [← hE9] at z1
            have z2 : N9 = if okZ l1 = true then 0 else c0.lns + 1 := by
              rw [hN9, z2]
              by_cases hz : okZ l1 = true
              · rw [if_pos hz, if_pos hz, if_neg (Nat.lt_irrefl 0)]; rfl
              · rw [if_neg hz, if_neg hz, if_pos Nat.one_pos]; unfold Rw.lns; omega
            have hT0 : T.length ≤ 18000 := by rw [hT]; exact hs0
            obtain ⟨s0, hs0'⟩ : ∃ s, s = str (T) := ⟨_, rfl⟩
            obtain ⟨s1, hs1'⟩ : ∃ s, s = str (T ++ [105, 48, 32]) := ⟨_, rfl⟩
            obtain ⟨s2, hs2'⟩ : ∃ s, s = str (T ++ [105, 48, 32] ++ l1) := ⟨_, rfl⟩
            obtain ⟨s3, hs3'⟩ : ∃ s, s = str (T ++ [105, 48, 32] ++ l1 ++ [10, 98]) := ⟨_, rfl⟩
            obtain ⟨s4, hs4'⟩ : ∃ s, s = str (T ++ [105, 48, 32] ++ l1 ++ [10, 98] ++ l1) := ⟨_, rfl⟩
            obtain ⟨s5, hs5'⟩ : ∃ s, s = str (T ++ [105, 48, 32] ++ l1 ++ [10, 98] ++ l1 ++ [10, 99, 10]) := ⟨_, rfl⟩
            obtain ⟨s6, hs6'⟩ : ∃ s, s = str (T ++ [105, 48, 32] ++ l1 ++ [10, 98] ++ l1 ++ [10, 99, 10] ++ l1) := ⟨_, rfl⟩
            obtain ⟨s7, hs7'⟩ : ∃ s, s = str (T ++ [105, 48, 32] ++ l1 ++ [10, 98] ++ l1 ++ [10, 99, 10] ++ l1 ++ [10]) := ⟨_, rfl⟩
            obtain ⟨s8, hs8'⟩ : ∃ s, s = str (T ++ l1) := ⟨_, rfl⟩
            obtain ⟨s9, hs9'⟩ : ∃ s, s = str (T ++ l1 ++ [10]) := ⟨_, rfl⟩
            have a0 : ∀ W : World, (Op.stringOp .add s0 ⟨#[105, 48, 32]⟩).run Tryz.prog W = .ok (.string s1) W := fun W => by rw [hs0', hs1']; exact str_add (l := T) (m := [105, 48, 32]) (by first | omega | (simp; omega)) W
            have a1 : ∀ W : World, (Op.stringOp .add s1 S).run Tryz.prog W = .ok (.string s2) W := fun W => by rw [hS, hs1', hs2']; exact str_add (l := T ++ [105, 48, 32]) (m := l1) (by first | omega | (simp; omega)) W
            have a2 : ∀ W : World, (Op.stringOp .add s2 ⟨#[10, 98]⟩).run Tryz.prog W = .ok (.string s3) W := fun W => by rw [hs2', hs3']; exact str_add (l := T ++ [105, 48, 32] ++ l1) (m := [10, 98]) (by first | omega | (simp; omega)) W
            have a3 : ∀ W : World, (Op.stringOp .add s3 S).run Tryz.prog W = .ok (.string s4) W := fun W => by rw [hS, hs3', hs4']; exact str_add (l := T ++ [105, 48, 32] ++ l1 ++ [10, 98]) (m := l1) (by first | omega | (simp; omega)) W
            have a4 : ∀ W : World, (Op.stringOp .add s4 ⟨#[10, 99, 10]⟩).run Tryz.prog W = .ok (.string s5) W := fun W => by rw [hs4', hs5']; exact str_add (l := T ++ [105, 48, 32] ++ l1 ++ [10, 98] ++ l1) (m := [10, 99, 10]) (by first | omega | (simp; omega)) W
            have a5 : ∀ W : World, (Op.stringOp .add s5 S).run Tryz.prog W = .ok (.string s6) W := fun W => by rw [hS, hs5', hs6']; exact str_add (l := T ++ [105, 48, 32] ++ l1 ++ [10, 98] ++ l1 ++ [10, 99, 10]) (m := l1) (by first | omega | (simp; omega)) W
            have a6 : ∀ W : World, (Op.stringOp .add s6 ⟨#[10]⟩).run Tryz.prog W = .ok (.string s7) W := fun W => by rw [hs6', hs7']; exact str_add (l := T ++ [105, 48, 32] ++ l1 ++ [10, 98] ++ l1 ++ [10, 99, 10] ++ l1) (m := [10]) (by first | omega | (simp; omega)) W
            have a8 : ∀ W : World, (Op.stringOp .add s0 S).run Tryz.prog W = .ok (.string s8) W := fun W => by rw [hS, hs0', hs8']; exact str_add (l := T) (m := l1) (by first | omega | (simp; omega)) W
            have a9 : ∀ W : World, (Op.stringOp .add s8 ⟨#[10]⟩).run Tryz.prog W = .ok (.string s9) W := fun W => by rw [hs8', hs9']; exact str_add (l := T ++ l1) (m := [10]) (by first | omega | (simp; omega)) W
            have DA : Hid (∀ W, Below w.heap.size w W → Calls Tryz.prog 20 #[rv c0 p0] W fun e w' => e = .returned (.tuple #[.string s0, .int .i64 0]) ∧ Below W.heap.size W w') := Lib.hid fun W hb => by
              rw [hs0', hT]; exact aRaw_yes c0 p0 W HK.out HS.out (HM0.out.1.to hb hb.size) HM0.out.2 (Tab.up (HE.out.t.on hb) hb.size)
            obtain ⟨ln, hln'⟩ : ∃ ln, ln = c0.lns := ⟨_, rfl⟩
            have DL : Hid (∀ W, Below w.heap.size w W → Calls Tryz.prog 26 #[rv c0 p0] W fun e w' => e = .returned (.tuple #[.int .i64 ln, .int .i64 0]) ∧ Below W.heap.size W w') := Lib.hid fun W hb => by
              have h := aLines_any c0 p0 W HS.out (HM0.out.1.to hb hb.size) HM0.out.2
              have e1 : c0.lnsE = ln := by unfold Rw.lnsE; rw [if_pos HK.out, hln']
              rw [e1, HK.out] at h; exact h
            have DR7 : Hid (∀ W, Below w.heap.size w W → Calls Tryz.prog 10 #[.string s7] W fun e w' => (∃ p, e = .returned (.tuple #[rv x p, .int .i64 0, .int .i64 0]) ∧ RMem w' w'.heap.size x p ∧ RNils x p) ∧ Below W.heap.size W w') := Lib.hid fun W hb => by
              rw [hs7', htb]
              exact (pRaw_any _ (by omega) w.heap.size W (HE.out.on hb) hb.size).mono fun e w' h => rd_let h hx (by rw [r2]; rfl) r1.symm
            have DR9 : Hid (∀ W, Below w.heap.size w W → Calls Tryz.prog 10 #[.string s9] W fun e w' => (∃ p, e = .returned (.tuple #[rv y p, .int .i64 N9, .int .i64 E9]) ∧ RMem w' w'.heap.size y p ∧ RNils y p) ∧ Below W.heap.size W w') := Lib.hid fun W hb => by
              rw [hs9', hT, List.append_assoc]
              exact (pRaw_any _ (by omega) w.heap.size W (HE.out.on hb) hb.size).mono fun e w' h => rd_let h hy hN9 hE9
            have HX := Lib.hid (And.intro hxs r3.same)
            have hlw : IntKind.i64.wrap (ln + 1) = ln + 1 := IntWalk.i64_in _ (by
              have := Bd.of HK.out; have h1 := this.n; have h2 := this.nb; have h3 := this.nc; rw [hln']; unfold Rw.lns; omega)
            rw [← hln'] at z2
            have HZ := Lib.hid (And.intro z1 z2)
            have HSL := Lib.hid hS
            have HXL := Lib.hid hX
            have HNL := Lib.hid hn
            have hqn : ¬ (q : Int) < (n : Int) := by omega
            clear hlt hq hno hb hln htb htl htl2 r1 r2 r3 z1 z2 z3 htx hx hxs hy hN9 hE9 hT0 hT hs0 hln' hs0' hs1' hs2' hs3' hs4' hs5' hs6' hs7' hs8' hs9' hn hX hS
            obtain ⟨x0, x1, x2, x3, x4, x5⟩ := six_cells hW.out.2
            go_wp2_with (go_at_call 20; (with_reducible refine (DA.out _ hW.out.1).mono ?_); rintro e w3 ⟨rfl, hb3⟩; have hH3 := hW.out.2.keep hb3 hW.out.2.lt; have H3 := Lib.hid (And.intro (Below.step hW.out.1 hW.out.1.size hb3) hH3); clear hb3 hH3 x0 x1 x2 x3 x4 x5; obtain ⟨x0, x1, x2, x3, x4, x5⟩ := six_cells H3.out.2)
            go_wp2_with (go_at_call 26; (with_reducible refine (DL.out _ H3.out.1).mono ?_); rintro e w4 ⟨rfl, hb4⟩; have hH4 := H3.out.2.keep hb4 H3.out.2.lt; have H4 := Lib.hid (And.intro (Below.step H3.out.1 H3.out.1.size hb4) hH4); clear hb4 hH4 x0 x1 x2 x3 x4 x5)
            go_wp2_with (go_at_call 10; (with_reducible refine (DR7.out _ H4.out.1).mono ?_); rintro e w5 ⟨⟨p, rfl, hm5, hn5⟩, hb5⟩; have hH5 := (H4.out.2.keep hb5 H4.out.2.lt).al (.cells (rcL x p) 26); have hB5 := Below.step H4.out.1 H4.out.1.size hb5; have H5 := Lib.hid (And.intro (hB5.alloc hB5.size (.cells (rcL x p) 26)) hH5); have DS := Lib.hid (oSame_any x c0 p p0 (w5.alloc (.cells (rcL x p) 26)) HX.out.1 HS.out (hm5.to ((Below.refl _ _).alloc (Nat.le_refl _) _) (by simp)) (HM0.out.1.to H5.out.1 H5.out.1.size)); rw [HX.out.2] at DS; obtain ⟨x0, x1, x2, x3, x4, x5⟩ := six_cells H5.out.2; clear hb5 hH5 hB5 hm5 hn5)
            go_wp2_with (go_at_call 11; (with_reducible refine DS.out.mono ?_); rintro e w6 ⟨rfl, hb6⟩; have H6 := Lib.hid (Below.step H5.out.1 H5.out.1.size hb6); clear hb6 x0 x1 x2 x3 x4 x5)
            go_upto_region 14 with (go_at_call 10; (with_reducible refine (DR9.out _ H6.out).mono ?_); rintro e w7 ⟨⟨p9, rfl, hm9, hn9⟩, hb7⟩; have hB7 := Below.step H6.out H6.out.size hb7; have H7 := Lib.hid (hB7.alloc hB7.size (.cells (rcL y p9) 26)); clear hb7 hm9 hn9 hB7)
            obtain ⟨v, hv⟩ : ∃ v, v = X 0 := ⟨_, rfl⟩
            by_cases hz : okZ l1 = true
            · have hcons : ∃ x m, l1 = x :: m ∧ (x = 105 ∨ x = 108 ∨ x = 111 ∨ x = 98 ∨ x = 99) := by
                cases l1 with
                | nil => exact absurd hz (by decide)
                | cons x m => exact ⟨x, m, rfl, of_decide_eq_true hz⟩
              obtain ⟨x, m, hxm, hx5⟩ := hcons
              have hpos : 0 < n := by rw [HNL.out, hxm]; simp
              have kx := HSF.out.idx 0 0 rfl hpos
              have hv5 : v = 105 ∨ v = 108 ∨ v = 111 ∨ v = 98 ∨ v = 99 := by
                have h0 : v = (x.toNat : Int) := by rw [hv, HXL.out, hxm]; rfl
                rcases hx5 with rfl | rfl | rfl | rfl | rfl <;> simp [h0]
              have e1 : (S.toList == ([] : List UInt8)) = false := by rw [HSL.out, str_list, hxm]; rfl
              have e1' : (S.toList != ([] : List UInt8)) = true := by rw [HSL.out, str_list, hxm]; rfl
              have hE0 : E9 = 0 := by rw [HZ.out.1, if_pos hz]; rfl
              have hN0 : N9 = 0 := by rw [HZ.out.2, if_pos hz]
              rw [← hv] at kx
              clear hv hxm hx5 hz HZ hpos
              subst hE0 hN0
              rcases hv5 with h5 | h5 | h5 | h5 | h5
              · subst h5
                go_wp2_with (go_at_call 14; (with_reducible refine (AL.out _ H7.out).mono ?_); rintro e w8 ⟨rfl, hb8⟩; have H8 := Lib.hid (Below.step H7.out H7.out.size hb8); clear hb8)
                go_ret
                exact ⟨by simp, H8.out⟩
              · subst h5
                go_wp2_with (go_at_call 14; (with_reducible refine (AL.out _ H7.out).mono ?_); rintro e w8 ⟨rfl, hb8⟩; have H8 := Lib.hid (Below.step H7.out H7.out.size hb8); clear hb8)
                go_ret
                exact ⟨by simp, H8.out⟩
              · subst h5
                go_wp2_with (go_at_call 14; (with_reducible refine (AL.out _ H7.out).mono ?_); rintro e w8 ⟨rfl, hb8⟩; have H8 := Lib.hid (Below.step H7.out H7.out.size hb8); clear hb8)
                go_ret
                exact ⟨by simp, H8.out⟩
              · subst h5
                go_wp2_with (go_at_call 14; (with_reducible refine (AL.out _ H7.out).mono ?_); rintro e w8 ⟨rfl, hb8⟩; have H8 := Lib.hid (Below.step H7.out H7.out.size hb8); clear hb8)
                go_ret
                exact ⟨by simp, H8.out⟩
              · subst h5
                go_wp2_with (go_at_call 14; (with_reducible refine (AL.out _ H7.out).mono ?_); rintro e w8 ⟨rfl, hb8⟩; have H8 := Lib.hid (Below.step H7.out H7.out.size hb8); clear hb8)
                go_ret
                exact ⟨by simp, H8.out⟩
            · have hE0 : E9 = 38 := by rw [HZ.out.1, if_neg hz]; rfl
              have hN0 : N9 = ln + 1 := by rw [HZ.out.2, if_neg hz]
              cases l1 with
              | nil =>
                have e1 : (S.toList == ([] : List UInt8)) = true := by rw [HSL.out, str_list]; rfl
                have e1' : (S.toList != ([] : List UInt8)) = false := by rw [HSL.out, str_list]; rfl
                clear hv hz HZ
                subst hE0 hN0
                go_wp2_with (go_at_call 14; (with_reducible refine (AL.out _ H7.out).mono ?_); rintro e w8 ⟨rfl, hb8⟩; have H8 := Lib.hid (Below.step H7.out H7.out.size hb8); clear hb8)
                go_ret
                exact ⟨by simp, H8.out⟩
              | cons x m =>
                have hpos : 0 < n := by rw [HNL.out]; simp
                have kx := HSF.out.idx 0 0 rfl hpos
                have h0 : v = (x.toNat : Int) := by rw [hv, HXL.out]; rfl
                have hx5 : ¬ (x = 105 ∨ x = 108 ∨ x = 111 ∨ x = 98 ∨ x = 99) := fun h => hz (decide_eq_true h)
                have key : ∀ k : UInt8, x ≠ k → (v == (k.toNat : Int)) = false := fun k hk => by
                  rw [h0]
                  have : x.toNat ≠ k.toNat := fun e => hk (UInt8.toNat_inj.1 e)
                  simp; omega
                have k1 : (v == 105) = false := key 105 (fun e => hx5 (Or.inl e))
                have k2 : (v == 108) = false := key 108 (fun e => hx5 (Or.inr (Or.inl e)))
                have k3 : (v == 111) = false := key 111 (fun e => hx5 (Or.inr (Or.inr (Or.inl e))))
                have k4 : (v == 98) = false := key 98 (fun e => hx5 (Or.inr (Or.inr (Or.inr (Or.inl e)))))
                have k5 : (v == 99) = false := key 99 (fun e => hx5 (Or.inr (Or.inr (Or.inr (Or.inr e)))))
                have e1 : (S.toList == ([] : List UInt8)) = false := by rw [HSL.out, str_list]; rfl
                have e1' : (S.toList != ([] : List UInt8)) = true := by rw [HSL.out, str_list]; rfl
                rw [← hv] at kx
                clear hv hz HZ key hx5 h0 hpos
                subst hE0 hN0
                go_wp2_with (go_at_call 14; (with_reducible refine (AL.out _ H7.out).mono ?_); rintro e w8 ⟨rfl, hb8⟩; have H8 := Lib.hid (Below.step H7.out H7.out.size hb8); clear hb8)
                go_ret
                exact ⟨by simp, H8.out⟩
    · have hk' : (c0.chk != 0) = true := by simpa using hk
      obtain ⟨x, hx⟩ : ∃ x, x = c0.chk := ⟨_, rfl⟩
      rw [← hx] at DC hk'
      clear hk hx
      go_enter Tryz.func8, Tryz.ntmps8
      go_wp2_with (go_at_call 19; (with_reducible refine DG.out.mono ?_); rintro e w1 ⟨rfl, hb1⟩; have hH1 := HH0.out.2.keep hb1 HH0.out.2.lt; have H1 := Lib.hid (And.intro (Below.step HH0.out.1 HH0.out.1.size hb1) hH1); obtain ⟨x0, x1, x2, x3, x4, x5⟩ := six_cells hH1; clear hb1 hH1)
      go_wp2_with (go_at_call 25; (with_reducible refine (DC.out _ H1.out.1).mono ?_); rintro e w2 ⟨rfl, hb2⟩; have H2 := Lib.hid (Below.step H1.out.1 H1.out.1.size hb2); clear hb2 x0 x1 x2 x3 x4 x5)
      go_wp2_with (go_at_call 14; (with_reducible refine (AL.out _ H2.out).mono ?_); rintro e w5 ⟨rfl, hb5⟩; have H5 := Lib.hid (Below.step H2.out H2.out.size hb5); clear hb5)
      go_ret
      exact ⟨by simp, H5.out⟩
  · rw [hg] at DG
    clear hg hm0 hN0 hv0 hB0 hH0
    go_enter Tryz.func8, Tryz.ntmps8
    go_wp2_with (go_at_call 19; (with_reducible refine DG.out.mono ?_); rintro e w1 ⟨rfl, hb1⟩; have H1 := Lib.hid (Below.step HH0.out.1 HH0.out.1.size hb1); clear hb1)
    go_wp2_with (go_at_call 14; (with_reducible refine (AL.out _ H1.out).mono ?_); rintro e w5 ⟨rfl, hb5⟩; have H5 := Lib.hid (Below.step H1.out H1.out.size hb5); clear hb5)
    go_ret
    exact ⟨by simp, H5.out⟩

end Go.Proofs.YtkpjpokeonppbaaGreatDoor
