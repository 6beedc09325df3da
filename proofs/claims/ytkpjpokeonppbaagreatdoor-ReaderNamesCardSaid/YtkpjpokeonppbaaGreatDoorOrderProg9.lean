/- The contracts of the package order: gateOrder and Check. -/
import Derived.Test.YtkpjpokeonppbaaGreatDoorOrderProg7
import Derived.Test.YtkpjpokeonppbaaGreatDoorOrderProg4
import Derived.Test.YtkpjpokeonppbaaGreatDoorOrderProg5
namespace Go.Proofs.YtkpjpokeonppbaaGreatDoor
open Go.RowKit
set_option linter.unusedVariables false
set_option linter.unusedSimpArgs false

/-- the order of the gates, or the error of a raw circuit -/
def GateIs (r : Rw) (w : World) (e : Ending) (w' : World) : Prop :=
  ∃ v, e = .returned (.tuple #[v, .int .i64 r.chk]) ∧ (r.chk = 0 → w'.ownsRow w.heap.size 3 1 v r.ord.length (il (nL r.ord))) ∧ Below w.heap.size w w'
theorem gate_no {r : Rw} {w w' : World} {x : Int} (h : r.chk = x) (h0 : x ≠ 0) (hb : Below w.heap.size w w') : GateIs r w (.returned (.tuple #[.slice none 0 0, .int .i64 x])) w' :=
  ⟨_, by rw [h], fun h1 => absurd (h.symm.trans h1) h0, hb⟩
/-- the box of a raw circuit, and what it is good for -/
theorem rbox_new (w : World) (r : Rw) (p : Rp) : Below w.heap.size w (w.alloc (.cells (rcL r p) 26)) ∧ Has (w.alloc (.cells (rcL r p) 26)) w.heap.size 26 (rc r p) := ⟨(Below.refl _ _).alloc (Nat.le_refl _) _, Has.new _ _ _⟩
theorem conReset' {A : Option Addr} {n k : Nat} {f g h : Nat → Int} {b : Bool} (hb : (lst h n).all Rw.reOk = b) (w : World) (hn : n ≤ 100000) (hA : TripsAt w w.heap.size A n f g h) :
    Calls Tryz.prog 65 #[.slice A n k, resetV] w fun e w' => e = .returned (.bool (!b)) ∧ Below w.heap.size w w' := hb ▸ conReset A n k f g h w hn hA

set_option maxRecDepth 100000 in
set_option maxHeartbeats 8000000 in
theorem pGates_any (r : Rw) (p : Rp) (w : World) (hs : RSm r) (hm : RMem w w.heap.size r p) (hN : RNils r p) :
    Calls Tryz.prog 39 #[rv r p] w (GateIs r w) := by
  have g2 := hs.nl
  have g3 := hs.na
  obtain ⟨hB0, hH0⟩ := rbox_new w r p
  have hm0 := hm.to hB0 hB0.size
  obtain ⟨x0, x1, x2, x3, x4, x5⟩ := hH0.rbox
  by_cases h1 : r.m < 0
  · have HR := Lib.hid (show r.chk = 8 from if_pos h1)
    clear hm0
    go_enter Tryz.func39, Tryz.ntmps39
    go_wp2
    go_ret2
    exact gate_no HR.out (by omega) hB0
  have HN1 := Lib.hid h1
  cases hbig : r.big
  case true =>
    have HR := Lib.hid (show r.chk = 4 by unfold Rw.chk; rw [if_neg h1, if_pos hbig])
    go_enter Tryz.func39, Tryz.ntmps39
    go_wp2_with (go_at_call 63; (with_reducible refine (pMany_any r p _ hs).mono ?_); rw [hbig]; rintro e w1 ⟨rfl, hb1⟩; have hB1 := Below.step hB0 hB0.size hb1)
    go_ret2
    exact gate_no HR.out (by omega) hB1
  case false =>
    have hm1 : r.m ≤ 1000 := by have := of_decide_eq_false hbig; omega
    have h0 : 0 ≤ r.m := by omega
    obtain ⟨mn, hmn⟩ : ∃ mn : Nat, r.m = mn := ⟨r.m.toNat, by omega⟩
    obtain ⟨d, hd⟩ : ∃ d, (r.dL.all r.dOk && r.uL.all r.uOk) = d := ⟨_, rfl⟩
    obtain ⟨re, hre⟩ : ∃ d, (lst r.lb r.nl).all Rw.reOk = d := ⟨_, rfl⟩
    have HBG := Lib.hid hbig
    have HRE := Lib.hid hre
    have HMN := Lib.hid hmn
    have hnum : r.num = (d && re) := by unfold Rw.num; rw [hd, hre]
    have M1 : Hid (∀ W, Calls Tryz.prog 63 #[rv r p] W fun e w' => e = .returned (.bool false) ∧ Below W.heap.size W w') := fun W => by have := pMany_any r p W hs; rwa [hbig] at this
    have M2 : Hid (∀ W, RMem W W.heap.size r p → Calls Tryz.prog 64 #[rv r p] W fun e w' => e = .returned (.bool d) ∧ Below W.heap.size W w') := fun W hW => by have := pRight_any r p W hs hW hN h0 hm1; rwa [hd] at this
    have HNM := Lib.hid hnum
    clear hbig hre hmn hd hnum
    have k1 : ∀ {W : World}, Below (w.alloc (.cells (rcL r p) 26)).heap.size (w.alloc (.cells (rcL r p) 26)) W → Below w.heap.size w W ∧ Has W w.heap.size 26 (rc r p) ∧ RMem W W.heap.size r p := fun hb => ⟨Below.step hB0 hB0.size hb, hH0.keep hb hH0.lt, hm0.to hb hb.size⟩
    have K1 : Hid (∀ {W : World}, Below (w.alloc (.cells (rcL r p) 26)).heap.size (w.alloc (.cells (rcL r p) 26)) W → Below w.heap.size w W ∧ Has W w.heap.size 26 (rc r p) ∧ RMem W W.heap.size r p) := k1
    clear k1
    cases d
    · have HR := Lib.hid (show r.chk = 8 by unfold Rw.chk; rw [if_neg HN1.out, if_neg (by rw [HBG.out]; simp), if_pos (by rw [HNM.out]; rfl)])
      go_enter Tryz.func39, Tryz.ntmps39
      go_wp2_with (first
        | (go_at_call 63; (with_reducible refine (M1.out _).mono ?_); rintro e w1 ⟨rfl, hb1⟩; obtain ⟨hB1, hH1, hm1'⟩ := K1.out hb1; obtain ⟨x0, x1, x2, x3, x4, x5⟩ := hH1.rbox)
        | (go_at_call 64; (with_reducible refine (M2.out _ hm1').mono ?_); rintro e w2 ⟨rfl, hb2⟩; have hB2 := Below.step hB1 hB1.size hb2))
      go_ret2
      exact gate_no HR.out (by omega) hB2
    cases re
    · have HR := Lib.hid (show r.chk = 8 by unfold Rw.chk; rw [if_neg HN1.out, if_neg (by rw [HBG.out]; simp), if_pos (by rw [HNM.out]; rfl)])
      go_enter Tryz.func39, Tryz.ntmps39
      go_wp2_with (first
        | (go_at_call 63; (with_reducible refine (M1.out _).mono ?_); rintro e w1 ⟨rfl, hb1⟩; obtain ⟨hB1, hH1, hm1'⟩ := K1.out hb1; obtain ⟨x0, x1, x2, x3, x4, x5⟩ := hH1.rbox)
        | (go_at_call 64; (with_reducible refine (M2.out _ hm1').mono ?_); rintro e w2 ⟨rfl, hb2⟩; have hB2 := Below.step hB1 hB1.size hb2; have hH2 := hH1.keep hb2 hH1.lt; have hm2 := hm1'.to hb2 hb2.size; obtain ⟨x0, x1, x2, x3, x4, x5⟩ := hH2.rbox)
        | (go_at_call 65; (with_reducible refine (conReset' HRE.out w2 (by omega) hm2.la).mono ?_); rintro e w3 ⟨rfl, hb3⟩; have hB3 := Below.step hB2 hB2.size hb3))
      go_ret2
      exact gate_no HR.out (by omega) hB3
    have HNT := Lib.hid (show r.num = true from HNM.out)
    obtain ⟨tw, htw⟩ : ∃ x, r.twi = x := ⟨_, rfl⟩
    obtain ⟨op, hop⟩ : ∃ x, r.opn = x := ⟨_, rfl⟩
    have M3 : Hid (∀ W, RMem W W.heap.size r p → Calls Tryz.prog 67 #[rv r p] W fun e w' => e = .returned (.bool tw) ∧ Below W.heap.size W w') := fun W hW => by have := pTwice_any r p W mn HMN.out hs hW hN hm1 HNT.out; rwa [htw] at this
    have M4 : Hid (∀ W, RMem W W.heap.size r p → Calls Tryz.prog 68 #[rv r p] W fun e w' => e = .returned (.bool op) ∧ Below W.heap.size W w') := fun W hW => by have := pOpen_any r p W mn HMN.out hs hW hN hm1 HNT.out; rwa [hop] at this
    have M5 : Hid (∀ W, RMem W W.heap.size r p → Calls Tryz.prog 69 #[rv r p] W (ListIs (nL r.ord) W)) := fun W hW => pTaken_any r p W mn HMN.out hs hW hm1 HNT.out
    have HTW := Lib.hid htw
    have HOP := Lib.hid hop
    clear htw hop
    have e8 : ¬ r.num = false := by rw [HNT.out]; simp
    have HE8 := Lib.hid e8
    clear e8
    cases tw
    case true =>
      have HR := Lib.hid (show r.chk = 43 by unfold Rw.chk; rw [if_neg HN1.out, if_neg (by rw [HBG.out]; simp), if_neg HE8.out, if_pos HTW.out])
      go_enter Tryz.func39, Tryz.ntmps39
      go_wp2_with (first
        | (go_at_call 63; (with_reducible refine (M1.out _).mono ?_); rintro e w1 ⟨rfl, hb1⟩; obtain ⟨hB1, hH1, hm1'⟩ := K1.out hb1; obtain ⟨x0, x1, x2, x3, x4, x5⟩ := hH1.rbox)
        | (go_at_call 64; (with_reducible refine (M2.out _ hm1').mono ?_); rintro e w2 ⟨rfl, hb2⟩; have hB2 := Below.step hB1 hB1.size hb2; have hH2 := hH1.keep hb2 hH1.lt; have hm2 := hm1'.to hb2 hb2.size; obtain ⟨x0, x1, x2, x3, x4, x5⟩ := hH2.rbox)
        | (go_at_call 65; (with_reducible refine (conReset' HRE.out w2 (by omega) hm2.la).mono ?_); rintro e w3 ⟨rfl, hb3⟩; have hB3 := Below.step hB2 hB2.size hb3; have hH3 := hH2.keep hb3 hH2.lt; have hm3 := hm2.to hb3 hb3.size; obtain ⟨x0, x1, x2, x3, x4, x5⟩ := hH3.rbox)
        | (go_at_call 67; (with_reducible refine (M3.out _ hm3).mono ?_); rintro e w4 ⟨rfl, hb4⟩; have hB4 := Below.step hB3 hB3.size hb4))
      go_ret2
      exact gate_no HR.out (by omega) hB4
    cases op
    case true =>
      have HR := Lib.hid (show r.chk = 46 by unfold Rw.chk; rw [if_neg HN1.out, if_neg (by rw [HBG.out]; simp), if_neg HE8.out, if_neg (by rw [HTW.out]; simp), if_pos HOP.out])
      go_enter Tryz.func39, Tryz.ntmps39
      go_wp2_with (first
        | (go_at_call 63; (with_reducible refine (M1.out _).mono ?_); rintro e w1 ⟨rfl, hb1⟩; obtain ⟨hB1, hH1, hm1'⟩ := K1.out hb1; obtain ⟨x0, x1, x2, x3, x4, x5⟩ := hH1.rbox)
        | (go_at_call 64; (with_reducible refine (M2.out _ hm1').mono ?_); rintro e w2 ⟨rfl, hb2⟩; have hB2 := Below.step hB1 hB1.size hb2; have hH2 := hH1.keep hb2 hH1.lt; have hm2 := hm1'.to hb2 hb2.size; obtain ⟨x0, x1, x2, x3, x4, x5⟩ := hH2.rbox)
        | (go_at_call 65; (with_reducible refine (conReset' HRE.out w2 (by omega) hm2.la).mono ?_); rintro e w3 ⟨rfl, hb3⟩; have hB3 := Below.step hB2 hB2.size hb3; have hH3 := hH2.keep hb3 hH2.lt; have hm3 := hm2.to hb3 hb3.size; obtain ⟨x0, x1, x2, x3, x4, x5⟩ := hH3.rbox)
        | (go_at_call 67; (with_reducible refine (M3.out _ hm3).mono ?_); rintro e w4 ⟨rfl, hb4⟩; have hB4 := Below.step hB3 hB3.size hb4; have hH4 := hH3.keep hb4 hH3.lt; have hm4 := hm3.to hb4 hb4.size; obtain ⟨x0, x1, x2, x3, x4, x5⟩ := hH4.rbox)
        | (go_at_call 68; (with_reducible refine (M4.out _ hm4).mono ?_); rintro e w5 ⟨rfl, hb5⟩; have hB5 := Below.step hB4 hB4.size hb5))
      go_ret2
      exact gate_no HR.out (by omega) hB5
    obtain ⟨n, hn⟩ : ∃ n, r.ord.length = n := ⟨_, rfl⟩
    have hle : n ≤ r.na := by rw [← hn]; exact Rw.ord_len
    have HLN := Lib.hid hn
    have HRR : Hid (r.chk = if n < r.na then 41 else 0) := by
      show r.chk = _
      unfold Rw.chk
      rw [if_neg HN1.out, if_neg (by rw [HBG.out]; simp), if_neg HE8.out, if_neg (by rw [HTW.out]; simp), if_neg (by rw [HOP.out]; simp), hn]
    clear hn
    by_cases hlt : n < r.na
    · have HR := Lib.hid (show r.chk = 41 by rw [HRR.out, if_pos hlt])
      have c1 : (n : Int) < (r.na : Int) := by omega
      go_enter Tryz.func39, Tryz.ntmps39
      go_wp2_with (first
        | (go_at_call 63; (with_reducible refine (M1.out _).mono ?_); rintro e w1 ⟨rfl, hb1⟩; obtain ⟨hB1, hH1, hm1'⟩ := K1.out hb1; obtain ⟨x0, x1, x2, x3, x4, x5⟩ := hH1.rbox)
        | (go_at_call 64; (with_reducible refine (M2.out _ hm1').mono ?_); rintro e w2 ⟨rfl, hb2⟩; have hB2 := Below.step hB1 hB1.size hb2; have hH2 := hH1.keep hb2 hH1.lt; have hm2 := hm1'.to hb2 hb2.size; obtain ⟨x0, x1, x2, x3, x4, x5⟩ := hH2.rbox)
        | (go_at_call 65; (with_reducible refine (conReset' HRE.out w2 (by omega) hm2.la).mono ?_); rintro e w3 ⟨rfl, hb3⟩; have hB3 := Below.step hB2 hB2.size hb3; have hH3 := hH2.keep hb3 hH2.lt; have hm3 := hm2.to hb3 hb3.size; obtain ⟨x0, x1, x2, x3, x4, x5⟩ := hH3.rbox)
        | (go_at_call 67; (with_reducible refine (M3.out _ hm3).mono ?_); rintro e w4 ⟨rfl, hb4⟩; have hB4 := Below.step hB3 hB3.size hb4; have hH4 := hH3.keep hb4 hH3.lt; have hm4 := hm3.to hb4 hb4.size; obtain ⟨x0, x1, x2, x3, x4, x5⟩ := hH4.rbox)
        | (go_at_call 68; (with_reducible refine (M4.out _ hm4).mono ?_); rintro e w5 ⟨rfl, hb5⟩; have hB5 := Below.step hB4 hB4.size hb5; have hH5 := hH4.keep hb5 hH4.lt; have hm5 := hm4.to hb5 hb5.size; obtain ⟨x0, x1, x2, x3, x4, x5⟩ := hH5.rbox)
        | (go_at_call 69; (with_reducible refine (M5.out _ hm5).mono ?_); rintro e w6 ⟨v6, rfl, ho6, hb6⟩; rw [nL_len, HLN.out] at ho6; obtain ⟨A6, k6, rfl, _⟩ := own_ints1 ho6; have hB6 := Below.step hB5 hB5.size hb6; have hH6 := hH5.keep hb6 hH5.lt; obtain ⟨x0, x1, x2, x3, x4, x5⟩ := hH6.rbox))
      go_ret2
      exact gate_no HR.out (by omega) hB6
    · obtain rfl : n = r.na := by omega
      have HR := Lib.hid (show r.chk = 0 by rw [HRR.out, if_neg hlt])
      clear hle hlt
      go_enter Tryz.func39, Tryz.ntmps39
      go_wp2_with (first
        | (go_at_call 63; (with_reducible refine (M1.out _).mono ?_); rintro e w1 ⟨rfl, hb1⟩; obtain ⟨hB1, hH1, hm1'⟩ := K1.out hb1; obtain ⟨x0, x1, x2, x3, x4, x5⟩ := hH1.rbox)
        | (go_at_call 64; (with_reducible refine (M2.out _ hm1').mono ?_); rintro e w2 ⟨rfl, hb2⟩; have hB2 := Below.step hB1 hB1.size hb2; have hH2 := hH1.keep hb2 hH1.lt; have hm2 := hm1'.to hb2 hb2.size; obtain ⟨x0, x1, x2, x3, x4, x5⟩ := hH2.rbox)
        | (go_at_call 65; (with_reducible refine (conReset' HRE.out w2 (by omega) hm2.la).mono ?_); rintro e w3 ⟨rfl, hb3⟩; have hB3 := Below.step hB2 hB2.size hb3; have hH3 := hH2.keep hb3 hH2.lt; have hm3 := hm2.to hb3 hb3.size; obtain ⟨x0, x1, x2, x3, x4, x5⟩ := hH3.rbox)
        | (go_at_call 67; (with_reducible refine (M3.out _ hm3).mono ?_); rintro e w4 ⟨rfl, hb4⟩; have hB4 := Below.step hB3 hB3.size hb4; have hH4 := hH3.keep hb4 hH3.lt; have hm4 := hm3.to hb4 hb4.size; obtain ⟨x0, x1, x2, x3, x4, x5⟩ := hH4.rbox)
        | (go_at_call 68; (with_reducible refine (M4.out _ hm4).mono ?_); rintro e w5 ⟨rfl, hb5⟩; have hB5 := Below.step hB4 hB4.size hb5; have hH5 := hH4.keep hb5 hH4.lt; have hm5 := hm4.to hb5 hb5.size; obtain ⟨x0, x1, x2, x3, x4, x5⟩ := hH5.rbox)
        | (go_at_call 69; (with_reducible refine (M5.out _ hm5).mono ?_); rintro e w6 ⟨v6, rfl, ho6, hb6⟩; rw [nL_len, HLN.out] at ho6; obtain ⟨A6, k6, rfl, _⟩ := own_ints1 ho6; have hB6 := Below.step hB5 hB5.size hb6; have hH6 := hH5.keep hb6 hH5.lt; obtain ⟨x0, x1, x2, x3, x4, x5⟩ := hH6.rbox))
      go_ret2
      exact ⟨_, by rw [HR.out]; rfl, fun _ => by rw [HLN.out]; exact own_base ho6 hB5.size, hB6⟩

set_option maxRecDepth 100000 in
theorem pCheck_any (r : Rw) (p : Rp) (w : World) (hs : RSm r) (hm : RMem w w.heap.size r p) (hN : RNils r p) :
    Calls Tryz.prog 21 #[rv r p] w fun e w' => e = .returned (.int .i64 r.chk) ∧ Below w.heap.size w w' := by
  obtain ⟨hB0, hH0⟩ := rbox_new w r p
  have hm0 := hm.to hB0 hB0.size
  go_enter Tryz.func21, Tryz.ntmps21
  go_wp2_with (go_at_call 39; (with_reducible refine (pGates_any r p _ hs hm0 hN).mono ?_); rintro e w1 ⟨v1, rfl, ho1, hb1⟩; have hB1 := Below.step hB0 hB0.size hb1)
  go_ret
  exact ⟨rfl, hB1⟩
end Go.Proofs.YtkpjpokeonppbaaGreatDoor
