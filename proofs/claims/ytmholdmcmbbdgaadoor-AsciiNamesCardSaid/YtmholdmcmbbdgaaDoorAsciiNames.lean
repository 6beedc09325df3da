/- The chapter's examples, all kinds of lines, a circuit of a thousand gates, and errors. No conditions. -/
import Derived.Test.YtmholdmcmbbdgaaDoorCards
import Derived.Test.YtmholdmcmbbdgaaDoorTie
import Derived.Test.YtmholdmcmbbdgaaDoorAsciiNm
import Derived.ProofKit
import Derived.OpenShut
import Derived.LaidMore
import Derived.Lay
import Derived.LaidSub
import Derived.SevenTiedAt
import Derived.Stop.Joined
import Derived.Lib.LaidTab
namespace Go.Proofs.YtmholdmcmbbdgaaDoor.asciiNames
open Go.ChangeShapes Go.WideShapes Go.ChangeAt Go.RowKit
set_option linter.unusedVariables false
set_option linter.unusedSimpArgs false

theorem tab_of_laid {W : World} (h : laidMetH Tryd.prog Rows.asciiNamesRow.laid W) : Tab W.heap.size W := by
  rw [MakeChecks.laidMetH_plain _ _ _ (by kernel_rfl)] at h
  have h2 : laidMet Tryd.prog [("internal/strconv.uint64pow10", Lib.tabData .u64 Lib.pow10Tab)] W := by
    have h3 := h.filter fun x => x.1 == "internal/strconv.uint64pow10"
    have e : (Rows.asciiNamesRow.laid.filter fun x => x.1 == "internal/strconv.uint64pow10") = [("internal/strconv.uint64pow10", Lib.tabData .u64 Lib.pow10Tab)] := by kernel_rfl
    rwa [e] at h3
  exact Lib.tabBelow_of_tabIs (Lib.tabIs_of_head (show Tryd.prog.globalNamed "internal/strconv.uint64pow10" = some 0 by kernel_rfl) (by kernel_rfl) Tryd.underlying103 Tryd.underlying83 (by kernel_rfl) (by kernel_rfl) h2)


theorem own : ownKnob Tryd.prog.godebug = none := by kernel_rfl

set_option maxRecDepth 100000 in
set_option maxHeartbeats 40000000 in
theorem walk  (w : World)  (htab : Tab w.heap.size w) :
    Calls Tryd.prog 3 #[] w fun e w' => e = .returned (.bool true) ∧ Below w.heap.size w w' := by
  have HT := Lib.hid htab
  clear htab
  have AL : Hid (∀ W, Below w.heap.size w W → Calls Tryd.prog 12 #[] W fun e w' => e = .returned (.bool true) ∧ Below W.heap.size W w') := fun W hb => alive7_any W (Tab.up (HT.out.on hb) hb.size)
  obtain ⟨ST, mT, kL, hm1, hm2, BIG⟩ := nBig
  have HBIG := Lib.hid BIG
  clear BIG
  have hmT : (10000 : Int) < (mT : Int) := by omega
  have hmT' : decide ((10000 : Int) < (mT : Int)) = true := decide_eq_true hmT
  have hB0 : Below w.heap.size w ((((((w.alloc (.cells #[.int .i64 18] 3)).alloc (.cells #[.int .i64 4, .int .i64 13, .int .i64 2, .int .i64 14, .int .i64 1, .int .i64 1, .int .i64 16, .int .i64 0, .int .i64 0] 24)).alloc (.cells #[.int .i64 12, .int .i64 19, .int .i64 8, .int .i64 8, .int .i64 1, .int .i64 4] 24)).alloc (.cells #[.int .i64 8, .int .i64 0] 3)).alloc (.cells #[.int .i64 5] 3)).alloc (.cells #[.int .i64 9, .slice (some ⟨w.heap.size, 0, none⟩) 1 1, .slice (some ⟨w.heap.size + 1, 0, none⟩) 3 3, .slice (some ⟨w.heap.size + 1 + 1, 0, none⟩) 2 2, .slice (some ⟨w.heap.size + 1 + 1 + 1, 0, none⟩) 2 2, .slice (some ⟨w.heap.size + 1 + 1 + 1 + 1, 0, none⟩) 1 1] 27)) := by go_grown
  have hN0 : NmAt ((((((w.alloc (.cells #[.int .i64 18] 3)).alloc (.cells #[.int .i64 4, .int .i64 13, .int .i64 2, .int .i64 14, .int .i64 1, .int .i64 1, .int .i64 16, .int .i64 0, .int .i64 0] 24)).alloc (.cells #[.int .i64 12, .int .i64 19, .int .i64 8, .int .i64 8, .int .i64 1, .int .i64 4] 24)).alloc (.cells #[.int .i64 8, .int .i64 0] 3)).alloc (.cells #[.int .i64 5] 3)).alloc (.cells #[.int .i64 9, .slice (some ⟨w.heap.size, 0, none⟩) 1 1, .slice (some ⟨w.heap.size + 1, 0, none⟩) 3 3, .slice (some ⟨w.heap.size + 1 + 1, 0, none⟩) 2 2, .slice (some ⟨w.heap.size + 1 + 1 + 1, 0, none⟩) 2 2, .slice (some ⟨w.heap.size + 1 + 1 + 1 + 1, 0, none⟩) 1 1] 27)) (w.heap.size) (w.heap.size + 1) (w.heap.size + 1 + 1) (w.heap.size + 1 + 1 + 1 + 1) := ⟨(((((Has.new' _ _ rfl).al _).al _).al _).al _).al _, ((((Has.new' _ _ (by simp)).al _).al _).al _).al _, (((Has.new' _ _ (by simp)).al _).al _).al _, (Has.new' _ _ (by simp)).al _⟩
  have h30 : Has ((((((w.alloc (.cells #[.int .i64 18] 3)).alloc (.cells #[.int .i64 4, .int .i64 13, .int .i64 2, .int .i64 14, .int .i64 1, .int .i64 1, .int .i64 16, .int .i64 0, .int .i64 0] 24)).alloc (.cells #[.int .i64 12, .int .i64 19, .int .i64 8, .int .i64 8, .int .i64 1, .int .i64 4] 24)).alloc (.cells #[.int .i64 8, .int .i64 0] 3)).alloc (.cells #[.int .i64 5] 3)).alloc (.cells #[.int .i64 9, .slice (some ⟨w.heap.size, 0, none⟩) 1 1, .slice (some ⟨w.heap.size + 1, 0, none⟩) 3 3, .slice (some ⟨w.heap.size + 1 + 1, 0, none⟩) 2 2, .slice (some ⟨w.heap.size + 1 + 1 + 1, 0, none⟩) 2 2, .slice (some ⟨w.heap.size + 1 + 1 + 1 + 1, 0, none⟩) 1 1] 27)) (w.heap.size + 1 + 1 + 1) 3 #[.int .i64 8, .int .i64 0] := ((Has.new' _ _ (by simp)).al _).al _
  have hX0 : Has ((((((w.alloc (.cells #[.int .i64 18] 3)).alloc (.cells #[.int .i64 4, .int .i64 13, .int .i64 2, .int .i64 14, .int .i64 1, .int .i64 1, .int .i64 16, .int .i64 0, .int .i64 0] 24)).alloc (.cells #[.int .i64 12, .int .i64 19, .int .i64 8, .int .i64 8, .int .i64 1, .int .i64 4] 24)).alloc (.cells #[.int .i64 8, .int .i64 0] 3)).alloc (.cells #[.int .i64 5] 3)).alloc (.cells #[.int .i64 9, .slice (some ⟨w.heap.size, 0, none⟩) 1 1, .slice (some ⟨w.heap.size + 1, 0, none⟩) 3 3, .slice (some ⟨w.heap.size + 1 + 1, 0, none⟩) 2 2, .slice (some ⟨w.heap.size + 1 + 1 + 1, 0, none⟩) 2 2, .slice (some ⟨w.heap.size + 1 + 1 + 1 + 1, 0, none⟩) 1 1] 27)) (w.heap.size + 1 + 1 + 1 + 1 + 1) 27 #[.int .i64 9, .slice (some ⟨w.heap.size, 0, none⟩) 1 1, .slice (some ⟨w.heap.size + 1, 0, none⟩) 3 3, .slice (some ⟨w.heap.size + 1 + 1, 0, none⟩) 2 2, .slice (some ⟨w.heap.size + 1 + 1 + 1, 0, none⟩) 2 2, .slice (some ⟨w.heap.size + 1 + 1 + 1 + 1, 0, none⟩) 1 1] := Has.new' _ _ (by simp)
  have H0 := Lib.hid (And.intro hB0 (And.intro hN0 (And.intro h30 hX0)))
  clear hB0 hN0 h30 hX0
  go_enter Tryd.func3, Tryd.ntmps3
  go_wp2_with (go_at_call 9; (with_reducible refine (nRaw H0.out.2.1 H0.out.2.2.1 (Tab.up (HT.out.on H0.out.1) H0.out.1.size)).mono ?_); rintro e w1 ⟨rfl, hb1⟩; have hB1 := Below.step H0.out.1 H0.out.1.size hb1; have hN1 := H0.out.2.1.keep hb1; have h31 := H0.out.2.2.1.keep hb1 H0.out.2.2.1.lt; have hX1 := H0.out.2.2.2.keep hb1 H0.out.2.2.2.lt; have x0 := hX1.cell 0; have x1 := hX1.cell 1; have x2 := hX1.cell 2; have x3 := hX1.cell 3; have x4 := hX1.cell 4; have x5 := hX1.cell 5; simp only [List.getElem?_toArray, List.getElem?_cons_zero, List.getElem?_cons_succ] at x0 x1 x2 x3 x4 x5)
  go_wp2_with (go_at_call 10; (with_reducible refine (nLines hN1 h31).mono ?_); rintro e w2 ⟨rfl, hb2⟩; have hB2 := Below.step hB1 hB1.size hb2; have hN2 := hN1.keep hb2; have hX2 := hX1.keep hb2 hX1.lt)
  go_wp2_with (go_at_call 9; (with_reducible refine (nEmpty (Tab.up (HT.out.on hB2) hB2.size)).mono ?_); rintro e w3 ⟨rfl, hb3⟩; have hB3 := Below.step hB2 hB2.size hb3; have hN3 := hN2.keep hb3; have hX3 := hX2.keep hb3 hX2.lt)
  clear x0 x1 x2 x3 x4 x5
  go_wp2_with (go_at_call 11; (with_reducible refine (nText (Tab.up (HT.out.on hB3) hB3.size)).mono ?_); rintro e w4 ⟨rfl, hb4⟩; have hB4 := Below.step hB3 hB3.size hb4; have hN4 := hN3.keep hb4; have hX4 := hX3.keep hb4 hX3.lt; have y0 : ∀ o : Obj, (w4.alloc o).cell? ⟨w.heap.size + 1 + 1 + 1 + 1 + 1, 0, none⟩ = some (.int .i64 9) := ca (hX4.cell 0); have y1 : ∀ o : Obj, (w4.alloc o).cell? ⟨w.heap.size + 1 + 1 + 1 + 1 + 1, 1, none⟩ = some (.slice (some ⟨w.heap.size, 0, none⟩) 1 1) := ca (hX4.cell 1); have y2 : ∀ o : Obj, (w4.alloc o).cell? ⟨w.heap.size + 1 + 1 + 1 + 1 + 1, 2, none⟩ = some (.slice (some ⟨w.heap.size + 1, 0, none⟩) 3 3) := ca (hX4.cell 2); have y3 : ∀ o : Obj, (w4.alloc o).cell? ⟨w.heap.size + 1 + 1 + 1 + 1 + 1, 3, none⟩ = some (.slice (some ⟨w.heap.size + 1 + 1, 0, none⟩) 2 2) := ca (hX4.cell 3); have y4 : ∀ o : Obj, (w4.alloc o).cell? ⟨w.heap.size + 1 + 1 + 1 + 1 + 1, 4, none⟩ = some (.slice (some ⟨w.heap.size + 1 + 1 + 1, 0, none⟩) 2 2) := ca (hX4.cell 4); have y5 : ∀ o : Obj, (w4.alloc o).cell? ⟨w.heap.size + 1 + 1 + 1 + 1 + 1, 5, none⟩ = some (.slice (some ⟨w.heap.size + 1 + 1 + 1 + 1, 0, none⟩) 1 1) := ca (hX4.cell 5); have g4 : ∀ o : Obj, (w4.alloc o).frozen? ⟨w.heap.size + 1 + 1 + 1 + 1 + 1, 4, none⟩ = false := fun o => (hX4.al o).fz 4)
  have hB5 : Below w.heap.size w ((w4.alloc (.cells #[.int .i64 2] 3)).setCell ⟨w.heap.size + 1 + 1 + 1 + 1 + 1, 4, none⟩ (.slice (some ⟨w4.heap.size, 0, none⟩) 1 1)) := (hB4.alloc hB4.size _).setCell (by simp; omega) _
  have hN5 : NmAt ((w4.alloc (.cells #[.int .i64 2] 3)).setCell ⟨w.heap.size + 1 + 1 + 1 + 1 + 1, 4, none⟩ (.slice (some ⟨w4.heap.size, 0, none⟩) 1 1)) (w.heap.size) (w.heap.size + 1) (w.heap.size + 1 + 1) (w.heap.size + 1 + 1 + 1 + 1) := ⟨(hN4.1.al _).far (by simp; omega) _, (hN4.2.1.al _).far (by simp) _, (hN4.2.2.1.al _).far (by simp) _, (hN4.2.2.2.al _).far (by simp) _⟩
  have h35 : Has ((w4.alloc (.cells #[.int .i64 2] 3)).setCell ⟨w.heap.size + 1 + 1 + 1 + 1 + 1, 4, none⟩ (.slice (some ⟨w4.heap.size, 0, none⟩) 1 1)) w4.heap.size 3 #[.int .i64 2] := (Has.new w4 _ _).far (by have := hX4.lt; simp; omega) _
  have hX5 : Has ((w4.alloc (.cells #[.int .i64 2] 3)).setCell ⟨w.heap.size + 1 + 1 + 1 + 1 + 1, 4, none⟩ (.slice (some ⟨w4.heap.size, 0, none⟩) 1 1)) (w.heap.size + 1 + 1 + 1 + 1 + 1) 27 #[.int .i64 9, .slice (some ⟨w.heap.size, 0, none⟩) 1 1, .slice (some ⟨w.heap.size + 1, 0, none⟩) 3 3, .slice (some ⟨w.heap.size + 1 + 1, 0, none⟩) 2 2, .slice (some ⟨w4.heap.size, 0, none⟩) 1 1, .slice (some ⟨w.heap.size + 1 + 1 + 1 + 1, 0, none⟩) 1 1] := by
    have := (hX4.al (.cells #[.int .i64 2] 3)).set 4 (.slice (some ⟨w4.heap.size, 0, none⟩) 1 1)
    exact this
  have H5 := Lib.hid (And.intro hB5 (And.intro hN5 (And.intro h35 hX5)))
  clear hB5 hN5 h35 hX5 hN1 hN2 hN3 hN4 hX1 hX2 hX3 h31
  go_wp2_with (go_at_call 9; (with_reducible refine (nRaw2 H5.out.2.1 H5.out.2.2.1 (Tab.up (HT.out.on H5.out.1) H5.out.1.size)).mono ?_); rintro e w5 ⟨rfl, hb5⟩; have hB5 := Below.step H5.out.1 H5.out.1.size hb5; have hN5 := H5.out.2.1.keep hb5; have h35 := H5.out.2.2.1.keep hb5 H5.out.2.2.1.lt; have hX5 := H5.out.2.2.2.keep hb5 H5.out.2.2.2.lt; have x0 := hX5.cell 0; have x1 := hX5.cell 1; have x2 := hX5.cell 2; have x3 := hX5.cell 3; have x4 := hX5.cell 4; have x5 := hX5.cell 5; simp only [List.getElem?_toArray, List.getElem?_cons_zero, List.getElem?_cons_succ] at x0 x1 x2 x3 x4 x5)
  clear y0 y1 y2 y3 y4 y5 g4
  go_wp2_with (go_at_call 10; (with_reducible refine (nLines2 hN5 h35).mono ?_); rintro e w6 ⟨rfl, hb6⟩; have hB6 := Below.step hB5 hB5.size hb6)
  clear x0 x1 x2 x3 x4 x5 hX5 hN5 h35 hX4
  go_wp2_with (go_at_call 11; (with_reducible refine (nTextM (Tab.up (HT.out.on hB6) hB6.size)).mono ?_); rintro e w7 ⟨rfl, hb7⟩; have hB7 := Below.step hB6 hB6.size hb7)
  go_wp2_with (go_at_call 10; (with_reducible refine nLinesM.mono ?_); rintro e w8 ⟨rfl, hb8⟩; have hB8 := Below.step hB7 hB7.size hb8)
  obtain ⟨i2, hi2, hz2, hs2, hy2⟩ := info_parts info_and
  have hB9 : Below w.heap.size w (w8.alloc (.cells #[.int .i64 0, .slice none 0 0, .slice none 0 0, .slice none 0 0, .slice none 0 0] 37)) := hB8.alloc hB8.size _
  have hws := hB8.size
  clear hb1 hb2 hb3 hb4 hb5 hb6 hb7 hb8
  go_loopw [19] (fun i wr => ∃ q : Nat, ∃ v, q ≤ 1000 ∧ i = .int .i64 q ∧ wr.ownsRow (w8.heap.size + 1) 39 2 v q (pairL (fun j => 2 * (j : Int) + 1) (fun j => 2 * (j : Int) + 1) q) ∧ Has wr w8.heap.size 37 #[.int .i64 0, .slice none 0 0, v, .slice none 0 0, .slice none 0 0] ∧ Below w.heap.size w wr ∧ w8.heap.size + 1 ≤ wr.heap.size) (fun i _ => 1000 - (intOf i).toNat)
  case atStart => exact ⟨0, _, by omega, rfl, World.ownsRow_nil _ _ _ _, Has.new _ _ _, hB9, by simp⟩
  case round =>
    obtain ⟨q, v, hq, rfl, hown, hX, hBr, hrs⟩ := hrel
    have y2 : wr.cell? ⟨w8.heap.size, 2, none⟩ = some v := hX.cell 2
    by_cases hlt : q < 1000
    · have q0 : (0 : Int) ≤ (q : Int) := by omega
      have q1 : (q : Int) < 1000 := by omega
      have y2a : ∀ o : Obj, (wr.alloc o).cell? ⟨w8.heap.size, 2, none⟩ = some v := ca y2
      go_wp2_with (first
        | (at_builtin
           (refine append_more rfl (.tmp 81) (.tmp 89) _ rfl (w8.heap.size + 1) 39 i2 _ 2 16 Tryd.underlying35 hi2 hz2 hs2 hy2 rfl (by decide) v q (pairL (fun j => 2 * (j : Int) + 1) (fun j => 2 * (j : Int) + 1) q) rfl (hown.alloc _) (some ⟨wr.heap.size, 0, none⟩) 1 1 [.int .i64 (2 * (q : Int) + 1), .int .i64 (2 * (q : Int) + 1)] rfl rfl (Or.inr ⟨_, rfl, World.news_of_block (cs := #[.int .i64 (2 * (q : Int) + 1), .int .i64 (2 * (q : Int) + 1)]) (t := 39) (fr := (0, 0)) (Has.new' _ _ rfl)⟩) (by simp [Value.oneCell']) (by simp only [maxLen]; omega) (by omega) (by simp; omega) ?_)
           intro v' w9 ho9 hg9
           obtain ⟨g9, k9, hv9⟩ := slice_of_succ ho9
           subst hv9
           have hX9 := app_has hX hown hg9 (by omega)
           have hB9' := app_below hBr hBr.size (by omega) hown hg9
           have y9 : w9.cell? ⟨w8.heap.size, 2, none⟩ = some v := hX9.cell 2
           have yf9 : w9.frozen? ⟨w8.heap.size, 2, none⟩ = false := hX9.fz 2
           have hs9 := hg9.size))
      go_roundw
      case rel => exact ⟨q + 1, _, by omega, by go_num, ownsRow_setCell_below ho9 (by simp) _, hX9.set 2 _, hB9'.setCell (by simp; omega) _, by simp at hs9; simp [World.setCell]; omega⟩
      case measure => simp [intOf]; omega
    · have CB : Hid (Calls Tryd.prog 11 #[.agg #[.int .i64 0, .slice none 0 0, v, .slice none 0 0, .slice none 0 0]] wr fun e w' => e = .returned (.tuple #[.string ST, .int .i64 0]) ∧ Below wr.heap.size wr w') := HBIG.out wr _ v q (by omega) hown (Tab.up (HT.out.on hBr) hBr.size)
      have q1 : ¬ (q : Int) < 1000 := by omega
      clear hlt hq hown
      have z0 : wr.cell? ⟨w8.heap.size, 0, none⟩ = some (.int .i64 0) := hX.cell 0
      have z1 : wr.cell? ⟨w8.heap.size, 1, none⟩ = some (.slice none 0 0) := hX.cell 1
      have z3 : wr.cell? ⟨w8.heap.size, 3, none⟩ = some (.slice none 0 0) := hX.cell 3
      have z4 : wr.cell? ⟨w8.heap.size, 4, none⟩ = some (.slice none 0 0) := hX.cell 4
      go_wp2_with (go_at_call 11; (with_reducible refine CB.out.mono ?_); rintro e wa ⟨rfl, hba⟩; have hBa := Below.step hBr hBr.size hba)
      go_wp2_with (go_at_call 12; (with_reducible refine (AL.out _ hBa).mono ?_); rintro e wb ⟨rfl, hbb⟩; have hBb := Below.step hBa hBa.size hbb)
      go_ret
      exact ⟨by simp, hBb⟩

set_option maxRecDepth 100000 in
theorem lifted (os : Os) (started : os.Started) (H : Type) (enc : TypeId × Value → H) :
    ReturnsInHanded {} Tryd.checked os 3 .any (fun w args => (Rows.asciiNamesSpec.pre enc Tryd.prog Tryd.f3 Rows.asciiNamesRow.domain false w args ∧ laidMetH Tryd.prog Rows.asciiNamesRow.laid w) ∧ sizedMet enc Tryd.prog Tryd.f3 (OpenSpec.ofChange Rows.asciiNamesSpec) false w args) (Rows.asciiNamesSpec.post enc Tryd.prog Tryd.f3 false true false false) := by
  refine returnsInHanded_of_change_and (C := Tryd.checked) (X := fun w _ => laidMetH Tryd.prog Rows.asciiNamesRow.laid w) (fun _ _ _ hh h => h.of_heap hh) own started (by kernel_rfl) Tryd.func3
    (ChangeSpec.witness_shaped (enc := enc) (C := Tryd.checked) (os := os) (X := fun w _ => laidMetH Tryd.prog Rows.asciiNamesRow.laid w) false (World.laidAll Tryd.prog os Rows.asciiNamesRow.laid) #[] 12 (World.laidAll_os _ _ _)
      (World.shaped_of_ZipB (by kernel_rfl) (by kernel_rfl)) (by kernel_rfl) (by kernel_rfl) (by kernel_rfl)
      (by rw [MakeChecks.laidMetH_plain _ _ _ (by kernel_rfl)]; exact laidMet_laidAll _ (by kernel_rfl) (by kernel_rfl))) ?_
  intro W base args ds gs before hval0 hW hcnd _ hL _
  have hval : ∀ (j : Nat) t v, Tryd.f3.params[j]? = some t → args[j]? = some v → Value.okWide Tryd.prog W .any base t v := hval0
  have hW' := hW
  have hlt : ∀ x ∈ before, x.block < W.heap.size := fun x hx => by simpa using hW'.lt x hx
  obtain ⟨p, q, hA0, hV, rfl, hfz, hnd⟩ := hW
  have hA : DataW.TrodAll enc Tryd.prog W 0 (fun _ => true) true Tryd.f3.params.toList args.toList ds p := hA0
  rw [Tryd.params3] at hA hval
  
  obtain ⟨ha0, rfl, rfl⟩ := trodAll_nil hA
  obtain rfl : args = #[] := by cases args; simp_all
  obtain ⟨rfl, rfl⟩ := trodVars_none hV
  
  have hlo : laidOutB Tryd.prog = true := by kernel_rfl
  clear hA0 hval0
  simp only [List.append_nil] at hW' hlt
  refine (walk  W  (tab_of_laid hL)).mono fun e W' ⟨he, hb⟩ => ?_
  subst he
  exact ⟨_, rfl, law_post hW' (trodAll_cons_mk (shut_bool Tryd.underlying4 _) trodAll_mk0) trodAll_mk0 rfl hb⟩

theorem over : Rows.asciiNamesRow.holds Tryd.pinned (OpenSpec.ofChange Rows.asciiNamesSpec) :=
  OpenClaim.holds_of_wide 3 Tryd.f3 rfl rfl rfl rfl rfl rfl rfl ⟨rfl, rfl, rfl, rfl, rfl⟩ rfl rfl rfl rfl rfl (by kernel_rfl) Tryd.func3 (by kernel_rfl)
    (of_decide_eq_true (by kernel_rfl)) (by unfold Func.isWrapper; first | (rw [if_pos (by decide +kernel)]; kernel_rfl) | (rw [if_neg (by decide +kernel)]; exact ⟨rfl, rfl⟩))
    (fun os started H enc _ => lifted os started H enc)

theorem proved : Rows.AsciiNamesCardSaid :=
  Claim7.holds_tied_plain_at .later [] [.data, .data, .data] true (true, "ab68182b2c92bb541f92756573780a25648848fc1fdf43171e6b4a4bf608f501") false over (fun _ h => by cases h) (by kernel_rfl) (fun _ h => by cases h) asciiNames_row_tie rfl ⟨rfl, rfl⟩ (by kernel_rfl) rfl
    (fun f fn hf hfn => by
      obtain rfl : f = 3 := Option.some.inj ((show Tryd.prog.funcNamed "spiritlevel/spiritlevellaw07.AsciiNames" = some 3 by kernel_rfl).symm.trans hf) |>.symm
      obtain rfl : fn = Tryd.f3 := (Option.some.inj (Tryd.func3.symm.trans hfn)).symm
      exact ⟨by kernel_rfl, fun j t ht => by
        rw [Tryd.params3] at ht
        have hm : t ∈ [] := by simpa using Array.mem_of_getElem? ht
        have hall : ([].all fun u => !Tryd.prog.wantsStandIn u) = true := by kernel_rfl
        exact (show Tryd.prog.wantsStandIn t = false by simpa using List.all_eq_true.1 hall t hm)⟩)
    (by kernel_rfl)
end Go.Proofs.YtmholdmcmbbdgaaDoor.asciiNames
