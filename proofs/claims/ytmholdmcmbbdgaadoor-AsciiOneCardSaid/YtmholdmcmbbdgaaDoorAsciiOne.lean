/- For all valid raw circuits that are not great: they have the same text just where they are the same. No conditions. -/
import Derived.Test.YtmholdmcmbbdgaaDoorCards
import Derived.Test.YtmholdmcmbbdgaaDoorTie
import Derived.Test.YtmholdmcmbbdgaaDoorAsciiKit
import Derived.Test.YtmholdmcmbbdgaaDoorOrderFrame
import Derived.ProofKit
import Derived.OpenShut
import Derived.LaidMore
import Derived.Lay
import Derived.LaidSub
import Derived.SevenTiedAt
import Derived.Stop.Joined
import Derived.Lib.LaidTab
namespace Go.Proofs.YtmholdmcmbbdgaaDoor.asciiOne
open Go.ChangeShapes Go.WideShapes Go.ChangeAt Go.RowKit
set_option linter.unusedVariables false
set_option linter.unusedSimpArgs false

theorem tab_of_laid {W : World} (h : laidMetH Tryd.prog Rows.asciiOneRow.laid W) : Tab W.heap.size W := by
  rw [MakeChecks.laidMetH_plain _ _ _ (by kernel_rfl)] at h
  have h2 : laidMet Tryd.prog [("internal/strconv.uint64pow10", Lib.tabData .u64 Lib.pow10Tab)] W := by
    have h3 := h.filter fun x => x.1 == "internal/strconv.uint64pow10"
    have e : (Rows.asciiOneRow.laid.filter fun x => x.1 == "internal/strconv.uint64pow10") = [("internal/strconv.uint64pow10", Lib.tabData .u64 Lib.pow10Tab)] := by kernel_rfl
    rwa [e] at h3
  exact Lib.tabBelow_of_tabIs (Lib.tabIs_of_head (show Tryd.prog.globalNamed "internal/strconv.uint64pow10" = some 0 by kernel_rfl) (by kernel_rfl) Tryd.underlying103 Tryd.underlying83 (by kernel_rfl) (by kernel_rfl) h2)


theorem own : ownKnob Tryd.prog.godebug = none := by kernel_rfl

set_option maxRecDepth 100000 in
set_option maxHeartbeats 40000000 in
theorem walk (c0 : Rw) (p0 : Rp) (c1 : Rw) (p1 : Rp) (w : World) (hm0 : RMem w w.heap.size c0 p0) (hN0 : RNils c0 p0) (hv0 : RVals c0) (hC0 : RCaps c0 p0) (hm1 : RMem w w.heap.size c1 p1) (hN1 : RNils c1 p1) (hv1 : RVals c1) (hC1 : RCaps c1 p1) (htab : Tab w.heap.size w) :
    Calls Tryd.prog 5 #[rv c0 p0, rv c1 p1] w fun e w' => e = .returned (.bool true) ∧ Below w.heap.size w w' := by
  have HT := Lib.hid htab
  clear htab
  have AL : Hid (∀ W, Below w.heap.size w W → Calls Tryd.prog 12 #[] W fun e w' => e = .returned (.bool true) ∧ Below W.heap.size W w') := fun W hb => alive7_any W (Tab.up (HT.out.on hb) hb.size)
  have q0 := Has.new w 27 (rc c0 p0)
  have q1 := (q0.keep (Below.alloc (Below.refl (w.heap.size + 1) _) (by simp) (.cells (rc c1 p1) 27)) (Nat.lt_succ_self _))
  have q2 := Has.new (w.alloc (.cells (rc c0 p0) 27)) 27 (rc c1 p1)
  rw [World.size_alloc] at q2
  have hB0 : Below w.heap.size w ((w.alloc (.cells (rc c0 p0) 27)).alloc (.cells (rc c1 p1) 27)) := by go_grown
  unfold rc at q1 q2 hB0
  have HH := Lib.hid (And.intro hB0 (And.intro q1 q2))
  clear q0 q1 q2 hB0
  have HM := Lib.hid hm0
  have HN := Lib.hid hN0
  have HM1 := Lib.hid hm1
  have HN1 := Lib.hid hN1
  clear hm0 hN0 hm1 hN1 hC0 hC1
  cases hg0 : c0.gr
  · have G0 : Hid (∀ W, Calls Tryd.prog 13 #[rv c0 p0] W fun e w' => e = .returned (.bool false) ∧ Below W.heap.size W w') := fun W => by have := oGreat_any c0 p0 W; rwa [hg0] at this
    have HS0 := Lib.hid (hv0.sm hg0)
    cases hg1 : c1.gr
    · have G1 : Hid (∀ W, Calls Tryd.prog 13 #[rv c1 p1] W fun e w' => e = .returned (.bool false) ∧ Below W.heap.size W w') := fun W => by have := oGreat_any c1 p1 W; rwa [hg1] at this
      have HS1 := Lib.hid (hv1.sm hg1)
      clear hv0 hv1
      by_cases hk0 : c0.chk = 0
      · have K0 : Hid (∀ W, Below w.heap.size w W → Calls Tryd.prog 18 #[rv c0 p0] W fun e w' => e = .returned (.int .i64 0) ∧ Below W.heap.size W w') := fun W hb => by have := oRCheck_any c0 p0 W HS0.out (HM.out.to hb hb.size) HN.out; rwa [hk0] at this
        by_cases hk1 : c1.chk = 0
        · have K1 : Hid (∀ W, Below w.heap.size w W → Calls Tryd.prog 18 #[rv c1 p1] W fun e w' => e = .returned (.int .i64 0) ∧ Below W.heap.size W w') := fun W hb => by have := oRCheck_any c1 p1 W HS1.out (HM1.out.to hb hb.size) HN1.out; rwa [hk1] at this
          obtain ⟨S, hS⟩ : ∃ S, S = str c0.txt := ⟨_, rfl⟩
          obtain ⟨S1, hS1⟩ : ∃ S1, S1 = str c1.txt := ⟨_, rfl⟩
          obtain ⟨B, hB⟩ : ∃ B, B = sameR c0 c1 := ⟨_, rfl⟩
          have R0 : Hid (∀ W, Below w.heap.size w W → Calls Tryd.prog 9 #[rv c0 p0] W fun e w' => e = .returned (.tuple #[.string S, .int .i64 0]) ∧ Below W.heap.size W w') := fun W hb => by rw [hS]; exact aRaw_yes c0 p0 W hk0 HS0.out (HM.out.to hb hb.size) HN.out (Tab.up (HT.out.on hb) hb.size)
          have R1 : Hid (∀ W, Below w.heap.size w W → Calls Tryd.prog 9 #[rv c1 p1] W fun e w' => e = .returned (.tuple #[.string S1, .int .i64 0]) ∧ Below W.heap.size W w') := fun W hb => by rw [hS1]; exact aRaw_yes c1 p1 W hk1 HS1.out (HM1.out.to hb hb.size) HN1.out (Tab.up (HT.out.on hb) hb.size)
          have SA : Hid (∀ W, Below w.heap.size w W → Calls Tryd.prog 17 #[rv c0 p0, rv c1 p1] W fun e w' => e = .returned (.bool B) ∧ Below W.heap.size W w') := fun W hb => by rw [hB]; exact oSame_any c0 c1 p0 p1 W HS0.out HS1.out (HM.out.to hb hb.size) (HM1.out.to hb hb.size)
          have HE : (S.toList == S1.toList) = B := by
            rw [hB, ← txt_same hk0 hk1, hS, hS1]
            show ((str c0.txt).toList == (str c1.txt).toList) = decide (str c0.txt = str c1.txt)
            rw [Bool.eq_iff_iff]
            simp only [beq_iff_eq, decide_eq_true_eq]
            constructor
            · intro h
              have h : c0.txt = c1.txt := by simpa [str] using h
              rw [h]
            · intro h; rw [h]
          clear hS hS1 hB hk0 hk1 hg0 hg1
          go_enter Tryd.func5, Tryd.ntmps5
          go_wp2_with (go_at_call 13; (with_reducible refine (G0.out _).mono ?_); rintro e w1 ⟨rfl, hb1⟩; have hB1 : Below w.heap.size w w1 := Below.step HH.out.1 HH.out.1.size hb1; have hP1 : Has w1 w.heap.size 27 (rc c0 p0) := HH.out.2.1.keep hb1 (by simp; omega); have hQ1 : Has w1 (w.heap.size + 1) 27 (rc c1 p1) := HH.out.2.2.keep hb1 (by simp); obtain ⟨x0, x1, x2, x3, x4, x5⟩ := hP1.rbox; obtain ⟨y0, y1, y2, y3, y4, y5⟩ := hQ1.rbox)
          go_wp2_with (go_at_call 13; (with_reducible refine (G1.out _).mono ?_); rintro e w2 ⟨rfl, hb2⟩; have hB2 : Below w.heap.size w w2 := Below.step hB1 hB1.size hb2; have hP2 : Has w2 w.heap.size 27 (rc c0 p0) := hP1.keep hb2 hP1.lt; have hQ2 : Has w2 (w.heap.size + 1) 27 (rc c1 p1) := hQ1.keep hb2 hQ1.lt; obtain ⟨x0, x1, x2, x3, x4, x5⟩ := hP2.rbox; obtain ⟨y0, y1, y2, y3, y4, y5⟩ := hQ2.rbox)
          go_wp2_with (go_at_call 18; (with_reducible refine (K0.out _ hB2).mono ?_); rintro e w3 ⟨rfl, hb3⟩; have hB3 : Below w.heap.size w w3 := Below.step hB2 hB2.size hb3; have hP3 : Has w3 w.heap.size 27 (rc c0 p0) := hP2.keep hb3 hP2.lt; have hQ3 : Has w3 (w.heap.size + 1) 27 (rc c1 p1) := hQ2.keep hb3 hQ2.lt; obtain ⟨x0, x1, x2, x3, x4, x5⟩ := hP3.rbox; obtain ⟨y0, y1, y2, y3, y4, y5⟩ := hQ3.rbox)
          go_wp2_with (go_at_call 18; (with_reducible refine (K1.out _ hB3).mono ?_); rintro e w4 ⟨rfl, hb4⟩; have hB4 : Below w.heap.size w w4 := Below.step hB3 hB3.size hb4; have hP4 : Has w4 w.heap.size 27 (rc c0 p0) := hP3.keep hb4 hP3.lt; have hQ4 : Has w4 (w.heap.size + 1) 27 (rc c1 p1) := hQ3.keep hb4 hQ3.lt; obtain ⟨x0, x1, x2, x3, x4, x5⟩ := hP4.rbox; obtain ⟨y0, y1, y2, y3, y4, y5⟩ := hQ4.rbox)
          go_wp2_with (go_at_call 9; (with_reducible refine (R0.out _ hB4).mono ?_); rintro e w5 ⟨rfl, hb5⟩; have hB5 : Below w.heap.size w w5 := Below.step hB4 hB4.size hb5; have hP5 : Has w5 w.heap.size 27 (rc c0 p0) := hP4.keep hb5 hP4.lt; have hQ5 : Has w5 (w.heap.size + 1) 27 (rc c1 p1) := hQ4.keep hb5 hQ4.lt; obtain ⟨x0, x1, x2, x3, x4, x5⟩ := hP5.rbox; obtain ⟨y0, y1, y2, y3, y4, y5⟩ := hQ5.rbox)
          go_wp2_with (go_at_call 9; (with_reducible refine (R1.out _ hB5).mono ?_); rintro e w6 ⟨rfl, hb6⟩; have hB6 : Below w.heap.size w w6 := Below.step hB5 hB5.size hb6; have hP6 : Has w6 w.heap.size 27 (rc c0 p0) := hP5.keep hb6 hP5.lt; have hQ6 : Has w6 (w.heap.size + 1) 27 (rc c1 p1) := hQ5.keep hb6 hQ5.lt; obtain ⟨x0, x1, x2, x3, x4, x5⟩ := hP6.rbox; obtain ⟨y0, y1, y2, y3, y4, y5⟩ := hQ6.rbox)
          go_wp2_with (go_at_call 17; (with_reducible refine (SA.out _ hB6).mono ?_); rintro e w7 ⟨rfl, hb7⟩; have hB7 : Below w.heap.size w w7 := Below.step hB6 hB6.size hb7; have hP7 : Has w7 w.heap.size 27 (rc c0 p0) := hP6.keep hb7 hP6.lt; have hQ7 : Has w7 (w.heap.size + 1) 27 (rc c1 p1) := hQ6.keep hb7 hQ6.lt; obtain ⟨x0, x1, x2, x3, x4, x5⟩ := hP7.rbox; obtain ⟨y0, y1, y2, y3, y4, y5⟩ := hQ7.rbox)
          go_wp2_with (go_at_call 12; (with_reducible refine (AL.out _ hB7).mono ?_); rintro e w8 ⟨rfl, hb8⟩; have hB8 : Below w.heap.size w w8 := Below.step hB7 hB7.size hb8; have hP8 : Has w8 w.heap.size 27 (rc c0 p0) := hP7.keep hb8 hP7.lt; have hQ8 : Has w8 (w.heap.size + 1) 27 (rc c1 p1) := hQ7.keep hb8 hQ7.lt; obtain ⟨x0, x1, x2, x3, x4, x5⟩ := hP8.rbox; obtain ⟨y0, y1, y2, y3, y4, y5⟩ := hQ8.rbox)
          go_ret
          exact ⟨by simp [HE], hB8⟩
        · have hk1' : (c1.chk != 0) = true := by simpa using hk1
          have K1 : Hid (∀ W, Below w.heap.size w W → Calls Tryd.prog 18 #[rv c1 p1] W fun e w' => e = .returned (.int .i64 c1.chk) ∧ Below W.heap.size W w') := fun W hb => oRCheck_any c1 p1 W HS1.out (HM1.out.to hb hb.size) HN1.out
          clear hk0 hk1 hg0 hg1
          go_enter Tryd.func5, Tryd.ntmps5
          go_wp2_with (go_at_call 13; (with_reducible refine (G0.out _).mono ?_); rintro e w1 ⟨rfl, hb1⟩; have hB1 : Below w.heap.size w w1 := Below.step HH.out.1 HH.out.1.size hb1; have hP1 : Has w1 w.heap.size 27 (rc c0 p0) := HH.out.2.1.keep hb1 (by simp; omega); have hQ1 : Has w1 (w.heap.size + 1) 27 (rc c1 p1) := HH.out.2.2.keep hb1 (by simp); obtain ⟨x0, x1, x2, x3, x4, x5⟩ := hP1.rbox; obtain ⟨y0, y1, y2, y3, y4, y5⟩ := hQ1.rbox)
          go_wp2_with (go_at_call 13; (with_reducible refine (G1.out _).mono ?_); rintro e w2 ⟨rfl, hb2⟩; have hB2 : Below w.heap.size w w2 := Below.step hB1 hB1.size hb2; have hP2 : Has w2 w.heap.size 27 (rc c0 p0) := hP1.keep hb2 hP1.lt; have hQ2 : Has w2 (w.heap.size + 1) 27 (rc c1 p1) := hQ1.keep hb2 hQ1.lt; obtain ⟨x0, x1, x2, x3, x4, x5⟩ := hP2.rbox; obtain ⟨y0, y1, y2, y3, y4, y5⟩ := hQ2.rbox)
          go_wp2_with (go_at_call 18; (with_reducible refine (K0.out _ hB2).mono ?_); rintro e w3 ⟨rfl, hb3⟩; have hB3 : Below w.heap.size w w3 := Below.step hB2 hB2.size hb3; have hP3 : Has w3 w.heap.size 27 (rc c0 p0) := hP2.keep hb3 hP2.lt; have hQ3 : Has w3 (w.heap.size + 1) 27 (rc c1 p1) := hQ2.keep hb3 hQ2.lt; obtain ⟨x0, x1, x2, x3, x4, x5⟩ := hP3.rbox; obtain ⟨y0, y1, y2, y3, y4, y5⟩ := hQ3.rbox)
          go_wp2_with (go_at_call 18; (with_reducible refine (K1.out _ hB3).mono ?_); rintro e w4 ⟨rfl, hb4⟩; have hB4 : Below w.heap.size w w4 := Below.step hB3 hB3.size hb4; have hP4 : Has w4 w.heap.size 27 (rc c0 p0) := hP3.keep hb4 hP3.lt; have hQ4 : Has w4 (w.heap.size + 1) 27 (rc c1 p1) := hQ3.keep hb4 hQ3.lt; obtain ⟨x0, x1, x2, x3, x4, x5⟩ := hP4.rbox; obtain ⟨y0, y1, y2, y3, y4, y5⟩ := hQ4.rbox)
          go_wp2_with (go_at_call 12; (with_reducible refine (AL.out _ hB4).mono ?_); rintro e w5 ⟨rfl, hb5⟩; have hB5 : Below w.heap.size w w5 := Below.step hB4 hB4.size hb5; have hP5 : Has w5 w.heap.size 27 (rc c0 p0) := hP4.keep hb5 hP4.lt; have hQ5 : Has w5 (w.heap.size + 1) 27 (rc c1 p1) := hQ4.keep hb5 hQ4.lt; obtain ⟨x0, x1, x2, x3, x4, x5⟩ := hP5.rbox; obtain ⟨y0, y1, y2, y3, y4, y5⟩ := hQ5.rbox)
          go_ret
          exact ⟨rfl, hB5⟩
      · have hk0' : (c0.chk != 0) = true := by simpa using hk0
        have K0 : Hid (∀ W, Below w.heap.size w W → Calls Tryd.prog 18 #[rv c0 p0] W fun e w' => e = .returned (.int .i64 c0.chk) ∧ Below W.heap.size W w') := fun W hb => oRCheck_any c0 p0 W HS0.out (HM.out.to hb hb.size) HN.out
        clear hk0 hg0 hg1
        go_enter Tryd.func5, Tryd.ntmps5
        go_wp2_with (go_at_call 13; (with_reducible refine (G0.out _).mono ?_); rintro e w1 ⟨rfl, hb1⟩; have hB1 : Below w.heap.size w w1 := Below.step HH.out.1 HH.out.1.size hb1; have hP1 : Has w1 w.heap.size 27 (rc c0 p0) := HH.out.2.1.keep hb1 (by simp; omega); have hQ1 : Has w1 (w.heap.size + 1) 27 (rc c1 p1) := HH.out.2.2.keep hb1 (by simp); obtain ⟨x0, x1, x2, x3, x4, x5⟩ := hP1.rbox; obtain ⟨y0, y1, y2, y3, y4, y5⟩ := hQ1.rbox)
        go_wp2_with (go_at_call 13; (with_reducible refine (G1.out _).mono ?_); rintro e w2 ⟨rfl, hb2⟩; have hB2 : Below w.heap.size w w2 := Below.step hB1 hB1.size hb2; have hP2 : Has w2 w.heap.size 27 (rc c0 p0) := hP1.keep hb2 hP1.lt; have hQ2 : Has w2 (w.heap.size + 1) 27 (rc c1 p1) := hQ1.keep hb2 hQ1.lt; obtain ⟨x0, x1, x2, x3, x4, x5⟩ := hP2.rbox; obtain ⟨y0, y1, y2, y3, y4, y5⟩ := hQ2.rbox)
        go_wp2_with (go_at_call 18; (with_reducible refine (K0.out _ hB2).mono ?_); rintro e w3 ⟨rfl, hb3⟩; have hB3 : Below w.heap.size w w3 := Below.step hB2 hB2.size hb3; have hP3 : Has w3 w.heap.size 27 (rc c0 p0) := hP2.keep hb3 hP2.lt; have hQ3 : Has w3 (w.heap.size + 1) 27 (rc c1 p1) := hQ2.keep hb3 hQ2.lt; obtain ⟨x0, x1, x2, x3, x4, x5⟩ := hP3.rbox; obtain ⟨y0, y1, y2, y3, y4, y5⟩ := hQ3.rbox)
        go_wp2_with (go_at_call 12; (with_reducible refine (AL.out _ hB3).mono ?_); rintro e w4 ⟨rfl, hb4⟩; have hB4 : Below w.heap.size w w4 := Below.step hB3 hB3.size hb4; have hP4 : Has w4 w.heap.size 27 (rc c0 p0) := hP3.keep hb4 hP3.lt; have hQ4 : Has w4 (w.heap.size + 1) 27 (rc c1 p1) := hQ3.keep hb4 hQ3.lt; obtain ⟨x0, x1, x2, x3, x4, x5⟩ := hP4.rbox; obtain ⟨y0, y1, y2, y3, y4, y5⟩ := hQ4.rbox)
        go_ret
        exact ⟨rfl, hB4⟩
    · have G1 : Hid (∀ W, Calls Tryd.prog 13 #[rv c1 p1] W fun e w' => e = .returned (.bool true) ∧ Below W.heap.size W w') := fun W => by have := oGreat_any c1 p1 W; rwa [hg1] at this
      clear hg0 hg1 hv0 hv1
      go_enter Tryd.func5, Tryd.ntmps5
      go_wp2_with (go_at_call 13; (with_reducible refine (G0.out _).mono ?_); rintro e w1 ⟨rfl, hb1⟩; have hB1 : Below w.heap.size w w1 := Below.step HH.out.1 HH.out.1.size hb1; have hP1 : Has w1 w.heap.size 27 (rc c0 p0) := HH.out.2.1.keep hb1 (by simp; omega); have hQ1 : Has w1 (w.heap.size + 1) 27 (rc c1 p1) := HH.out.2.2.keep hb1 (by simp); obtain ⟨x0, x1, x2, x3, x4, x5⟩ := hP1.rbox; obtain ⟨y0, y1, y2, y3, y4, y5⟩ := hQ1.rbox)
      go_wp2_with (go_at_call 13; (with_reducible refine (G1.out _).mono ?_); rintro e w2 ⟨rfl, hb2⟩; have hB2 : Below w.heap.size w w2 := Below.step hB1 hB1.size hb2; have hP2 : Has w2 w.heap.size 27 (rc c0 p0) := hP1.keep hb2 hP1.lt; have hQ2 : Has w2 (w.heap.size + 1) 27 (rc c1 p1) := hQ1.keep hb2 hQ1.lt; obtain ⟨x0, x1, x2, x3, x4, x5⟩ := hP2.rbox; obtain ⟨y0, y1, y2, y3, y4, y5⟩ := hQ2.rbox)
      go_wp2_with (go_at_call 12; (with_reducible refine (AL.out _ hB2).mono ?_); rintro e w3 ⟨rfl, hb3⟩; have hB3 : Below w.heap.size w w3 := Below.step hB2 hB2.size hb3; have hP3 : Has w3 w.heap.size 27 (rc c0 p0) := hP2.keep hb3 hP2.lt; have hQ3 : Has w3 (w.heap.size + 1) 27 (rc c1 p1) := hQ2.keep hb3 hQ2.lt; obtain ⟨x0, x1, x2, x3, x4, x5⟩ := hP3.rbox; obtain ⟨y0, y1, y2, y3, y4, y5⟩ := hQ3.rbox)
      go_ret
      exact ⟨rfl, hB3⟩
  · have G0 : Hid (∀ W, Calls Tryd.prog 13 #[rv c0 p0] W fun e w' => e = .returned (.bool true) ∧ Below W.heap.size W w') := fun W => by have := oGreat_any c0 p0 W; rwa [hg0] at this
    clear hg0 hv0 hv1
    go_enter Tryd.func5, Tryd.ntmps5
    go_wp2_with (go_at_call 13; (with_reducible refine (G0.out _).mono ?_); rintro e w1 ⟨rfl, hb1⟩; have hB1 : Below w.heap.size w w1 := Below.step HH.out.1 HH.out.1.size hb1; have hP1 : Has w1 w.heap.size 27 (rc c0 p0) := HH.out.2.1.keep hb1 (by simp; omega); have hQ1 : Has w1 (w.heap.size + 1) 27 (rc c1 p1) := HH.out.2.2.keep hb1 (by simp); obtain ⟨x0, x1, x2, x3, x4, x5⟩ := hP1.rbox; obtain ⟨y0, y1, y2, y3, y4, y5⟩ := hQ1.rbox)
    go_wp2_with (go_at_call 12; (with_reducible refine (AL.out _ hB1).mono ?_); rintro e w2 ⟨rfl, hb2⟩; have hB2 : Below w.heap.size w w2 := Below.step hB1 hB1.size hb2; have hP2 : Has w2 w.heap.size 27 (rc c0 p0) := hP1.keep hb2 hP1.lt; have hQ2 : Has w2 (w.heap.size + 1) 27 (rc c1 p1) := hQ1.keep hb2 hQ1.lt; obtain ⟨x0, x1, x2, x3, x4, x5⟩ := hP2.rbox; obtain ⟨y0, y1, y2, y3, y4, y5⟩ := hQ2.rbox)
    go_ret
    exact ⟨rfl, hB2⟩

set_option maxRecDepth 100000 in
theorem lifted (os : Os) (started : os.Started) (H : Type) (enc : TypeId × Value → H) :
    ReturnsInHanded {} Tryd.checked os 5 .any (fun w args => (Rows.asciiOneSpec.pre enc Tryd.prog Tryd.f5 Rows.asciiOneRow.domain false w args ∧ laidMetH Tryd.prog Rows.asciiOneRow.laid w) ∧ sizedMet enc Tryd.prog Tryd.f5 (OpenSpec.ofChange Rows.asciiOneSpec) false w args) (Rows.asciiOneSpec.post enc Tryd.prog Tryd.f5 false true false false) := by
  refine returnsInHanded_of_change_and (C := Tryd.checked) (X := fun w _ => laidMetH Tryd.prog Rows.asciiOneRow.laid w) (fun _ _ _ hh h => h.of_heap hh) own started (by kernel_rfl) Tryd.func5
    (ChangeSpec.witness_shaped (enc := enc) (C := Tryd.checked) (os := os) (X := fun w _ => laidMetH Tryd.prog Rows.asciiOneRow.laid w) false (World.laidAll Tryd.prog os Rows.asciiOneRow.laid) #[.agg #[.int .i64 0, .slice none 0 0, .slice none 0 0, .slice none 0 0, .slice none 0 0, .slice none 0 0], .agg #[.int .i64 0, .slice none 0 0, .slice none 0 0, .slice none 0 0, .slice none 0 0, .slice none 0 0]] 12 (World.laidAll_os _ _ _)
      (World.shaped_of_ZipB (by kernel_rfl) (by kernel_rfl)) (by kernel_rfl) (by kernel_rfl) (by kernel_rfl)
      (by rw [MakeChecks.laidMetH_plain _ _ _ (by kernel_rfl)]; exact laidMet_laidAll _ (by kernel_rfl) (by kernel_rfl))) ?_
  intro W base args ds gs before hval0 hW hcnd _ hL _
  have hval : ∀ (j : Nat) t v, Tryd.f5.params[j]? = some t → args[j]? = some v → Value.okWide Tryd.prog W .any base t v := hval0
  have hW' := hW
  have hlt : ∀ x ∈ before, x.block < W.heap.size := fun x hx => by simpa using hW'.lt x hx
  obtain ⟨p, q, hA0, hV, rfl, hfz, hnd⟩ := hW
  have hA : DataW.TrodAll enc Tryd.prog W 0 (fun _ => true) true Tryd.f5.params.toList args.toList ds p := hA0
  rw [Tryd.params5] at hA hval
  obtain ⟨v0, vs0, d0, ds0, b0, q0, hargs, rfl, rfl, h0, r0⟩ := trodAll_cons hA
  obtain ⟨v1, vs1, d1, ds1, b1, q1, rfl, rfl, rfl, h1, r1⟩ := trodAll_cons r0
  obtain ⟨rfl, rfl, rfl⟩ := trodAll_nil r1
  obtain rfl : args = #[v0, v1] := by cases args; simp_all
  obtain ⟨rfl, rfl⟩ := trodVars_none hV
  obtain ⟨c0, p0, rfl, hm0, hN0, hv0, hC0⟩ := open_raw (hval 0 27 v0 rfl rfl) h0
  obtain ⟨c1, p1, rfl, hm1, hN1, hv1, hC1⟩ := open_raw (hval 1 27 v1 rfl rfl) h1
  have hlo : laidOutB Tryd.prog = true := by kernel_rfl
  clear hA0 hval0
  simp only [List.append_nil] at hW' hlt
  refine (walk c0 p0 c1 p1 W hm0 hN0 hv0 hC0 hm1 hN1 hv1 hC1 (tab_of_laid hL)).mono fun e W' ⟨he, hb⟩ => ?_
  subst he
  have hback := (trodAll_cons_mk (arg_back (W' := W') hlo (by kernel_rfl) (of_decide_eq_true (by kernel_rfl)) h0 hb (fun x hx => hlt x (by simp [hx]))) (trodAll_cons_mk (arg_back (W' := W') hlo (by kernel_rfl) (of_decide_eq_true (by kernel_rfl)) h1 hb (fun x hx => hlt x (by simp [hx]))) trodAll_mk0))
  simp only [List.append_nil, List.nil_append] at hback
  exact ⟨_, rfl, law_post hW' (trodAll_cons_mk (shut_bool Tryd.underlying4 _) trodAll_mk0) hback rfl hb⟩

theorem over : Rows.asciiOneRow.holds Tryd.pinned (OpenSpec.ofChange Rows.asciiOneSpec) :=
  OpenClaim.holds_of_wide 5 Tryd.f5 rfl rfl rfl rfl rfl rfl rfl ⟨rfl, rfl, rfl, rfl, rfl⟩ rfl rfl rfl rfl rfl (by kernel_rfl) Tryd.func5 (by kernel_rfl)
    (of_decide_eq_true (by kernel_rfl)) (by unfold Func.isWrapper; first | (rw [if_pos (by decide +kernel)]; kernel_rfl) | (rw [if_neg (by decide +kernel)]; exact ⟨rfl, rfl⟩))
    (fun os started H enc _ => lifted os started H enc)

theorem proved : Rows.AsciiOneCardSaid :=
  Claim7.holds_tied_plain_at .later [] [.data, .data, .data] true (true, "ab68182b2c92bb541f92756573780a25648848fc1fdf43171e6b4a4bf608f501") false over (fun _ h => by cases h) (by kernel_rfl) (fun _ h => by cases h) asciiOne_row_tie rfl ⟨rfl, rfl⟩ (by kernel_rfl) rfl
    (fun f fn hf hfn => by
      obtain rfl : f = 5 := Option.some.inj ((show Tryd.prog.funcNamed "spiritlevel/spiritlevellaw07.AsciiOne" = some 5 by kernel_rfl).symm.trans hf) |>.symm
      obtain rfl : fn = Tryd.f5 := (Option.some.inj (Tryd.func5.symm.trans hfn)).symm
      exact ⟨by kernel_rfl, fun j t ht => by
        rw [Tryd.params5] at ht
        have hm : t ∈ [27, 27] := by simpa using Array.mem_of_getElem? ht
        have hall : ([27, 27].all fun u => !Tryd.prog.wantsStandIn u) = true := by kernel_rfl
        exact (show Tryd.prog.wantsStandIn t = false by simpa using List.all_eq_true.1 hall t hm)⟩)
    (by kernel_rfl)
end Go.Proofs.YtmholdmcmbbdgaaDoor.asciiOne
