/- For all valid raw circuits that are not great: as many lines as told, each ended by a line feed, numbers with one blank between any two. No conditions. -/
import Derived.Test.YtmholdmcmbbdgaaDoorCards
import Derived.Test.YtmholdmcmbbdgaaDoorTie
import Derived.Test.YtmholdmcmbbdgaaDoorAsciiLn
import Derived.Test.YtmholdmcmbbdgaaDoorOrderFrame
import Derived.ProofKit
import Derived.OpenShut
import Derived.LaidMore
import Derived.Lay
import Derived.LaidSub
import Derived.SevenTiedAt
import Derived.Stop.Joined
import Derived.Lib.LaidTab
namespace Go.Proofs.YtmholdmcmbbdgaaDoor.asciiLines
open Go.ChangeShapes Go.WideShapes Go.ChangeAt Go.RowKit
set_option linter.unusedVariables false
set_option linter.unusedSimpArgs false

theorem tab_of_laid {W : World} (h : laidMetH Tryd.prog Rows.asciiLinesRow.laid W) : Tab W.heap.size W := by
  rw [MakeChecks.laidMetH_plain _ _ _ (by kernel_rfl)] at h
  have h2 : laidMet Tryd.prog [("internal/strconv.uint64pow10", Lib.tabData .u64 Lib.pow10Tab)] W := by
    have h3 := h.filter fun x => x.1 == "internal/strconv.uint64pow10"
    have e : (Rows.asciiLinesRow.laid.filter fun x => x.1 == "internal/strconv.uint64pow10") = [("internal/strconv.uint64pow10", Lib.tabData .u64 Lib.pow10Tab)] := by kernel_rfl
    rwa [e] at h3
  exact Lib.tabBelow_of_tabIs (Lib.tabIs_of_head (show Tryd.prog.globalNamed "internal/strconv.uint64pow10" = some 0 by kernel_rfl) (by kernel_rfl) Tryd.underlying103 Tryd.underlying83 (by kernel_rfl) (by kernel_rfl) h2)


theorem own : ownKnob Tryd.prog.godebug = none := by kernel_rfl

set_option maxRecDepth 100000 in
set_option maxHeartbeats 40000000 in
theorem walk (c0 : Rw) (p0 : Rp) (w : World) (hm0 : RMem w w.heap.size c0 p0) (hN0 : RNils c0 p0) (hv0 : RVals c0) (hC0 : RCaps c0 p0) (htab : Tab w.heap.size w) :
    Calls Tryd.prog 6 #[rv c0 p0] w fun e w' => e = .returned (.bool true) ∧ Below w.heap.size w w' := by
  have HT := Lib.hid htab
  clear htab
  have AL : Hid (∀ W, Below w.heap.size w W → Calls Tryd.prog 12 #[] W fun e w' => e = .returned (.bool true) ∧ Below W.heap.size W w') := fun W hb => alive7_any W (Tab.up (HT.out.on hb) hb.size)
  have HM := Lib.hid hm0
  have HN := Lib.hid hN0
  cases hg : c0.gr
  · have G0 : Hid (∀ W, Calls Tryd.prog 13 #[rv c0 p0] W fun e w' => e = .returned (.bool false) ∧ Below W.heap.size W w') := fun W => by have := oGreat_any c0 p0 W; rwa [hg] at this
    have HS := Lib.hid (hv0.sm hg)
    by_cases hk : c0.chk = 0
    · have K0 : Hid (∀ W, Below w.heap.size w W → Calls Tryd.prog 18 #[rv c0 p0] W fun e w' => e = .returned (.int .i64 0) ∧ Below W.heap.size W w') := fun W hb => by have := oRCheck_any c0 p0 W HS.out (HM.out.to hb hb.size) HN.out; rwa [hk] at this
      obtain ⟨n, X, K, hX⟩ := ln_ok hk
      have hbd := Bd.of hk
      have hbn := hbd.n
      have hbb := hbd.nb
      have hbc := hbd.nc
      clear hbd
      obtain ⟨S, hS⟩ : ∃ S, S = str c0.txt := ⟨_, rfl⟩
      rw [← hS] at hX
      have R0 : Hid (∀ W, Below w.heap.size w W → Calls Tryd.prog 9 #[rv c0 p0] W fun e w' => e = .returned (.tuple #[.string S, .int .i64 0]) ∧ Below W.heap.size W w') := fun W hb => by rw [hS]; exact aRaw_yes c0 p0 W hk HS.out (HM.out.to hb hb.size) HN.out (Tab.up (HT.out.on hb) hb.size)
      have L0 : Hid (∀ W, Below w.heap.size w W → Calls Tryd.prog 10 #[rv c0 p0] W fun e w' => e = .returned (.tuple #[.int .i64 (K n : Int), .int .i64 0]) ∧ Below W.heap.size W w') := fun W hb => by
        have h := aLines_any c0 p0 W HS.out (HM.out.to hb hb.size) HN.out
        have e : c0.lnsE = c0.lns := if_pos hk
        rw [e, hk, ← hX.kn] at h
        exact h
      have hkn : ((K n : Int) == 1 + (c0.ni : Int) + (c0.nl : Int) + (c0.na : Int) + (c0.nb : Int) + (c0.nc : Int)) = true := by
        rw [hX.kn, beq_iff_eq]
        unfold Rw.lns
        omega
      have kL := hX.len
      have k4 := hX.beg
      have h18 := hX.n18
      have h18f : decide ((n : Int) < 18) = false := decide_eq_false (by omega)
      have kl : ∀ W : World, (Instr.index 9 (.string S) (.int .i64 ((n : Int) - 1))).run Tryd.prog W = .ok (.int .u8 10) W := fun W => by
        have h := hX.idx (n - 1) ((n : Int) - 1) (by omega) (by omega) W
        rwa [hX.lst] at h
      have hup := hX.nup
      have HX := Lib.hid hX
      clear hS hX hk hg hv0 hm0 hN0 hC0
      go_enter Tryd.func6, Tryd.ntmps6
      go_wp2_with (go_at_call 13; (with_reducible refine (G0.out _).mono ?_); rintro e w1 ⟨rfl, hb1⟩; have hB1 : Below w.heap.size w w1 := Below.step (by go_grown) (by go_size) hb1; have hA1 : Has w1 w.heap.size 27 (rc c0 p0) := (Has.new w 27 (rc c0 p0)).keep hb1 (by simp); obtain ⟨x0, x1, x2, x3, x4, x5⟩ := hA1.rbox)
      go_wp2_with (go_at_call 18; (with_reducible refine (K0.out _ hB1).mono ?_); rintro e w2 ⟨rfl, hb2⟩; have hB2 := Below.step hB1 hB1.size hb2; have hA2 : Has w2 w.heap.size 27 (rc c0 p0) := hA1.keep hb2 hA1.lt; obtain ⟨x0, x1, x2, x3, x4, x5⟩ := hA2.rbox)
      go_wp2_with (go_at_call 9; (with_reducible refine (R0.out _ hB2).mono ?_); rintro e w3 ⟨rfl, hb3⟩; have hB3 := Below.step hB2 hB2.size hb3; have hA3 : Has w3 w.heap.size 27 (rc c0 p0) := hA2.keep hb3 hA2.lt; obtain ⟨x0, x1, x2, x3, x4, x5⟩ := hA3.rbox)
      go_wp2_with (go_at_call 10; (with_reducible refine (L0.out _ hB3).mono ?_); rintro e w4 ⟨rfl, hb4⟩; have hB4 := Below.step hB3 hB3.size hb4; have hA4 : Has w4 w.heap.size 27 (rc c0 p0) := hA3.keep hb4 hA3.lt; obtain ⟨x0, x1, x2, x3, x4, x5⟩ := hA4.rbox)
      go_loopw [7, 8] (fun u i wr => ∃ q : Nat, 4 ≤ q ∧ q ≤ n ∧ i = .int .i64 q ∧ u = .int .i64 (K q : Int) ∧ w4 = wr) (fun _ i _ => n - (intOf i).toNat)
      case atStart => exact ⟨4, Nat.le_refl _, by omega, rfl, by rw [HX.out.k4]; rfl, rfl⟩
      case round =>
        obtain ⟨q, h4q, hq, rfl, rfl, rfl⟩ := hrel
        by_cases hlt : q < n
        · have hi : (q : Int) < (n : Int) := by omega
          have kx := HX.out.idx q (q : Int) rfl hlt
          have kp := HX.out.idx (q - 1) ((q : Int) - 1) (by omega) (by omega)
          have hKq := HX.out.kle q hq
          have hbt := HX.out.byt q h4q hlt
          have HKS := Lib.hid (HX.out.ks q h4q hlt)
          obtain ⟨x, hx⟩ : ∃ x, X q = x := ⟨_, rfl⟩
          obtain ⟨y, hy⟩ : ∃ y, X (q - 1) = y := ⟨_, rfl⟩
          rw [hx] at kx hbt
          rw [hy] at kp hbt
          have HXQ := Lib.hid hx
          clear hx hy
          by_cases hd : 48 ≤ x ∧ x ≤ 57
          · have n32 : (x == 32) = false := by simp; omega
            have n10 : (x == 10) = false := by simp; omega
            have l48 : decide (x < 48) = false := decide_eq_false (by omega)
            have l57 : decide (57 < x) = false := decide_eq_false (by omega)
            have HKS := Lib.hid (show K (q + 1) = K q by rw [HKS.out, HXQ.out, if_neg (by omega)]; rfl)
            clear hd hbt
            obtain ⟨e, he⟩ : ∃ e, ((q : Int) == 4) = e := ⟨_, rfl⟩
            cases e
            all_goals
              go_wp2
              go_roundw
              case rel => exact ⟨q + 1, by omega, by omega, by go_num, by rw [HKS.out], trivial⟩
              case measure => simp [intOf]; omega
          · obtain ⟨hg2, h4', hy1, hy2⟩ : (x = 32 ∨ x = 10) ∧ 4 < q ∧ 48 ≤ y ∧ y ≤ 57 := by
              rcases hbt with h | h
              · exact h
              · exact absurd h hd
            have y32 : (y == 32) = false := by simp; omega
            have y10 : (y == 10) = false := by simp; omega
            have q4 : ((q : Int) == 4) = false := by simp; omega
            have q4' : decide (4 < (q : Int)) = true := decide_eq_true (by omega)
            have q5 : (4 : Int) < (q : Int) := by omega
            clear hd hbt hy1 hy2
            rcases hg2 with rfl | rfl
            · have HKS := Lib.hid (show K (q + 1) = K q by rw [HKS.out, HXQ.out, if_neg (by omega)]; rfl)
              go_wp2
              go_roundw
              case rel => exact ⟨q + 1, by omega, by omega, by go_num, by rw [HKS.out], trivial⟩
              case measure => simp [intOf]; omega
            · have HKS := Lib.hid (show K (q + 1) = K q + 1 by rw [HKS.out, HXQ.out, if_pos rfl])
              go_wp2
              go_roundw
              case rel => exact ⟨q + 1, by omega, by omega, by go_num, by rw [HKS.out]; go_num, trivial⟩
              case measure => simp [intOf]; omega
        · obtain rfl : q = n := by omega
          clear hlt hq h4q
          go_wp2_with (go_at_call 12; (with_reducible refine (AL.out _ hB4).mono ?_); rintro e w5 ⟨rfl, hb5⟩; have hB5 := Below.step hB4 hB4.size hb5)
          go_ret
          exact ⟨by simp, hB5⟩
    · have hk' : (c0.chk != 0) = true := by simpa using hk
      have K0 : Hid (∀ W, Below w.heap.size w W → Calls Tryd.prog 18 #[rv c0 p0] W fun e w' => e = .returned (.int .i64 c0.chk) ∧ Below W.heap.size W w') := fun W hb => oRCheck_any c0 p0 W HS.out (HM.out.to hb hb.size) HN.out
      clear hk hg hv0 hm0 hN0 hC0
      go_enter Tryd.func6, Tryd.ntmps6
      go_wp2_with (go_at_call 13; (with_reducible refine (G0.out _).mono ?_); rintro e w1 ⟨rfl, hb1⟩; have hB1 : Below w.heap.size w w1 := Below.step (by go_grown) (by go_size) hb1; have hA1 : Has w1 w.heap.size 27 (rc c0 p0) := (Has.new w 27 (rc c0 p0)).keep hb1 (by simp); obtain ⟨x0, x1, x2, x3, x4, x5⟩ := hA1.rbox)
      go_wp2_with (go_at_call 18; (with_reducible refine (K0.out _ hB1).mono ?_); rintro e w2 ⟨rfl, hb2⟩; have hB2 := Below.step hB1 hB1.size hb2; have hA2 : Has w2 w.heap.size 27 (rc c0 p0) := hA1.keep hb2 hA1.lt; obtain ⟨x0, x1, x2, x3, x4, x5⟩ := hA2.rbox)
      go_wp2_with (go_at_call 12; (with_reducible refine (AL.out _ hB2).mono ?_); rintro e w3 ⟨rfl, hb3⟩; have hB3 := Below.step hB2 hB2.size hb3; have hA3 : Has w3 w.heap.size 27 (rc c0 p0) := hA2.keep hb3 hA2.lt; obtain ⟨x0, x1, x2, x3, x4, x5⟩ := hA3.rbox)
      go_ret
      exact ⟨rfl, hB3⟩
  · have G0 : Hid (∀ W, Calls Tryd.prog 13 #[rv c0 p0] W fun e w' => e = .returned (.bool true) ∧ Below W.heap.size W w') := fun W => by have := oGreat_any c0 p0 W; rwa [hg] at this
    clear hg hv0 hm0 hN0 hC0
    go_enter Tryd.func6, Tryd.ntmps6
    go_wp2_with (go_at_call 13; (with_reducible refine (G0.out _).mono ?_); rintro e w1 ⟨rfl, hb1⟩; have hB1 : Below w.heap.size w w1 := Below.step (by go_grown) (by go_size) hb1; have hA1 : Has w1 w.heap.size 27 (rc c0 p0) := (Has.new w 27 (rc c0 p0)).keep hb1 (by simp); obtain ⟨x0, x1, x2, x3, x4, x5⟩ := hA1.rbox)
    go_wp2_with (go_at_call 12; (with_reducible refine (AL.out _ hB1).mono ?_); rintro e w2 ⟨rfl, hb2⟩; have hB2 := Below.step hB1 hB1.size hb2; have hA2 : Has w2 w.heap.size 27 (rc c0 p0) := hA1.keep hb2 hA1.lt; obtain ⟨x0, x1, x2, x3, x4, x5⟩ := hA2.rbox)
    go_ret
    exact ⟨rfl, hB2⟩

set_option maxRecDepth 100000 in
theorem lifted (os : Os) (started : os.Started) (H : Type) (enc : TypeId × Value → H) :
    ReturnsInHanded {} Tryd.checked os 6 .any (fun w args => (Rows.asciiLinesSpec.pre enc Tryd.prog Tryd.f6 Rows.asciiLinesRow.domain false w args ∧ laidMetH Tryd.prog Rows.asciiLinesRow.laid w) ∧ sizedMet enc Tryd.prog Tryd.f6 (OpenSpec.ofChange Rows.asciiLinesSpec) false w args) (Rows.asciiLinesSpec.post enc Tryd.prog Tryd.f6 false true false false) := by
  refine returnsInHanded_of_change_and (C := Tryd.checked) (X := fun w _ => laidMetH Tryd.prog Rows.asciiLinesRow.laid w) (fun _ _ _ hh h => h.of_heap hh) own started (by kernel_rfl) Tryd.func6
    (ChangeSpec.witness_shaped (enc := enc) (C := Tryd.checked) (os := os) (X := fun w _ => laidMetH Tryd.prog Rows.asciiLinesRow.laid w) false (World.laidAll Tryd.prog os Rows.asciiLinesRow.laid) #[.agg #[.int .i64 0, .slice none 0 0, .slice none 0 0, .slice none 0 0, .slice none 0 0, .slice none 0 0]] 12 (World.laidAll_os _ _ _)
      (World.shaped_of_ZipB (by kernel_rfl) (by kernel_rfl)) (by kernel_rfl) (by kernel_rfl) (by kernel_rfl)
      (by rw [MakeChecks.laidMetH_plain _ _ _ (by kernel_rfl)]; exact laidMet_laidAll _ (by kernel_rfl) (by kernel_rfl))) ?_
  intro W base args ds gs before hval0 hW hcnd _ hL _
  have hval : ∀ (j : Nat) t v, Tryd.f6.params[j]? = some t → args[j]? = some v → Value.okWide Tryd.prog W .any base t v := hval0
  have hW' := hW
  have hlt : ∀ x ∈ before, x.block < W.heap.size := fun x hx => by simpa using hW'.lt x hx
  obtain ⟨p, q, hA0, hV, rfl, hfz, hnd⟩ := hW
  have hA : DataW.TrodAll enc Tryd.prog W 0 (fun _ => true) true Tryd.f6.params.toList args.toList ds p := hA0
  rw [Tryd.params6] at hA hval
  obtain ⟨v0, vs0, d0, ds0, b0, q0, hargs, rfl, rfl, h0, r0⟩ := trodAll_cons hA
  obtain ⟨rfl, rfl, rfl⟩ := trodAll_nil r0
  obtain rfl : args = #[v0] := by cases args; simp_all
  obtain ⟨rfl, rfl⟩ := trodVars_none hV
  obtain ⟨c0, p0, rfl, hm0, hN0, hv0, hC0⟩ := open_raw (hval 0 27 v0 rfl rfl) h0
  have hlo : laidOutB Tryd.prog = true := by kernel_rfl
  clear hA0 hval0
  simp only [List.append_nil] at hW' hlt
  refine (walk c0 p0 W hm0 hN0 hv0 hC0 (tab_of_laid hL)).mono fun e W' ⟨he, hb⟩ => ?_
  subst he
  have hback := (trodAll_cons_mk (arg_back (W' := W') hlo (by kernel_rfl) (of_decide_eq_true (by kernel_rfl)) h0 hb (fun x hx => hlt x (by simp [hx]))) trodAll_mk0)
  simp only [List.append_nil, List.nil_append] at hback
  exact ⟨_, rfl, law_post hW' (trodAll_cons_mk (shut_bool Tryd.underlying4 _) trodAll_mk0) hback rfl hb⟩

theorem over : Rows.asciiLinesRow.holds Tryd.pinned (OpenSpec.ofChange Rows.asciiLinesSpec) :=
  OpenClaim.holds_of_wide 6 Tryd.f6 rfl rfl rfl rfl rfl rfl rfl ⟨rfl, rfl, rfl, rfl, rfl⟩ rfl rfl rfl rfl rfl (by kernel_rfl) Tryd.func6 (by kernel_rfl)
    (of_decide_eq_true (by kernel_rfl)) (by unfold Func.isWrapper; first | (rw [if_pos (by decide +kernel)]; kernel_rfl) | (rw [if_neg (by decide +kernel)]; exact ⟨rfl, rfl⟩))
    (fun os started H enc _ => lifted os started H enc)

theorem proved : Rows.AsciiLinesCardSaid :=
  Claim7.holds_tied_plain_at .later [] [.data, .data, .data] true (true, "ab68182b2c92bb541f92756573780a25648848fc1fdf43171e6b4a4bf608f501") false over (fun _ h => by cases h) (by kernel_rfl) (fun _ h => by cases h) asciiLines_row_tie rfl ⟨rfl, rfl⟩ (by kernel_rfl) rfl
    (fun f fn hf hfn => by
      obtain rfl : f = 6 := Option.some.inj ((show Tryd.prog.funcNamed "spiritlevel/spiritlevellaw07.AsciiLines" = some 6 by kernel_rfl).symm.trans hf) |>.symm
      obtain rfl : fn = Tryd.f6 := (Option.some.inj (Tryd.func6.symm.trans hfn)).symm
      exact ⟨by kernel_rfl, fun j t ht => by
        rw [Tryd.params6] at ht
        have hm : t ∈ [27] := by simpa using Array.mem_of_getElem? ht
        have hall : ([27].all fun u => !Tryd.prog.wantsStandIn u) = true := by kernel_rfl
        exact (show Tryd.prog.wantsStandIn t = false by simpa using List.all_eq_true.1 hall t hm)⟩)
    (by kernel_rfl)
end Go.Proofs.YtmholdmcmbbdgaaDoor.asciiLines
