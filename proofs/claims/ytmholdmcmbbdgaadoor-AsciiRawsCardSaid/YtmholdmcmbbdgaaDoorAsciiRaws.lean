/- For all raw circuits that are not great: the text, how many lines it has, and the errors are the reference's, and nothing is changed. No conditions. -/
import Derived.Test.YtmholdmcmbbdgaaDoorCards
import Derived.Test.YtmholdmcmbbdgaaDoorTie
import Derived.Test.YtmholdmcmbbdgaaDoorAsciiKit
import Derived.Test.YtmholdmcmbbdgaaDoorOrderFrame
import Derived.ProofKit
import Derived.OpenShut
import Derived.LaidMore
import Derived.Lay
import Derived.LaidSub
import Derived.SevenTiedAt
import Derived.Stop.Joined
import Derived.Lib.LaidTab
namespace Go.Proofs.YtmholdmcmbbdgaaDoor.asciiRaws
open Go.ChangeShapes Go.WideShapes Go.ChangeAt Go.RowKit
set_option linter.unusedVariables false
set_option linter.unusedSimpArgs false

theorem tab_of_laid {W : World} (h : laidMetH Tryd.prog Rows.asciiRawsRow.laid W) : Tab W.heap.size W := by
  rw [MakeChecks.laidMetH_plain _ _ _ (by kernel_rfl)] at h
  have h2 : laidMet Tryd.prog [("internal/strconv.uint64pow10", Lib.tabData .u64 Lib.pow10Tab)] W := by
    have h3 := h.filter fun x => x.1 == "internal/strconv.uint64pow10"
    have e : (Rows.asciiRawsRow.laid.filter fun x => x.1 == "internal/strconv.uint64pow10") = [("internal/strconv.uint64pow10", Lib.tabData .u64 Lib.pow10Tab)] := by kernel_rfl
    rwa [e] at h3
  exact Lib.tabBelow_of_tabIs (Lib.tabIs_of_head (show Tryd.prog.globalNamed "internal/strconv.uint64pow10" = some 0 by kernel_rfl) (by kernel_rfl) Tryd.underlying103 Tryd.underlying83 (by kernel_rfl) (by kernel_rfl) h2)


theorem own : ownKnob Tryd.prog.godebug = none := by kernel_rfl

set_option maxRecDepth 100000 in
set_option maxHeartbeats 4000000 in
theorem walk (c0 : Rw) (p0 : Rp) (w : World) (hm0 : RMem w w.heap.size c0 p0) (hN0 : RNils c0 p0) (hv0 : RVals c0) (hC0 : RCaps c0 p0) (htab : Tab w.heap.size w) :
    Calls Tryd.prog 4 #[rv c0 p0] w fun e w' => e = .returned (.bool true) ∧ Below w.heap.size w w' := by
  have HT := Lib.hid htab
  clear htab
  cases hg : c0.gr
  · have hs : RSm c0 := hv0.sm hg
    have TW : Hid (∀ W, Below w.heap.size w W → Calls Tryd.prog 14 #[rv c0 p0] W fun e w' => ∃ p', e = .returned (rv c0 p') ∧ OwnR w' (W.heap.size + 2) c0 p' ∧ Below W.heap.size W w') := fun W hb => rtwin_any c0 p0 W hs (hm0.to hb hb.size) hN0
    have SM : Hid (∀ W p p', RMem W W.heap.size c0 p → RMem W W.heap.size c0 p' → Calls Tryd.prog 17 #[rv c0 p, rv c0 p'] W fun e w' => e = .returned (.bool true) ∧ Below W.heap.size W w') := fun W p p' hm hm' => oSame_self c0 p p' W hs hm hm'
    obtain ⟨S, hS⟩ : ∃ S, S = str c0.txtE := ⟨_, rfl⟩
    obtain ⟨K, hK⟩ : ∃ K, K = c0.chk := ⟨_, rfl⟩
    obtain ⟨N, hN⟩ : ∃ N, N = c0.lnsE := ⟨_, rfl⟩
    have A1 : Hid (∀ W p, Below w.heap.size w W → RMem W W.heap.size c0 p → RNils c0 p → Calls Tryd.prog 9 #[rv c0 p] W fun e w' => e = .returned (.tuple #[.string S, .int .i64 K]) ∧ Below W.heap.size W w') := fun W p hb hm hn => by
      rw [hS, hK]
      exact aRaw_any c0 p W hs hm hn (Tab.up (HT.out.on hb) hb.size)
    have A2 : Hid (∀ W p, Below w.heap.size w W → RMem W W.heap.size c0 p → RNils c0 p → Calls Tryd.prog 15 #[rv c0 p] W fun e w' => e = .returned (.tuple #[.string S, .int .i64 K]) ∧ Below W.heap.size W w') := fun W p hb hm hn => by
      rw [hS, hK]
      exact rRaw7_any c0 p W hs hm hn
    have A3 : Hid (∀ W p, Below w.heap.size w W → RMem W W.heap.size c0 p → RNils c0 p → Calls Tryd.prog 10 #[rv c0 p] W fun e w' => e = .returned (.tuple #[.int .i64 N, .int .i64 K]) ∧ Below W.heap.size W w') := fun W p hb hm hn => by
      rw [hN, hK]
      exact aLines_any c0 p W hs hm hn
    have A4 : Hid (∀ W p, Below w.heap.size w W → RMem W W.heap.size c0 p → RNils c0 p → Calls Tryd.prog 16 #[rv c0 p] W fun e w' => e = .returned (.tuple #[.int .i64 N, .int .i64 K]) ∧ Below W.heap.size W w') := fun W p hb hm hn => by
      rw [hN, hK]
      exact rLines7_any c0 p W hs hm hn
    have HM := Lib.hid hm0
    have HN := Lib.hid hN0
    clear hS hK hN hs hm0 hN0 hv0 hC0
    go_enter Tryd.func4, Tryd.ntmps4
    go_wp2_with (go_at_call 13; refine (oGreat_any c0 p0 _).mono ?_; rintro e w1 ⟨rfl, hb1⟩; have hB1 : Below w.heap.size w w1 := Below.step (by go_grown) (by go_size) hb1; have hA1 : Has w1 w.heap.size 27 (rc c0 p0) := (Has.new w 27 (rc c0 p0)).keep hb1 (by simp); obtain ⟨x0, x1, x2, x3, x4, x5⟩ := hA1.rbox)
    go_wp2_with (go_at_call 14; (with_reducible refine (TW.out _ hB1).mono ?_); rintro e w2 ⟨⟨P1, P2, P3, P4, P5, k1, k2, k3, k4, k5⟩, rfl, hO2, hb2⟩; have hB2 := Below.step hB1 hB1.size hb2; have HM2 := Lib.hid hO2.mem; have HN2 := Lib.hid hO2.nils; clear hO2; have hA2 : Has w2 w.heap.size 27 (rc c0 p0) := hA1.keep hb2 hA1.lt; obtain ⟨x0, x1, x2, x3, x4, x5⟩ := hA2.rbox)
    have hBb : Below w.heap.size w (w2.alloc (.cells #[.int .i64 c0.m, .slice P1 c0.ni k1, .slice P2 c0.nl k2, .slice P3 c0.na k3, .slice P4 c0.nb k4, .slice P5 c0.nc k5] 27)) := hB2.alloc hB2.size _
    go_wp2_with (go_at_call 9; (with_reducible refine (A1.out _ ⟨P1, P2, P3, P4, P5, k1, k2, k3, k4, k5⟩ hBb (HM2.out.to ((Below.refl _ _).alloc (Nat.le_refl _) _) (by simp)) HN2.out).mono ?_); rintro e w3 ⟨rfl, hb3⟩; have hB3 := Below.step hBb hBb.size hb3; have HM3 := Lib.hid ((HM2.out.to ((Below.refl _ _).alloc (Nat.le_refl _) (.cells #[.int .i64 c0.m, .slice P1 c0.ni k1, .slice P2 c0.nl k2, .slice P3 c0.na k3, .slice P4 c0.nb k4, .slice P5 c0.nc k5] 27)) (by simp)).to hb3 hb3.size); have hA3 : Has w3 w.heap.size 27 (rc c0 p0) := (hA2.al _).keep hb3 (hA2.al _).lt; obtain ⟨x0, x1, x2, x3, x4, x5⟩ := hA3.rbox; have hO3 : Has w3 w2.heap.size 27 (rc c0 ⟨P1, P2, P3, P4, P5, k1, k2, k3, k4, k5⟩) := (Has.new w2 27 (rc c0 ⟨P1, P2, P3, P4, P5, k1, k2, k3, k4, k5⟩)).keep hb3 (by simp); obtain ⟨y0, y1, y2, y3, y4, y5⟩ := hO3.rbox)
    go_wp2_with (go_at_call 15; (with_reducible refine (A2.out _ p0 hB3 (HM.out.to hB3 hB3.size) HN.out).mono ?_); rintro e w4 ⟨rfl, hb4⟩; have hB4 := Below.step hB3 hB3.size hb4; have HM4 := Lib.hid (HM3.out.to hb4 hb4.size); have hA4 : Has w4 w.heap.size 27 (rc c0 p0) := hA3.keep hb4 hA3.lt; obtain ⟨x0, x1, x2, x3, x4, x5⟩ := hA4.rbox; have hO4 : Has w4 w2.heap.size 27 (rc c0 ⟨P1, P2, P3, P4, P5, k1, k2, k3, k4, k5⟩) := hO3.keep hb4 hO3.lt; obtain ⟨y0, y1, y2, y3, y4, y5⟩ := hO4.rbox)
    go_wp2_with (go_at_call 10; (with_reducible refine (A3.out _ ⟨P1, P2, P3, P4, P5, k1, k2, k3, k4, k5⟩ hB4 HM4.out HN2.out).mono ?_); rintro e w5 ⟨rfl, hb5⟩; have hB5 := Below.step hB4 hB4.size hb5; have HM5 := Lib.hid (HM4.out.to hb5 hb5.size); have hA5 : Has w5 w.heap.size 27 (rc c0 p0) := hA4.keep hb5 hA4.lt; obtain ⟨x0, x1, x2, x3, x4, x5⟩ := hA5.rbox; have hO5 : Has w5 w2.heap.size 27 (rc c0 ⟨P1, P2, P3, P4, P5, k1, k2, k3, k4, k5⟩) := hO4.keep hb5 hO4.lt; obtain ⟨y0, y1, y2, y3, y4, y5⟩ := hO5.rbox)
    go_wp2_with (go_at_call 16; (with_reducible refine (A4.out _ p0 hB5 (HM.out.to hB5 hB5.size) HN.out).mono ?_); rintro e w6 ⟨rfl, hb6⟩; have hB6 := Below.step hB5 hB5.size hb6; have HM6 := Lib.hid (HM5.out.to hb6 hb6.size); have hA6 : Has w6 w.heap.size 27 (rc c0 p0) := hA5.keep hb6 hA5.lt; obtain ⟨x0, x1, x2, x3, x4, x5⟩ := hA6.rbox; have hO6 : Has w6 w2.heap.size 27 (rc c0 ⟨P1, P2, P3, P4, P5, k1, k2, k3, k4, k5⟩) := hO5.keep hb6 hO5.lt; obtain ⟨y0, y1, y2, y3, y4, y5⟩ := hO6.rbox)
    go_wp2_with (go_at_call 17; (with_reducible refine (SM.out _ ⟨P1, P2, P3, P4, P5, k1, k2, k3, k4, k5⟩ p0 HM6.out (HM.out.to hB6 hB6.size)).mono ?_); rintro e w7 ⟨rfl, hb7⟩; have hB7 := Below.step hB6 hB6.size hb7)
    go_ret
    exact ⟨by simp, hB7⟩
  · go_enter Tryd.func4, Tryd.ntmps4
    go_wp2_with (go_at_call 13; refine (oGreat_any c0 p0 _).mono ?_; rintro e w1 ⟨rfl, hb1⟩; have hB1 : Below w.heap.size w w1 := Below.step (by go_grown) (by go_size) hb1; have hA1 : Has w1 w.heap.size 27 (rc c0 p0) := (Has.new w 27 (rc c0 p0)).keep hb1 (by simp); obtain ⟨x0, x1, x2, x3, x4, x5⟩ := hA1.rbox)
    go_ret
    exact ⟨rfl, hB1⟩

set_option maxRecDepth 100000 in
theorem lifted (os : Os) (started : os.Started) (H : Type) (enc : TypeId × Value → H) :
    ReturnsInHanded {} Tryd.checked os 4 .any (fun w args => (Rows.asciiRawsSpec.pre enc Tryd.prog Tryd.f4 Rows.asciiRawsRow.domain false w args ∧ laidMetH Tryd.prog Rows.asciiRawsRow.laid w) ∧ sizedMet enc Tryd.prog Tryd.f4 (OpenSpec.ofChange Rows.asciiRawsSpec) false w args) (Rows.asciiRawsSpec.post enc Tryd.prog Tryd.f4 false true false false) := by
  refine returnsInHanded_of_change_and (C := Tryd.checked) (X := fun w _ => laidMetH Tryd.prog Rows.asciiRawsRow.laid w) (fun _ _ _ hh h => h.of_heap hh) own started (by kernel_rfl) Tryd.func4
    (ChangeSpec.witness_shaped (enc := enc) (C := Tryd.checked) (os := os) (X := fun w _ => laidMetH Tryd.prog Rows.asciiRawsRow.laid w) false (World.laidAll Tryd.prog os Rows.asciiRawsRow.laid) #[.agg #[.int .i64 0, .slice none 0 0, .slice none 0 0, .slice none 0 0, .slice none 0 0, .slice none 0 0]] 12 (World.laidAll_os _ _ _)
      (World.shaped_of_ZipB (by kernel_rfl) (by kernel_rfl)) (by kernel_rfl) (by kernel_rfl) (by kernel_rfl)
      (by rw [MakeChecks.laidMetH_plain _ _ _ (by kernel_rfl)]; exact laidMet_laidAll _ (by kernel_rfl) (by kernel_rfl))) ?_
  intro W base args ds gs before hval0 hW hcnd _ hL _
  have hval : ∀ (j : Nat) t v, Tryd.f4.params[j]? = some t → args[j]? = some v → Value.okWide Tryd.prog W .any base t v := hval0
  have hW' := hW
  have hlt : ∀ x ∈ before, x.block < W.heap.size := fun x hx => by simpa using hW'.lt x hx
  obtain ⟨p, q, hA0, hV, rfl, hfz, hnd⟩ := hW
  have hA : DataW.TrodAll enc Tryd.prog W 0 (fun _ => true) true Tryd.f4.params.toList args.toList ds p := hA0
  rw [Tryd.params4] at hA hval
  obtain ⟨v0, vs0, d0, ds0, b0, q0, hargs, rfl, rfl, h0, r0⟩ := trodAll_cons hA
  obtain ⟨rfl, rfl, rfl⟩ := trodAll_nil r0
  obtain rfl : args = #[v0] := by cases args; simp_all
  obtain ⟨rfl, rfl⟩ := trodVars_none hV
  obtain ⟨c0, p0, rfl, hm0, hN0, hv0, hC0⟩ := open_raw (hval 0 27 v0 rfl rfl) h0
  have hlo : laidOutB Tryd.prog = true := by kernel_rfl
  clear hA0 hval0
  simp only [List.append_nil] at hW' hlt
  refine (walk c0 p0 W hm0 hN0 hv0 hC0 (tab_of_laid hL)).mono fun e W' ⟨he, hb⟩ => ?_
  subst he
  have hback := (trodAll_cons_mk (arg_back (W' := W') hlo (by kernel_rfl) (of_decide_eq_true (by kernel_rfl)) h0 hb (fun x hx => hlt x (by simp [hx]))) trodAll_mk0)
  simp only [List.append_nil, List.nil_append] at hback
  exact ⟨_, rfl, law_post hW' (trodAll_cons_mk (shut_bool Tryd.underlying4 _) trodAll_mk0) hback rfl hb⟩

theorem over : Rows.asciiRawsRow.holds Tryd.pinned (OpenSpec.ofChange Rows.asciiRawsSpec) :=
  OpenClaim.holds_of_wide 4 Tryd.f4 rfl rfl rfl rfl rfl rfl rfl ⟨rfl, rfl, rfl, rfl, rfl⟩ rfl rfl rfl rfl rfl (by kernel_rfl) Tryd.func4 (by kernel_rfl)
    (of_decide_eq_true (by kernel_rfl)) (by unfold Func.isWrapper; first | (rw [if_pos (by decide +kernel)]; kernel_rfl) | (rw [if_neg (by decide +kernel)]; exact ⟨rfl, rfl⟩))
    (fun os started H enc _ => lifted os started H enc)

theorem proved : Rows.AsciiRawsCardSaid :=
  Claim7.holds_tied_plain_at .later [] [.data, .data, .data] true (true, "ab68182b2c92bb541f92756573780a25648848fc1fdf43171e6b4a4bf608f501") false over (fun _ h => by cases h) (by kernel_rfl) (fun _ h => by cases h) asciiRaws_row_tie rfl ⟨rfl, rfl⟩ (by kernel_rfl) rfl
    (fun f fn hf hfn => by
      obtain rfl : f = 4 := Option.some.inj ((show Tryd.prog.funcNamed "spiritlevel/spiritlevellaw07.AsciiRaws" = some 4 by kernel_rfl).symm.trans hf) |>.symm
      obtain rfl : fn = Tryd.f4 := (Option.some.inj (Tryd.func4.symm.trans hfn)).symm
      exact ⟨by kernel_rfl, fun j t ht => by
        rw [Tryd.params4] at ht
        have hm : t ∈ [27] := by simpa using Array.mem_of_getElem? ht
        have hall : ([27].all fun u => !Tryd.prog.wantsStandIn u) = true := by kernel_rfl
        exact (show Tryd.prog.wantsStandIn t = false by simpa using List.all_eq_true.1 hall t hm)⟩)
    (by kernel_rfl)
end Go.Proofs.YtmholdmcmbbdgaaDoor.asciiRaws
