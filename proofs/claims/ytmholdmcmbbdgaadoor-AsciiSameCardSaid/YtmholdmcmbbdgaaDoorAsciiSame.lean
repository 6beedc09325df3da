/- For all circuits that are not great: the text is that of the raw circuit, or both have the same error. No conditions. -/
import Derived.Test.YtmholdmcmbbdgaaDoorCards
import Derived.Test.YtmholdmcmbbdgaaDoorTie
import Derived.Test.YtmholdmcmbbdgaaDoorAsciiKit
import Derived.Test.YtmholdmcmbbdgaaDoorOrderFrame
import Derived.ProofKit
import Derived.OpenShut
import Derived.LaidMore
import Derived.Lay
import Derived.LaidSub
import Derived.SevenTiedAt
import Derived.Stop.Joined
import Derived.Lib.LaidTab
namespace Go.Proofs.YtmholdmcmbbdgaaDoor.asciiSame
open Go.ChangeShapes Go.WideShapes Go.ChangeAt Go.RowKit
set_option linter.unusedVariables false
set_option linter.unusedSimpArgs false

theorem tab_of_laid {W : World} (h : laidMetH Tryd.prog Rows.asciiSameRow.laid W) : Tab W.heap.size W := by
  rw [MakeChecks.laidMetH_plain _ _ _ (by kernel_rfl)] at h
  have h2 : laidMet Tryd.prog [("internal/strconv.uint64pow10", Lib.tabData .u64 Lib.pow10Tab)] W := by
    have h3 := h.filter fun x => x.1 == "internal/strconv.uint64pow10"
    have e : (Rows.asciiSameRow.laid.filter fun x => x.1 == "internal/strconv.uint64pow10") = [("internal/strconv.uint64pow10", Lib.tabData .u64 Lib.pow10Tab)] := by kernel_rfl
    rwa [e] at h3
  exact Lib.tabBelow_of_tabIs (Lib.tabIs_of_head (show Tryd.prog.globalNamed "internal/strconv.uint64pow10" = some 0 by kernel_rfl) (by kernel_rfl) Tryd.underlying103 Tryd.underlying83 (by kernel_rfl) (by kernel_rfl) h2)


theorem own : ownKnob Tryd.prog.godebug = none := by kernel_rfl

set_option maxRecDepth 100000 in
set_option maxHeartbeats 4000000 in
theorem walk (c0 : Cr) (p0 : Pl) (w : World) (hm0 : Mem w w.heap.size c0 p0) (hN0 : Nils c0 p0) (hv0 : Vals c0) (hC0 : Caps c0 p0) (htab : Tab w.heap.size w) :
    Calls Tryd.prog 7 #[cv c0 p0] w fun e w' => e = .returned (.bool true) ∧ Below w.heap.size w w' := by
  have HT := Lib.hid htab
  clear htab
  have AL : Hid (∀ W, Below w.heap.size w W → Calls Tryd.prog 12 #[] W fun e w' => e = .returned (.bool true) ∧ Below W.heap.size W w') := fun W hb => alive7_any W (Tab.up (HT.out.on hb) hb.size)
  cases hg : c0.gr
  · have hgr := Cr.gr_no hg
    have hs : Sm c0 := hv0.sm (by omega) (by omega) (by omega) (by omega)
    have HA0 : Hid (∀ W, Below w.heap.size w W → Calls Tryd.prog 11 #[cv c0 p0] W (TextIs c0 W)) := fun W hb => aText_any c0 p0 W (hm0.to hb hb.size) hs hN0 (Tab.up (HT.out.on hb) hb.size)
    have HSM := Lib.hid hs
    clear hgr hs
    cases h : (c0.chk == 0)
    · have h' : (c0.chk != 0) = true := by simp [bne, h]
      have HO : Hid (∀ W, Below w.heap.size w W → Calls Tryd.prog 20 #[cv c0 p0] W fun e w' => e = .returned (.tuple #[.agg #[.int .i64 0, .slice none 0 0, .slice none 0 0, .slice none 0 0, .slice none 0 0, .slice none 0 0], .int .i64 c0.chk]) ∧ Below W.heap.size W w') := fun W hb => oRaw_no c0 p0 W (hm0.to hb hb.size) HSM.out h
      have HI : Hid (∀ W e w', TextIs c0 W e w' → e = .returned (.tuple #[.string ⟨#[]⟩, .int .i64 c0.chk]) ∧ Below W.heap.size W w') := fun W e w' hx => by unfold TextIs at hx; rw [(tE_no h).1, (tE_no h).2] at hx; exact hx
      go_enter Tryd.func7, Tryd.ntmps7
      go_wp2_with (go_at_call 19; refine (rGreat_any c0 p0 _).mono ?_; rintro e w1 ⟨rfl, hb1⟩; have hB1 : Below w.heap.size w w1 := Below.step (by go_grown) (by go_size) hb1; have hA1 : Has w1 w.heap.size 37 (cc c0 p0) := (Has.new w 37 (cc c0 p0)).keep hb1 (by simp); obtain ⟨x0, x1, x2, x3, x4⟩ := hA1.box)
      go_wp2_with (go_at_call 11; refine (HA0.out _ hB1).mono ?_; intro e w2 hx2; obtain ⟨he2, hb2⟩ := HI.out _ _ _ hx2; subst he2; have hB2 := Below.step hB1 hB1.size hb2; have hA2 : Has w2 w.heap.size 37 (cc c0 p0) := hA1.keep hb2 hA1.lt; obtain ⟨x0, x1, x2, x3, x4⟩ := hA2.box)
      go_wp2_with (go_at_call 20; refine (HO.out _ hB2).mono ?_; rintro e w3 ⟨rfl, hb3⟩; have hB3 := Below.step hB2 hB2.size hb3)
      go_wp2_with (go_at_call 12; refine (AL.out _ (hB3.alloc hB3.size _)).mono ?_; rintro e w4 ⟨rfl, hb4⟩; have hB4 := Below.step (hB3.alloc hB3.size _) (hB3.alloc hB3.size _).size hb4)
      go_ret
      exact ⟨by simp, hB4⟩
    · have h' : (c0.chk != 0) = false := by simp [bne, h]
      have hk0 : c0.chk = 0 := by simpa using h
      have HK := Lib.hid (raw_chk hk0)
      have HRS := Lib.hid (raw_sm HSM.out h)
      obtain ⟨S, hS⟩ : ∃ S, S = str c0.raw.txt := ⟨_, rfl⟩
      have HI : Hid (∀ W e w', TextIs c0 W e w' → e = .returned (.tuple #[.string S, .int .i64 0]) ∧ Below W.heap.size W w') := fun W e w' hx => by
        unfold TextIs at hx
        rw [(tE_yes h).1, (tE_yes h).2, HK.out] at hx
        rw [hS]
        have e1 : c0.raw.txtE = c0.raw.txt := by unfold Rw.txtE; rw [if_pos HK.out]
        rw [e1] at hx
        exact hx
      have HR : Hid (∀ W p, Below w.heap.size w W → RMem W W.heap.size c0.raw p → RNils c0.raw p → Calls Tryd.prog 9 #[rv c0.raw p] W fun e w' => e = .returned (.tuple #[.string S, .int .i64 0]) ∧ Below W.heap.size W w') := fun W p hb hm hn => by
        rw [hS]
        exact aRaw_yes c0.raw p W HK.out HRS.out hm hn (Tab.up (HT.out.on hb) hb.size)
      clear hk0 hS
      go_enter Tryd.func7, Tryd.ntmps7
      go_wp2_with (go_at_call 19; refine (rGreat_any c0 p0 _).mono ?_; rintro e w1 ⟨rfl, hb1⟩; have hB1 : Below w.heap.size w w1 := Below.step (by go_grown) (by go_size) hb1; have hA1 : Has w1 w.heap.size 37 (cc c0 p0) := (Has.new w 37 (cc c0 p0)).keep hb1 (by simp); obtain ⟨x0, x1, x2, x3, x4⟩ := hA1.box)
      go_wp2_with (go_at_call 11; refine (HA0.out _ hB1).mono ?_; intro e w2 hx2; obtain ⟨he2, hb2⟩ := HI.out _ _ _ hx2; subst he2; have hB2 := Below.step hB1 hB1.size hb2; have hA2 : Has w2 w.heap.size 37 (cc c0 p0) := hA1.keep hb2 hA1.lt; obtain ⟨x0, x1, x2, x3, x4⟩ := hA2.box)
      go_wp2_with (go_at_call 20; refine (oRaw_yes c0 p0 _ (hm0.to hB2 hB2.size) HSM.out hN0 h).mono ?_; rintro e w3 ⟨⟨A1, A2, A3, A4, A5, k1, k2, k3, k4, k5⟩, rfl, hr3, hn3, hb3⟩; have hB3 := Below.step hB2 hB2.size hb3)
      go_wp2_with (go_at_call 9; (with_reducible refine (HR.out _ ⟨A1, A2, A3, A4, A5, k1, k2, k3, k4, k5⟩ (hB3.alloc hB3.size _) (hr3.to ((Below.refl _ _).alloc (Nat.le_refl _) _) (by simp)) hn3).mono ?_); rintro e w4 ⟨rfl, hb4⟩; have hB4 := Below.step (hB3.alloc hB3.size _) (hB3.alloc hB3.size _).size hb4)
      go_wp2_with (go_at_call 12; refine (AL.out _ hB4).mono ?_; rintro e w5 ⟨rfl, hb5⟩; have hB5 := Below.step hB4 hB4.size hb5)
      go_ret
      exact ⟨by simp, hB5⟩
  · go_enter Tryd.func7, Tryd.ntmps7
    go_wp2_with (go_at_call 19; refine (rGreat_any c0 p0 _).mono ?_; rintro e w1 ⟨rfl, hb1⟩; have hB1 : Below w.heap.size w w1 := Below.step (by go_grown) (by go_size) hb1; have hA1 : Has w1 w.heap.size 37 (cc c0 p0) := (Has.new w 37 (cc c0 p0)).keep hb1 (by simp); obtain ⟨x0, x1, x2, x3, x4⟩ := hA1.box)
    go_wp2_with (go_at_call 12; refine (AL.out _ hB1).mono ?_; rintro e w2 ⟨rfl, hb2⟩; have hB2 := Below.step hB1 hB1.size hb2)
    go_ret
    exact ⟨rfl, hB2⟩

set_option maxRecDepth 100000 in
theorem lifted (os : Os) (started : os.Started) (H : Type) (enc : TypeId × Value → H) :
    ReturnsInHanded {} Tryd.checked os 7 .any (fun w args => (Rows.asciiSameSpec.pre enc Tryd.prog Tryd.f7 Rows.asciiSameRow.domain false w args ∧ laidMetH Tryd.prog Rows.asciiSameRow.laid w) ∧ sizedMet enc Tryd.prog Tryd.f7 (OpenSpec.ofChange Rows.asciiSameSpec) false w args) (Rows.asciiSameSpec.post enc Tryd.prog Tryd.f7 false true false false) := by
  refine returnsInHanded_of_change_and (C := Tryd.checked) (X := fun w _ => laidMetH Tryd.prog Rows.asciiSameRow.laid w) (fun _ _ _ hh h => h.of_heap hh) own started (by kernel_rfl) Tryd.func7
    (ChangeSpec.witness_shaped (enc := enc) (C := Tryd.checked) (os := os) (X := fun w _ => laidMetH Tryd.prog Rows.asciiSameRow.laid w) false (World.laidAll Tryd.prog os Rows.asciiSameRow.laid) #[.agg #[.int .i64 0, .slice none 0 0, .slice none 0 0, .slice none 0 0, .slice none 0 0]] 12 (World.laidAll_os _ _ _)
      (World.shaped_of_ZipB (by kernel_rfl) (by kernel_rfl)) (by kernel_rfl) (by kernel_rfl) (by kernel_rfl)
      (by rw [MakeChecks.laidMetH_plain _ _ _ (by kernel_rfl)]; exact laidMet_laidAll _ (by kernel_rfl) (by kernel_rfl))) ?_
  intro W base args ds gs before hval0 hW hcnd _ hL _
  have hval : ∀ (j : Nat) t v, Tryd.f7.params[j]? = some t → args[j]? = some v → Value.okWide Tryd.prog W .any base t v := hval0
  have hW' := hW
  have hlt : ∀ x ∈ before, x.block < W.heap.size := fun x hx => by simpa using hW'.lt x hx
  obtain ⟨p, q, hA0, hV, rfl, hfz, hnd⟩ := hW
  have hA : DataW.TrodAll enc Tryd.prog W 0 (fun _ => true) true Tryd.f7.params.toList args.toList ds p := hA0
  rw [Tryd.params7] at hA hval
  obtain ⟨v0, vs0, d0, ds0, b0, q0, hargs, rfl, rfl, h0, r0⟩ := trodAll_cons hA
  obtain ⟨rfl, rfl, rfl⟩ := trodAll_nil r0
  obtain rfl : args = #[v0] := by cases args; simp_all
  obtain ⟨rfl, rfl⟩ := trodVars_none hV
  obtain ⟨c0, p0, rfl, hm0, hN0, hv0, hC0⟩ := open_circ (hval 0 37 v0 rfl rfl) h0
  have hlo : laidOutB Tryd.prog = true := by kernel_rfl
  clear hA0 hval0
  simp only [List.append_nil] at hW' hlt
  refine (walk c0 p0 W hm0 hN0 hv0 hC0 (tab_of_laid hL)).mono fun e W' ⟨he, hb⟩ => ?_
  subst he
  have hback := (trodAll_cons_mk (arg_back (W' := W') hlo (by kernel_rfl) (of_decide_eq_true (by kernel_rfl)) h0 hb (fun x hx => hlt x (by simp [hx]))) trodAll_mk0)
  simp only [List.append_nil, List.nil_append] at hback
  exact ⟨_, rfl, law_post hW' (trodAll_cons_mk (shut_bool Tryd.underlying4 _) trodAll_mk0) hback rfl hb⟩

theorem over : Rows.asciiSameRow.holds Tryd.pinned (OpenSpec.ofChange Rows.asciiSameSpec) :=
  OpenClaim.holds_of_wide 7 Tryd.f7 rfl rfl rfl rfl rfl rfl rfl ⟨rfl, rfl, rfl, rfl, rfl⟩ rfl rfl rfl rfl rfl (by kernel_rfl) Tryd.func7 (by kernel_rfl)
    (of_decide_eq_true (by kernel_rfl)) (by unfold Func.isWrapper; first | (rw [if_pos (by decide +kernel)]; kernel_rfl) | (rw [if_neg (by decide +kernel)]; exact ⟨rfl, rfl⟩))
    (fun os started H enc _ => lifted os started H enc)

theorem proved : Rows.AsciiSameCardSaid :=
  Claim7.holds_tied_plain_at .later [] [.data, .data, .data] true (true, "ab68182b2c92bb541f92756573780a25648848fc1fdf43171e6b4a4bf608f501") false over (fun _ h => by cases h) (by kernel_rfl) (fun _ h => by cases h) asciiSame_row_tie rfl ⟨rfl, rfl⟩ (by kernel_rfl) rfl
    (fun f fn hf hfn => by
      obtain rfl : f = 7 := Option.some.inj ((show Tryd.prog.funcNamed "spiritlevel/spiritlevellaw07.AsciiSame" = some 7 by kernel_rfl).symm.trans hf) |>.symm
      obtain rfl : fn = Tryd.f7 := (Option.some.inj (Tryd.func7.symm.trans hfn)).symm
      exact ⟨by kernel_rfl, fun j t ht => by
        rw [Tryd.params7] at ht
        have hm : t ∈ [37] := by simpa using Array.mem_of_getElem? ht
        have hall : ([37].all fun u => !Tryd.prog.wantsStandIn u) = true := by kernel_rfl
        exact (show Tryd.prog.wantsStandIn t = false by simpa using List.all_eq_true.1 hall t hm)⟩)
    (by kernel_rfl)
end Go.Proofs.YtmholdmcmbbdgaaDoor.asciiSame
