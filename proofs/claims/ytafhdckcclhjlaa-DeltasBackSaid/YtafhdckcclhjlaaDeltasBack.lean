/- For a variable, gates that are right, bytes behind and a number: what is packed is unpacked, whatever stands behind it, and the gates' two parts have the two parts of the bytes. No conditions. -/
import Derived.Test.YtafhdckcclhjlaaDeltaKit3
import Derived.Test.YtafhdckcclhjlaaGatesFrame
namespace Go.Proofs.Ytafhdckcclhjlaa.deltasBack
open Go.ChangeShapes Go.WideShapes Go.ChangeAt Go.RowKit
set_option linter.unusedVariables false
set_option linter.unusedSimpArgs false


theorem own : ownKnob Try.prog.godebug = none := by kernel_rfl

set_option maxRecDepth 100000 in
set_option maxHeartbeats 40000000 in
theorem walk (a0 : Int) (A1 : Option Addr) (n1 k1 : Nat) (f1 g1 : Nat → Int) (A2 : Option Addr) (l2 : List UInt8) (k2 : Nat) (a3 : Int) (w : World) (w0 : (Lit.int .i64 a0).wf = true) (hm1 : Gts w w.heap.size A1 n1 k1 f1 g1) (hK1 : n1 ≤ k1 ∧ k1 ≤ maxLen) (hm2 : Bya w w.heap.size A2 l2 k2) (w3 : (Lit.int .i64 a3).wf = true) :
    Calls Try.prog 7 #[.int .i64 a0, .slice A1 n1 k1, .slice A2 l2.length k2, .int .i64 a3] w fun e w' => e = .returned (.bool true) ∧ Below w.heap.size w w' := by
  have AL := Lib.hid (fun W => alive9_any W)
  obtain ⟨L, hL⟩ : ∃ L, l2.length = L := ⟨_, rfl⟩
  have hcap := hK1.1
  by_cases g1a : n1 ≤ 150
  case neg =>
    rw [hL]
    clear hL
    go_enter Try.func7, Try.ntmps7
    go_wp2_with (go_at_call 16; (with_reducible refine (AL.out _).mono ?_); rintro e wz ⟨rfl, hbz⟩)
    go_ret
    exact ⟨rfl, hbz⟩
  by_cases g2 : L ≤ 100
  case neg =>
    rw [hL]
    clear hL
    go_enter Try.func7, Try.ntmps7
    go_wp2_with (go_at_call 16; (with_reducible refine (AL.out _).mono ?_); rintro e wz ⟨rfl, hbz⟩)
    go_ret
    exact ⟨rfl, hbz⟩
  have i0 := i64_of w0
  have AS := rAsked9_any i0 (show I64 (n1 : Int) by unfold I64; omega) w
  by_cases hE : asd a0 n1 = 0
  case neg =>
    obtain ⟨E, hEE⟩ : ∃ E, asd a0 n1 = E := ⟨_, rfl⟩
    rw [hEE] at AS hE
    have hi : (E != 0) = true := by simpa using hE
    have D1 := Lib.hid AS
    rw [hL]
    clear hL hE hEE AS hm1 hm2 i0
    go_enter Try.func7, Try.ntmps7
    go_wp2_with (first
      | (go_at_call 22; (with_reducible refine D1.out.mono ?_); rintro e wa ⟨rfl, rfl⟩)
      | (go_at_call 16; (with_reducible refine (AL.out _).mono ?_); rintro e wz ⟨rfl, hbz⟩))
    go_ret
    exact ⟨rfl, hbz⟩
  have ha := asd_ways a0 n1
  have hv0 : 1 ≤ a0 := by omega
  have hv1 : a0 ≤ 1000 := by omega
  have hv2 : a0 + n1 ≤ 1001 := by omega
  clear ha
  rw [hE] at AS
  have RR := right_any (v := a0) A1 n1 k1 f1 g1 w hm1 (by omega) (by omega)
  cases hR : allR a0 f1 g1 n1
  case false =>
    rw [hR] at RR
    have D1 := Lib.hid AS
    have D2 := Lib.hid RR
    rw [hL]
    clear hL hE AS RR hR hm1 hm2 i0
    go_enter Try.func7, Try.ntmps7
    go_wp2_with (first
      | (go_at_call 22; (with_reducible refine D1.out.mono ?_); rintro e wa ⟨rfl, rfl⟩)
      | (go_at_call 23; (with_reducible refine D2.out.mono ?_); rintro e wb ⟨rfl, hbb⟩)
      | (go_at_call 16; (with_reducible refine (AL.out wb).mono ?_); rintro e wz ⟨rfl, hbz⟩))
    go_ret
    exact ⟨rfl, Below.step hbb hbb.size hbz⟩
  rw [hR] at RR
  obtain ⟨pE, pL, pl, uE, uN, uS, uG⟩ := un_pk hE hR l2
  have HPP := Lib.hid (fun c (hc : c < n1) => pk_parts hE hR hc)
  have HM1 := Lib.hid hm1
  have HB := Lib.hid hm2
  have HI0 := Lib.hid i0
  have C1 := fun (W : World) (hW : Below w.heap.size w W) => dPack_any HI0.out A1 n1 k1 f1 g1 W (HM1.out.to hW hW.size) (by omega)
  unfold ByErr at C1
  rw [pE, pL] at C1
  have HC3 : Hid (∀ (W : World) A k B, PairsAt W B A n1 (unA a0 n1 (pk a0 f1 g1 n1 ++ l2)) (unB a0 n1 (pk a0 f1 g1 n1 ++ l2)) → Below w.heap.size w W → Calls Try.prog 15 #[.slice A n1 k, .slice A1 n1 k1] W fun e w' => e = .returned (.bool true) ∧ Below W.heap.size W w') := Lib.hid fun W A k B h hW => same9_yes A A1 n1 k k1 f1 g1 B W.heap.size W (by omega) (h.congr uG) (HM1.out.to hW hW.size).h
  have C2 := fun (W : World) A k (h : Bya W W.heap.size A ([] ++ pk a0 f1 g1 n1 ++ l2) k) => dUnpack_any HI0.out (show I64 (n1 : Int) by unfold I64; omega) A ([] ++ pk a0 f1 g1 n1 ++ l2) k W h (by rw [List.nil_append, List.length_append]; omega)
  have eL : ([] ++ pk a0 f1 g1 n1 ++ l2 : List UInt8) = pk a0 f1 g1 n1 ++ l2 := by rw [List.nil_append]
  unfold GsErr at C2
  rw [show unE a0 n1 ([] ++ pk a0 f1 g1 n1 ++ l2) = 0 from by rw [eL]; exact uE, show unN a0 n1 ([] ++ pk a0 f1 g1 n1 ++ l2) = n1 from by rw [eL]; exact uN, show unS a0 n1 ([] ++ pk a0 f1 g1 n1 ++ l2) = (pk a0 f1 g1 n1).length from by rw [eL]; exact uS, show unA a0 n1 ([] ++ pk a0 f1 g1 n1 ++ l2) = unA a0 n1 (pk a0 f1 g1 n1 ++ l2) from by rw [eL], show unB a0 n1 ([] ++ pk a0 f1 g1 n1 ++ l2) = unB a0 n1 (pk a0 f1 g1 n1 ++ l2) from by rw [eL]] at C2
  obtain ⟨UA, hUA⟩ : ∃ u, unA a0 n1 (pk a0 f1 g1 n1 ++ l2) = u := ⟨_, rfl⟩
  obtain ⟨UB, hUB⟩ : ∃ u, unB a0 n1 (pk a0 f1 g1 n1 ++ l2) = u := ⟨_, rfl⟩
  rw [hUA, hUB] at C2 HC3
  obtain ⟨x, hx⟩ : ∃ x, pk a0 f1 g1 n1 = x := ⟨_, rfl⟩
  rw [hx] at C1 C2 pl HPP
  obtain ⟨Z, hZ⟩ : ∃ Z, ([] ++ x ++ l2).length = Z := ⟨_, rfl⟩
  rw [hZ] at C2
  obtain ⟨M, hM⟩ : ∃ M, x.length = M := ⟨_, rfl⟩
  rw [hM] at C1 C2 pl
  have HM := Lib.hid hM
  have HZ := Lib.hid hZ
  have HL := Lib.hid hL
  have HM5 : Hid (List.length (α := UInt8) [] + x.length ≤ 1000000) := Lib.hid (by rw [hM]; simp; omega)
  have HM6 : Hid (([] ++ x).length + l2.length ≤ 1000000) := Lib.hid (by rw [List.nil_append, hM, hL]; omega)
  have D1 := Lib.hid C1
  have D2 := Lib.hid C2
  have DA := Lib.hid AS
  have DR := Lib.hid RR
  rw [hL]
  clear C1 C2 AS RR hx hZ hM hL hUA hUB uE uN uS uG pE pL eL hE hR i0 hm1 hm2 hK1 w0
  by_cases hc0 : a3 < 0
  · clear HPP HM1
    go_enter Try.func7, Try.ntmps7
    go_wp2_with (first
      | (go_at_call 22; (with_reducible refine DA.out.mono ?_); rintro e w0 ⟨rfl, rfl⟩)
      | (go_at_call 23; (with_reducible refine DR.out.mono ?_); rintro e wr ⟨rfl, hbr⟩)
      | (go_at_call 13; (with_reducible refine (D1.out wr hbr).mono ?_); rintro e wa ⟨Aa, ka, rfl, hya, hba, _⟩; have hBa : Below w.heap.size w wa := Below.step hbr hbr.size hba; have hBl : Below w.heap.size w (wa.alloc (.cells #[] 5)) := hBa.alloc hBa.size _; have sx := (hya.to ((Below.refl _ _).alloc (Nat.le_refl _) (.cells #[] 5)) (by simp)).src; have hOe := Byo.empty (B := wa.heap.size) wa (Nat.le_refl _); have hAl : Below wa.heap.size wa (wa.alloc (.cells #[] 5)) := (Below.refl _ _).alloc (Nat.le_refl _) _)
      | (at_builtin; refine by_append rfl _ _ rfl wa.heap.size _ [] rfl hOe Aa M ka x rfl HM.out.symm sx HM5.out hAl.size ?_; intro v1 w1 ho1 hg1; have hA1 : Below wa.heap.size wa w1 := hAl.trans (hg1.below hOe hAl.size); have hB1 : Below w.heap.size w w1 := Below.step hBa hBa.size hA1; have sb := (HB.out.to hB1 hB1.size).src)
      | (at_builtin; refine by_append rfl _ _ rfl wa.heap.size v1 ([] ++ x) rfl ho1 A2 L k2 l2 rfl HL.out.symm sb HM6.out hA1.size ?_; intro v2 w2 ho2 hg2; have hA2 : Below wa.heap.size wa w2 := hA1.trans (hg2.below ho1 hA1.size); obtain ⟨A5, k5, hv2, hy2⟩ := ho2.at; rw [HZ.out] at hv2; subst hv2)
      | (go_at_call 14; (with_reducible refine (D2.out w2 A5 k5 hy2).mono ?_); rintro e wb ⟨Ab, kb, rfl, hyb, hbb⟩; have hAb : Below wa.heap.size wa wb := Below.step hA2 hA2.size hbb; have hBb : Below w.heap.size w wb := Below.step hBa hBa.size hAb)
      | (go_at_call 15; (with_reducible refine (HC3.out wb Ab kb _ hyb.h hBb).mono ?_); rintro e wc ⟨rfl, hbc⟩; have hBac : Below wa.heap.size wa wc := Below.step hAb hAb.size hbc; have hBc : Below w.heap.size w wc := Below.step hBa hBa.size hBac)
      | (go_at_call 16; (with_reducible refine (AL.out wc).mono ?_); rintro e wz ⟨rfl, hbz⟩))
    go_ret
    exact ⟨rfl, Below.step hBc hBc.size hbz⟩
  by_cases hc1 : (n1 : Int) ≤ a3
  · clear HPP HM1
    go_enter Try.func7, Try.ntmps7
    go_wp2_with (first
      | (go_at_call 22; (with_reducible refine DA.out.mono ?_); rintro e w0 ⟨rfl, rfl⟩)
      | (go_at_call 23; (with_reducible refine DR.out.mono ?_); rintro e wr ⟨rfl, hbr⟩)
      | (go_at_call 13; (with_reducible refine (D1.out wr hbr).mono ?_); rintro e wa ⟨Aa, ka, rfl, hya, hba, _⟩; have hBa : Below w.heap.size w wa := Below.step hbr hbr.size hba; have hBl : Below w.heap.size w (wa.alloc (.cells #[] 5)) := hBa.alloc hBa.size _; have sx := (hya.to ((Below.refl _ _).alloc (Nat.le_refl _) (.cells #[] 5)) (by simp)).src; have hOe := Byo.empty (B := wa.heap.size) wa (Nat.le_refl _); have hAl : Below wa.heap.size wa (wa.alloc (.cells #[] 5)) := (Below.refl _ _).alloc (Nat.le_refl _) _)
      | (at_builtin; refine by_append rfl _ _ rfl wa.heap.size _ [] rfl hOe Aa M ka x rfl HM.out.symm sx HM5.out hAl.size ?_; intro v1 w1 ho1 hg1; have hA1 : Below wa.heap.size wa w1 := hAl.trans (hg1.below hOe hAl.size); have hB1 : Below w.heap.size w w1 := Below.step hBa hBa.size hA1; have sb := (HB.out.to hB1 hB1.size).src)
      | (at_builtin; refine by_append rfl _ _ rfl wa.heap.size v1 ([] ++ x) rfl ho1 A2 L k2 l2 rfl HL.out.symm sb HM6.out hA1.size ?_; intro v2 w2 ho2 hg2; have hA2 : Below wa.heap.size wa w2 := hA1.trans (hg2.below ho1 hA1.size); obtain ⟨A5, k5, hv2, hy2⟩ := ho2.at; rw [HZ.out] at hv2; subst hv2)
      | (go_at_call 14; (with_reducible refine (D2.out w2 A5 k5 hy2).mono ?_); rintro e wb ⟨Ab, kb, rfl, hyb, hbb⟩; have hAb : Below wa.heap.size wa wb := Below.step hA2 hA2.size hbb; have hBb : Below w.heap.size w wb := Below.step hBa hBa.size hAb)
      | (go_at_call 15; (with_reducible refine (HC3.out wb Ab kb _ hyb.h hBb).mono ?_); rintro e wc ⟨rfl, hbc⟩; have hBac : Below wa.heap.size wa wc := Below.step hAb hAb.size hbc; have hBc : Below w.heap.size w wc := Below.step hBa hBa.size hBac)
      | (go_at_call 16; (with_reducible refine (AL.out wc).mono ?_); rintro e wz ⟨rfl, hbz⟩))
    go_ret
    exact ⟨rfl, Below.step hBc hBc.size hbz⟩
  obtain ⟨c, rfl⟩ : ∃ c : Nat, a3 = c := ⟨a3.toNat, by omega⟩
  have hcn : c < n1 := by omega
  obtain ⟨q1, q2, q3, q4, q5⟩ := HPP.out c hcn
  obtain ⟨Au, hsu, hGu⟩ := HM1.out.upto hcap c (by omega)
  obtain ⟨Af, kf, hsf, hGf⟩ := HM1.out.from hcap c (by omega)
  have C4 := fun (W : World) (hW : Below w.heap.size w W) => dPack_any HI0.out Au c k1 f1 g1 W (hGu.to hW hW.size) (by omega)
  have C5 := fun (W : World) (hW : Below w.heap.size w W) => dPack_any (v := a0 + c) (by unfold I64; omega) Af (n1 - c) kf _ _ W (hGf.to hW hW.size) (by omega)
  unfold ByErr at C4 C5
  rw [q1, q2] at C4
  rw [q3, q4] at C5
  obtain ⟨y1, hy1⟩ : ∃ y, pk a0 f1 g1 c = y := ⟨_, rfl⟩
  obtain ⟨y2, hy2⟩ : ∃ y, pk (a0 + c) (fun j => f1 (c + j)) (fun j => g1 (c + j)) (n1 - c) = y := ⟨_, rfl⟩
  rw [hy1] at C4 q5
  rw [hy2] at C5 q5
  obtain ⟨M1, hM1⟩ : ∃ M, y1.length = M := ⟨_, rfl⟩
  obtain ⟨M2, hM2⟩ : ∃ M, y2.length = M := ⟨_, rfl⟩
  obtain ⟨S, hS⟩ : ∃ S, bstr x = S := ⟨_, rfl⟩
  obtain ⟨S1, hS1⟩ : ∃ S, bstr y1 = S := ⟨_, rfl⟩
  obtain ⟨S2, hS2⟩ : ∃ S, bstr y2 = S := ⟨_, rfl⟩
  have hadd : ∀ W, (Op.stringOp .add S1 S2).run Try.prog W = .ok (.string S) W := fun W => by
    have h : y1.length + y2.length ≤ 10000000 := by have := congrArg List.length q5; rw [List.length_append, HM.out] at this; omega
    have := bstr_add h W
    rwa [hS1, hS2, ← q5, hS] at this
  have HS : Hid (∀ w1 W A k, Bya w1 w1.heap.size A x k → Below w1.heap.size w1 W → (convert 25 9 (.slice A M k)).run Try.prog W = .ok (.string S) W) := Lib.hid fun w1 W A k hy hb => by rw [← HM.out]; exact hy.s hb hS
  have HS1 : Hid (∀ w1 W A k, Bya w1 w1.heap.size A y1 k → Below w1.heap.size w1 W → (convert 25 9 (.slice A M1 k)).run Try.prog W = .ok (.string S1) W) := Lib.hid fun w1 W A k hy hb => by rw [← hM1]; exact hy.s hb hS1
  have HS2 : Hid (∀ w1 W A k, Bya w1 w1.heap.size A y2 k → Below w1.heap.size w1 W → (convert 25 9 (.slice A M2 k)).run Try.prog W = .ok (.string S2) W) := Lib.hid fun w1 W A k hy hb => by rw [← hM2]; exact hy.s hb hS2
  rw [hM1] at C4
  rw [hM2] at C5
  have D4 := Lib.hid C4
  have D5 := Lib.hid C5
  clear C4 C5 q1 q2 q3 q4 q5 hy1 hy2 hM1 hM2 hS hS1 hS2 hGu hGf HPP HM1
  go_enter Try.func7, Try.ntmps7
  go_wp2_with (first
    | (go_at_call 22; (with_reducible refine DA.out.mono ?_); rintro e w0 ⟨rfl, rfl⟩)
    | (go_at_call 23; (with_reducible refine DR.out.mono ?_); rintro e wr ⟨rfl, hbr⟩)
    | (go_at_call 13; (with_reducible refine (D1.out wr hbr).mono ?_); rintro e wa ⟨Aa, ka, rfl, hya, hba, _⟩; have hBa : Below w.heap.size w wa := Below.step hbr hbr.size hba; have hBl : Below w.heap.size w (wa.alloc (.cells #[] 5)) := hBa.alloc hBa.size _; have sx := (hya.to ((Below.refl _ _).alloc (Nat.le_refl _) (.cells #[] 5)) (by simp)).src; have hOe := Byo.empty (B := wa.heap.size) wa (Nat.le_refl _); have hAl : Below wa.heap.size wa (wa.alloc (.cells #[] 5)) := (Below.refl _ _).alloc (Nat.le_refl _) _)
    | (at_builtin; refine by_append rfl _ _ rfl wa.heap.size _ [] rfl hOe Aa M ka x rfl HM.out.symm sx HM5.out hAl.size ?_; intro v1 w1 ho1 hg1; have hA1 : Below wa.heap.size wa w1 := hAl.trans (hg1.below hOe hAl.size); have hB1 : Below w.heap.size w w1 := Below.step hBa hBa.size hA1; have sb := (HB.out.to hB1 hB1.size).src)
    | (at_builtin; refine by_append rfl _ _ rfl wa.heap.size v1 ([] ++ x) rfl ho1 A2 L k2 l2 rfl HL.out.symm sb HM6.out hA1.size ?_; intro v2 w2 ho2 hg2; have hA2 : Below wa.heap.size wa w2 := hA1.trans (hg2.below ho1 hA1.size); obtain ⟨A5, k5, hv2, hy2⟩ := ho2.at; rw [HZ.out] at hv2; subst hv2)
    | (go_at_call 14; (with_reducible refine (D2.out w2 A5 k5 hy2).mono ?_); rintro e wb ⟨Ab, kb, rfl, hyb, hbb⟩; have hAb : Below wa.heap.size wa wb := Below.step hA2 hA2.size hbb; have hBb : Below w.heap.size w wb := Below.step hBa hBa.size hAb)
    | (go_at_call 15; (with_reducible refine (HC3.out wb Ab kb _ hyb.h hBb).mono ?_); rintro e wc ⟨rfl, hbc⟩; have hBac : Below wa.heap.size wa wc := Below.step hAb hAb.size hbc; have hBc : Below w.heap.size w wc := Below.step hBa hBa.size hBac)
    | (go_at_call 13; (with_reducible refine (D4.out wc hBc).mono ?_); rintro e wd ⟨Ad, kd, rfl, hyd, hbd, _⟩; have hBd : Below w.heap.size w wd := Below.step hBc hBc.size hbd)
    | (go_at_call 13; (with_reducible refine (D5.out wd hBd).mono ?_); rintro e we ⟨Ae, ke, rfl, hye, hbe, _⟩; have hBe : Below w.heap.size w we := Below.step hBd hBd.size hbe; have hace : Below wa.heap.size wa we := (Below.step hBac hBac.size hbd).trans (hbe.mono (Nat.le_trans hBac.size hbd.size)); have s0 := HS.out wa we Aa ka hya hace; have s1 := HS1.out wd we Ad kd hyd hbe; have s2 := HS2.out we we Ae ke hye (Below.refl _ _))
    | (go_at_call 16; (with_reducible refine (AL.out we).mono ?_); rintro e wz ⟨rfl, hbz⟩))
  go_ret
  exact ⟨by simp, Below.step hBe hBe.size hbz⟩

set_option maxRecDepth 100000 in
theorem lifted (os : Os) (started : os.Started) (H : Type) (enc : TypeId × Value → H) :
    ReturnsInHanded {} Try.checked os 7 .any (Rows.deltasBackSpec.pre6 enc Try.prog Try.f7 Rows.deltasBackRow.domain false) (Rows.deltasBackSpec.post enc Try.prog Try.f7 false true false false) := by
  refine returnsInHanded_of_change (C := Try.checked) own started (by kernel_rfl) Try.func7
    (ChangeSpec.witness6 (enc := enc) (C := Try.checked) false ⟨#[], #[.int .i64 0, .slice none 0 0, .slice none 0 0, .int .i64 0], []⟩ 12 (by kernel_rfl) (by kernel_rfl) (by kernel_rfl) (by kernel_rfl)) ?_
  intro W base args ds gs before hval0 hW hcnd _
  have hval : ∀ (j : Nat) t v, Try.f7.params[j]? = some t → args[j]? = some v → Value.okWide Try.prog W .any base t v := hval0
  have hW' := hW
  have hlt : ∀ x ∈ before, x.block < W.heap.size := fun x hx => by simpa using hW'.lt x hx
  obtain ⟨p, q, hA0, hV, rfl, hfz, hnd⟩ := hW
  have hA : DataW.TrodAll enc Try.prog W 0 (fun _ => true) true Try.f7.params.toList args.toList ds p := hA0
  rw [Try.params7] at hA hval
  obtain ⟨v0, vs0, d0, ds0, b0, q0, hargs, rfl, rfl, h0, r0⟩ := trodAll_cons hA
  obtain ⟨v1, vs1, d1, ds1, b1, q1, rfl, rfl, rfl, h1, r1⟩ := trodAll_cons r0
  obtain ⟨v2, vs2, d2, ds2, b2, q2, rfl, rfl, rfl, h2, r2⟩ := trodAll_cons r1
  obtain ⟨v3, vs3, d3, ds3, b3, q3, rfl, rfl, rfl, h3, r3⟩ := trodAll_cons r2
  obtain ⟨rfl, rfl, rfl⟩ := trodAll_nil r3
  obtain rfl : args = #[v0, v1, v2, v3] := by cases args; simp_all
  obtain ⟨rfl, rfl⟩ := trodVars_none hV
  obtain ⟨a0, rfl, rfl, rfl, w0⟩ := open_int Try.underlying3 (hval 0 3 v0 rfl rfl) h0
  obtain ⟨A1, n1, k1, f1, g1, rfl, hp1, hN1, hf1, hg1, hK1⟩ := open_gs (hval 1 30 v1 rfl rfl) h1
  have hm1 : Gts W W.heap.size A1 n1 k1 f1 g1 := ⟨hp1, hN1, hf1, hg1⟩
  obtain ⟨A2, l2, k2, rfl, hm2, hK2⟩ := open_by (hval 2 25 v2 rfl rfl) h2
  obtain ⟨a3, rfl, rfl, rfl, w3⟩ := open_int Try.underlying3 (hval 3 3 v3 rfl rfl) h3
  have hlo : laidOutB Try.prog = true := by kernel_rfl
  clear hA0 hval0
  simp only [List.append_nil] at hW' hlt
  refine (walk a0 A1 n1 k1 f1 g1 A2 l2 k2 a3 W w0 hm1 hK1 hm2 w3).mono fun e W' ⟨he, hb⟩ => ?_
  subst he
  have hback := (trodAll_cons_mk (shut_int (enc := enc) (w := W') (base := 0) (spare := fun b => decide (b < W.heap.size)) (held := true) Try.underlying3 w0) (trodAll_cons_mk (arg_back (W' := W') hlo (by kernel_rfl) (of_decide_eq_true (by kernel_rfl)) h1 hb (fun x hx => hlt x (by simp [hx]))) (trodAll_cons_mk (arg_back (W' := W') hlo (by kernel_rfl) (of_decide_eq_true (by kernel_rfl)) h2 hb (fun x hx => hlt x (by simp [hx]))) (trodAll_cons_mk (shut_int (enc := enc) (w := W') (base := 0) (spare := fun b => decide (b < W.heap.size)) (held := true) Try.underlying3 w3) trodAll_mk0))))
  simp only [List.append_nil, List.nil_append] at hback
  exact ⟨_, rfl, law_post hW' (trodAll_cons_mk (shut_bool Try.underlying4 _) trodAll_mk0) hback rfl hb⟩

theorem over : Rows.deltasBackRow.holds Try.pinned (OpenSpec.ofChange Rows.deltasBackSpec) :=
  OpenClaim.holds_of_wide 7 Try.f7 rfl rfl rfl rfl rfl rfl rfl ⟨rfl, rfl, rfl, rfl, rfl⟩ rfl rfl rfl rfl rfl (by kernel_rfl) Try.func7 (by kernel_rfl)
    (of_decide_eq_true (by kernel_rfl)) (by unfold Func.isWrapper; first | (rw [if_pos (by decide +kernel)]; kernel_rfl) | (rw [if_neg (by decide +kernel)]; exact ⟨rfl, rfl⟩))
    (fun os started H enc _ => lifted os started H enc)

theorem proved : Rows.DeltasBackSaid :=
  over
end Go.Proofs.Ytafhdckcclhjlaa.deltasBack
