/- For any two numbers: if both have bytes, the one with more of them is greater, just the last byte is less than 128, and without it there is no number. No conditions. -/
import Derived.Test.YtafhdckcclhjlaaDeltaKit3
import Derived.Test.YtafhdckcclhjlaaGatesFrame
namespace Go.Proofs.Ytafhdckcclhjlaa.deltasMore
open Go.ChangeShapes Go.WideShapes Go.ChangeAt Go.RowKit
set_option linter.unusedVariables false
set_option linter.unusedSimpArgs false


theorem own : ownKnob Try.prog.godebug = none := by kernel_rfl

set_option maxRecDepth 100000 in
set_option maxHeartbeats 4000000 in
theorem walk (a0 : Int) (a1 : Int) (w : World) (w0 : (Lit.int .i64 a0).wf = true) (w1 : (Lit.int .i64 a1).wf = true) :
    Calls Try.prog 9 #[.int .i64 a0, .int .i64 a1] w fun e w' => e = .returned (.bool true) ∧ Below w.heap.size w w' := by
  have AL := Lib.hid (fun W => alive9_any W)
  have C1 := dWrite_any a0 w
  have C2 := fun W => dWrite_any a1 W
  unfold ByErr at C1 C2
  rcases wr_ways a0 with ⟨h, e1, e2⟩ | ⟨p1, p2, e1, e2⟩
  · rw [e1, e2] at C1
    obtain ⟨f2, hf2⟩ : ∃ x, wrE a1 = x := ⟨_, rfl⟩
    obtain ⟨M2, hM2⟩ : ∃ x, (wrL a1).length = x := ⟨_, rfl⟩
    rw [hf2, hM2] at C2
    have D1 := Lib.hid C1
    have D2 := Lib.hid C2
    clear C1 C2 h e1 e2 hf2 hM2
    go_enter Try.func9, Try.ntmps9
    go_wp2_with (first
      | (go_at_call 12; (with_reducible refine D1.out.mono ?_); rintro e wa ⟨Aa, ka, rfl, hya, hba, _⟩)
      | (go_at_call 12; (with_reducible refine (D2.out wa).mono ?_); rintro e wb ⟨Ab, kb, rfl, hyb, hbb, _⟩; have hBb : Below w.heap.size w wb := Below.step hba hba.size hbb)
      | (go_at_call 16; (with_reducible refine (AL.out wb).mono ?_); rintro e wz ⟨rfl, hbz⟩))
    go_ret
    exact ⟨rfl, Below.step hBb hBb.size hbz⟩
  · obtain ⟨N, rfl⟩ : ∃ N : Nat, a0 = N := ⟨a0.toNat, by omega⟩
    rw [Int.toNat_natCast] at e2
    rcases wr_ways a1 with ⟨h, q1, q2⟩ | ⟨p3, p4, q1, q2⟩
    · rw [e1, e2] at C1
      rw [q1, q2] at C2
      have D1 := Lib.hid C1
      have D2 := Lib.hid C2
      clear C1 C2 h e1 e2 q1 q2
      go_enter Try.func9, Try.ntmps9
      go_wp2_with (first
        | (go_at_call 12; (with_reducible refine D1.out.mono ?_); rintro e wa ⟨Aa, ka, rfl, hya, hba, _⟩)
        | (go_at_call 12; (with_reducible refine (D2.out wa).mono ?_); rintro e wb ⟨Ab, kb, rfl, hyb, hbb, _⟩; have hBb : Below w.heap.size w wb := Below.step hba hba.size hbb)
        | (go_at_call 16; (with_reducible refine (AL.out wb).mono ?_); rintro e wz ⟨rfl, hbz⟩))
      go_ret
      exact ⟨rfl, Below.step hBb hBb.size hbz⟩
    · obtain ⟨N2, rfl⟩ : ∃ N : Nat, a1 = N := ⟨a1.toNat, by omega⟩
      rw [Int.toNat_natCast] at q2
      rw [e1, e2] at C1
      rw [q1, q2] at C2
      have hN : N ≤ 2147483647 := by omega
      have hpos := bts_pos N
      have hlen := bts_len hN
      have HLT := Lib.hid (bts_last N)
      have HRL := Lib.hid (rd_less hN)
      have HMO := Lib.hid (fun h : N ≤ N2 => bts_mono N2 N h)
      obtain ⟨x, hx⟩ : ∃ x, bts N = x := ⟨_, rfl⟩
      obtain ⟨M2, hM2⟩ : ∃ M, (bts N2).length = M := ⟨_, rfl⟩
      rw [hM2] at C2 HMO
      rw [hx] at C1 HLT HRL HMO hpos hlen
      obtain ⟨M, hM⟩ : ∃ M, x.length = M := ⟨_, rfl⟩
      rw [hM] at C1 HLT HRL HMO hpos hlen
      obtain ⟨M0, hM0⟩ : ∃ M0, M = M0 + 1 := ⟨M - 1, by omega⟩
      have HM := Lib.hid (And.intro hM hM0)
      have D1 := Lib.hid C1
      have D2 := Lib.hid C2
      have hcM : (M : Int) - 1 = (M0 : Int) := by omega
      clear C1 C2 e1 e2 q1 q2 hx hM hM2 p1 p2 p3 p4
      have HCM := Lib.hid hcM
      clear hcM hM0
      go_enter Try.func9, Try.ntmps9
      go_wp2_with (first
        | (go_at_call 12; (with_reducible refine D1.out.mono ?_); rintro e wa ⟨Aa, ka, rfl, hya, hba, _⟩)
        | (go_at_call 12; (with_reducible refine (D2.out wa).mono ?_); rintro e wb ⟨Ab, kb, rfl, hyb, hbb, _⟩; have hBb : Below w.heap.size w wb := Below.step hba hba.size hbb; have hyA := hya.to hbb hbb.size))
      have HY := Lib.hid hyA
      clear hyA hya hyb
      go_loopw [9] (fun i wr => ∃ q : Nat, q ≤ M ∧ i = .int .i64 (q : Int) ∧ wb = wr) (fun i _ => M - (intOf i).toNat)
      case atStart => exact ⟨0, Nat.zero_le _, rfl, rfl⟩
      case round =>
        obtain ⟨q, hq, rfl, rfl⟩ := hrel
        by_cases hlt : q < M
        · have hq1 : (q : Int) < (M : Int) := by omega
          have hq0 : (0 : Int) ≤ (q : Int) := by omega
          obtain ⟨z, hz⟩ : ∃ z, x[q]? = some z := ⟨x[q]'(by have := HM.out.1; omega), by have := HM.out.1; rw [List.getElem?_eq_getElem]⟩
          obtain ⟨a, rfl, hab, hc⟩ := HY.out.h (by have := HM.out.1; omega)
          have y := hc q z hz
          have hl := HLT.out q z hz
          obtain ⟨Z, hZ⟩ : ∃ Z, z.toNat = Z := ⟨_, rfl⟩
          rw [hZ] at y hl
          clear hc hz hZ
          by_cases h8 : (Z : Int) < 128
          · have hb : ((q : Int) == (M : Int) - 1) = true := by rw [← hl]; exact decide_eq_true h8
            clear hl
            go_wp2
            go_roundw
            case rel => exact ⟨q + 1, by omega, by go_num, by first | rfl | trivial⟩
            case measure => simp [intOf]; omega
          · have hb : ((q : Int) == (M : Int) - 1) = false := by rw [← hl]; exact decide_eq_false h8
            clear hl
            go_wp2
            go_roundw
            case rel => exact ⟨q + 1, by omega, by go_num, by first | rfl | trivial⟩
            case measure => simp [intOf]; omega
        · obtain rfl : q = M := by omega
          have hlt' : ¬ (q : Int) < (q : Int) := by omega
          have hq0 : (0 : Int) < (q : Int) := by omega
          obtain ⟨A', hs, hA'⟩ := HY.out.upto M0 (by have := HM.out; omega)
          have R1 := reads_yes A' (x.take M0) ka 6 wb hA' (by have := HM.out; rw [List.length_take]; omega) (by rw [show M0 = q - 1 by have := HM.out; omega]; exact HRL.out) (by decide)
          have hl0 : (x.take M0).length = M0 := by rw [List.length_take]; have := HM.out; omega
          rw [hl0] at hs R1
          rw [HM.out.1] at hs
          have R2 := Lib.hid R1
          have hcM := HCM.out
          have hwM : wrap64 (M0 : Int) = (M0 : Int) := by unfold wrap64; have := HM.out; omega
          have HF := Lib.hid (show (q : Int) ≤ (M2 : Int) ∨ (N2 : Int) < (N : Int) by
            rcases Nat.lt_or_ge N2 N with h | h
            · exact Or.inr (by omega)
            · exact Or.inl (by have := HMO.out h; omega))
          clear R1 hl0 hA' hq hlt hpos hlen hN
          by_cases hle : (q : Int) ≤ (M2 : Int)
          · go_wp2_with (first
              | (go_at_call 11; (with_reducible refine R2.out.mono ?_); rintro e wy ⟨rfl, rfl⟩)
              | (go_at_call 16; (with_reducible refine (AL.out _).mono ?_); rintro e wz ⟨rfl, hbz⟩))
            go_ret
            exact ⟨by simp, Below.step hBb hBb.size hbz⟩
          · have hgt : (N2 : Int) < (N : Int) := by have := HF.out; omega
            go_wp2_with (first
              | (go_at_call 11; (with_reducible refine R2.out.mono ?_); rintro e wy ⟨rfl, rfl⟩)
              | (go_at_call 16; (with_reducible refine (AL.out _).mono ?_); rintro e wz ⟨rfl, hbz⟩))
            go_ret
            exact ⟨by simp, Below.step hBb hBb.size hbz⟩

set_option maxRecDepth 100000 in
theorem lifted (os : Os) (started : os.Started) (H : Type) (enc : TypeId × Value → H) :
    ReturnsInHanded {} Try.checked os 9 .any (Rows.deltasMoreSpec.pre6 enc Try.prog Try.f9 Rows.deltasMoreRow.domain false) (Rows.deltasMoreSpec.post enc Try.prog Try.f9 false true false false) := by
  refine returnsInHanded_of_change (C := Try.checked) own started (by kernel_rfl) Try.func9
    (ChangeSpec.witness6 (enc := enc) (C := Try.checked) false ⟨#[], #[.int .i64 0, .int .i64 0], []⟩ 12 (by kernel_rfl) (by kernel_rfl) (by kernel_rfl) (by kernel_rfl)) ?_
  intro W base args ds gs before hval0 hW hcnd _
  have hval : ∀ (j : Nat) t v, Try.f9.params[j]? = some t → args[j]? = some v → Value.okWide Try.prog W .any base t v := hval0
  have hW' := hW
  have hlt : ∀ x ∈ before, x.block < W.heap.size := fun x hx => by simpa using hW'.lt x hx
  obtain ⟨p, q, hA0, hV, rfl, hfz, hnd⟩ := hW
  have hA : DataW.TrodAll enc Try.prog W 0 (fun _ => true) true Try.f9.params.toList args.toList ds p := hA0
  rw [Try.params9] at hA hval
  obtain ⟨v0, vs0, d0, ds0, b0, q0, hargs, rfl, rfl, h0, r0⟩ := trodAll_cons hA
  obtain ⟨v1, vs1, d1, ds1, b1, q1, rfl, rfl, rfl, h1, r1⟩ := trodAll_cons r0
  obtain ⟨rfl, rfl, rfl⟩ := trodAll_nil r1
  obtain rfl : args = #[v0, v1] := by cases args; simp_all
  obtain ⟨rfl, rfl⟩ := trodVars_none hV
  obtain ⟨a0, rfl, rfl, rfl, w0⟩ := open_int Try.underlying3 (hval 0 3 v0 rfl rfl) h0
  obtain ⟨a1, rfl, rfl, rfl, w1⟩ := open_int Try.underlying3 (hval 1 3 v1 rfl rfl) h1
  have hlo : laidOutB Try.prog = true := by kernel_rfl
  clear hA0 hval0
  simp only [List.append_nil] at hW' hlt
  refine (walk a0 a1 W w0 w1).mono fun e W' ⟨he, hb⟩ => ?_
  subst he
  have hback := (trodAll_cons_mk (shut_int (enc := enc) (w := W') (base := 0) (spare := fun b => decide (b < W.heap.size)) (held := true) Try.underlying3 w0) (trodAll_cons_mk (shut_int (enc := enc) (w := W') (base := 0) (spare := fun b => decide (b < W.heap.size)) (held := true) Try.underlying3 w1) trodAll_mk0))
  simp only [List.append_nil, List.nil_append] at hback
  exact ⟨_, rfl, law_post hW' (trodAll_cons_mk (shut_bool Try.underlying4 _) trodAll_mk0) hback rfl hb⟩

theorem over : Rows.deltasMoreRow.holds Try.pinned (OpenSpec.ofChange Rows.deltasMoreSpec) :=
  OpenClaim.holds_of_wide 9 Try.f9 rfl rfl rfl rfl rfl rfl rfl ⟨rfl, rfl, rfl, rfl, rfl⟩ rfl rfl rfl rfl rfl (by kernel_rfl) Try.func9 (by kernel_rfl)
    (of_decide_eq_true (by kernel_rfl)) (by unfold Func.isWrapper; first | (rw [if_pos (by decide +kernel)]; kernel_rfl) | (rw [if_neg (by decide +kernel)]; exact ⟨rfl, rfl⟩))
    (fun os started H enc _ => lifted os started H enc)

theorem proved : Rows.DeltasMoreSaid :=
  over
end Go.Proofs.Ytafhdckcclhjlaa.deltasMore
