/- For an assignment that is valid and not great, and a valid clause of at most 100 literals: a clause with a true literal is true; without one it is false, unit or open, as none, one, or more of its literals have no value; and a literal less never makes it open. No conditions. -/
import Derived.Test.YtecmldnigohjfabDoorCards
import Derived.Test.YtecmldnigohjfabDoorTie
import Derived.Test.YtecmldnigohjfabDoorUnSt
import Derived.ProofKit
import Derived.OpenShut
import Derived.LaidMore
import Derived.Lay
import Derived.LaidSub
import Derived.SevenTiedAt
import Derived.Stop.Joined
import Derived.Lib.LaidTab
namespace Go.Proofs.YtecmldnigohjfabDoor.unitStates
open Go.ChangeShapes Go.WideShapes Go.ChangeAt Go.RowKit
set_option linter.unusedVariables false
set_option linter.unusedSimpArgs false


theorem own : ownKnob Tryd.prog.godebug = none := by kernel_rfl

set_option maxRecDepth 100000 in
set_option maxHeartbeats 4000000 in
theorem walk (a0 : Int) (A0 : Option Addr) (t0 : List Int) (k0 : Nat) (B0 : Option Addr) (s0 : List Int) (q0 : Nat) (A1 : Option Addr) (l1 : List Int) (k1 : Nat) (a2 : Int) (w : World) (w0 : (Lit.int .i64 a0).wf = true) (hm0 : Ia w w.heap.size A0 t0 k0) (hr0 : ∀ x ∈ t0, I64 x) (hK0 : k0 ≤ maxLen) (hn0 : Ia w w.heap.size B0 s0 q0) (hs0 : ∀ x ∈ s0, I64 x) (hQ0 : q0 ≤ maxLen) (hm1 : Ia w w.heap.size A1 l1 k1) (hr1 : ∀ x ∈ l1, I64 x) (hK1 : k1 ≤ maxLen) (w2 : (Lit.int .i64 a2).wf = true) (htab : Tab w.heap.size w) :
    Calls Tryd.prog 3 #[.agg #[.int .i64 a0, .slice A0 t0.length k0, .slice B0 s0.length q0], .slice A1 l1.length k1, .int .i64 a2] w fun e w' => e = .returned (.bool true) ∧ Below w.heap.size w w' := by
  exact states15_any a0 A0 t0 k0 B0 s0 q0 A1 l1 k1 a2 w hm0 hr0 hn0 ⟨hK0, hQ0⟩ hm1 hr1 hK1 htab

set_option maxRecDepth 100000 in
theorem lifted (os : Os) (started : os.Started) (H : Type) (enc : TypeId × Value → H) :
    ReturnsInHanded {} Tryd.checked os 3 .any (fun w args => (Rows.unitStatesSpec.pre enc Tryd.prog Tryd.f3 Rows.unitStatesRow.domain false w args ∧ laidMetH Tryd.prog Rows.unitStatesRow.laid w) ∧ sizedMet enc Tryd.prog Tryd.f3 (OpenSpec.ofChange Rows.unitStatesSpec) false w args) (Rows.unitStatesSpec.post enc Tryd.prog Tryd.f3 false true false false) := by
  refine returnsInHanded_of_change_and (C := Tryd.checked) (X := fun w _ => laidMetH Tryd.prog Rows.unitStatesRow.laid w) (fun _ _ _ hh h => h.of_heap hh) own started (by kernel_rfl) Tryd.func3
    (ChangeSpec.witness_shaped (enc := enc) (C := Tryd.checked) (os := os) (X := fun w _ => laidMetH Tryd.prog Rows.unitStatesRow.laid w) false (World.laidAll Tryd.prog os Rows.unitStatesRow.laid) #[.agg #[.int .i64 0, .slice none 0 0, .slice none 0 0], .slice none 0 0, .int .i64 0] 12 (World.laidAll_os _ _ _)
      (World.shaped_of_ZipB (by kernel_rfl) (by kernel_rfl)) (by kernel_rfl) (by kernel_rfl) (by kernel_rfl)
      (by rw [MakeChecks.laidMetH_plain _ _ _ (by kernel_rfl)]; exact laidMet_laidAll _ (by kernel_rfl) (by kernel_rfl))) ?_
  intro W base args ds gs before hval0 hW hcnd _ hL _
  have hval : ∀ (j : Nat) t v, Tryd.f3.params[j]? = some t → args[j]? = some v → Value.okWide Tryd.prog W .any base t v := hval0
  have hW' := hW
  have hlt : ∀ x ∈ before, x.block < W.heap.size := fun x hx => by simpa using hW'.lt x hx
  obtain ⟨p, q, hA0, hV, rfl, hfz, hnd⟩ := hW
  have hA : DataW.TrodAll enc Tryd.prog W 0 (fun _ => true) true Tryd.f3.params.toList args.toList ds p := hA0
  rw [Tryd.params3] at hA hval
  obtain ⟨v0, vs0, d0, ds0, b0, q0, hargs, rfl, rfl, h0, r0⟩ := trodAll_cons hA
  obtain ⟨v1, vs1, d1, ds1, b1, q1, rfl, rfl, rfl, h1, r1⟩ := trodAll_cons r0
  obtain ⟨v2, vs2, d2, ds2, b2, q2, rfl, rfl, rfl, h2, r2⟩ := trodAll_cons r1
  obtain ⟨rfl, rfl, rfl⟩ := trodAll_nil r2
  obtain rfl : args = #[v0, v1, v2] := by cases args; simp_all
  obtain ⟨rfl, rfl⟩ := trodVars_none hV
  obtain ⟨a0, A0, t0, k0, B0, s0, q0, rfl, w0, hm0, hK0, hr0, hn0, hQ0, hs0⟩ := open_as (hval 0 24 v0 rfl rfl) h0
  obtain ⟨A1, l1, k1, rfl, hm1, hK1, hr1⟩ := open_is (hval 1 22 v1 rfl rfl) h1
  obtain ⟨a2, rfl, rfl, rfl, w2⟩ := open_int Tryd.underlying3 (hval 2 3 v2 rfl rfl) h2
  have hlo : laidOutB Tryd.prog = true := by kernel_rfl
  clear hA0 hval0
  simp only [List.append_nil] at hW' hlt
  refine (walk a0 A0 t0 k0 B0 s0 q0 A1 l1 k1 a2 W w0 hm0 hr0 hK0 hn0 hs0 hQ0 hm1 hr1 hK1 w2 (tab_of_laid hL)).mono fun e W' ⟨he, hb⟩ => ?_
  subst he
  have hback := (trodAll_cons_mk (arg_back (W' := W') hlo (by kernel_rfl) (of_decide_eq_true (by kernel_rfl)) h0 hb (fun x hx => hlt x (by simp [hx]))) (trodAll_cons_mk (arg_back (W' := W') hlo (by kernel_rfl) (of_decide_eq_true (by kernel_rfl)) h1 hb (fun x hx => hlt x (by simp [hx]))) (trodAll_cons_mk (shut_int (enc := enc) (w := W') (base := 0) (spare := fun b => decide (b < W.heap.size)) (held := true) Tryd.underlying3 w2) trodAll_mk0)))
  simp only [List.append_nil, List.nil_append] at hback
  exact ⟨_, rfl, law_post hW' (trodAll_cons_mk (shut_bool Tryd.underlying4 _) trodAll_mk0) hback rfl hb⟩

theorem over : Rows.unitStatesRow.holds Tryd.pinned (OpenSpec.ofChange Rows.unitStatesSpec) :=
  OpenClaim.holds_of_wide 3 Tryd.f3 rfl rfl rfl rfl rfl rfl rfl ⟨rfl, rfl, rfl, rfl, rfl⟩ rfl rfl rfl rfl rfl (by kernel_rfl) Tryd.func3 (by kernel_rfl)
    (of_decide_eq_true (by kernel_rfl)) (by unfold Func.isWrapper; first | (rw [if_pos (by decide +kernel)]; kernel_rfl) | (rw [if_neg (by decide +kernel)]; exact ⟨rfl, rfl⟩))
    (fun os started H enc _ => lifted os started H enc)

theorem proved : Rows.UnitStatesCardSaid :=
  Claim7.holds_tied_plain_at .later [] [.data] true (true, "277dae371c9928435f95f3e54934b9faa020b7a5dc61587455c2b13d14fd447e") false over (fun _ h => by cases h) (by kernel_rfl) (fun _ h => by cases h) unitStates_row_tie rfl ⟨rfl, rfl⟩ (by kernel_rfl) rfl
    (fun f fn hf hfn => by
      obtain rfl : f = 3 := Option.some.inj ((show Tryd.prog.funcNamed "spiritlevel/spiritlevellaw15.UnitStates" = some 3 by kernel_rfl).symm.trans hf) |>.symm
      obtain rfl : fn = Tryd.f3 := (Option.some.inj (Tryd.func3.symm.trans hfn)).symm
      exact ⟨by kernel_rfl, fun j t ht => by
        rw [Tryd.params3] at ht
        have hm : t ∈ [24, 22, 3] := by simpa using Array.mem_of_getElem? ht
        have hall : ([24, 22, 3].all fun u => !Tryd.prog.wantsStandIn u) = true := by kernel_rfl
        exact (show Tryd.prog.wantsStandIn t = false by simpa using List.all_eq_true.1 hall t hm)⟩)
    (by kernel_rfl)
end Go.Proofs.YtecmldnigohjfabDoor.unitStates
