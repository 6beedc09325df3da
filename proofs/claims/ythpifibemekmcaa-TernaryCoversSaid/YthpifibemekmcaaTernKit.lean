/- Small lemmas for the laws of layer 5; the chapter's circuit and alive. -/
import Derived.Test.YthpifibemekmcaaTernNext
import Derived.Test.YthpifibemekmcaaGatesAlive
namespace Go.Proofs.Ythpifibemekmcaa
open Go.RowKit
set_option linter.unusedVariables false
set_option linter.unusedSimpArgs false

theorem u8_of {a : Int} (w : (Lit.int .u8 a).wf = true) : 0 ≤ a ∧ a ≤ 255 := by
  have h2 : 0 ≤ a ∧ a ≤ 255 := by simpa [Lit.wf, IntKind.min, IntKind.max, IntKind.signed, IntKind.bits] using w
  exact h2
theorem Cr.tlen_bd (c : Cr) (ns ni : Nat) (s t : Nat → Int) (hs : Sm c) : c.tn ns ni s t ≤ 100000 ∧ c.tnn ns ni s t ≤ 100000 ∧ c.rsn ≤ 100000 := by
  have g1 := hs.nl
  unfold tn tnn rsn
  refine ⟨?_, ?_, ?_⟩ <;> split
  · rename_i h
    have := Cr.fg_bd (Cr.tsk_zero h).1
    omega
  all_goals omega
theorem tr_of_has {w : World} {g : Nat} {t : TypeId} {cs : Array Value} {n : Nat} {f : Nat → Int} (h : Has w g t cs) (hc : ∀ j, j < n → cs[j]? = some (.int .u8 (f j))) : TrAt w w.heap.size (some ⟨g, 0, none⟩) n f := fun _ =>
  ⟨_, rfl, h.lt, fun j hj => by
    have e : (⟨g, 0, none⟩ : Addr).add j = ⟨g, j, none⟩ := by unfold Addr.add; split <;> simp_all
    rw [e, h.cell j, hc j hj]⟩
theorem trNil {w : World} {B : Nat} {A : Option Addr} {f : Nat → Int} : TrAt w B A 0 f := fun h => absurd h (Nat.not_lt_zero _)
theorem no0r {f : Nat → Int} : ∀ j, j < 0 → 0 ≤ f j ∧ f j ≤ 255 := fun j h => absurd h (Nat.not_lt_zero _)

set_option maxHeartbeats 1000000 in
theorem both_any {a b : Int} (ha : isT a) (hb : isT b) (w : World) : Calls Try.prog 14 #[.int .u8 a, .int .u8 b] w fun e w' => e = .returned (.int .u8 (tand a b)) ∧ w = w' := by
  have C := tAnd_yes ha hb w
  go_enter Try.func14, Try.ntmps14
  go_wp2_with (go_at_call 15; (with_reducible refine C.mono ?_); rintro e w1 ⟨rfl, rfl⟩)
  go_ret
  exact ⟨rfl, rfl⟩

theorem isT0 : isT 0 := Or.inl rfl
theorem isT1 : isT 1 := Or.inr (Or.inl rfl)
theorem isT2 : isT 2 := Or.inr (Or.inr rfl)
theorem t20 : tand 2 0 = 0 := by decide
theorem t21 : tand 2 1 = 2 := by decide
theorem both_at {a b x : Int} (ha : isT a) (hb : isT b) (h : tand a b = x) (w : World) : Calls Try.prog 14 #[.int .u8 a, .int .u8 b] w fun e w' => e = .returned (.int .u8 x) ∧ w = w' := h ▸ both_any ha hb w

/-- the chapter's circuit: a gate of a latch and its negation -/
abbrev exN : Cr := ⟨0, 1, 1, 0, 0, fun _ => 0, fun _ => 2, fun _ => 3, fun _ => 2, fun _ => 0, fun _ => 0⟩
theorem exN_sm : Sm exN := ⟨i64_k 0 (by decide) (by decide), by decide, by decide, by decide, by decide, fun _ => i64_k 0 (by decide) (by decide), fun _ => i64_k 2 (by decide) (by decide), fun _ => i64_k 3 (by decide) (by decide), fun _ => i64_k 2 (by decide) (by decide), fun _ => i64_k 0 (by decide) (by decide), fun _ => i64_k 0 (by decide) (by decide)⟩
theorem exN_mem {X : World} {g1 g2 : Nat} (h1 : Has X g1 33 #[.int .i64 0, .int .i64 2]) (h2 : Has X g2 76 #[.int .i64 3, .int .i64 2]) : Mem X X.heap.size exN ⟨some ⟨g1, 0, none⟩, some ⟨g2, 0, none⟩, none, none, 1, 1, 0, 0⟩ :=
  ⟨pairs_of_has h1 (fun j hj => by rw [Nat.lt_one_iff.1 hj]; exact ⟨rfl, rfl⟩), pairs_of_has h2 (fun j hj => by rw [Nat.lt_one_iff.1 hj]; exact ⟨rfl, rfl⟩), fun h => absurd h (Nat.not_lt_zero _), fun h => absurd h (Nat.not_lt_zero _)⟩
theorem uAt1 (x : Int) : ∀ j, j < 1 → (#[Value.int .u8 x] : Array Value)[j]? = some (.int .u8 ((fun _ => x) j)) := fun j hj => by rw [Nat.lt_one_iff.1 hj]; rfl
/-- the values of the chapter's example -/
def exNL (j : Nat) : Int := [0, 2, 2].getD j 0
theorem exNL_at : ∀ j, j < 3 → (#[Value.int .u8 0, Value.int .u8 2, Value.int .u8 2] : Array Value)[j]? = some (.int .u8 (exNL j)) := fun j hj => by rcases lt3 hj with rfl | rfl | rfl <;> rfl
theorem exN_tsk : exN.tsk 1 0 (fun _ => 2) (fun _ => 0) = 0 := by decide +kernel
theorem exN_tn : exN.tn 1 0 (fun _ => 2) (fun _ => 0) = 3 := by decide +kernel
theorem exN_tf : ∀ j, j < 3 → exN.tf (fun _ => 2) (fun _ => 0) j = exNL j := by decide +kernel
theorem exNAll {p : Pl} {As : Option Addr} {ks : Nat} (w : World) (h : TArg w w.heap.size exN p As 1 ks (fun _ => 2) none 0 0 (fun _ => 0)) :
    Calls Try.prog 16 #[cv exN p, .slice As 1 ks, .slice none 0 0] w (TrsErr 3 exNL 0 w) := by
  have := tAll_any w h
  rw [exN_tsk, exN_tn] at this
  exact this.mono fun e w' ⟨A, k, he, hi, hb⟩ => ⟨A, k, he, hi.congr exN_tf, hb⟩
/-- the world with the chapter's circuit in it -/
abbrev exW (w : World) : World := ((((w.alloc (.cells #[.int .i64 0, .int .i64 2] 33)).alloc (.cells #[.int .i64 3, .int .i64 2] 76)).alloc (.cells #[.int .i64 0, .slice (some ⟨w.heap.size, 0, none⟩) 1 1, .slice (some ⟨w.heap.size + 1, 0, none⟩) 1 1, .slice none 0 0, .slice none 0 0] 38)).alloc (.cells #[.int .u8 2] 5))
theorem exN_arg (w : World) : TArg (exW w) (exW w).heap.size exN ⟨some ⟨w.heap.size, 0, none⟩, some ⟨w.heap.size + 1, 0, none⟩, none, none, 1, 1, 0, 0⟩ (some ⟨w.heap.size + 1 + 1 + 1, 0, none⟩) 1 1 (fun _ => 2) none 0 0 (fun _ => 0) :=
  ⟨exN_mem ((((Has.new _ _ _).al _).al _).al _) (((Has.new' _ _ (by simp)).al _).al _), exN_sm, tr_of_has (Has.new' _ _ (by simp)) (uAt1 2), trNil, (fun h => by cases h), (fun _ => ⟨rfl, rfl⟩), by omega, by omega, (fun _ _ => ⟨by decide, by decide⟩), no0r⟩
theorem exN_bel (w : World) : Below w.heap.size w (exW w) := ((((Below.refl _ _).alloc (Nat.le_refl _) _).alloc (by simp) _).alloc (by simp; omega) _).alloc (by simp; omega) _

set_option maxRecDepth 100000 in
set_option maxHeartbeats 4000000 in
theorem alive5_any (w : World) : Calls Try.prog 20 #[] w fun e w' => e = .returned (.bool true) ∧ Below w.heap.size w w' := by
  have hX := exN_bel w
  have hG := exN_arg w
  go_enter Try.func20, Try.ntmps20
  go_wp2_with (first
    | (go_at_call 16; (with_reducible refine (exNAll (exW w) hG).mono ?_); rintro e w1 ⟨A1, k1, rfl, hi1, hb1⟩; have hB1 : Below w.heap.size w w1 := Below.step hX hX.size hb1)
    | (go_at_call 14; (with_reducible refine (both_at isT2 isT0 t20 w1).mono ?_); rintro e w2 ⟨rfl, rfl⟩)
    | (go_at_call 14; (with_reducible refine (both_at isT2 isT1 t21 w1).mono ?_); rintro e w2 ⟨rfl, rfl⟩)
    | (go_at_call 19; (with_reducible refine (samTs_self A1 (some ⟨w1.heap.size, 0, none⟩) 3 k1 3 exNL (w1.heap.size + 1) (w1.alloc _) (by omega) ((hi1.keep ((Below.refl _ _).alloc (Nat.le_refl _) _)).more (by omega)) ((tr_of_has (Has.new _ _ _) exNL_at).more (by simp))).mono ?_); rintro e w3 ⟨rfl, hb3⟩; have hB3 : Below w.heap.size w w3 := Below.step hB1 hB1.size (Below.step ((Below.refl _ _).alloc (Nat.le_refl _) _) (by simp) hb3)))
  go_ret
  exact ⟨rfl, hB3⟩
end Go.Proofs.Ythpifibemekmcaa
