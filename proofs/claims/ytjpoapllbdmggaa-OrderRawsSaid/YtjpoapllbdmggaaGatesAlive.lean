/- The chapter's circuit: the contracts of example and alive. -/
import Derived.Test.YtjpoapllbdmggaaGatesOut
import Derived.Test.YtjpoapllbdmggaaGatesSame
namespace Go.Proofs.Ytjpoapllbdmggaa
open Go.RowKit
set_option linter.unusedVariables false

/-- the chapter's circuit, and the same with the parts of its first gate turned -/
def exC : Cr := ⟨2, 1, 2, 1, 0, fun _ => 10, fun _ => 2, fun j => if j = 0 then 4 else 8, fun j => if j = 0 then 2 else 7, fun _ => 11, fun _ => 0⟩
def exT : Cr := ⟨2, 1, 2, 1, 0, fun _ => 10, fun _ => 2, fun j => if j = 0 then 2 else 8, fun j => if j = 0 then 4 else 7, fun _ => 11, fun _ => 0⟩
theorem exC_chk : exC.chk = 0 := by decide +kernel
theorem exT_chk : exT.chk = 8 := by decide +kernel
theorem exC_vrs : exC.vrs = 5 := by decide +kernel
theorem exC_dpt : exC.dpt = 2 := by decide +kernel
theorem exC_cL : exC.cL 10 = [1, 2, 3, 4, 5] := by decide +kernel
theorem exC_cE : exC.cE 10 = 0 := by decide +kernel
theorem ite_bd {p : Prop} [Decidable p] {a b : Int} (ha : I64 a) (hb : I64 b) : I64 (if p then a else b) := by split <;> assumption
theorem i64_k (k : Int) (h : -100000 ≤ k) (h' : k ≤ 100000) : I64 k := by unfold I64; omega
theorem exC_sm : Sm exC := ⟨i64_k 2 (by decide) (by decide), by decide, by decide, by decide, by decide, fun _ => i64_k 10 (by decide) (by decide), fun _ => i64_k 2 (by decide) (by decide), fun _ => ite_bd (i64_k 4 (by decide) (by decide)) (i64_k 8 (by decide) (by decide)), fun _ => ite_bd (i64_k 2 (by decide) (by decide)) (i64_k 7 (by decide) (by decide)), fun _ => i64_k 11 (by decide) (by decide), fun _ => i64_k 0 (by decide) (by decide)⟩
theorem exT_sm : Sm exT := ⟨i64_k 2 (by decide) (by decide), by decide, by decide, by decide, by decide, fun _ => i64_k 10 (by decide) (by decide), fun _ => i64_k 2 (by decide) (by decide), fun _ => ite_bd (i64_k 2 (by decide) (by decide)) (i64_k 8 (by decide) (by decide)), fun _ => ite_bd (i64_k 4 (by decide) (by decide)) (i64_k 7 (by decide) (by decide)), fun _ => i64_k 11 (by decide) (by decide), fun _ => i64_k 0 (by decide) (by decide)⟩

theorem ints_of_has {w : World} {g : Nat} {t : TypeId} {cs : Array Value} {n : Nat} {f : Nat → Int} (h : Has w g t cs) (hc : ∀ j, j < n → cs[j]? = some (.int .i64 (f j))) : IntsAt w w.heap.size (some ⟨g, 0, none⟩) n f := fun _ =>
  ⟨_, rfl, h.lt, fun j hj => by
    have e : (⟨g, 0, none⟩ : Addr).add j = ⟨g, j, none⟩ := by unfold Addr.add; split <;> simp_all
    rw [e, h.cell j, hc j hj]⟩
theorem pairs_of_has {w : World} {g : Nat} {t : TypeId} {cs : Array Value} {n : Nat} {f h : Nat → Int} (hh : Has w g t cs) (hc : ∀ j, j < n → cs[j * 2]? = some (.int .i64 (f j)) ∧ cs[j * 2 + 1]? = some (.int .i64 (h j))) : PairsAt w w.heap.size (some ⟨g, 0, none⟩) n f h := fun _ =>
  ⟨_, rfl, hh.lt, fun j hj => by
    have e : ∀ i, (⟨g, 0, none⟩ : Addr).add i = ⟨g, i, none⟩ := fun i => by unfold Addr.add; split <;> simp_all
    rw [e, hh.cell, (hc j hj).1, hh.cell, (hc j hj).2]
    exact ⟨rfl, rfl⟩⟩

theorem Has.al {w : World} {g : Nat} {t : TypeId} {cs : Array Value} (h : Has w g t cs) (o : Obj) : Has (w.alloc o) g t cs := h.keep (Below.alloc (Below.refl w.heap.size w) (Nat.le_refl _) o) h.lt

theorem Has.ne {w : World} {g g' : Nat} {t t' : TypeId} {cs cs' : Array Value} (h : Has w g t cs) (h' : Has w g' t' cs') (ht : t ≠ t') : g ≠ g' := fun e => by
  subst e
  unfold Has at h h'
  rw [h] at h'
  cases h'
  exact ht rfl
theorem lt5 {j : Nat} (h : j < 5) : j = 0 ∨ j = 1 ∨ j = 2 ∨ j = 3 ∨ j = 4 := by omega
/-- where the example lies -/
abbrev exP (b1 b2 b3 : Nat) : Pl := ⟨some ⟨b1, 0, none⟩, some ⟨b2, 0, none⟩, some ⟨b3, 0, none⟩, none, 1, 2, 1, 0⟩
/-- the blocks of the example -/
def ExAt (w : World) (b1 b2 b3 : Nat) : Prop := Has w b1 35 #[.int .i64 10, .int .i64 2] ∧ Has w b2 37 #[.int .i64 4, .int .i64 2, .int .i64 8, .int .i64 7] ∧ Has w b3 3 #[.int .i64 11]
theorem lt2 {j : Nat} (h : j < 2) : j = 0 ∨ j = 1 := by omega
theorem ExAt.mem {w : World} {b1 b2 b3 : Nat} (h : ExAt w b1 b2 b3) : Mem w w.heap.size exC (exP b1 b2 b3) :=
  ⟨pairs_of_has h.1 (fun j hj => by rw [Nat.lt_one_iff.1 hj]; exact ⟨rfl, rfl⟩), pairs_of_has h.2.1 (fun j hj => by rcases lt2 hj with rfl | rfl <;> exact ⟨rfl, rfl⟩), ints_of_has h.2.2 (fun j hj => by rw [Nat.lt_one_iff.1 hj]; rfl), fun h => absurd h (Nat.not_lt_zero _)⟩
def ExIs (w : World) (e : Ending) (w' : World) : Prop := ∃ b1 b2 b3, e = .returned (cv exC (exP b1 b2 b3)) ∧ ExAt w' b1 b2 b3 ∧ (w.heap.size ≤ b1 ∧ w.heap.size ≤ b2 ∧ w.heap.size ≤ b3) ∧ Below w.heap.size w w'

set_option maxRecDepth 100000 in
set_option maxHeartbeats 2000000 in
theorem ex_any (w : World) : Calls Try.prog 32 #[] w (ExIs w) := by
  go_enter Try.func32, Try.ntmps32
  go_wp2
  refine bodyPost_ret (v := cv exC (exP (w.heap.size + 1) (w.heap.size + 1 + 1) (w.heap.size + 1 + 1 + 1))) (by simp [results, Try.results32, go_sem]; exact ⟨rfl, rfl, rfl, rfl, rfl⟩) rfl ⟨_, _, _, rfl, ⟨((Has.new' _ _ (by simp)).al _).al _, (Has.new' _ _ (by simp)).al _, Has.new' _ _ (by simp)⟩, ⟨by omega, by omega, by omega⟩, by go_grown⟩

theorem exIs_keep {w w' : World} {b1 b2 b3 : Nat} (h : ExAt w b1 b2 b3) (hb : Below w.heap.size w w') : ExAt w' b1 b2 b3 := ⟨h.1.keep hb h.1.lt, h.2.1.keep hb h.2.1.lt, h.2.2.keep hb h.2.2.lt⟩

/-- the contracts at the example -/
theorem exCone (b1 b2 b3 : Nat) (w : World) (h : ExAt w b1 b2 b3) : Calls Try.prog 35 #[cv exC (exP b1 b2 b3), .int .i64 10] w fun e w' => ∃ A k, e = .returned (.tuple #[.slice A 5 k, .int .i64 0]) ∧ IntsAt w' w'.heap.size A 5 (fun j => [1, 2, 3, 4, 5].getD j 0) ∧ Below w.heap.size w w' := by
  refine (gCone_out exC _ 10 w h.mem exC_sm).mono fun e w' ⟨A, k, he, hi, hb⟩ => ⟨A, k, ?_, ?_, hb⟩
  · rw [he, exC_cL, exC_cE]; rfl
  · rw [exC_cL] at hi; exact hi
theorem exVars (b1 b2 b3 : Nat) (w : World) (h : ExAt w b1 b2 b3) : Calls Try.prog 33 #[cv exC (exP b1 b2 b3)] w fun e w' => e = .returned (.tuple #[.int .i64 5, .int .i64 0]) ∧ Below w.heap.size w w' := by
  have := gVars_any exC _ w h.mem exC_sm
  rwa [exC_vrs, exC_chk] at this
theorem exDepth (b1 b2 b3 : Nat) (w : World) (h : ExAt w b1 b2 b3) : Calls Try.prog 36 #[cv exC (exP b1 b2 b3)] w fun e w' => e = .returned (.tuple #[.int .i64 2, .int .i64 0]) ∧ Below w.heap.size w w' := by
  have := gDepth_any exC _ w h.mem exC_sm
  rwa [exC_dpt, exC_chk] at this
theorem exTCheck (b1 b2 b3 : Nat) (w : World) (h1 : Has w b1 35 #[.int .i64 10, .int .i64 2]) (h2 : Has w b2 37 #[.int .i64 2, .int .i64 4, .int .i64 8, .int .i64 7]) (h3 : Has w b3 3 #[.int .i64 11]) : Calls Try.prog 26 #[cv exC (exP b1 b2 b3)] w fun e w' => e = .returned (.int .i64 8) ∧ Below w.heap.size w w' := by
  have hm : Mem w w.heap.size exT (exP b1 b2 b3) :=
    ⟨pairs_of_has h1 (fun j hj => by rw [Nat.lt_one_iff.1 hj]; exact ⟨rfl, rfl⟩), pairs_of_has h2 (fun j hj => by rcases lt2 hj with rfl | rfl <;> exact ⟨rfl, rfl⟩), ints_of_has h3 (fun j hj => by rw [Nat.lt_one_iff.1 hj]; rfl), fun h => absurd h (Nat.not_lt_zero _)⟩
  have := gCheck_any exT _ w hm exT_sm
  rw [exT_chk] at this
  exact this

set_option maxRecDepth 100000 in
set_option maxHeartbeats 4000000 in
theorem alive_any (w : World) : Calls Try.prog 37 #[] w fun e w' => e = .returned (.bool true) ∧ Below w.heap.size w w' := by
  have hB0 : Below w.heap.size w w := Below.refl _ _
  go_enter Try.func37, Try.ntmps37
  go_wp2_with (first
    | (go_at_call 32; refine (ex_any _).mono ?_; rintro e w1 ⟨b1, b2, b3, rfl, hE1, hb1', hb1⟩; have hB1 : Below w.heap.size w w1 := Below.step (by first | assumption | exact Below.refl _ _) (by first | assumption | exact Nat.le_refl _ | exact Below.size (by assumption)) hb1; have hl2 := hE1.2.1.lt; have q0 : ∀ o : Obj, (w1.alloc o).cell? ⟨b2, 0, none⟩ = some (.int .i64 4) := ca (hE1.2.1.cell 0); have q1 : ∀ o : Obj, (w1.alloc o).cell? ⟨b2, 1, none⟩ = some (.int .i64 2) := ca (hE1.2.1.cell 1); have f0 : ∀ o : Obj, (w1.alloc o).frozen? ⟨b2, 0, none⟩ = false := fun o => (hE1.2.1.al o).fz 0; have f1 : ∀ o : Obj, (w1.alloc o).frozen? ⟨b2, 1, none⟩ = false := fun o => (hE1.2.1.al o).fz 1; have hU := hE1.2.1.set 0 (.int .i64 2); have q2 : ∀ o : Obj, ((w1.setCell ⟨b2, 0, none⟩ (.int .i64 2)).alloc o).cell? ⟨b2, 1, none⟩ = some (.int .i64 2) := ca (hU.cell 1); have f2 : ∀ o : Obj, ((w1.setCell ⟨b2, 0, none⟩ (.int .i64 2)).alloc o).frozen? ⟨b2, 1, none⟩ = false := fun o => (hU.al o).fz 1; try (have hi3o := hi3; have hi3 := (hi3.keep hb1).more hb1.size))
    | (go_at_call 33; refine (exVars _ _ _ _ hE1).mono ?_; rintro e w2 ⟨rfl, hb2⟩; have hB2 := Below.step hB1 hB1.size hb2)
    | (go_at_call 35; refine (exCone _ _ _ _ hE1).mono ?_; rintro e w3 ⟨A3, k3, rfl, hi3, hb3⟩; have hB3 := Below.step hB1 hB1.size hb3)
    | (go_at_call 36; refine (exDepth _ _ _ _ hE1).mono ?_; rintro e w4 ⟨rfl, hb4⟩; have hB4 := Below.step hB1 hB1.size hb4; have hi3 := (hi3.keep hb4).more hb4.size)
    | (go_at_call 15; (have hq2 := hb1'.2.1; have hX1 := hb1.setCell (p := ⟨b2, 0, none⟩) hq2 (.int .i64 2); have hX2 := hX1.setCell (p := ⟨b2, 1, none⟩) hq2 (.int .i64 4); have n12 := Has.ne hE1.1 hE1.2.1 (by decide); have n32 := Has.ne hE1.2.2 hE1.2.1 (by decide); have hV2 := hU.set 1 (.int .i64 4); have hV1 := (hE1.1.far (q := ⟨b2, 0, none⟩) n12 (.int .i64 2)).far (q := ⟨b2, 1, none⟩) n12 (.int .i64 4); have hV3 := (hE1.2.2.far (q := ⟨b2, 0, none⟩) n32 (.int .i64 2)).far (q := ⟨b2, 1, none⟩) n32 (.int .i64 4)); refine (sameInts_self A3 (some ⟨w1.heap.size + 1, 0, none⟩) 5 k3 5 (fun j => [1, 2, 3, 4, 5].getD j 0) _ _ (by omega) ((hi3o.keep ((hX2.alloc (by have := hX2.size; omega) _).alloc (by have := hX2.size; simp at this ⊢; omega) _)).more (by have := hX2.size; simp at this ⊢; omega)) (ints_of_has (Has.new' _ _ (by simp)) (fun j hj => by rcases lt5 hj with rfl | rfl | rfl | rfl | rfl <;> rfl))).mono ?_; rintro e w5 ⟨rfl, hb5⟩; have hBox : Has w5 w1.heap.size 26 (cc exC (exP b1 b2 b3)) := ((Has.new' _ _ (by simp)).al _).keep hb5 (by simp; omega); obtain ⟨y0, y1, y2, y3, y4⟩ := hBox.box; have hW1 := ((hV1.al _).al _).keep hb5 (by have := hV1.lt; simp at this ⊢; omega); have hW2 := ((hV2.al _).al _).keep hb5 (by have := hV2.lt; simp at this ⊢; omega); have hW3 := ((hV3.al _).al _).keep hb5 (by have := hV3.lt; simp at this ⊢; omega); have hX5 := ((hX2.alloc (by have := hX2.size; omega) _).alloc (by have := hX2.size; simp at this ⊢; omega) _).trans (hb5.mono (by have := hX2.size; simp at this ⊢; omega)))
    | (go_at_call 26; refine (exTCheck b1 b2 b3 _ hW1 hW2 hW3).mono ?_; rintro e w6 ⟨rfl, hb6⟩; have hX6 := hX5.trans (hb6.mono hX5.size)))
  go_ret
  exact ⟨rfl, hB4.trans (hX6.mono hB4.size)⟩
