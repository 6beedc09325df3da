/- The chapter's circuit: the contracts of example and alive. -/
import Derived.Test.YtkpjpokeonppbaaGreatDoorGatesOut
import Derived.Test.YtkpjpokeonppbaaGreatDoorGatesSame
namespace Go.Proofs.YtkpjpokeonppbaaGreatDoor
open Go.RowKit
set_option linter.unusedVariables false

/-- the chapter's circuit, and the same with the parts of its first gate turned -/
def exC : Cr := ⟨2, 1, 2, 1, 0, fun _ => 10, fun _ => 2, fun j => if j = 0 then 4 else 8, fun j => if j = 0 then 2 else 7, fun _ => 11, fun _ => 0⟩
def exT : Cr := ⟨2, 1, 2, 1, 0, fun _ => 10, fun _ => 2, fun j => if j = 0 then 2 else 8, fun j => if j = 0 then 4 else 7, fun _ => 11, fun _ => 0⟩
theorem exC_chk : exC.chk = 0 := by decide +kernel
theorem exT_chk : exT.chk = 8 := by decide +kernel
theorem exC_vrs : exC.vrs = 5 := by decide +kernel
theorem exC_dpt : exC.dpt = 2 := by decide +kernel
theorem exC_cL : exC.cL 10 = [1, 2, 3, 4, 5] := by decide +kernel
theorem exC_cE : exC.cE 10 = 0 := by decide +kernel
theorem ite_bd {p : Prop} [Decidable p] {a b : Int} (ha : I64 a) (hb : I64 b) : I64 (if p then a else b) := by split <;> assumption
theorem i64_k (k : Int) (h : -100000 ≤ k) (h' : k ≤ 100000) : I64 k := by unfold I64; omega
theorem exC_sm : Sm exC := ⟨i64_k 2 (by decide) (by decide), by decide, by decide, by decide, by decide, fun _ => i64_k 10 (by decide) (by decide), fun _ => i64_k 2 (by decide) (by decide), fun _ => ite_bd (i64_k 4 (by decide) (by decide)) (i64_k 8 (by decide) (by decide)), fun _ => ite_bd (i64_k 2 (by decide) (by decide)) (i64_k 7 (by decide) (by decide)), fun _ => i64_k 11 (by decide) (by decide), fun _ => i64_k 0 (by decide) (by decide)⟩
theorem exT_sm : Sm exT := ⟨i64_k 2 (by decide) (by decide), by decide, by decide, by decide, by decide, fun _ => i64_k 10 (by decide) (by decide), fun _ => i64_k 2 (by decide) (by decide), fun _ => ite_bd (i64_k 2 (by decide) (by decide)) (i64_k 8 (by decide) (by decide)), fun _ => ite_bd (i64_k 4 (by decide) (by decide)) (i64_k 7 (by decide) (by decide)), fun _ => i64_k 11 (by decide) (by decide), fun _ => i64_k 0 (by decide) (by decide)⟩

theorem ints_of_has {w : World} {g : Nat} {t : TypeId} {cs : Array Value} {n : Nat} {f : Nat → Int} (h : Has w g t cs) (hc : ∀ j, j < n → cs[j]? = some (.int .i64 (f j))) : IntsAt w w.heap.size (some ⟨g, 0, none⟩) n f := fun _ =>
  ⟨_, rfl, h.lt, fun j hj => by
    have e : (⟨g, 0, none⟩ : Addr).add j = ⟨g, j, none⟩ := by unfold Addr.add; split <;> simp_all
    rw [e, h.cell j, hc j hj]⟩
theorem pairs_of_has {w : World} {g : Nat} {t : TypeId} {cs : Array Value} {n : Nat} {f h : Nat → Int} (hh : Has w g t cs) (hc : ∀ j, j < n → cs[j * 2]? = some (.int .i64 (f j)) ∧ cs[j * 2 + 1]? = some (.int .i64 (h j))) : PairsAt w w.heap.size (some ⟨g, 0, none⟩) n f h := fun _ =>
  ⟨_, rfl, hh.lt, fun j hj => by
    have e : ∀ i, (⟨g, 0, none⟩ : Addr).add i = ⟨g, i, none⟩ := fun i => by unfold Addr.add; split <;> simp_all
    rw [e, hh.cell, (hc j hj).1, hh.cell, (hc j hj).2]
    exact ⟨rfl, rfl⟩⟩

theorem Has.al {w : World} {g : Nat} {t : TypeId} {cs : Array Value} (h : Has w g t cs) (o : Obj) : Has (w.alloc o) g t cs := h.keep (Below.alloc (Below.refl w.heap.size w) (Nat.le_refl _) o) h.lt

theorem Has.ne {w : World} {g g' : Nat} {t t' : TypeId} {cs cs' : Array Value} (h : Has w g t cs) (h' : Has w g' t' cs') (ht : t ≠ t') : g ≠ g' := fun e => by
  subst e
  unfold Has at h h'
  rw [h] at h'
  cases h'
  exact ht rfl
theorem lt5 {j : Nat} (h : j < 5) : j = 0 ∨ j = 1 ∨ j = 2 ∨ j = 3 ∨ j = 4 := by omega
/-- where the example lies -/
abbrev exP (b1 b2 b3 : Nat) : Pl := ⟨some ⟨b1, 0, none⟩, some ⟨b2, 0, none⟩, some ⟨b3, 0, none⟩, none, 1, 2, 1, 0⟩
/-- the blocks of the example -/
def ExAt (w : World) (b1 b2 b3 : Nat) : Prop := Has w b1 70 #[.int .i64 10, .int .i64 2] ∧ Has w b2 80 #[.int .i64 4, .int .i64 2, .int .i64 8, .int .i64 7] ∧ Has w b3 3 #[.int .i64 11]
theorem lt2 {j : Nat} (h : j < 2) : j = 0 ∨ j = 1 := by omega
theorem ExAt.mem {w : World} {b1 b2 b3 : Nat} (h : ExAt w b1 b2 b3) : Mem w w.heap.size exC (exP b1 b2 b3) :=
  ⟨pairs_of_has h.1 (fun j hj => by rw [Nat.lt_one_iff.1 hj]; exact ⟨rfl, rfl⟩), pairs_of_has h.2.1 (fun j hj => by rcases lt2 hj with rfl | rfl <;> exact ⟨rfl, rfl⟩), ints_of_has h.2.2 (fun j hj => by rw [Nat.lt_one_iff.1 hj]; rfl), fun h => absurd h (Nat.not_lt_zero _)⟩
def ExIs (w : World) (e : Ending) (w' : World) : Prop := ∃ b1 b2 b3, e = .returned (cv exC (exP b1 b2 b3)) ∧ ExAt w' b1 b2 b3 ∧ (w.heap.size ≤ b1 ∧ w.heap.size ≤ b2 ∧ w.heap.size ≤ b3) ∧ Below w.heap.size w w'

theorem exIs_keep {w w' : World} {b1 b2 b3 : Nat} (h : ExAt w b1 b2 b3) (hb : Below w.heap.size w w') : ExAt w' b1 b2 b3 := ⟨h.1.keep hb h.1.lt, h.2.1.keep hb h.2.1.lt, h.2.2.keep hb h.2.2.lt⟩

theorem exVars (b1 b2 b3 : Nat) (w : World) (h : ExAt w b1 b2 b3) : Calls Tryz.prog 70 #[cv exC (exP b1 b2 b3)] w fun e w' => e = .returned (.tuple #[.int .i64 5, .int .i64 0]) ∧ Below w.heap.size w w' := by
  have := gVars_any exC _ w h.mem exC_sm
  rwa [exC_vrs, exC_chk] at this

theorem exTCheck (b1 b2 b3 : Nat) (w : World) (h1 : Has w b1 70 #[.int .i64 10, .int .i64 2]) (h2 : Has w b2 80 #[.int .i64 2, .int .i64 4, .int .i64 8, .int .i64 7]) (h3 : Has w b3 3 #[.int .i64 11]) : Calls Tryz.prog 96 #[cv exC (exP b1 b2 b3)] w fun e w' => e = .returned (.int .i64 8) ∧ Below w.heap.size w w' := by
  have hm : Mem w w.heap.size exT (exP b1 b2 b3) :=
    ⟨pairs_of_has h1 (fun j hj => by rw [Nat.lt_one_iff.1 hj]; exact ⟨rfl, rfl⟩), pairs_of_has h2 (fun j hj => by rcases lt2 hj with rfl | rfl <;> exact ⟨rfl, rfl⟩), ints_of_has h3 (fun j hj => by rw [Nat.lt_one_iff.1 hj]; rfl), fun h => absurd h (Nat.not_lt_zero _)⟩
  have := gCheck_any exT _ w hm exT_sm
  rw [exT_chk] at this
  exact this