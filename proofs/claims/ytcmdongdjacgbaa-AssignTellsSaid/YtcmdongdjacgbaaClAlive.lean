/- The chapter's examples: alive. -/
import Derived.Test.YtcmdongdjacgbaaClRef5
namespace Go.Proofs.Ytcmdongdjacgbaa
open Go Go.RowKit
set_option linter.unusedVariables false
set_option linter.unusedSimpArgs false

/-- a list that has just been laid -/
theorem Ia.lit (W : World) {l : List Int} {cs : Array Value} (hcs : cs = (iC l).toArray) : Ia (W.alloc (.cells cs 3)) (W.alloc (.cells cs 3)).heap.size (some ⟨W.heap.size, 0, none⟩) l l.length := by
  have hN := Has.new W 3 cs
  refine ⟨fun hl => ⟨_, rfl, by simp, fun j hj => ?_⟩, (fun h => by cases h), Nat.le_refl _⟩
  rw [show (⟨W.heap.size, 0, none⟩ : Addr).add j = ⟨W.heap.size, j, none⟩ by unfold Addr.add; split <;> simp_all, hN.cell j, hcs]
  have := iC_at l j hj
  simpa using this
theorem Io.lit {B : Nat} {w : World} {l : List Int} {cs : Array Value} (hcs : cs = (iC l).toArray) (hB : B ≤ w.heap.size) (hl : l.length ≤ 100000) : Io B (w.alloc (.cells cs 3)) (.slice (some ⟨w.heap.size, 0, none⟩) l.length l.length) l := by
  rw [hcs]
  exact World.ownsRow_lit (base := B) (e := 3) (size := 1) w (iC l).toArray l.length hB (by simp only [maxLen]; omega) (by simp [iC])
theorem below_litI (W : World) (o : Obj) {w' : World} (h : Below (W.alloc o).heap.size (W.alloc o) w') : Below W.heap.size W w' := ((Below.refl _ _).alloc (Nat.le_refl _) o).trans (h.mono (by simp))

/-- Same, of a list and one that has just been laid -/
theorem same_lit {A : Option Addr} {l l' : List Int} {m k : Nat} {cs : Array Value} {W : World} (h : Ia W W.heap.size A l k) (e : l = l') (hm : l'.length = m) (hl : m ≤ 1000) (hcs : cs = (iC l').toArray) :
    Calls Try.prog 28 #[.slice A m k, .slice (some ⟨W.heap.size, 0, none⟩) m m] (W.alloc (.cells cs 3)) fun e w' => e = .returned (.bool true) ∧ Below W.heap.size W w' := by
  subst e hm
  refine (rSame_any A l k _ l _ _ (h.on ((Below.refl _ _).alloc (Nat.le_refl _) _)) (by omega) (Ia.lit W hcs) (by omega)).mono fun e w' ⟨e1, hb⟩ => ⟨by rw [e1, sm_self], below_litI _ _ hb⟩

theorem mk_lit {v : Int} {l l' : List Int} (hv : ¬ (v < 0 ∨ 4000 < v)) (hL : allL v l = true) (ha : alw l = false) (hs : l'.Pairwise (· < ·)) (hm : ∀ x, x ∈ l' ↔ x ∈ l) : mkL v l = l' ∧ mkA v l = false ∧ mkE v l = 0 := by
  have hm0 := mkE_yes hv hL
  obtain ⟨m1, m2⟩ := mk_yes hm0 ha
  exact ⟨by rw [m1, srt_eq hs hm], m2, hm0⟩
theorem i64_all {l : List Int} (h : ∀ x ∈ l, -100000 ≤ x ∧ x ≤ 100000) : ∀ x ∈ l, I64 x := fun x hx => by have := h x hx; unfold I64; omega
theorem ex13_1 : mkL 5 [7, 2, 7, 4] = [2, 4, 7] ∧ mkA 5 [7, 2, 7, 4] = false ∧ mkE 5 [7, 2, 7, 4] = 0 := mk_lit (by omega) (by decide) (by decide) (by decide) (fun x => by simp; omega)
theorem ex13_2 : mkL 5 [5, 4] = [] ∧ mkA 5 [5, 4] = true ∧ mkE 5 [5, 4] = 0 := by
  have hm0 : mkE 5 [5, 4] = 0 := by decide
  obtain ⟨m1, m2⟩ := mk_alw hm0 (by decide)
  exact ⟨m1, m2, hm0⟩
theorem ex13_3 : rvC 5 [2, 4] [3, 6] 1 = [4, 6] ∧ rvA 5 [2, 4] [3, 6] 1 = false ∧ rvE 5 [2, 4] [3, 6] 1 = 0 := by
  have hi : imE 5 [2, 4] [3, 6] = 0 := by decide
  obtain ⟨r1, r2, r3⟩ := rv_yes (n := 5) (a := [2, 4]) (b := [3, 6]) (v := 1) hi (by decide)
  have hl : rvL [2, 4] [3, 6] 1 = [4, 6] := by decide
  rw [hl] at r2 r3
  obtain ⟨m1, m2, m3⟩ := mk_lit (v := 5) (l := [4, 6]) (l' := [4, 6]) (by omega) (by decide) (by decide) (by decide) (fun x => Iff.rfl)
  exact ⟨r2.trans m1, r3.trans m2, r1⟩
theorem ex13_4 : rvC 5 [2, 4] [3, 5] 1 = [] ∧ rvA 5 [2, 4] [3, 5] 1 = true ∧ rvE 5 [2, 4] [3, 5] 1 = 0 := by
  have hi : imE 5 [2, 4] [3, 5] = 0 := by decide
  obtain ⟨r1, r2, r3⟩ := rv_yes (n := 5) (a := [2, 4]) (b := [3, 5]) (v := 1) hi (by decide)
  have hl : rvL [2, 4] [3, 5] 1 = [4, 5] := by decide
  rw [hl] at r2 r3
  obtain ⟨m1, m2⟩ := mk_alw (v := 5) (l := [4, 5]) (by decide) (by decide)
  exact ⟨r2.trans m1, r3.trans m2, r1⟩

theorem bn {w W W' : World} (h : Below w.heap.size w W) (hb : Below W.heap.size W W') : Below w.heap.size w W' := Below.step h h.size hb

end Go.Proofs.Ytcmdongdjacgbaa
