/- All functions of the layer and their references, of any assignment, in the words of Nw. -/
import Derived.Test.YtcmdongdjacgbaaAsTell6
import Derived.Test.YtcmdongdjacgbaaAsGuard
namespace Go.Proofs.Ytcmdongdjacgbaa
open Go Go.RowKit
set_option linter.unusedVariables false
set_option linter.unusedSimpArgs false

section
variable {b : Nat} {W : World} {A B : Option Addr} {n k m q : Nat} {t s : List Int}
theorem Nw.imply' (h : Nw b W A n k t B m q s) (hn : n ≤ 100000) (hm : m ≤ 100000) (hr : ∀ x ∈ t, I64 x) (v x : Int) (hx : I64 x) :
    Calls Try.prog 10 #[asv v A n k B m q, .int .i64 x] W (AsIs (pV v t s x) (pT v t s x) (pS v t s x false) (pE v t s x) W) := by
  have := h.nt
  have := h.ms
  have h1 := imply_any v A t k B s q x W h.ti (by omega) hr h.si (by omega) hx
  rw [← h.nt, ← h.ms] at h1
  exact h1.mono fun e w' h => h.as
theorem Nw.decide' (h : Nw b W A n k t B m q s) (hn : n ≤ 100000) (hm : m ≤ 100000) (hr : ∀ x ∈ t, I64 x) (v x : Int) (hx : I64 x) :
    Calls Try.prog 8 #[asv v A n k B m q, .int .i64 x] W (AsIs (pV v t s x) (pT v t s x) (pS v t s x true) (pE v t s x) W) := by
  have := h.nt
  have := h.ms
  have h1 := decide_any v A t k B s q x W h.ti (by omega) hr h.si (by omega) hx
  rwa [← h.nt, ← h.ms] at h1
theorem Nw.undo' (h : Nw b W A n k t B m q s) (hn : n ≤ 100000) (hm : m ≤ 100000) (hr : ∀ x ∈ t, I64 x) (v x : Int) :
    Calls Try.prog 16 #[asv v A n k B m q, .int .i64 x] W (AsIs (uV v t s x) (uT v t s x) (uS v t s x) (uE v t s x) W) := by
  have := h.nt
  have := h.ms
  have h1 := undo_any v A t k B s q x W h.ti (by omega) hr h.si (by omega)
  rwa [← h.nt, ← h.ms] at h1
theorem Nw.value' (h : Nw b W A n k t B m q s) (hn : n ≤ 100000) (hm : m ≤ 100000) (hr : ∀ x ∈ t, I64 x) (v x : Int) (hx : I64 x) :
    Calls Try.prog 12 #[asv v A n k B m q, .int .i64 x] W fun e w' => e = .returned (.tuple #[.int .u8 (vV v t s x), .int .i64 (wE v t s x)]) ∧ Below W.heap.size W w' := by
  have := h.nt
  have := h.ms
  have h1 := value14_any v A t k B s q x W h.ti (by omega) hr h.si (by omega) hx
  rwa [← h.nt, ← h.ms] at h1
theorem Nw.level' (h : Nw b W A n k t B m q s) (hn : n ≤ 100000) (hm : m ≤ 100000) (hr : ∀ x ∈ t, I64 x) (v x : Int) (hx : I64 x) :
    Calls Try.prog 14 #[asv v A n k B m q, .int .i64 x] W fun e w' => e = .returned (.tuple #[.int .i64 (lV v t s x), .int .i64 (lE v t s x)]) ∧ Below W.heap.size W w' := by
  have := h.nt
  have := h.ms
  have h1 := level14_any v A t k B s q x W h.ti (by omega) hr h.si (by omega) hx
  rwa [← h.nt, ← h.ms] at h1
theorem Nw.check' (h : Nw b W A n k t B m q s) (hn : n ≤ 100000) (hm : m ≤ 100000) (hr : ∀ x ∈ t, I64 x) (v : Int) :
    Calls Try.prog 18 #[asv v A n k B m q] W fun e w' => e = .returned (.int .i64 (aE v t s)) ∧ Below W.heap.size W w' := by
  have := h.nt
  have := h.ms
  have h1 := aCheck_any v A t k B s q W h.ti (by omega) hr h.si (by omega)
  rwa [← h.nt, ← h.ms] at h1
theorem Nw.rput (h : Nw b W A n k t B m q s) (hn : n ≤ 100000) (hm : m ≤ 100000) (v x : Int) (d : Bool) :
    Calls Try.prog 9 #[asv v A n k B m q, .int .i64 x, .bool d] W (AsIs (pV v t s x) (pT v t s x) (pS v t s x d) (pE v t s x) W) := by
  have := h.nt
  have := h.ms
  have h1 := rPut_any v A t k B s q x d W h.ti (by omega) h.si (by omega)
  rwa [← h.nt, ← h.ms] at h1
theorem Nw.rundo (h : Nw b W A n k t B m q s) (hn : n ≤ 100000) (hm : m ≤ 100000) (v x : Int) :
    Calls Try.prog 17 #[asv v A n k B m q, .int .i64 x] W (AsIs (uV v t s x) (uT v t s x) (uS v t s x) (uE v t s x) W) := by
  have := h.nt
  have := h.ms
  have h1 := rUndo_any v A t k B s q x W h.ti (by omega) h.si (by omega)
  rwa [← h.nt, ← h.ms] at h1
theorem Nw.rvalue (h : Nw b W A n k t B m q s) (hn : n ≤ 100000) (hm : m ≤ 100000) (v x : Int) :
    Calls Try.prog 13 #[asv v A n k B m q, .int .i64 x] W fun e w' => e = .returned (.tuple #[.int .u8 (vV v t s x), .int .i64 (wE v t s x)]) ∧ Below W.heap.size W w' := by
  have := h.nt
  have := h.ms
  have h1 := rValue14_any v A t k B s q x W h.ti (by omega) h.si (by omega)
  rwa [← h.nt, ← h.ms] at h1
theorem Nw.rlevel (h : Nw b W A n k t B m q s) (hn : n ≤ 100000) (hm : m ≤ 100000) (v x : Int) :
    Calls Try.prog 15 #[asv v A n k B m q, .int .i64 x] W fun e w' => e = .returned (.tuple #[.int .i64 (lV v t s x), .int .i64 (lE v t s x)]) ∧ Below W.heap.size W w' := by
  have := h.nt
  have := h.ms
  have h1 := rLevel14_any v A t k B s q x W h.ti (by omega) h.si (by omega)
  rwa [← h.nt, ← h.ms] at h1
theorem TwIs.nw {v : Int} {w : World} {en : Ending} {w' : World} (h : TwIs v t s w en w') (hn : n = t.length) (hm : m = s.length) : ∃ A k B q, en = .returned (asv v A n k B m q) ∧ Nw w.heap.size w' A n k t B m q s ∧ Below w.heap.size w w' := by
  subst hn hm
  obtain ⟨v1, v2, rfl, h2, h3⟩ := h
  obtain ⟨A, k, rfl, hI⟩ := h2.o1.at
  obtain ⟨B, q, rfl, hJ⟩ := h2.o2.at
  exact ⟨A, k, B, q, rfl, ⟨hI, hJ, rfl, rfl, fun a e => by subst e; exact h2.o1.blk _ rfl, fun a e => by subst e; exact h2.o2.blk _ rfl⟩, h3⟩
theorem Nw.twin (h : Nw b W A n k t B m q s) (hn : n ≤ 100000) (hm : m ≤ 100000) (v : Int) :
    Calls Try.prog 5 #[asv v A n k B m q] W fun e w' => ∃ A' k' B' q', e = .returned (asv v A' n k' B' m q') ∧ Nw W.heap.size w' A' n k' t B' m q' s ∧ Below W.heap.size W w' := by
  have := h.nt
  have := h.ms
  have h1 := twin14_any v A t k B s q W h.ti (by omega) h.si (by omega)
  rw [← h.nt, ← h.ms] at h1
  exact h1.mono fun e w' hh => hh.nw h.nt h.ms
end
theorem pT_len (v : Int) (t s : List Int) (x : Int) : (pT v t s x).length ≤ t.length + 1 := by unfold pT; split <;> simp
theorem pS_len (v : Int) (t s : List Int) (x : Int) (d : Bool) : (pS v t s x d).length ≤ s.length + 1 := by
  unfold pS
  split
  · cases d <;> simp
  · simp
theorem uT_len (v : Int) (t s : List Int) (x : Int) : (uT v t s x).length ≤ t.length := by
  unfold uT
  split
  · rw [List.length_take]; omega
  · simp
theorem uS_len (v : Int) (t s : List Int) (x : Int) : (uS v t s x).length ≤ s.length := by
  unfold uS
  split
  · rw [List.length_take]; omega
  · simp

end Go.Proofs.Ytcmdongdjacgbaa
