/- The guards of the laws: an assignment that is great, or not valid. -/
import Derived.Test.YtcmdongdjacgbaaAsAlive
namespace Go.Proofs.Ytcmdongdjacgbaa
open Go Go.RowKit
set_option linter.unusedVariables false
set_option linter.unusedSimpArgs false

/-- a law's argument -/
theorem Nw.arg {w : World} {A : Option Addr} {n k : Nat} {t : List Int} {B : Option Addr} {m q : Nat} {s : List Int} (h : Ia w w.heap.size A t k) (h' : Ia w w.heap.size B s q) (hn : n = t.length) (hm : m = s.length) : Nw 0 w A n k t B m q s :=
  ⟨h, h', hn, hm, fun _ _ => Nat.zero_le _, fun _ _ => Nat.zero_le _⟩
theorem Nw.rcheck {b : Nat} {W : World} {A B : Option Addr} {n k m q : Nat} {t s : List Int} (h : Nw b W A n k t B m q s) (hn : n ≤ 100000) (hm : m ≤ 100000) (v : Int) :
    Calls Try.prog 19 #[asv v A n k B m q] W fun e w' => e = .returned (.int .i64 (aE v t s)) ∧ Below W.heap.size W w' := by
  have := h.nt
  have := h.ms
  have h1 := rCheck14_any v A t k B s q W h.ti (by omega) h.si (by omega)
  rw [← h.nt, ← h.ms] at h1
  exact h1
/-- undone twice -/
theorem take_und {t s : List Int} {n : Nat} (h : OkS n s) {hi lo : Nat} (hh : hi ≤ s.length) (hlo : lo ≤ hi) :
    (t.take (usz n s hi)).take (usz (usz n s hi) (s.take hi) lo) = t.take (usz n s lo) ∧ (s.take hi).take lo = s.take lo := by
  obtain ⟨e1, e2⟩ := usz_two h hh hlo
  rw [e1, List.take_take, List.take_take, Nat.min_eq_left e2, Nat.min_eq_left hlo]
  exact ⟨rfl, rfl⟩

end Go.Proofs.Ytcmdongdjacgbaa
