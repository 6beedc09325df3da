/- Lists of truth values in memory. -/
import Derived.Test.YtpobkemgbbgolaaValuesMath
import Derived.Test.YtpobkemgbbgolaaAppKit
import Derived.Test.YtpobkemgbbgolaaGatesFrame
import Derived.Test.YtpobkemgbbgolaaGatesOut
import Derived.Deep.Grids
namespace Go.Proofs.Ytpobkemgbbgolaa
open Go.RowKit Go.ChangeShapes Go.WideShapes Go.ChangeAt
set_option linter.unusedVariables false
set_option linter.unusedSimpArgs false

/-- the truth values of a list -/
def BlsAt (w : World) (B : Nat) (A : Option Addr) (n : Nat) (f : Nat → Bool) : Prop :=
  0 < n → ∃ a, A = some a ∧ a.block < B ∧ ∀ j, j < n → w.cell? (a.add j) = some (.bool (f j))
theorem BlsAt.keep {w w' : World} {B : Nat} {A : Option Addr} {n : Nat} {f : Nat → Bool} (h : BlsAt w B A n f) (hb : Below B w w') : BlsAt w' B A n f := fun hn => by
  obtain ⟨a, e, hl, hc⟩ := h hn
  exact ⟨a, e, hl, fun j hj => (hb.cell (by rw [add_block]; exact hl)).trans (hc j hj)⟩
theorem BlsAt.more {w : World} {B B' : Nat} {A : Option Addr} {n : Nat} {f : Nat → Bool} (h : BlsAt w B A n f) (hb : B ≤ B') : BlsAt w B' A n f := fun hn => by
  obtain ⟨a, e, hl, hc⟩ := h hn
  exact ⟨a, e, by omega, hc⟩
theorem BlsAt.to {w W : World} {B : Nat} {A : Option Addr} {n : Nat} {f : Nat → Bool} (h : BlsAt w B A n f) (hb : Below B w W) (hB : B ≤ W.heap.size) : BlsAt W W.heap.size A n f := (h.keep hb).more hB
theorem BlsAt.congr {w : World} {B : Nat} {A : Option Addr} {n : Nat} {f g : Nat → Bool} (h : BlsAt w B A n f) (e : ∀ j, j < n → f j = g j) : BlsAt w B A n g := fun hn => by
  obtain ⟨a, e1, hl, hc⟩ := h hn
  exact ⟨a, e1, hl, fun j hj => by rw [hc j hj, e j hj]⟩

/-- the cells of a list of truth values -/
def bL (f : Nat → Bool) : Nat → List Value
  | 0 => []
  | n + 1 => bL f n ++ [.bool (f n)]
theorem bL_len (f : Nat → Bool) : ∀ n, (bL f n).length = n * 1
  | 0 => rfl
  | n + 1 => by rw [bL, List.length_append, bL_len f n]; simp
theorem bL_at (f : Nat → Bool) : ∀ n j, j < n → (bL f n)[j]? = some (.bool (f j))
  | 0, _, h => absurd h (Nat.not_lt_zero _)
  | n + 1, j, h => by
    have hl := bL_len f n
    rw [bL]
    rcases Nat.lt_succ_iff_lt_or_eq.1 h with h' | h'
    · rw [List.getElem?_append_left (by omega)]; exact bL_at f n j h'
    · subst h'
      rw [List.getElem?_append_right (by omega), hl]; simp
theorem bL_one (f : Nat → Bool) : ∀ n, ∀ u ∈ bL f n, u.oneCell' = true
  | 0, _, h => by cases h
  | n + 1, u, h => by
    rw [bL, List.mem_append] at h
    rcases h with h | h
    · exact bL_one f n u h
    · simp at h; subst h; rfl
theorem bL_congr {f g : Nat → Bool} : ∀ n, (∀ j, j < n → f j = g j) → bL f n = bL g n
  | 0, _ => rfl
  | n + 1, h => by rw [bL, bL, bL_congr n (fun j hj => h j (by omega)), h n (by omega)]
theorem bL_app (f g : Nat → Bool) (n : Nat) : ∀ m, bL f n ++ bL g m = bL (fun j => if j < n then f j else g (j - n)) (n + m)
  | 0 => by rw [bL, List.append_nil]; exact bL_congr n fun j hj => (if_pos hj).symm
  | m + 1 => by
    rw [← Nat.add_assoc, bL, bL, ← bL_app f g n m, if_neg (by omega), List.append_assoc]
    have : n + m - n = m := by omega
    rw [this]
theorem BlsAt.src {w : World} {B : Nat} {A : Option Addr} {n k : Nat} {f : Nat → Bool} (h : BlsAt w B A n f) (hn : A = none → n = 0 ∧ k = 0) : Src w A n k (bL f n) := by
  cases A with
  | none => obtain ⟨rfl, rfl⟩ := hn rfl; exact Or.inl ⟨rfl, rfl, rfl, rfl⟩
  | some ad =>
    refine Or.inr ⟨ad, rfl, fun j u hu => ?_⟩
    have hj : j < n * 1 := by rw [← bL_len f n]; exact (List.getElem?_eq_some_iff.1 hu).1
    obtain ⟨a, e, _, hc⟩ := h (by omega)
    obtain rfl : ad = a := by injection e
    rw [hc j (by omega), ← hu, bL_at f n j (by omega)]
/-- what a call owns, as a list -/
theorem own_bools {w : World} {base : Nat} {e : TypeId} {v : Value} {n : Nat} {f : Nat → Bool} (h : w.ownsRow base e 1 v n (bL f n)) : ∃ A k, v = .slice A n k ∧ BlsAt w w.heap.size A n f ∧ ∀ g, v.ownBlock = some g → base ≤ g := by
  refine (?_ : ∃ A k, v = .slice A n k ∧ BlsAt w w.heap.size A n f).imp fun A ⟨k, h1, h2⟩ => ⟨k, h1, h2, own_block h⟩
  rcases h.2 with ⟨rfl, hn⟩ | ⟨g, cap, cur, rfl, hg, hh, r⟩
  · exact ⟨none, 0, by rw [hn], fun h => by omega⟩
  · exact ⟨_, cap, rfl, fun hn => ⟨_, rfl, Has.lt (t := e) (cs := cur) hh, fun j hj => h.cells (g := g) rfl _ _ (bL_at f n j hj)⟩⟩
/-- the same, with where it lies -/
theorem own_bools2 {w : World} {base : Nat} {e : TypeId} {v : Value} {n : Nat} {f : Nat → Bool} (h : w.ownsRow base e 1 v n (bL f n)) : ∃ A k, v = .slice A n k ∧ BlsAt w w.heap.size A n f ∧ (A = none → n = 0 ∧ k = 0) ∧ ∀ a, A = some a → base ≤ a.block := by
  rcases h.2 with ⟨rfl, hn⟩ | ⟨g, cap, cur, rfl, hg, hh, r⟩
  · exact ⟨none, 0, by rw [hn], fun h => by omega, fun _ => ⟨hn, rfl⟩, fun _ h => by cases h⟩
  · exact ⟨_, cap, rfl, fun hn => ⟨_, rfl, Has.lt (t := e) (cs := cur) hh, fun j hj => h.cells (g := g) rfl _ _ (bL_at f n j hj)⟩, (fun h => by cases h), fun a h => by cases h; exact hg⟩
theorem row_bools {w : World} {g : Nat} {t : TypeId} {n : Nat} {f : Nat → Bool} (h : w.rowIs g t n (fun v => .bool (f v))) : BlsAt w w.heap.size (some ⟨g, 0, none⟩) n f := fun _ =>
  ⟨_, rfl, h.lt, fun j hj => by
    have e : (⟨g, 0, none⟩ : Addr).add j = ⟨g, j, none⟩ := by unfold Addr.add; split <;> simp_all
    rw [e]; exact h.cell hj⟩
/-- a block of cells of truth values -/
theorem row_of_list {w : World} {g : Nat} {t : TypeId} {f : Nat → Bool} {n : Nat} (h : w.heap[g]? = some (.cells (bL f n).toArray t (0, 0))) : w.rowIs g t n (fun v => .bool (f v)) :=
  ⟨_, h, by simpa using bL_len f n, fun i hi => by simpa using bL_at f n i hi⟩

section
variable {H : Type} {enc : TypeId × Value → H} {W : World} {base : Nat} {held : Bool}
set_option maxRecDepth 100000 in
/-- a list of truth values, as it comes in -/
theorem open_bl {v : Value} {d : DataW H} {ps : List MemPlace} {r : Reach} {b0 : Nat} (hv : Value.okWide Try.prog W r b0 29 v) (h : DataW.Trod enc Try.prog W base (fun _ => true) held 29 v d ps) :
    ∃ A n k f, v = .slice A n k ∧ BlsAt W W.heap.size A n f ∧ (A = none → n = 0 ∧ k = 0) ∧ n ≤ k ∧ k ≤ maxLen := by
  obtain ⟨a0, n0, k0, rfl⟩ := okWide_slice Try.underlying29 hv
  obtain ⟨fuel, hf⟩ := h
  rcases Deep.open_bools Try.underlying29 Try.underlying4 (by kernel_rfl) hf with ⟨hv, _⟩ | ⟨a, len, cap, f, hv, _, hl, hml, _, hc⟩
  · have hv' : [Value.slice a0 n0 k0] = [.slice none 0 0] := hv
    injection hv' with hv'
    exact ⟨none, 0, 0, fun _ => false, hv', fun h => absurd h (Nat.not_lt_zero _), fun _ => ⟨rfl, rfl⟩, Nat.le_refl _, Nat.zero_le _⟩
  · have hv' : [Value.slice a0 n0 k0] = [.slice (some a) len cap] := hv
    injection hv' with hv'
    refine ⟨some a, len, cap, f, hv', fun hn => ⟨a, rfl, ?_, fun j hj => hc j (by omega)⟩, (fun h => by cases h), hl, hml⟩
    have := cell_lt (hc 0 (by omega))
    rwa [add_block] at this
end
end Go.Proofs.Ytpobkemgbbgolaa
