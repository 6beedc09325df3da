/- The reference's contracts: Twin. -/
import Derived.Test.YtecmldnigohjfabDoorAsRef
namespace Go.Proofs.YtecmldnigohjfabDoor
open Go Go.RowKit
set_option linter.unusedVariables false
set_option linter.unusedSimpArgs false

/-- two lists that a call owns, apart -/
structure Two (b : Nat) (W : World) (v1 : Value) (l1 : List Int) (v2 : Value) (l2 : List Int) : Prop where
  o1 : Io b W v1 l1
  o2 : Io b W v2 l2
  ap : ∀ g, v1.ownBlock = some g → v2.ownBlock ≠ some g
theorem Io.lt {b : Nat} {W : World} {v : Value} {l : List Int} (h : Io b W v l) {k : Nat} (hk : v.ownBlock = some k) : k < W.heap.size := (World.ownsRow.lt h k hk).2
section
variable {b : Nat} {W : World} {v1 v2 : Value} {l1 l2 : List Int}
theorem Two.swap (h : Two b W v1 l1 v2 l2) : Two b W v2 l2 v1 l1 := ⟨h.o2, h.o1, fun g h2 h1 => h.ap g h1 h2⟩
theorem Two.nil (b : Nat) (W : World) : Two b W (.slice none 0 0) [] (.slice none 0 0) [] := ⟨Io.nil _ _, Io.nil _ _, fun g h => by cases h⟩
theorem Two.drew (h : Two b W v1 l1 v2 l2) : Two b W.drew v1 l1 v2 l2 := ⟨h.o1, h.o2, h.ap⟩
theorem Two.new1 (h : Two b W v1 l1 v2 l2) (hb : b ≤ W.heap.size) : Two b (W.alloc (.cells #[] 3)) (.slice (some ⟨W.heap.size, 0, none⟩) 0 0) [] v2 l2 :=
  ⟨Io.lit (l := []) rfl hb (by simp), h.o2.keep (bx_on _ _), fun g hg h2 => (by have hg : W.heap.size = g := (by simpa [Value.ownBlock] using hg); have := h.o2.lt h2; omega)⟩
theorem Two.new2 (h : Two b W v1 l1 v2 l2) (hb : b ≤ W.heap.size) : Two b (W.alloc (.cells #[] 3)) v1 l1 (.slice (some ⟨W.heap.size, 0, none⟩) 0 0) [] := (h.swap.new1 hb).swap
theorem Io.same {w' : World} {v : Value} {l : List Int} (h : Io b W v l) (hh : ∀ g, v.ownBlock = some g → w'.heap[g]? = W.heap[g]?) : Io b w' v l := by
  refine ⟨h.1, h.2.imp id fun ⟨g, cap, cur, h1, h2, h3, h4⟩ => ⟨g, cap, cur, h1, h2, ?_, h4⟩⟩
  rw [hh g (by rw [h1]; rfl)]; exact h3
/-- append to the one -/
theorem Two.app1 (h : Two b W v1 l1 v2 l2) (hb : b ≤ W.heap.size) {A : Option Addr} {n k : Nat} {m : List Int} (hn : n = m.length) (hs : Src W A m.length k (iC m)) (hle : l1.length + m.length ≤ 1000000) (ty : TypeId) :
    ∃ v' w', (Builtin.append_ #[22, 22] ty #[v1, .slice A n k]).run Tryd.prog W = .ok v' w' ∧ Two b w' v' (l1 ++ m) v2 l2 ∧ Below b W w' ∧ (∀ g, g < W.heap.size → v1.ownBlock ≠ some g → w'.heap[g]? = W.heap[g]?) := by
  obtain ⟨i0, hi0, hzz0, hs0, hy0⟩ := info_parts info_int
  subst hn
  rcases hs with ⟨rfl, h1, rfl, h3⟩ | ⟨ad, rfl, hc⟩
  · have hm : m = [] := List.eq_nil_of_length_eq_zero h1
    subst hm
    exact ⟨v1, W, run_append_owned_none (P := Tryd.prog) (w := W) b 22 ty 3 i0 1 Tryd.underlying22 hi0 v1 l1.length (iC l1) h.o1, by simpa using h, Below.refl _ _, fun _ _ _ => rfl⟩
  · obtain ⟨v', w', hr, h2, h3, _, h5⟩ := run_append_own_at (P := Tryd.prog) W b 22 ty 3 i0 (.int .i64 0) 1 8 Tryd.underlying22 hi0 hzz0 hs0 hy0 rfl (by decide) v1 l1.length (iC l1) h.o1 ad m.length k (iC m) (by rw [iC_len]) hc (iC_one m) (by simp only [maxLen]; omega) (by omega) hb
    have hold : ∀ g, g < W.heap.size → v1.ownBlock ≠ some g → w'.heap[g]? = W.heap[g]? := fun g hg hne => h3.block g hg (fun e => hne e.symm)
    refine ⟨v', w', hr, ⟨Io.mk h2 (by rw [List.length_append]) (by rw [iC_app]), h.o2.same fun g hg => hold g (h.o2.lt hg) (fun e => h.ap g e hg), fun g hg h6 => ?_⟩, (Below.refl b W).grown h3 hb (fun k hk => h.o1.blk k hk), hold⟩
    rcases h5 with h5 | h5
    · rw [h5] at hg; exact h.ap g hg h6
    · rw [h5] at hg
      injection hg with hg
      have := h.o2.lt h6
      omega
theorem Two.app2 (h : Two b W v1 l1 v2 l2) (hb : b ≤ W.heap.size) {A : Option Addr} {n k : Nat} {m : List Int} (hn : n = m.length) (hs : Src W A m.length k (iC m)) (hle : l2.length + m.length ≤ 1000000) (ty : TypeId) :
    ∃ v' w', (Builtin.append_ #[22, 22] ty #[v2, .slice A n k]).run Tryd.prog W = .ok v' w' ∧ Two b w' v1 l1 v' (l2 ++ m) ∧ Below b W w' ∧ (∀ g, g < W.heap.size → v2.ownBlock ≠ some g → w'.heap[g]? = W.heap[g]?) := by
  obtain ⟨v', w', h1, h2, h3, h4⟩ := h.swap.app1 hb hn hs hle ty
  exact ⟨v', w', h1, h2.swap, h3, h4⟩
theorem Two.set {q : Addr} (h : Two b W v1 l1 v2 l2) (hq : q.block < b) (u : Value) : Two b (W.setCell q u) v1 l1 v2 l2 := ⟨h.o1.set hq u, h.o2.set hq u, h.ap⟩
theorem Two.st3 {g : Nat} (h : Two b W v1 l1 v2 l2) (hq : g < b) (u0 u1 u2 : Value) : Two b (st3 W g u0 u1 u2) v1 l1 v2 l2 := ⟨h.o1.st3 hq u0 u1 u2, h.o2.st3 hq u0 u1 u2, h.ap⟩
end
/-- what the reference's functions that copy return -/
def TwIs (v : Int) (t s : List Int) (w : World) (en : Ending) (w' : World) : Prop := ∃ v1 v2, en = .returned (.agg #[.int .i64 v, v1, v2]) ∧ Two w.heap.size w' v1 t v2 s ∧ Below w.heap.size w w'

theorem Bx2.far {w W W' : World} {x0 x1 x2 : Value} (hX : Bx2 w x0 x1 x2 W) (hb : Below (w.heap.size + 2) W W') : Bx2 w x0 x1 x2 W' := ⟨hX.b.trans (hb.mono (by omega)), Nat.le_trans hX.z hb.size, hX.h1.keep hb (by omega), hX.h2.keep hb (by omega)⟩
theorem tw_app1 {w W : World} {x0 x1 x2 v1 v2 : Value} {l1 l2 : List Int} (hT : Two (w.heap.size + 2) W v1 l1 v2 l2) (hX : Bx2 w x0 x1 x2 W) {A : Option Addr} {n k : Nat} {m : List Int} (hn : n = m.length) (h : Ia w w.heap.size A m k) (hle : l1.length + m.length ≤ 1000000) (ty : TypeId) :
    ∃ v' w', (Builtin.append_ #[22, 22] ty #[v1, .slice A n k]).run Tryd.prog W = .ok v' w' ∧ (Two (w.heap.size + 2) w' v' (l1 ++ m) v2 l2 ∧ Bx2 w x0 x1 x2 w') := by
  obtain ⟨v', w', h1, h2, h3, _⟩ := hT.app1 hX.z hn ((h.on hX.b).src) hle ty
  exact ⟨v', w', h1, h2, hX.far h3⟩
theorem tw_app2 {w W : World} {x0 x1 x2 v1 v2 : Value} {l1 l2 : List Int} (hT : Two (w.heap.size + 2) W v1 l1 v2 l2) (hX : Bx2 w x0 x1 x2 W) {A : Option Addr} {n k : Nat} {m : List Int} (hn : n = m.length) (h : Ia w w.heap.size A m k) (hle : l2.length + m.length ≤ 1000000) (ty : TypeId) :
    ∃ v' w', (Builtin.append_ #[22, 22] ty #[v2, .slice A n k]).run Tryd.prog W = .ok v' w' ∧ (Two (w.heap.size + 2) w' v1 l1 v' (l2 ++ m) ∧ Bx2 w x0 x1 x2 w') := by
  obtain ⟨v', w', h1, h2, h3, _⟩ := hT.app2 hX.z hn ((h.on hX.b).src) hle ty
  exact ⟨v', w', h1, h2, hX.far h3⟩

end Go.Proofs.YtecmldnigohjfabDoor

namespace Go.Proofs.YtecmldnigohjfabDoor
open Go Go.RowKit
set_option linter.unusedVariables false
set_option linter.unusedSimpArgs false

end Go.Proofs.YtecmldnigohjfabDoor

namespace Go.Proofs.YtecmldnigohjfabDoor
open Go Go.RowKit
set_option linter.unusedVariables false
set_option linter.unusedSimpArgs false

end Go.Proofs.YtecmldnigohjfabDoor

namespace Go.Proofs.YtecmldnigohjfabDoor
open Go Go.RowKit
set_option linter.unusedVariables false
set_option linter.unusedSimpArgs false

theorem Io.setne {B : Nat} {w : World} {v : Value} {l : List Int} (h : Io B w v l) {q : Addr} (hq : ∀ k, v.ownBlock = some k → k ≠ q.block) (u : Value) : Io B (w.setCell q u) v l :=
  h.same fun g hg => Below.heap_setCell _ _ _ _ (hq g hg)
theorem set_below {B : Nat} {w : World} {q : Addr} (h : B ≤ q.block) (u : Value) : Below B w (w.setCell q u) := (Below.refl B w).setCell h u
theorem set_sz (w : World) (q : Addr) (u : Value) : (w.setCell q u).heap.size = w.heap.size := by simp [World.setCell]


end Go.Proofs.YtecmldnigohjfabDoor

namespace Go.Proofs.YtecmldnigohjfabDoor
open Go Go.RowKit
set_option linter.unusedVariables false
set_option linter.unusedSimpArgs false

/-- a law's argument -/
theorem Nw.arg {w : World} {A : Option Addr} {n k : Nat} {t : List Int} {B : Option Addr} {m q : Nat} {s : List Int} (h : Ia w w.heap.size A t k) (h' : Ia w w.heap.size B s q) (hn : n = t.length) (hm : m = s.length) : Nw 0 w A n k t B m q s :=
  ⟨h, h', hn, hm, fun _ _ => Nat.zero_le _, fun _ _ => Nat.zero_le _⟩

theorem Nw.rcheck {b : Nat} {W : World} {A B : Option Addr} {n k m q : Nat} {t s : List Int} (h : Nw b W A n k t B m q s) (hn : n ≤ 100000) (hm : m ≤ 100000) (v : Int) :
    Calls Tryd.prog 6 #[asv v A n k B m q] W fun e w' => e = .returned (.int .i64 (aE v t s)) ∧ Below W.heap.size W w' := by
  have := h.nt
  have := h.ms
  have h1 := rCheck14_any v A t k B s q W h.ti (by omega) h.si (by omega)
  rw [← h.nt, ← h.ms] at h1
  exact h1

end Go.Proofs.YtecmldnigohjfabDoor
