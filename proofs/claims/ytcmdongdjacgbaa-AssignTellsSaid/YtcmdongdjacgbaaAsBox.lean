/- An assignment that a call got back; a box that holds one. -/
import Derived.Test.YtcmdongdjacgbaaAsRef3
namespace Go.Proofs.Ytcmdongdjacgbaa
open Go Go.RowKit
set_option linter.unusedVariables false
set_option linter.unusedSimpArgs false

theorem OkA.i64 {v : Int} {t s : List Int} (h : OkA v t s) : ∀ x ∈ t, I64 x := fun x hx => by
  have := isL_iff.1 (h.2.1.1 x hx)
  have := h.1
  unfold I64; omega
/-- the lists of an assignment in memory, from a block on -/
structure Nw (b : Nat) (W : World) (A : Option Addr) (n k : Nat) (t : List Int) (B : Option Addr) (m q : Nat) (s : List Int) : Prop where
  ti : Ia W W.heap.size A t k
  si : Ia W W.heap.size B s q
  nt : n = t.length
  ms : m = s.length
  ta : ∀ a, A = some a → b ≤ a.block
  sa : ∀ a, B = some a → b ≤ a.block
section
variable {b b' : Nat} {W W' : World} {A B : Option Addr} {n k m q : Nat} {t s : List Int} {v : Int}
theorem Nw.on (h : Nw b W A n k t B m q s) (hb : Below W.heap.size W W') : Nw b W' A n k t B m q s := ⟨h.ti.on hb, h.si.on hb, h.nt, h.ms, h.ta, h.sa⟩
theorem Nw.low (h : Nw b W A n k t B m q s) (hb : b' ≤ b) : Nw b' W A n k t B m q s := ⟨h.ti, h.si, h.nt, h.ms, fun a e => Nat.le_trans hb (h.ta a e), fun a e => Nat.le_trans hb (h.sa a e)⟩
theorem Nw.st3 (h : Nw b W A n k t B m q s) {g : Nat} (hg : g < b) (v0 v1 v2 : Value) : Nw b (st3 W g v0 v1 v2) A n k t B m q s :=
  ⟨(h.ti.st3 (fun a e => by have := h.ta a e; omega) v0 v1 v2).more (by rw [st3_size]; exact Nat.le_refl _), (h.si.st3 (fun a e => by have := h.sa a e; omega) v0 v1 v2).more (by rw [st3_size]; exact Nat.le_refl _), h.nt, h.ms, h.ta, h.sa⟩
theorem AsIs.nw {e : Int} {w : World} {en : Ending} {w' : World} (h : AsIs v t s e w en w') (hn : n = t.length) (hm : m = s.length) : ∃ A k B q, en = .returned (.tuple #[asv v A n k B m q, .int .i64 e]) ∧ Nw w.heap.size w' A n k t B m q s ∧ Below w.heap.size w w' := by
  subst hn hm
  obtain ⟨A, k, B, q, h1, h2, h3, h4, h5, h6⟩ := h
  exact ⟨A, k, B, q, h1, ⟨h2, h3, rfl, rfl, h5, h6⟩, h4⟩
theorem Nw.implyA (h : Nw b W A n k t B m q s) (hn : n ≤ 100000) (hm : m ≤ 100000) (ho : OkA v t s) (x : Int) (hx : I64 x) :
    Calls Try.prog 10 #[asv v A n k B m q, .int .i64 x] W (AsIs (pV v t s x) (pT v t s x) (pS v t s x false) (pE v t s x) W) := by
  have := h.nt
  have := h.ms
  have h1 := imply_any v A t k B s q x W h.ti (by omega) ho.i64 h.si (by omega) hx
  rw [← h.nt, ← h.ms] at h1
  exact h1.mono fun e w' h => h.as
theorem Nw.decideA (h : Nw b W A n k t B m q s) (hn : n ≤ 100000) (hm : m ≤ 100000) (ho : OkA v t s) (x : Int) (hx : I64 x) :
    Calls Try.prog 8 #[asv v A n k B m q, .int .i64 x] W (AsIs (pV v t s x) (pT v t s x) (pS v t s x true) (pE v t s x) W) := by
  have := h.nt
  have := h.ms
  have h1 := decide_any v A t k B s q x W h.ti (by omega) ho.i64 h.si (by omega) hx
  rw [← h.nt, ← h.ms] at h1
  exact h1
theorem Nw.undoA (h : Nw b W A n k t B m q s) (hn : n ≤ 100000) (hm : m ≤ 100000) (ho : OkA v t s) (x : Int) :
    Calls Try.prog 16 #[asv v A n k B m q, .int .i64 x] W (AsIs (uV v t s x) (uT v t s x) (uS v t s x) (uE v t s x) W) := by
  have := h.nt
  have := h.ms
  have h1 := undo_any v A t k B s q x W h.ti (by omega) ho.i64 h.si (by omega)
  rw [← h.nt, ← h.ms] at h1
  exact h1
/-- where it may be put -/
theorem Nw.imply (h : Nw b W A n k t B m q s) (hn : n ≤ 100000) (hm : m ≤ 100000) (ho : OkA v t s) {x : Int} (hx : isL v x = true) (hi : vin t x = false) {n' : Nat} (hn' : n' = n + 1) :
    Calls Try.prog 10 #[asv v A n k B m q, .int .i64 x] W fun e w' => ∃ A' k' B' q', e = .returned (.tuple #[asv v A' n' k' B' m q', .int .i64 0]) ∧ Nw W.heap.size w' A' n' k' (t ++ [x]) B' m q' s ∧ Below W.heap.size W w' := by
  have e0 : pE v t s x = 0 := pE_0.2 ⟨ho, hx, hi⟩
  obtain ⟨p1, p2, p3, p4⟩ := p_yes e0
  have h1 := h.implyA hn hm ho x (by have := isL_iff.1 hx; have := ho.1; unfold I64; omega)
  rw [p1, p2, p4, e0] at h1
  exact h1.mono fun e w' hh => hh.nw (by rw [List.length_append, ← h.nt, hn']; rfl) h.ms
theorem Nw.decide (h : Nw b W A n k t B m q s) (hn : n ≤ 100000) (hm : m ≤ 100000) (ho : OkA v t s) {x : Int} (hx : isL v x = true) (hi : vin t x = false) {n' m' : Nat} (hn' : n' = n + 1) (hm' : m' = m + 1) :
    Calls Try.prog 8 #[asv v A n k B m q, .int .i64 x] W fun e w' => ∃ A' k' B' q', e = .returned (.tuple #[asv v A' n' k' B' m' q', .int .i64 0]) ∧ Nw W.heap.size w' A' n' k' (t ++ [x]) B' m' q' (s ++ [(n : Int)]) ∧ Below W.heap.size W w' := by
  have e0 : pE v t s x = 0 := pE_0.2 ⟨ho, hx, hi⟩
  obtain ⟨p1, p2, p3, p4⟩ := p_yes e0
  have h1 := h.decideA hn hm ho x (by have := isL_iff.1 hx; have := ho.1; unfold I64; omega)
  rw [p1, p2, p3, e0, ← h.nt] at h1
  exact h1.mono fun e w' hh => hh.nw (by rw [List.length_append, ← h.nt, hn']; rfl) (by rw [List.length_append, ← h.ms, hm']; rfl)
theorem Nw.undo (h : Nw b W A n k t B m q s) (hn : n ≤ 100000) (hm : m ≤ 100000) (ho : OkA v t s) {x : Nat} (hx : x ≤ m) {n' : Nat} (hn' : n' = usz n s x) :
    Calls Try.prog 16 #[asv v A n k B m q, .int .i64 (x : Int)] W fun e w' => ∃ A' k' B' q', e = .returned (.tuple #[asv v A' n' k' B' x q', .int .i64 0]) ∧ Nw W.heap.size w' A' n' k' (t.take (usz n s x)) B' x q' (s.take x) ∧ Below W.heap.size W w' := by
  have hnt := h.nt
  have hms := h.ms
  have e0 : uE v t s x = 0 := uE_0.2 ⟨ho, by omega, by omega⟩
  obtain ⟨p1, p2, p3⟩ := u_yes e0
  have h1 := h.undoA hn hm ho (x : Int)
  rw [p1, p2, p3, e0, ← h.nt, Int.toNat_natCast] at h1
  have := usz_le (h.nt ▸ ho.2.2 : OkS n s) x
  exact h1.mono fun e w' hh => hh.nw (by rw [List.length_take, ← h.nt, hn']; omega) (by rw [List.length_take]; omega)
theorem Nw.value (h : Nw b W A n k t B m q s) (hn : n ≤ 100000) (hm : m ≤ 100000) (ho : OkA v t s) (x : Int) (hx : I64 x) :
    Calls Try.prog 12 #[asv v A n k B m q, .int .i64 x] W fun e w' => e = .returned (.tuple #[.int .u8 (vV v t s x), .int .i64 (wE v t s x)]) ∧ Below W.heap.size W w' := by
  have := h.nt
  have := h.ms
  have h1 := value14_any v A t k B s q x W h.ti (by omega) ho.i64 h.si (by omega) hx
  rw [← h.nt, ← h.ms] at h1
  exact h1
theorem Nw.level (h : Nw b W A n k t B m q s) (hn : n ≤ 100000) (hm : m ≤ 100000) (ho : OkA v t s) (x : Int) (hx : I64 x) :
    Calls Try.prog 14 #[asv v A n k B m q, .int .i64 x] W fun e w' => e = .returned (.tuple #[.int .i64 (lV v t s x), .int .i64 (lE v t s x)]) ∧ Below W.heap.size W w' := by
  have := h.nt
  have := h.ms
  have h1 := level14_any v A t k B s q x W h.ti (by omega) ho.i64 h.si (by omega) hx
  rw [← h.nt, ← h.ms] at h1
  exact h1
theorem Nw.check (h : Nw b W A n k t B m q s) (hn : n ≤ 100000) (hm : m ≤ 100000) (ho : OkA v t s) :
    Calls Try.prog 18 #[asv v A n k B m q] W fun e w' => e = .returned (.int .i64 0) ∧ Below W.heap.size W w' := by
  have := h.nt
  have := h.ms
  have h1 := aCheck_any v A t k B s q W h.ti (by omega) ho.i64 h.si (by omega)
  rw [aE_yes ho, ← h.nt, ← h.ms] at h1
  exact h1
theorem Nw.same {A' B' : Option Addr} {k' q' b' : Nat} (h : Nw b W A n k t B m q s) (hn : n ≤ 100000) (hm : m ≤ 100000) (h' : Nw b' W A' n k' t B' m q' s) :
    Calls Try.prog 11 #[asv v A n k B m q, asv v A' n k' B' m q'] W fun e w' => e = .returned (.bool true) ∧ Below W.heap.size W w' := by
  have := h.nt
  have := h.ms
  have h1 := rSame14_yes v A t k B s q A' k' B' q' W h.ti (by omega) h.si (by omega) h'.ti h'.si
  rw [← h.nt, ← h.ms] at h1
  exact h1
theorem Nw.lit (W : World) {n m : Nat} {t s : List Int} {cs cs2 : Array Value} (hcs : cs = (iC t).toArray) (hcs2 : cs2 = (iC s).toArray) (hn : n = t.length) (hm : m = s.length) :
    Nw W.heap.size ((W.alloc (.cells cs 3)).alloc (.cells cs2 3)) (some ⟨W.heap.size, 0, none⟩) n n t (some ⟨W.heap.size + 1, 0, none⟩) m m s := by
  subst hn hm
  have h2 := Ia.lit (W.alloc (.cells cs 3)) hcs2
  rw [show (W.alloc (.cells cs 3)).heap.size = W.heap.size + 1 from World.size_alloc _ _] at h2
  refine ⟨(Ia.lit W hcs).on (bx_on _ _), h2, rfl, rfl, fun a e => by cases e; exact Nat.le_refl _, fun a e => by cases e; exact Nat.le_succ _⟩
end
/-- the box of a variable -/
structure Bs (g : Nat) (W : World) (v0 v1 v2 : Value) : Prop where
  h : Has W g 24 #[v0, v1, v2]
theorem Bs.on {g : Nat} {W W' : World} {v0 v1 v2 : Value} (h : Bs g W v0 v1 v2) (hb : Below W.heap.size W W') : Bs g W' v0 v1 v2 := ⟨h.h.keep hb h.h.lt⟩
theorem Bs.new (W : World) (v0 v1 v2 : Value) : Bs W.heap.size (W.alloc (.cells #[v0, v1, v2] 24)) v0 v1 v2 := ⟨Has.new _ _ _⟩
theorem Bs.st {g : Nat} {W : World} {v0 v1 v2 : Value} (h : Bs g W v0 v1 v2) (u0 u1 u2 : Value) : Bs g (st3 W g u0 u1 u2) u0 u1 u2 := ⟨st3_has h.h u0 u1 u2⟩
theorem Bs.far {g g' : Nat} {W : World} {v0 v1 v2 : Value} (h : Bs g W v0 v1 v2) (hne : g ≠ g') (u0 u1 u2 : Value) : Bs g (st3 W g' u0 u1 u2) v0 v1 v2 :=
  ⟨((h.h.far (q := ⟨g', 0, none⟩) hne u0).far (q := ⟨g', 1, none⟩) hne u1).far (q := ⟨g', 2, none⟩) hne u2⟩
theorem Bs.c {g : Nat} {W : World} {v0 v1 v2 : Value} (h : Bs g W v0 v1 v2) : W.cell? ⟨g, 0, none⟩ = some v0 ∧ W.cell? ⟨g, 1, none⟩ = some v1 ∧ W.cell? ⟨g, 2, none⟩ = some v2 := ⟨h.h.cell 0, h.h.cell 1, h.h.cell 2⟩
theorem Bs.f {g : Nat} {W : World} {v0 v1 v2 : Value} (h : Bs g W v0 v1 v2) : W.frozen? ⟨g, 0, none⟩ = false ∧ W.frozen? ⟨g, 1, none⟩ = false ∧ W.frozen? ⟨g, 2, none⟩ = false := ⟨h.h.fz 0, h.h.fz 1, h.h.fz 2⟩

end Go.Proofs.Ytcmdongdjacgbaa
