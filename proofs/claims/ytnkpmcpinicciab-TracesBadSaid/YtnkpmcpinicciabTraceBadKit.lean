/- A circuit without constraints, a circuit without bad literals: what they say of a run. -/
import Derived.Test.YtnkpmcpinicciabTraceKit
namespace Go.Proofs.Ytnkpmcpinicciab
open Go.RowKit
set_option linter.unusedVariables false

namespace Cr
/-- without constraints -/
def free (c : Cr) : Cr := { c with nc := 0 }
/-- without bad literals -/
def nob (c : Cr) : Cr := { c with nb := 0 }
theorem free_fr (c : Cr) (s t : Nat → Bool) : ∀ k, c.free.frA s t k = c.frA s t k
  | 0 => rfl
  | k + 1 => by rw [frA_succ, frA_succ, free_fr c s t k]; rfl
theorem nob_fr (c : Cr) (s t : Nat → Bool) : ∀ k, c.nob.frA s t k = c.frA s t k
  | 0 => rfl
  | k + 1 => by rw [frA_succ, frA_succ, nob_fr c s t k]; rfl
theorem free_chk {c : Cr} (h : c.chk = 0) : c.free.chk = 0 := by
  unfold chk at h ⊢
  split at h
  · omega
  · rename_i h1
    split at h
    · omega
    · rename_i h2
      split at h
      · rename_i h3
        rw [if_neg (show ¬ c.free.i < 0 from h1), if_neg (show ¬ (1000 < c.free.sz ∨ 100 < c.free.nb ∨ 100 < c.free.nc) from fun h => h2 (h.imp_right (Or.imp_right fun h => absurd (show 100 < 0 from h) (by omega))))]
        exact if_pos ⟨h3.1, decide_eq_true (fun j hj => absurd hj (Nat.not_lt_zero _)), h3.2.2.1, h3.2.2.2⟩
      · omega
theorem nob_chk {c : Cr} (h : c.chk = 0) : c.nob.chk = 0 := by
  unfold chk at h ⊢
  split at h
  · omega
  · rename_i h1
    split at h
    · omega
    · rename_i h2
      split at h
      · rename_i h3
        rw [if_neg (show ¬ c.nob.i < 0 from h1), if_neg (show ¬ (1000 < c.nob.sz ∨ 100 < c.nob.nb ∨ 100 < c.nob.nc) from fun h => h2 (h.imp_right (Or.imp_left fun h => absurd (show 100 < 0 from h) (by omega))))]
        exact if_pos ⟨decide_eq_true (fun j hj => absurd hj (Nat.not_lt_zero _)), h3.2.1, h3.2.2.1, h3.2.2.2⟩
      · omega
theorem free_tck {c : Cr} {t : Tr} (h : c.tck t = 0) : c.free.tck t = 0 := by
  obtain ⟨k1, k2, k3, k4, k5, k6⟩ := tck_ok h
  refine tck_right (free_chk k1) k3 ?_
  rintro (h | h | h | h)
  · omega
  · exact h k4
  · have h : c.stB t.nf t.fi = false := h
    rw [k5] at h; cases h
  · exact of_decide_eq_false h k6
theorem nob_tck {c : Cr} {t : Tr} (h : c.tck t = 0) : c.nob.tck t = 0 := by
  obtain ⟨k1, k2, k3, k4, k5, k6⟩ := tck_ok h
  refine tck_right (nob_chk k1) k3 ?_
  rintro (h | h | h | h)
  · omega
  · exact h k4
  · have h : c.stB t.nf t.fi = false := h
    rw [k5] at h; cases h
  · exact of_decide_eq_false h k6
theorem free_alw (c : Cr) (t : Tr) : c.free.alw t = t.ni := led_end fun j _ => hol_yes (c := c.free) fun i hi => absurd hi (Nat.not_lt_zero _)
theorem nob_shw (c : Cr) (t : Tr) : c.nob.shw t = -1 := shw_no (Or.inr (by have := ff_le c.nob t (t.ni - 1); have e : c.nob.nb = 0 := rfl; omega))
end Cr

/-- what a search from behind has found, down to q -/
def FW (P : Nat → Bool) (nb q : Nat) (x : Int) : Prop := (x = -1 ∧ ∀ j, q ≤ j → j < nb → P j = false) ∨ ∃ n : Nat, x = n ∧ q ≤ n ∧ n < nb ∧ P n = true ∧ ∀ j, q ≤ j → j < n → P j = false
theorem FW_0 (P : Nat → Bool) (nb : Nat) : FW P nb nb (-1) := Or.inl ⟨rfl, fun j h1 h2 => by omega⟩
theorem FW_no {P : Nat → Bool} {nb q : Nat} {x : Int} (h : FW P nb (q + 1) x) (hp : P q = false) : FW P nb q x := by
  rcases h with ⟨e, h⟩ | ⟨n, e, h1, h2, h3, h4⟩
  · exact Or.inl ⟨e, fun j hj hl => if hq : j = q then hq ▸ hp else h j (by omega) hl⟩
  · exact Or.inr ⟨n, e, by omega, h2, h3, fun j hj hl => if hq : j = q then hq ▸ hp else h4 j (by omega) hl⟩
theorem FW_yes {P : Nat → Bool} {nb q : Nat} (hq : q < nb) (hp : P q = true) : FW P nb q q := Or.inr ⟨q, rfl, Nat.le_refl _, hq, hp, fun j h1 h2 => by omega⟩
theorem FW_end {P : Nat → Bool} {nb : Nat} {x : Int} (h : FW P nb 0 x) : (x = -1 ∧ led (fun j => !P j) nb = nb) ∨ ∃ n : Nat, x = n ∧ n < nb ∧ led (fun j => !P j) nb = n := by
  rcases h with ⟨e, h⟩ | ⟨n, e, h1, h2, h3, h4⟩
  · exact Or.inl ⟨e, led_end fun j hj => by simp [h j (Nat.zero_le _) hj]⟩
  · exact Or.inr ⟨n, e, h2, led_at h2 (fun j hj => by simp [h4 j (Nat.zero_le _) hj]) (by simp [h3])⟩

section
variable {c : Cr} {p : Pl} {t : Tr} {A1 A2 : Option Addr} {k1 k2 : Nat}
theorem RArg.free {w : World} {B : Nat} {q : Tp} (h : RArg w B c p t q) : RArg w B c.free { p with A4 := none, k4 := 0 } t q :=
  ⟨⟨h.hm.la, h.hm.an, h.hm.bd, fun h => absurd h (Nat.not_lt_zero _)⟩, ⟨h.hs.i, h.hs.nl, h.hs.na, h.hs.nb, Nat.zero_le _, h.hs.nx, h.hs.rs, h.hs.ga, h.hs.gb, h.hs.bd, h.hs.cn⟩, h.ht, h.hts⟩
theorem RArg.nob {w : World} {B : Nat} {q : Tp} (h : RArg w B c p t q) : RArg w B c.nob { p with A3 := none, k3 := 0 } t q :=
  ⟨⟨h.hm.la, h.hm.an, fun h => absurd h (Nat.not_lt_zero _), h.hm.cn⟩, ⟨h.hs.i, h.hs.nl, h.hs.na, Nat.zero_le _, h.hs.nc, h.hs.nx, h.hs.rs, h.hs.ga, h.hs.gb, h.hs.bd, h.hs.cn⟩, h.ht, h.hts⟩

theorem right_free (hk : c.tck t = 0) (w : World) (h : RArg w w.heap.size c p t ⟨A1, k1, A2, k2⟩) :
    Calls Try.prog 9 #[.agg #[.int .i64 c.i, .slice p.A1 c.nl p.k1, .slice p.A2 c.na p.k2, .slice p.A3 c.nb p.k3, .slice none 0 0], .agg #[.slice A1 t.nf k1, .slice A2 t.ni k2]] w fun e w' => e = .returned (.tuple #[.int .i64 (t.ni : Int), .int .i64 0]) ∧ Below w.heap.size w w' := by
  have := tright_any w h.free
  rw [show c.free.rgt t = t.ni by unfold Cr.rgt; rw [if_pos (Cr.free_tck hk), Cr.free_alw], Cr.free_tck hk] at this
  exact this

theorem wit_nob (hk : c.tck t = 0) (w : World) (h : RArg w w.heap.size c p t ⟨A1, k1, A2, k2⟩) :
    Calls Try.prog 10 #[.agg #[.int .i64 c.i, .slice p.A1 c.nl p.k1, .slice p.A2 c.na p.k2, .slice none 0 0, .slice p.A4 c.nc p.k4], .agg #[.slice A1 t.nf k1, .slice A2 t.ni k2]] w fun e w' => ∃ x : Int, e = .returned (.tuple #[.int .i64 x, .int .i64 57]) ∧ Below w.heap.size w w' := by
  have := twitness_any w h.nob
  rw [show c.nob.wte t = 57 by unfold Cr.wte; rw [if_pos (Cr.nob_tck hk), Cr.nob_shw, if_neg (by omega)]] at this
  exact this.mono fun e w' ⟨he, hb⟩ => ⟨_, he, hb⟩

theorem right_at {m : Nat} (hk : c.tck t = 0) (hm : c.alw t = m) (w : World) (h : RArg w w.heap.size c p t ⟨A1, k1, A2, k2⟩) :
    Calls Try.prog 9 #[cv c p, .agg #[.slice A1 t.nf k1, .slice A2 t.ni k2]] w fun e w' => e = .returned (.tuple #[.int .i64 (m : Int), .int .i64 0]) ∧ Below w.heap.size w w' := by
  have := tright_any w h
  rw [show c.rgt t = m by unfold Cr.rgt; rw [if_pos hk, hm], hk] at this
  exact this

theorem wit_at {x y : Int} (hx : c.wti t = x) (hy : c.wte t = y) (w : World) (h : RArg w w.heap.size c p t ⟨A1, k1, A2, k2⟩) :
    Calls Try.prog 10 #[cv c p, .agg #[.slice A1 t.nf k1, .slice A2 t.ni k2]] w fun e w' => e = .returned (.tuple #[.int .i64 x, .int .i64 y]) ∧ Below w.heap.size w w' := by
  have := twitness_any w h
  rw [hx, hy] at this
  exact this

end
theorem RArg.to2 {w w1 : World} {c : Cr} {p : Pl} {t : Tr} {q : Tp} {o1 o2 : Obj} (h : RArg w w.heap.size c p t q) (hb : Below w.heap.size w w1) : RArg ((w1.alloc o1).alloc o2).drew ((w1.alloc o1).alloc o2).drew.heap.size c p t q := by
  have hB : Below w.heap.size w ((w1.alloc o1).alloc o2).drew := below_dn ((hb.alloc hb.size _).alloc (by have := hb.size; simp only [World.size_alloc]; omega) _) 1
  exact h.to hB hB.size
/-- two boxes that the call has just made, behind a call -/
theorem two_box {w1 w4 : World} {cs1 cs2 : Array Value} {T1 T2 : TypeId} (hb : Below ((w1.alloc (.cells cs1 T1)).alloc (.cells cs2 T2)).drew.heap.size ((w1.alloc (.cells cs1 T1)).alloc (.cells cs2 T2)).drew w4) : Below w1.heap.size w1 w4 ∧ Has w4 w1.heap.size T1 cs1 ∧ Has w4 (w1.heap.size + 1) T2 cs2 := by
  have hb := Below.undn2' hb
  have hB : Below w1.heap.size w1 ((w1.alloc (.cells cs1 T1)).alloc (.cells cs2 T2)) := ((Below.refl _ _).alloc (Nat.le_refl _) _).alloc (by simp) _
  have h1 : Has ((w1.alloc (.cells cs1 T1)).alloc (.cells cs2 T2)) w1.heap.size T1 cs1 := (Has.new _ _ _).al _
  have h2 : Has ((w1.alloc (.cells cs1 T1)).alloc (.cells cs2 T2)) (w1.heap.size + 1) T2 cs2 := Has.new' _ _ (by simp)
  exact ⟨Below.step hB hB.size hb, h1.keep hb h1.lt, h2.keep hb h2.lt⟩
end Go.Proofs.Ytnkpmcpinicciab
