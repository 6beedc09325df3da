/- Other resets, written one after the other. -/
import Derived.Test.YthpifibemekmcaaGatesFew
import Derived.Test.YthpifibemekmcaaGatesAlive
namespace Go.Proofs.Ythpifibemekmcaa
open Go.RowKit
set_option linter.unusedVariables false

theorem pairL_set (f g : Nat → Int) (q : Nat) (x : Int) : ∀ n, (pairL f g n).set (q * 2 + 1) (.int .i64 x) = pairL f (fun j => if j = q then x else g j) n
  | 0 => rfl
  | n + 1 => by
    have hl := pairL_len f g n
    rw [pairL, pairL, ← pairL_set f g q x n, List.set_append]
    rcases Nat.lt_trichotomy q n with h | h | h
    · rw [if_pos (by omega), if_neg (by omega)]
    · subst h
      rw [if_neg (by omega), if_pos rfl, hl, List.set_eq_of_length_le (l := pairL f g q) (by omega)]
      have e : q * 2 + 1 - q * 2 = 1 := by omega
      rw [e]; rfl
    · rw [if_neg (by omega), if_neg (by omega), hl, List.set_eq_of_length_le (l := pairL f g n) (by omega), List.set_eq_of_length_le (by simp; omega)]

namespace Cr
/-- the resets behind q rounds -/
def rq (c : Cr) (q : Nat) : Nat → Int := fun j => if j < q then 2 - c.rs j else c.rs j
theorem rq_0 (c : Cr) : c.rq 0 = c.rs := by funext j; simp [rq]
theorem rq_succ (c : Cr) (q : Nat) : c.rq (q + 1) = fun j => if j = q then 2 - c.rs q else c.rq q j := by
  funext j
  unfold rq
  by_cases h : j = q
  · subst h; simp
  · rw [if_neg h]
    by_cases h2 : j < q
    · rw [if_pos h2, if_pos (by omega)]
    · rw [if_neg h2, if_neg (by omega)]
theorem rq_ok {c : Cr} (h : c.chk = 0) : ∀ j, j < c.nl → 0 ≤ c.rs j ∧ c.rs j ≤ 2 := by
  obtain ⟨k1, k2, k3, k4, k5, k6, k7, k8⟩ := chk_zero h
  intro j hj
  have := (of_decide_eq_true k7 : ∀ j, j < c.nl → _) j hj
  exact ⟨this.2.2.1, this.2.2.2⟩
theorem rq_bd {c : Cr} (h : c.chk = 0) (q : Nat) : ∀ j, j < c.nl → 0 ≤ c.rq q j ∧ c.rq q j ≤ 2 := fun j hj => by
  have := rq_ok h j hj
  unfold rq
  split <;> omega
end Cr

theorem rq_step {w : World} {base gl gn gd gc K1 K2 K3 K4 q : Nat} {c : Cr} (h : OwnC w base (c.res (c.rq q)) (mP gl gn gd gc K1 K2 K3 K4)) (hq : q < c.nl) :
    OwnC (w.setCell ⟨gl, q * 2 + 1, none⟩ (.int .i64 (2 - c.rs q))) base (c.res (c.rq (q + 1))) (mP gl gn gd gc K1 K2 K3 K4) ∧ base ≤ gl ∧ gl < w.heap.size := by
  obtain ⟨⟨g1, e1, h1⟩, ⟨g2, e2, h2⟩, ⟨g3, e3, h3⟩, g4, e4, h4⟩ := h
  injection e1 with e1; injection e1 with e1 _ _; subst e1
  injection e2 with e2; injection e2 with e2 _ _; subst e2
  injection e3 with e3; injection e3 with e3 _ _; subst e3
  injection e4 with e4; injection e4 with e4 _ _; subst e4
  have n2 : gn ≠ gl := own_ne h2 h1 (by decide)
  have n3 : gd ≠ gl := own_ne h3 h1 (by decide)
  have n4 : gc ≠ gl := own_ne h4 h1 (by decide)
  refine ⟨⟨⟨gl, rfl, ?_⟩, ⟨gn, rfl, own_keep h2 (Below.heap_setCell _ _ _ _ n2)⟩, ⟨gd, rfl, own_keep h3 (Below.heap_setCell _ _ _ _ n3)⟩, gc, rfl, own_keep h4 (Below.heap_setCell _ _ _ _ n4)⟩, own_ge h1, own_lt h1⟩
  have := (h1.stored (q * 2 + 1) (.int .i64 (2 - c.rs q))).1
  show World.ownsRow _ base _ 2 _ c.nl (pairL c.nx (c.rq (q + 1)) c.nl)
  rw [Cr.rq_succ, ← pairL_set]
  exact this
theorem rq_cells {w : World} {base gl gn gd gc K1 K2 K3 K4 q : Nat} {c : Cr} (h : OwnC w base (c.res (c.rq q)) (mP gl gn gd gc K1 K2 K3 K4)) (hq : q < c.nl) : w.cell? ⟨gl, q * 2 + 1, none⟩ = some (.int .i64 (c.rs q)) ∧ w.cell? ⟨gl, q * 2, none⟩ = some (.int .i64 (c.nx q)) ∧ w.frozen? ⟨gl, q * 2 + 1, none⟩ = false := by
  obtain ⟨g1, e1, h1⟩ := h.la
  injection e1 with e1; injection e1 with e1 _ _; subst e1
  have hp := pairL_at (c.res (c.rq q)).nx (c.res (c.rq q)).rs c.nl q hq
  refine ⟨?_, ?_, h1.frozenAt _⟩
  · rw [h1.cellAt _ (by show _ < c.nl * 2; omega)]
    refine hp.2.trans ?_
    show some (Value.int .i64 (c.rq q q)) = _
    simp [Cr.rq]
  · rw [h1.cellAt _ (by show _ < c.nl * 2; omega)]; exact hp.1
theorem rq_has {w : World} {base gl gn gd gc K1 K2 K3 K4 q b : Nat} {c : Cr} {t : TypeId} {cs : Array Value} (h : Has w b t cs) (hO : OwnC w base (c.res (c.rq q)) (mP gl gn gd gc K1 K2 K3 K4)) (ht : t ≠ 33) (u : Value) : Has (w.setCell ⟨gl, q * 2 + 1, none⟩ u) b t cs := by
  obtain ⟨g1, e1, h1⟩ := hO.la
  injection e1 with e1; injection e1 with e1 _ _; subst e1
  refine h.far (fun e => ?_) u
  rcases h1.2 with ⟨h, _⟩ | ⟨g', cap, cur, hv, _, hh, _⟩
  · cases h
  · cases hv
    subst e
    unfold Has at h
    rw [h] at hh
    simp at hh
    exact ht hh.2

namespace Cr
/-- a list of the first q numbers of f holds a literal of the last variable -/
def hit (c : Cr) (f : Nat → Int) (q : Nat) : Bool := decide (∃ j, j < q ∧ f j / 2 = c.sz)
theorem hit_0 (c : Cr) (f : Nat → Int) : c.hit f 0 = false := by simp [hit]
theorem hit_succ (c : Cr) (f : Nat → Int) (q : Nat) : c.hit f (q + 1) = (c.hit f q || decide (f q / 2 = c.sz)) := by
  rw [Bool.eq_iff_iff]
  simp only [hit, Bool.or_eq_true, decide_eq_true_eq]
  constructor
  · rintro ⟨j, hj, h⟩
    by_cases e : j = q
    · subst e; exact Or.inr h
    · exact Or.inl ⟨j, by omega, h⟩
  · rintro (⟨j, hj, h⟩ | h)
    · exact ⟨j, by omega, h⟩
    · exact ⟨q, by omega, h⟩
theorem hit_f {c : Cr} {f : Nat → Int} {q : Nat} (h : c.hit f q = false) : Value.bool (f q / 2 == c.sz) = .bool (c.hit f (q + 1)) := by
  rw [hit_succ, h]
  congr 1
theorem hit_t {c : Cr} {f : Nat → Int} {q : Nat} (h : c.hit f q = true) : Value.bool true = .bool (c.hit f (q + 1)) := by rw [hit_succ, h]; rfl
theorem hit_of {c : Cr} {f : Nat → Int} {q : Nat} {b : Bool} (hb : b = true) : Value.bool true = .bool (b || c.hit f (q + 1)) := by rw [hb]; rfl
theorem hit_og {c : Cr} {f : Nat → Int} {q : Nat} {b : Bool} (hb : b = false) {v : Value} (h : v = .bool (c.hit f (q + 1))) : v = .bool (b || c.hit f (q + 1)) := by rw [hb, h]; rfl
theorem hit_used (c : Cr) : (c.hit c.nx c.nl || c.hit c.bd c.nb || c.hit c.cn c.nc) = true ↔ c.used := by
  simp only [hit, used, Bool.or_eq_true, decide_eq_true_eq, or_assoc]
end Cr

theorem eql_ff (w : World) : (binOp .eql 4 (.bool false) (.bool false)).run Try.prog w = .ok (.bool true) w := by go_simp
theorem less_sm {c : Cr} (hs : Sm c) : Sm c.less := ⟨hs.i, hs.nl, by have := hs.na; show c.na - 1 ≤ 1000; omega, hs.nb, hs.nc, hs.nx, hs.rs, hs.ga, hs.gb, hs.bd, hs.cn⟩
theorem less_mem {c : Cr} {p : Pl} {w : World} {B : Nat} (h : Mem w B c p) : Mem w B c.less p := ⟨h.la, fun hn => by
  have hn' : 0 < c.na - 1 := hn
  obtain ⟨a, e, hl, hc⟩ := h.an (by omega)
  exact ⟨a, e, hl, fun j hj => hc j (by have : j < c.na - 1 := hj; omega)⟩, h.bd, h.cn⟩
/-- Check of the circuit with a gate less -/
theorem less_any {c : Cr} {p : Pl} {a : Addr} (w : World) {U : Bool} (hk : c.chk = 0) (hn : 0 < c.na) (hA : p.A2 = some a) (hm : Mem w w.heap.size c p) (hs : Sm c) (hU : U = true ↔ c.used) (n : Nat) (he : n = c.na - 1) :
    Calls Try.prog 49 #[.agg #[.int .i64 c.i, .slice p.A1 c.nl p.k1, .slice (some a) n p.k2, .slice p.A3 c.nb p.k3, .slice p.A4 c.nc p.k4]] w fun e w' => ∃ x : Int, e = .returned (.int .i64 x) ∧ (x == 0) = !U ∧ Below w.heap.size w w' := by
  have h := gCheck_any c.less p w (less_mem hm) (less_sm hs)
  subst he
  have hv : cv c.less p = .agg #[.int .i64 c.i, .slice p.A1 c.nl p.k1, .slice (some a) (c.na - 1) p.k2, .slice p.A3 c.nb p.k3, .slice p.A4 c.nc p.k4] := by
    show Value.agg #[.int .i64 c.i, .slice p.A1 c.nl p.k1, .slice p.A2 (c.na - 1) p.k2, .slice p.A3 c.nb p.k3, .slice p.A4 c.nc p.k4] = _
    rw [hA]
  rw [hv] at h
  refine h.mono fun e w' ⟨he, hb⟩ => ⟨_, he, ?_, hb⟩
  have := Cr.less_chk hk hn
  cases U
  · have h1 : ¬ c.used := fun h => by have := hU.2 h; cases this
    simp [this.2 h1]
  · have h1 := hU.1 rfl
    have h2 : ¬ c.less.chk = 0 := fun h => this.1 h h1
    simp [h2]
end Go.Proofs.Ythpifibemekmcaa
