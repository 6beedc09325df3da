/- Other resets and the bad literals in the other order, written one after the other. -/
import Derived.Test.YthpifibemekmcaaValuesGatesKit
import Derived.Test.YthpifibemekmcaaGatesLessKit
import Derived.Test.YthpifibemekmcaaTwinNe
namespace Go.Proofs.Ythpifibemekmcaa
open Go.RowKit
set_option linter.unusedVariables false
set_option linter.unusedSimpArgs false

namespace Cr
/-- the circuit behind x rounds of the first loop and y of the second one -/
def nq (c : Cr) (x y : Nat) : Cr := { c with rs := fun j => if j < x then (c.rs j + 1) % 3 else c.rs j, bd := fun j => if j < y then c.bd (c.nb - 1 - j) else c.bd j }
variable {c : Cr} {s t : Nat → Bool}
theorem nq_0 (c : Cr) : c.nq 0 0 = c := by
  have e1 : (c.nq 0 0).rs = c.rs := by funext j; simp [nq]
  have e2 : (c.nq 0 0).bd = c.bd := by funext j; simp [nq]
  cases c
  simp [nq]
theorem nq_rs (c : Cr) (x y : Nat) : (c.nq (x + 1) y).rs = fun j => if j = x then (c.rs x + 1) % 3 else (c.nq x y).rs j := by
  funext j
  show (if j < x + 1 then _ else _) = if j = x then _ else if j < x then _ else _
  by_cases h : j = x
  · subst h; simp
  · rw [if_neg h]
    by_cases h2 : j < x
    · rw [if_pos h2, if_pos (by omega)]
    · rw [if_neg h2, if_neg (by omega)]
theorem nq_bd (c : Cr) (x y : Nat) : (c.nq x (y + 1)).bd = fun j => if j = y then c.bd (c.nb - 1 - y) else (c.nq x y).bd j := by
  funext j
  show (if j < y + 1 then _ else _) = if j = y then _ else if j < y then _ else _
  by_cases h : j = y
  · subst h; simp
  · rw [if_neg h]
    by_cases h2 : j < y
    · rw [if_pos h2, if_pos (by omega)]
    · rw [if_neg h2, if_neg (by omega)]
theorem nq_chk (h : c.chk = 0) : (c.nq c.nl c.nb).chk = 0 := by
  obtain ⟨k1, k2, k3, k4, k5, k6, k7, k8⟩ := chk_zero h
  refine chk_ok (c := c.nq c.nl c.nb) (by show ¬ c.i < 0; omega) (by show ¬ (1000 < c.sz ∨ 100 < c.nb ∨ 100 < c.nc); omega) ⟨decide_eq_true fun j hj => ?_, k6, decide_eq_true fun j hj => ?_, k8⟩
  · have hj : j < c.nb := hj
    have := (of_decide_eq_true k5 : ∀ j, j < c.nb → 0 ≤ c.bd j ∧ c.bd j / 2 ≤ c.sz) (c.nb - 1 - j) (by omega)
    show 0 ≤ (if j < c.nb then c.bd (c.nb - 1 - j) else c.bd j) ∧ (if j < c.nb then c.bd (c.nb - 1 - j) else c.bd j) / 2 ≤ c.sz
    rw [if_pos hj]
    exact this
  · have hj : j < c.nl := hj
    have := (of_decide_eq_true k7 : ∀ j, j < c.nl → 0 ≤ c.nx j ∧ c.nx j / 2 ≤ c.sz ∧ 0 ≤ c.rs j ∧ c.rs j ≤ 2) j hj
    refine ⟨this.1, this.2.1, ?_⟩
    show 0 ≤ (if j < c.nl then (c.rs j + 1) % 3 else c.rs j) ∧ (if j < c.nl then (c.rs j + 1) % 3 else c.rs j) ≤ 2
    rw [if_pos hj]
    omega
theorem nq_ask {ns ni : Nat} (h : c.ask ns ni = 0) : (c.nq c.nl c.nb).ask ns ni = 0 := by
  obtain ⟨a, b, d⟩ := ask_zero h
  exact ask_ok (nq_chk a) b d
theorem nq_frA (c : Cr) (x y : Nat) : ∀ k v, (c.nq x y).frA s t k v = c.frA s t k v
  | 0, v => rfl
  | k + 1, v => by
    have ih : (c.nq x y).frA s t k = c.frA s t k := funext (nq_frA c x y k)
    rw [frA_succ, frA_succ, ih]
    rfl
theorem nq_fr (c : Cr) (x y : Nat) (s t : Nat → Bool) : (c.nq x y).fr s t = c.fr s t := funext (nq_frA c x y c.na)
theorem nq_hol (c : Cr) (x y : Nat) (s t : Nat → Bool) : (c.nq x y).hol s t = c.hol s t := by
  unfold hol
  rw [nq_fr]
  rfl
theorem nq_bv (c : Cr) (x : Nat) (s t : Nat → Bool) {j : Nat} (hj : j < c.nb) : (c.nq x c.nb).bv s t (c.nb - 1 - j) = c.bv s t j := by
  unfold bv
  rw [nq_fr]
  show vlo _ (if c.nb - 1 - j < c.nb then c.bd (c.nb - 1 - (c.nb - 1 - j)) else _) = _
  rw [if_pos (by omega)]
  congr 2
  omega
end Cr
theorem nq_sm {c : Cr} (hs : Sm c) (x y : Nat) : Sm (c.nq x y) :=
  ⟨hs.i, hs.nl, hs.na, hs.nb, hs.nc, hs.nx, fun j => by
    show I64 (if j < x then (c.rs j + 1) % 3 else c.rs j)
    split
    · unfold I64; omega
    · exact hs.rs j, hs.ga, hs.gb, fun j => by
    show I64 (if j < y then c.bd (c.nb - 1 - j) else c.bd j)
    split
    · exact hs.bd _
    · exact hs.bd j, hs.cn⟩
theorem intL_set (f : Nat → Int) (q : Nat) (x : Int) : ∀ n, (intL f n).set q (.int .i64 x) = intL (fun j => if j = q then x else f j) n
  | 0 => rfl
  | n + 1 => by
    have hl := intL_len f n
    rw [intL, intL, ← intL_set f q x n, List.set_append]
    rcases Nat.lt_trichotomy q n with h | h | h
    · rw [if_pos (by omega), if_neg (by omega)]
    · subst h
      rw [if_neg (by omega), if_pos rfl, List.set_eq_of_length_le (l := intL f q) (by omega)]
      have e : q - (intL f q).length = 0 := by omega
      rw [e]; rfl
    · rw [if_neg (by omega), if_neg (by omega), List.set_eq_of_length_le (l := intL f n) (by omega), List.set_eq_of_length_le (by simp; omega)]

section
variable {w : World} {base gl gn gd gc K1 K2 K3 K4 q x : Nat} {c : Cr}
theorem nr_step (h : OwnC w base (c.nq q 0) (mP gl gn gd gc K1 K2 K3 K4)) (hq : q < c.nl) :
    OwnC (w.setCell ⟨gl, q * 2 + 1, none⟩ (.int .i64 ((c.rs q + 1) % 3))) base (c.nq (q + 1) 0) (mP gl gn gd gc K1 K2 K3 K4) ∧ base ≤ gl ∧ gl < w.heap.size := by
  obtain ⟨⟨g1, e1, h1⟩, ⟨g2, e2, h2⟩, ⟨g3, e3, h3⟩, g4, e4, h4⟩ := h
  injection e1 with e1; injection e1 with e1 _ _; subst e1
  injection e2 with e2; injection e2 with e2 _ _; subst e2
  injection e3 with e3; injection e3 with e3 _ _; subst e3
  injection e4 with e4; injection e4 with e4 _ _; subst e4
  have n2 : gn ≠ gl := own_ne h2 h1 (by decide)
  have n3 : gd ≠ gl := own_ne h3 h1 (by decide)
  have n4 : gc ≠ gl := own_ne h4 h1 (by decide)
  refine ⟨⟨⟨gl, rfl, ?_⟩, ⟨gn, rfl, own_keep h2 (Below.heap_setCell _ _ _ _ n2)⟩, ⟨gd, rfl, own_keep h3 (Below.heap_setCell _ _ _ _ n3)⟩, gc, rfl, own_keep h4 (Below.heap_setCell _ _ _ _ n4)⟩, own_ge h1, own_lt h1⟩
  have := (h1.stored (q * 2 + 1) (.int .i64 ((c.rs q + 1) % 3))).1
  show World.ownsRow _ base _ 2 _ c.nl (pairL c.nx (c.nq (q + 1) 0).rs c.nl)
  rw [Cr.nq_rs, ← pairL_set]
  exact this
theorem nr_cells (h : OwnC w base (c.nq q 0) (mP gl gn gd gc K1 K2 K3 K4)) (hq : q < c.nl) : w.cell? ⟨gl, q * 2 + 1, none⟩ = some (.int .i64 (c.rs q)) ∧ w.cell? ⟨gl, q * 2, none⟩ = some (.int .i64 (c.nx q)) ∧ w.frozen? ⟨gl, q * 2 + 1, none⟩ = false := by
  obtain ⟨g1, e1, h1⟩ := h.la
  injection e1 with e1; injection e1 with e1 _ _; subst e1
  have hp := pairL_at (c.nq q 0).nx (c.nq q 0).rs c.nl q hq
  refine ⟨?_, ?_, h1.frozenAt _⟩
  · rw [h1.cellAt _ (by show _ < c.nl * 2; omega)]
    refine hp.2.trans ?_
    show some (Value.int .i64 (if q < q then _ else _)) = _
    rw [if_neg (by omega)]
  · rw [h1.cellAt _ (by show _ < c.nl * 2; omega)]; exact hp.1
theorem nr_has {b : Nat} {t : TypeId} {cs : Array Value} (h : Has w b t cs) (hO : OwnC w base (c.nq q 0) (mP gl gn gd gc K1 K2 K3 K4)) (ht : t ≠ 33) (u : Value) : Has (w.setCell ⟨gl, q * 2 + 1, none⟩ u) b t cs := by
  obtain ⟨g1, e1, h1⟩ := hO.la
  injection e1 with e1; injection e1 with e1 _ _; subst e1
  refine h.far (fun e => ?_) u
  rcases h1.2 with ⟨h, _⟩ | ⟨g', cap, cur, hv, _, hh, _⟩
  · cases h
  · cases hv
    subst e
    unfold Has at h
    rw [h] at hh
    simp at hh
    exact ht hh.2
theorem nb_step (h : OwnC w base (c.nq x q) (mP gl gn gd gc K1 K2 K3 K4)) (hne : gc ≠ gd) (hq : q < c.nb) :
    OwnC (w.setCell ⟨gd, q, none⟩ (.int .i64 (c.bd (c.nb - 1 - q)))) base (c.nq x (q + 1)) (mP gl gn gd gc K1 K2 K3 K4) ∧ base ≤ gd ∧ gd < w.heap.size := by
  obtain ⟨⟨g1, e1, h1⟩, ⟨g2, e2, h2⟩, ⟨g3, e3, h3⟩, g4, e4, h4⟩ := h
  injection e1 with e1; injection e1 with e1 _ _; subst e1
  injection e2 with e2; injection e2 with e2 _ _; subst e2
  injection e3 with e3; injection e3 with e3 _ _; subst e3
  injection e4 with e4; injection e4 with e4 _ _; subst e4
  have n1 : gl ≠ gd := own_ne h1 h3 (by decide)
  have n2 : gn ≠ gd := own_ne h2 h3 (by decide)
  refine ⟨⟨⟨gl, rfl, own_keep h1 (Below.heap_setCell _ _ _ _ n1)⟩, ⟨gn, rfl, own_keep h2 (Below.heap_setCell _ _ _ _ n2)⟩, ⟨gd, rfl, ?_⟩, gc, rfl, own_keep h4 (Below.heap_setCell _ _ _ _ hne)⟩, own_ge h3, own_lt h3⟩
  have := (h3.stored q (.int .i64 (c.bd (c.nb - 1 - q)))).1
  show World.ownsRow _ base _ 1 _ c.nb (intL (c.nq x (q + 1)).bd c.nb)
  rw [Cr.nq_bd, ← intL_set]
  exact this
theorem nb_cells (h : OwnC w base (c.nq x q) (mP gl gn gd gc K1 K2 K3 K4)) (hq : q < c.nb) : w.cell? ⟨gd, q, none⟩ = some (.int .i64 (c.bd q)) ∧ w.frozen? ⟨gd, q, none⟩ = false := by
  obtain ⟨g1, e1, h1⟩ := h.bd
  injection e1 with e1; injection e1 with e1 _ _; subst e1
  have hp := intL_at (c.nq x q).bd c.nb q hq
  refine ⟨?_, h1.frozenAt _⟩
  rw [h1.cellAt _ (by show _ < c.nb * 1; omega)]
  refine hp.trans ?_
  show some (Value.int .i64 (if q < q then _ else _)) = _
  rw [if_neg (by omega)]
theorem nb_has {b : Nat} {t : TypeId} {cs : Array Value} (h : Has w b t cs) (hO : OwnC w base (c.nq x q) (mP gl gn gd gc K1 K2 K3 K4)) (ht : t ≠ 3) (u : Value) : Has (w.setCell ⟨gd, q, none⟩ u) b t cs := by
  obtain ⟨g1, e1, h1⟩ := hO.bd
  injection e1 with e1; injection e1 with e1 _ _; subst e1
  refine h.far (fun e => ?_) u
  rcases h1.2 with ⟨h, _⟩ | ⟨g', cap, cur, hv, _, hh, _⟩
  · cases h
  · cases hv
    subst e
    unfold Has at h
    rw [h] at hh
    simp at hh
    exact ht hh.2
/-- reading the circuit's own list at another place -/
theorem bd_rev {p : Pl} {B : Nat} (hm : IntsAt w B p.A3 c.nb c.bd) (hq : q < c.nb) : ∃ a, p.A3 = some a ∧ a.block < B ∧ w.cell? (a.add (c.nb - 1 - q)) = some (.int .i64 (c.bd (c.nb - 1 - q))) := by
  obtain ⟨a, hA, hb, hc⟩ := hm (by omega)
  exact ⟨a, hA, hb, hc _ (by omega)⟩
end
theorem ofAt {A : Option Addr} {n k : Nat} {F : Nat → Bool} {l : Int} {x : Bool} (hx : vlo F l = x) (B : Nat) (w : World) (hA : BlsAt w B A n F) (h0 : 0 ≤ l) (h1 : l ≤ 2001) (hn : l / 2 < (n : Int)) :
    Calls Try.prog 43 #[.slice A n k, .int .i64 l] w fun e w' => e = .returned (.tuple #[.bool x, .int .i64 0]) ∧ w = w' := by
  subst hx
  exact of_yes A n k F l B w hA h0 h1 hn
theorem OwnC.drw {w : World} {base : Nat} {c : Cr} {p : Pl} (h : OwnC w base c p) : OwnC w.drew base c p := ⟨h.la, h.an, h.bd, h.cn⟩
/-- what Twin lays, behind no round -/
theorem own0 {w : World} {base gl gn gd gc K1 K2 K3 K4 : Nat} {c : Cr} (h : OwnC w base c (mP gl gn gd gc K1 K2 K3 K4)) (o : Obj) : OwnC (w.alloc o) base (c.nq 0 0) (mP gl gn gd gc K1 K2 K3 K4) := by
  rw [Cr.nq_0]
  obtain ⟨⟨gl', el, ol⟩, ⟨gn', en, on⟩, ⟨gd', ed, od⟩, gc', ec, oc⟩ := h
  exact ⟨⟨gl', el, ol.alloc _⟩, ⟨gn', en, on.alloc _⟩, ⟨gd', ed, od.alloc _⟩, gc', ec, oc.alloc _⟩

section
variable {c : Cr} {p q : Pl} {As At : Option Addr} {ns ks ni ki : Nat} {s t : Nat → Bool}
theorem allOther (hk : c.ask ns ni = 0) (w : World) (hm : Mem w w.heap.size (c.nq c.nl c.nb) q) (h : Arg w w.heap.size c p As ns ks s At ni ki t) :
    Calls Try.prog 33 #[cv c q, .slice As ns ks, .slice At ni ki] w (BoolsErr (c.fg + c.na) (c.fr s t) 0 w) := by
  have := all_at (Cr.nq_ask hk) w ⟨hm, nq_sm h.hs _ _, h.hS, h.hT, h.nS, h.nT, h.n1, h.n2⟩
  rw [Cr.nq_fr] at this
  exact this
theorem propsOther {b : Bool} (hb : c.hol s t = b) (hk : c.ask ns ni = 0) (w : World) (hm : Mem w w.heap.size (c.nq c.nl c.nb) q) (h : Arg w w.heap.size c p As ns ks s At ni ki t) :
    Calls Try.prog 38 #[cv c q, .slice As ns ks, .slice At ni ki] w (PropsIs b c.nb ((c.nq c.nl c.nb).bv s t) 0 w) := by
  have := props_yes (Cr.nq_ask hk) w ⟨hm, nq_sm h.hs _ _, h.hS, h.hT, h.nS, h.nT, h.n1, h.n2⟩
  rw [Cr.nq_hol, hb] at this
  exact this
end
end Go.Proofs.Ythpifibemekmcaa
