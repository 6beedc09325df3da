/- The contract of the reference's Twin: a circuit with the same numbers in memory of its own. -/
import Derived.Test.YtkpjpokeonppbaaGreatDoorGatesSame
import Derived.Laws.AppendOwnNone
namespace Go.Proofs.YtkpjpokeonppbaaGreatDoor
open Go.RowKit
set_option linter.unusedVariables false
set_option linter.unusedSimpArgs false

/-- the cells of a list of pairs, and of a list of ints -/
def pairL (f g : Nat → Int) : Nat → List Value
  | 0 => []
  | n + 1 => pairL f g n ++ [.int .i64 (f n), .int .i64 (g n)]
def intL (f : Nat → Int) : Nat → List Value
  | 0 => []
  | n + 1 => intL f n ++ [.int .i64 (f n)]
theorem pairL_len (f g : Nat → Int) : ∀ n, (pairL f g n).length = n * 2
  | 0 => rfl
  | n + 1 => by rw [pairL, List.length_append, pairL_len f g n]; simp; omega
theorem intL_len (f : Nat → Int) : ∀ n, (intL f n).length = n * 1
  | 0 => rfl
  | n + 1 => by rw [intL, List.length_append, intL_len f n]; simp
theorem pairL_at (f g : Nat → Int) : ∀ n j, j < n → (pairL f g n)[j * 2]? = some (.int .i64 (f j)) ∧ (pairL f g n)[j * 2 + 1]? = some (.int .i64 (g j))
  | 0, _, h => absurd h (Nat.not_lt_zero _)
  | n + 1, j, h => by
    have hl := pairL_len f g n
    rw [pairL]
    rcases Nat.lt_succ_iff_lt_or_eq.1 h with h' | h'
    · obtain ⟨a, b⟩ := pairL_at f g n j h'
      exact ⟨by rw [List.getElem?_append_left (by omega)]; exact a, by rw [List.getElem?_append_left (by omega)]; exact b⟩
    · subst h'
      exact ⟨by rw [List.getElem?_append_right (by omega), hl]; simp, by rw [List.getElem?_append_right (by omega), hl]; simp⟩
theorem intL_at (f : Nat → Int) : ∀ n j, j < n → (intL f n)[j]? = some (.int .i64 (f j))
  | 0, _, h => absurd h (Nat.not_lt_zero _)
  | n + 1, j, h => by
    have hl := intL_len f n
    rw [intL]
    rcases Nat.lt_succ_iff_lt_or_eq.1 h with h' | h'
    · rw [List.getElem?_append_left (by omega)]; exact intL_at f n j h'
    · subst h'
      rw [List.getElem?_append_right (by omega), hl]; simp
theorem pairL_one (f g : Nat → Int) : ∀ n, ∀ u ∈ pairL f g n, u.oneCell' = true
  | 0, _, h => by cases h
  | n + 1, u, h => by
    rw [pairL, List.mem_append] at h
    rcases h with h | h
    · exact pairL_one f g n u h
    · simp at h; rcases h with rfl | rfl <;> rfl
theorem intL_one (f : Nat → Int) : ∀ n, ∀ u ∈ intL f n, u.oneCell' = true
  | 0, _, h => by cases h
  | n + 1, u, h => by
    rw [intL, List.mem_append] at h
    rcases h with h | h
    · exact intL_one f n u h
    · simp at h; subst h; rfl

/-- where a list reads as these cells -/
def Src (w : World) (A : Option Addr) (m k : Nat) (news : List Value) : Prop :=
  (A = none ∧ m = 0 ∧ k = 0 ∧ news = []) ∨ ∃ ad, A = some ad ∧ ∀ j u, news[j]? = some u → w.cell? (ad.add j) = some u
theorem PairsAt.src {w : World} {B : Nat} {A : Option Addr} {n k : Nat} {f g : Nat → Int} (h : PairsAt w B A n f g) (hn : A = none → n = 0 ∧ k = 0) : Src w A n k (pairL f g n) := by
  cases A with
  | none => obtain ⟨rfl, rfl⟩ := hn rfl; exact Or.inl ⟨rfl, rfl, rfl, rfl⟩
  | some ad =>
    refine Or.inr ⟨ad, rfl, fun j u hu => ?_⟩
    have hj : j < n * 2 := by rw [← pairL_len f g n]; exact (List.getElem?_eq_some_iff.1 hu).1
    obtain ⟨a, e, _, hc⟩ := h (by omega)
    obtain rfl : ad = a := by injection e
    obtain ⟨c1, c2⟩ := hc (j / 2) (by omega)
    obtain ⟨p1, p2⟩ := pairL_at f g n (j / 2) (by omega)
    rcases Nat.mod_two_eq_zero_or_one j with hp | hp
    · have : j / 2 * 2 = j := by omega
      rw [this] at c1 p1
      rw [c1, ← hu, p1]
    · have : j / 2 * 2 + 1 = j := by omega
      rw [← add_succ, this] at c2
      rw [this] at p2
      rw [c2, ← hu, p2]
theorem IntsAt.src {w : World} {B : Nat} {A : Option Addr} {n k : Nat} {f : Nat → Int} (h : IntsAt w B A n f) (hn : A = none → n = 0 ∧ k = 0) : Src w A n k (intL f n) := by
  cases A with
  | none => obtain ⟨rfl, rfl⟩ := hn rfl; exact Or.inl ⟨rfl, rfl, rfl, rfl⟩
  | some ad =>
    refine Or.inr ⟨ad, rfl, fun j u hu => ?_⟩
    have hj : j < n * 1 := by rw [← intL_len f n]; exact (List.getElem?_eq_some_iff.1 hu).1
    obtain ⟨a, e, _, hc⟩ := h (by omega)
    obtain rfl : ad = a := by injection e
    rw [hc j (by omega), ← hu, intL_at f n j (by omega)]
theorem own_pairs {w : World} {base : Nat} {e : TypeId} {g n k : Nat} {f h : Nat → Int} (ho : w.ownsRow base e 2 (.slice (some ⟨g, 0, none⟩) n k) n (pairL f h n)) (hl : 0 < n → g < w.heap.size) : PairsAt w w.heap.size (some ⟨g, 0, none⟩) n f h := fun hn =>
  ⟨_, rfl, hl hn, fun j hj => ⟨ho.cells (g := g) rfl _ _ (pairL_at f h n j hj).1, by rw [← add_succ]; exact ho.cells (g := g) rfl _ _ (pairL_at f h n j hj).2⟩⟩
theorem own_ints {w : World} {base : Nat} {e : TypeId} {g n k : Nat} {f : Nat → Int} (ho : w.ownsRow base e 1 (.slice (some ⟨g, 0, none⟩) n k) n (intL f n)) (hl : 0 < n → g < w.heap.size) : IntsAt w w.heap.size (some ⟨g, 0, none⟩) n f := fun hn =>
  ⟨_, rfl, hl hn, fun j hj => ho.cells (g := g) rfl _ _ (intL_at f n j hj)⟩

/-- append of a whole list to an empty list of the call's own that is not nil -/
theorem append_to_new {P : Program} {w : World} {ops : Array Oper} {rest : List Oper} {o : Oper} {a : Act} {Q : Exit → Act → World → Prop} (hgd : o.guard = none) (s x : Operand) (t : TypeId)
    (ho : o.op = .call { callee := .builtin .append, args := #[s, x], argTypes := #[t, t] })
    (base : Nat) (e : TypeId) (i : TypeInfo) (z : Value) (size bytes : Nat) (ht : P.underlying t = some (.slice e)) (hi : P.info? e = some i) (hz : i.zero = some z)
    (hsize : i.size = size) (hby : i.bytes = bytes) (hzs : z.cells.size = size) (hsz : 0 < size) (g : Nat)
    (hs : a.eval s = .slice (some ⟨g, 0, none⟩) 0 0) (hg : base ≤ g) (hh : Has w g e #[])
    (A : Option Addr) (m k : Nat) (news : List Value) (hx : a.eval x = .slice A m k) (hl : news.length = m * size) (hnews : Src w A m k news) (h1 : ∀ u ∈ news, u.oneCell' = true)
    (h63 : m ≤ maxLen) (hbytes : m * bytes ≤ 140737488355328) (hbase : base ≤ w.heap.size)
    (h : ∀ g' k' w', w'.ownsRow base e size (.slice (some ⟨g', 0, none⟩) m k') m news → w.grownBy w' (some g) → (g' = g ∨ g' = w.heap.size) → wpList P ops Q rest (a.put o.dst (.slice (some ⟨g', 0, none⟩) m k')) w') :
    wpList P ops Q (o :: rest) a w := by
  have hown : w.ownsRow base e size (.slice (some ⟨g, 0, none⟩) 0 0) 0 [] := ⟨by simp, Or.inr ⟨g, 0, #[], rfl, hg, hh, Nat.le_refl _, by simp [maxLen], by simp, by simp⟩⟩
  rcases hnews with ⟨rfl, rfl, rfl, rfl⟩ | ⟨ad, rfl, hc⟩
  · exact wpList_append_own_none hgd s x t ho base e i size ht hi _ 0 [] hs hown hx (h g 0 w hown (World.grownBy.refl w _) (Or.inl rfl))
  · refine wpList_append_own_at w hgd s x t ho base e i z size bytes ht hi hz hsize hby hzs hsz _ 0 [] hs hown ad m k news hx hl hc h1 (by rw [Nat.zero_add]; exact h63) (by rw [Nat.zero_add]; exact hbytes) hbase ?_
    intro v' w' ho' hg' hnil hat
    rw [Nat.zero_add, List.nil_append] at ho'
    rcases ho'.2 with ⟨hv, _⟩ | ⟨g', cap, cur, hv, hb', hh', r⟩
    · rw [hnil] at hv; cases hv.1
    · subst hv
      refine h g' cap w' ho' hg' ?_
      simpa [Value.ownBlock] using hat

/-- a circuit in memory of its own, from block base on -/
structure OwnC (w : World) (base : Nat) (c : Cr) (p : Pl) : Prop where
  la : ∃ g, p.A1 = some ⟨g, 0, none⟩ ∧ w.ownsRow base 70 2 (.slice (some ⟨g, 0, none⟩) c.nl p.k1) c.nl (pairL c.nx c.rs c.nl)
  an : ∃ g, p.A2 = some ⟨g, 0, none⟩ ∧ w.ownsRow base 80 2 (.slice (some ⟨g, 0, none⟩) c.na p.k2) c.na (pairL c.ga c.gb c.na)
  bd : ∃ g, p.A3 = some ⟨g, 0, none⟩ ∧ w.ownsRow base 3 1 (.slice (some ⟨g, 0, none⟩) c.nb p.k3) c.nb (intL c.bd c.nb)
  cn : ∃ g, p.A4 = some ⟨g, 0, none⟩ ∧ w.ownsRow base 3 1 (.slice (some ⟨g, 0, none⟩) c.nc p.k4) c.nc (intL c.cn c.nc)
theorem own_lt {w : World} {base : Nat} {e : TypeId} {g n k size : Nat} {xs : List Value} (h : w.ownsRow base e size (.slice (some ⟨g, 0, none⟩) n k) n xs) : g < w.heap.size := by
  rcases h.2 with ⟨h, _⟩ | ⟨g', cap, cur, hv, _, hh, _⟩
  · cases h
  · cases hv
    exact Has.lt (t := e) (cs := cur) hh
theorem OwnC.mem {w : World} {base : Nat} {c : Cr} {p : Pl} (h : OwnC w base c p) : Mem w w.heap.size c p := by
  obtain ⟨⟨g1, e1, h1⟩, ⟨g2, e2, h2⟩, ⟨g3, e3, h3⟩, g4, e4, h4⟩ := h
  exact ⟨by rw [e1]; exact own_pairs h1 (fun _ => own_lt h1), by rw [e2]; exact own_pairs h2 (fun _ => own_lt h2), by rw [e3]; exact own_ints h3 (fun _ => own_lt h3), by rw [e4]; exact own_ints h4 (fun _ => own_lt h4)⟩

/-- nil lists are empty -/
structure Nils (c : Cr) (p : Pl) : Prop where
  la : p.A1 = none → c.nl = 0 ∧ p.k1 = 0
  an : p.A2 = none → c.na = 0 ∧ p.k2 = 0
  bd : p.A3 = none → c.nb = 0 ∧ p.k3 = 0
  cn : p.A4 = none → c.nc = 0 ∧ p.k4 = 0

theorem info_latch : (Tryz.prog.info? 70).map (fun i => (i.zero, i.size, i.bytes)) = some (some (.agg #[.int .i64 0, .int .i64 0]), 2, 16) := by kernel_rfl
theorem info_and : (Tryz.prog.info? 80).map (fun i => (i.zero, i.size, i.bytes)) = some (some (.agg #[.int .i64 0, .int .i64 0]), 2, 16) := by kernel_rfl
theorem info_int : (Tryz.prog.info? 3).map (fun i => (i.zero, i.size, i.bytes)) = some (some (.int .i64 0), 1, 8) := by kernel_rfl

theorem Has.new' {t : TypeId} {cs : Array Value} (X : World) (g : Nat) (h : X.heap.size = g) : Has (X.alloc (.cells cs t)) g t cs := h ▸ Has.new X t cs
theorem Has.grow {w w' : World} {g r : Nat} {t : TypeId} {cs : Array Value} (h : Has w g t cs) (hb : w.grownBy w' (some r)) (hne : g ≠ r) : Has w' g t cs := (hb.block g h.lt (by simpa using hne)).trans h
theorem Has.set {w : World} {g : Nat} {t : TypeId} {cs : Array Value} (h : Has w g t cs) (j : Nat) (u : Value) : Has (w.setCell ⟨g, j, none⟩ u) g t (cs.setIfInBounds j u) := by
  unfold Has at h ⊢
  simp [World.setCell, Array.getElem?_modify, h]
theorem Has.far {w : World} {g : Nat} {t : TypeId} {cs : Array Value} (h : Has w g t cs) {q : Addr} (hq : g ≠ q.block) (u : Value) : Has (w.setCell q u) g t cs := (Below.heap_setCell w q u g hq).trans h
theorem own_keep {w w' : World} {base : Nat} {e : TypeId} {size g n k : Nat} {xs : List Value} (h : w.ownsRow base e size (.slice (some ⟨g, 0, none⟩) n k) n xs) (hh : w'.heap[g]? = w.heap[g]?) : w'.ownsRow base e size (.slice (some ⟨g, 0, none⟩) n k) n xs := by
  refine ⟨h.1, ?_⟩
  rcases h.2 with ⟨h, _⟩ | ⟨g', cap, cur, hv, hb, hc, r⟩
  · cases h
  · cases hv
    exact Or.inr ⟨_, _, cur, rfl, hb, hh.trans hc, r⟩
theorem own_ge {w : World} {base : Nat} {e : TypeId} {size g n k : Nat} {xs : List Value} (h : w.ownsRow base e size (.slice (some ⟨g, 0, none⟩) n k) n xs) : base ≤ g := by
  rcases h.2 with ⟨h, _⟩ | ⟨g', cap, cur, hv, hb, hc, r⟩
  · cases h
  · cases hv; exact hb

/-- the state of Twin between two of its rows: nothing old has turned; what its two boxes hold -/
structure Tw (w W : World) (cs zs : Array Value) : Prop where
  b : Below w.heap.size w W
  h : Has W w.heap.size 41 cs
  z : Has W (w.heap.size + 1) 41 zs
  l : w.heap.size + 2 ≤ W.heap.size
theorem Tw.mid {w W w1 : World} {cs zs : Array Value} (t : Tw w W cs zs) {e : TypeId} {r : Nat} (hg : (W.alloc (.cells #[] e)).grownBy w1 (some r)) (hr : r = W.heap.size) : Has w1 w.heap.size 41 cs ∧ Has w1 (w.heap.size + 1) 41 zs ∧ w.heap.size + 1 < w1.heap.size ∧ w.heap.size < w1.heap.size := by
  subst hr
  have hl := t.l
  have ha : Below (W.heap.size) W (W.alloc (.cells #[] e)) := (Below.refl _ _).alloc (Nat.le_refl _) _
  have hs := hg.size
  simp at hs
  exact ⟨(t.h.keep ha (by omega)).grow hg (by omega), (t.z.keep ha (by omega)).grow hg (by omega), by omega, by omega⟩
theorem Tw.step {w W w1 : World} {cs zs : Array Value} (t : Tw w W cs zs) {e : TypeId} {r : Nat} (hg : (W.alloc (.cells #[] e)).grownBy w1 (some r)) (hr : r = W.heap.size) (j : Nat) (v : Value) : Tw w (w1.setCell ⟨w.heap.size, j, none⟩ v) (cs.setIfInBounds j v) zs := by
  subst hr
  have hl := t.l
  have hb : Below w.heap.size w (W.alloc (.cells #[] e)) := t.b.alloc (by omega) _
  have hb1 : Below w.heap.size w w1 := hb.grown hg (by simp; omega) (fun k hk => by cases hk; omega)
  have ha : Below (W.heap.size) W (W.alloc (.cells #[] e)) := (Below.refl _ _).alloc (Nat.le_refl _) _
  have hs := hg.size
  simp at hs
  exact ⟨hb1.setCell (by simp) _, ((t.h.keep ha (by omega)).grow hg (by omega)).set j v, ((t.z.keep ha (by omega)).grow hg (by omega)).far (by simp) _, by simp [World.setCell]; omega⟩
/-- what was owned stays so -/
theorem Tw.own {w W w1 : World} {cs zs : Array Value} (t : Tw w W cs zs) {e e' : TypeId} {r : Nat} (hg : (W.alloc (.cells #[] e)).grownBy w1 (some r)) (hr : r = W.heap.size) (j : Nat) (v : Value) {base size g n k : Nat} {xs : List Value} (hb : base = w.heap.size + 2)
    (h : W.ownsRow base e' size (.slice (some ⟨g, 0, none⟩) n k) n xs) : (w1.setCell ⟨w.heap.size, j, none⟩ v).ownsRow base e' size (.slice (some ⟨g, 0, none⟩) n k) n xs := by
  subst hr
  have h1 := own_ge h
  have h2 := own_lt h
  refine own_keep h ?_
  rw [Below.heap_setCell _ _ _ _ (by simp; omega), hg.block g (by simp; omega) (by simp; omega)]
  exact Below.heap_alloc _ _ _ h2
theorem own_set {w1 : World} {b j : Nat} {v : Value} {base size g n k : Nat} {e : TypeId} {xs : List Value} (h : w1.ownsRow base e size (.slice (some ⟨g, 0, none⟩) n k) n xs) (hb : b < base) : (w1.setCell ⟨b, j, none⟩ v).ownsRow base e size (.slice (some ⟨g, 0, none⟩) n k) n xs :=
  own_keep h (Below.heap_setCell _ _ _ _ (by have := own_ge h; simp; omega))

/-- the zero circuit's cells -/
def zc : Array Value := #[.int .i64 0, .slice none 0 0, .slice none 0 0, .slice none 0 0, .slice none 0 0]