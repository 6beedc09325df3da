/- The contracts of the reference's comparisons and copies. -/
import Derived.Test.YtecmldnigohjfabDoorGatesMem
import Derived.Deep.AppendLies
import Derived.Maps.AppendAt
import Derived.Laws.AppendOwnNone
import Derived.ProofKit
import Derived.OpenShut
import Derived.WideKeyArgs
import Derived.ChangeSame
namespace Go.Proofs.YtecmldnigohjfabDoor
open Go.RowKit

set_option linter.unusedVariables false

theorem below_dn {B : Nat} {a w : World} (h : Below B a w) (n : Nat) : Below B a (w.drewN n) := ⟨h.os, h.tape, h.output, h.size, h.block⟩

/-- two lists of numbers that agree -/
def sameB (n m : Nat) (f g : Nat → Int) : Bool := decide (n = m ∧ ∀ j, j < n → f j = g j)
theorem sameB_no {n m : Nat} {f g : Nat → Int} (h : n ≠ m) : sameB n m f g = false := decide_eq_false fun h' => h h'.1
theorem sameB_no2 {n m k : Nat} {f g : Nat → Int} (hk : k < n) (h : f k ≠ g k) : sameB n m f g = false := decide_eq_false fun h' => h (h'.2 k hk)
theorem sameB_yes {n : Nat} {f g : Nat → Int} (h : ∀ j, j < n → f j = g j) : sameB n n f g = true := decide_eq_true ⟨rfl, h⟩

end Go.Proofs.YtecmldnigohjfabDoor

namespace Go.Proofs.YtecmldnigohjfabDoor
open Go.RowKit
set_option linter.unusedVariables false

set_option linter.unusedSimpArgs false

/-- the cells of a list of pairs, and of a list of ints -/
def pairL (f g : Nat → Int) : Nat → List Value
  | 0 => []
  | n + 1 => pairL f g n ++ [.int .i64 (f n), .int .i64 (g n)]
def intL (f : Nat → Int) : Nat → List Value
  | 0 => []
  | n + 1 => intL f n ++ [.int .i64 (f n)]
theorem pairL_len (f g : Nat → Int) : ∀ n, (pairL f g n).length = n * 2
  | 0 => rfl
  | n + 1 => by rw [pairL, List.length_append, pairL_len f g n]; simp; omega
theorem intL_len (f : Nat → Int) : ∀ n, (intL f n).length = n * 1
  | 0 => rfl
  | n + 1 => by rw [intL, List.length_append, intL_len f n]; simp
theorem pairL_at (f g : Nat → Int) : ∀ n j, j < n → (pairL f g n)[j * 2]? = some (.int .i64 (f j)) ∧ (pairL f g n)[j * 2 + 1]? = some (.int .i64 (g j))
  | 0, _, h => absurd h (Nat.not_lt_zero _)
  | n + 1, j, h => by
    have hl := pairL_len f g n
    rw [pairL]
    rcases Nat.lt_succ_iff_lt_or_eq.1 h with h' | h'
    · obtain ⟨a, b⟩ := pairL_at f g n j h'
      exact ⟨by rw [List.getElem?_append_left (by omega)]; exact a, by rw [List.getElem?_append_left (by omega)]; exact b⟩
    · subst h'
      exact ⟨by rw [List.getElem?_append_right (by omega), hl]; simp, by rw [List.getElem?_append_right (by omega), hl]; simp⟩
theorem intL_at (f : Nat → Int) : ∀ n j, j < n → (intL f n)[j]? = some (.int .i64 (f j))
  | 0, _, h => absurd h (Nat.not_lt_zero _)
  | n + 1, j, h => by
    have hl := intL_len f n
    rw [intL]
    rcases Nat.lt_succ_iff_lt_or_eq.1 h with h' | h'
    · rw [List.getElem?_append_left (by omega)]; exact intL_at f n j h'
    · subst h'
      rw [List.getElem?_append_right (by omega), hl]; simp
theorem pairL_one (f g : Nat → Int) : ∀ n, ∀ u ∈ pairL f g n, u.oneCell' = true
  | 0, _, h => by cases h
  | n + 1, u, h => by
    rw [pairL, List.mem_append] at h
    rcases h with h | h
    · exact pairL_one f g n u h
    · simp at h; rcases h with rfl | rfl <;> rfl
theorem intL_one (f : Nat → Int) : ∀ n, ∀ u ∈ intL f n, u.oneCell' = true
  | 0, _, h => by cases h
  | n + 1, u, h => by
    rw [intL, List.mem_append] at h
    rcases h with h | h
    · exact intL_one f n u h
    · simp at h; subst h; rfl

/-- where a list reads as these cells -/
def Src (w : World) (A : Option Addr) (m k : Nat) (news : List Value) : Prop :=
  (A = none ∧ m = 0 ∧ k = 0 ∧ news = []) ∨ ∃ ad, A = some ad ∧ ∀ j u, news[j]? = some u → w.cell? (ad.add j) = some u
theorem PairsAt.src {w : World} {B : Nat} {A : Option Addr} {n k : Nat} {f g : Nat → Int} (h : PairsAt w B A n f g) (hn : A = none → n = 0 ∧ k = 0) : Src w A n k (pairL f g n) := by
  cases A with
  | none => obtain ⟨rfl, rfl⟩ := hn rfl; exact Or.inl ⟨rfl, rfl, rfl, rfl⟩
  | some ad =>
    refine Or.inr ⟨ad, rfl, fun j u hu => ?_⟩
    have hj : j < n * 2 := by rw [← pairL_len f g n]; exact (List.getElem?_eq_some_iff.1 hu).1
    obtain ⟨a, e, _, hc⟩ := h (by omega)
    obtain rfl : ad = a := by injection e
    obtain ⟨c1, c2⟩ := hc (j / 2) (by omega)
    obtain ⟨p1, p2⟩ := pairL_at f g n (j / 2) (by omega)
    rcases Nat.mod_two_eq_zero_or_one j with hp | hp
    · have : j / 2 * 2 = j := by omega
      rw [this] at c1 p1
      rw [c1, ← hu, p1]
    · have : j / 2 * 2 + 1 = j := by omega
      rw [← add_succ, this] at c2
      rw [this] at p2
      rw [c2, ← hu, p2]
theorem IntsAt.src {w : World} {B : Nat} {A : Option Addr} {n k : Nat} {f : Nat → Int} (h : IntsAt w B A n f) (hn : A = none → n = 0 ∧ k = 0) : Src w A n k (intL f n) := by
  cases A with
  | none => obtain ⟨rfl, rfl⟩ := hn rfl; exact Or.inl ⟨rfl, rfl, rfl, rfl⟩
  | some ad =>
    refine Or.inr ⟨ad, rfl, fun j u hu => ?_⟩
    have hj : j < n * 1 := by rw [← intL_len f n]; exact (List.getElem?_eq_some_iff.1 hu).1
    obtain ⟨a, e, _, hc⟩ := h (by omega)
    obtain rfl : ad = a := by injection e
    rw [hc j (by omega), ← hu, intL_at f n j (by omega)]
theorem own_pairs {w : World} {base : Nat} {e : TypeId} {g n k : Nat} {f h : Nat → Int} (ho : w.ownsRow base e 2 (.slice (some ⟨g, 0, none⟩) n k) n (pairL f h n)) (hl : 0 < n → g < w.heap.size) : PairsAt w w.heap.size (some ⟨g, 0, none⟩) n f h := fun hn =>
  ⟨_, rfl, hl hn, fun j hj => ⟨ho.cells (g := g) rfl _ _ (pairL_at f h n j hj).1, by rw [← add_succ]; exact ho.cells (g := g) rfl _ _ (pairL_at f h n j hj).2⟩⟩
theorem own_ints {w : World} {base : Nat} {e : TypeId} {g n k : Nat} {f : Nat → Int} (ho : w.ownsRow base e 1 (.slice (some ⟨g, 0, none⟩) n k) n (intL f n)) (hl : 0 < n → g < w.heap.size) : IntsAt w w.heap.size (some ⟨g, 0, none⟩) n f := fun hn =>
  ⟨_, rfl, hl hn, fun j hj => ho.cells (g := g) rfl _ _ (intL_at f n j hj)⟩

/-- append of a whole list to an empty list of the call's own that is not nil -/
theorem append_to_new {P : Program} {w : World} {ops : Array Oper} {rest : List Oper} {o : Oper} {a : Act} {Q : Exit → Act → World → Prop} (hgd : o.guard = none) (s x : Operand) (t : TypeId)
    (ho : o.op = .call { callee := .builtin .append, args := #[s, x], argTypes := #[t, t] })
    (base : Nat) (e : TypeId) (i : TypeInfo) (z : Value) (size bytes : Nat) (ht : P.underlying t = some (.slice e)) (hi : P.info? e = some i) (hz : i.zero = some z)
    (hsize : i.size = size) (hby : i.bytes = bytes) (hzs : z.cells.size = size) (hsz : 0 < size) (g : Nat)
    (hs : a.eval s = .slice (some ⟨g, 0, none⟩) 0 0) (hg : base ≤ g) (hh : Has w g e #[])
    (A : Option Addr) (m k : Nat) (news : List Value) (hx : a.eval x = .slice A m k) (hl : news.length = m * size) (hnews : Src w A m k news) (h1 : ∀ u ∈ news, u.oneCell' = true)
    (h63 : m ≤ maxLen) (hbytes : m * bytes ≤ 140737488355328) (hbase : base ≤ w.heap.size)
    (h : ∀ g' k' w', w'.ownsRow base e size (.slice (some ⟨g', 0, none⟩) m k') m news → w.grownBy w' (some g) → (g' = g ∨ g' = w.heap.size) → wpList P ops Q rest (a.put o.dst (.slice (some ⟨g', 0, none⟩) m k')) w') :
    wpList P ops Q (o :: rest) a w := by
  have hown : w.ownsRow base e size (.slice (some ⟨g, 0, none⟩) 0 0) 0 [] := ⟨by simp, Or.inr ⟨g, 0, #[], rfl, hg, hh, Nat.le_refl _, by simp [maxLen], by simp, by simp⟩⟩
  rcases hnews with ⟨rfl, rfl, rfl, rfl⟩ | ⟨ad, rfl, hc⟩
  · exact wpList_append_own_none hgd s x t ho base e i size ht hi _ 0 [] hs hown hx (h g 0 w hown (World.grownBy.refl w _) (Or.inl rfl))
  · refine wpList_append_own_at w hgd s x t ho base e i z size bytes ht hi hz hsize hby hzs hsz _ 0 [] hs hown ad m k news hx hl hc h1 (by rw [Nat.zero_add]; exact h63) (by rw [Nat.zero_add]; exact hbytes) hbase ?_
    intro v' w' ho' hg' hnil hat
    rw [Nat.zero_add, List.nil_append] at ho'
    rcases ho'.2 with ⟨hv, _⟩ | ⟨g', cap, cur, hv, hb', hh', r⟩
    · rw [hnil] at hv; cases hv.1
    · subst hv
      refine h g' cap w' ho' hg' ?_
      simpa [Value.ownBlock] using hat

theorem own_lt {w : World} {base : Nat} {e : TypeId} {g n k size : Nat} {xs : List Value} (h : w.ownsRow base e size (.slice (some ⟨g, 0, none⟩) n k) n xs) : g < w.heap.size := by
  rcases h.2 with ⟨h, _⟩ | ⟨g', cap, cur, hv, _, hh, _⟩
  · cases h
  · cases hv
    exact Has.lt (t := e) (cs := cur) hh

/-- nil lists are empty -/
structure Nils (c : Cr) (p : Pl) : Prop where
  la : p.A1 = none → c.nl = 0 ∧ p.k1 = 0
  an : p.A2 = none → c.na = 0 ∧ p.k2 = 0
  bd : p.A3 = none → c.nb = 0 ∧ p.k3 = 0
  cn : p.A4 = none → c.nc = 0 ∧ p.k4 = 0

theorem info_int : (Tryd.prog.info? 3).map (fun i => (i.zero, i.size, i.bytes)) = some (some (.int .i64 0), 1, 8) := by kernel_rfl

theorem Has.new' {t : TypeId} {cs : Array Value} (X : World) (g : Nat) (h : X.heap.size = g) : Has (X.alloc (.cells cs t)) g t cs := h ▸ Has.new X t cs
theorem Has.grow {w w' : World} {g r : Nat} {t : TypeId} {cs : Array Value} (h : Has w g t cs) (hb : w.grownBy w' (some r)) (hne : g ≠ r) : Has w' g t cs := (hb.block g h.lt (by simpa using hne)).trans h
theorem Has.set {w : World} {g : Nat} {t : TypeId} {cs : Array Value} (h : Has w g t cs) (j : Nat) (u : Value) : Has (w.setCell ⟨g, j, none⟩ u) g t (cs.setIfInBounds j u) := by
  unfold Has at h ⊢
  simp [World.setCell, Array.getElem?_modify, h]
theorem Has.far {w : World} {g : Nat} {t : TypeId} {cs : Array Value} (h : Has w g t cs) {q : Addr} (hq : g ≠ q.block) (u : Value) : Has (w.setCell q u) g t cs := (Below.heap_setCell w q u g hq).trans h
theorem own_keep {w w' : World} {base : Nat} {e : TypeId} {size g n k : Nat} {xs : List Value} (h : w.ownsRow base e size (.slice (some ⟨g, 0, none⟩) n k) n xs) (hh : w'.heap[g]? = w.heap[g]?) : w'.ownsRow base e size (.slice (some ⟨g, 0, none⟩) n k) n xs := by
  refine ⟨h.1, ?_⟩
  rcases h.2 with ⟨h, _⟩ | ⟨g', cap, cur, hv, hb, hc, r⟩
  · cases h
  · cases hv
    exact Or.inr ⟨_, _, cur, rfl, hb, hh.trans hc, r⟩
theorem own_ge {w : World} {base : Nat} {e : TypeId} {size g n k : Nat} {xs : List Value} (h : w.ownsRow base e size (.slice (some ⟨g, 0, none⟩) n k) n xs) : base ≤ g := by
  rcases h.2 with ⟨h, _⟩ | ⟨g', cap, cur, hv, hb, hc, r⟩
  · cases h
  · cases hv; exact hb

theorem own_set {w1 : World} {b j : Nat} {v : Value} {base size g n k : Nat} {e : TypeId} {xs : List Value} (h : w1.ownsRow base e size (.slice (some ⟨g, 0, none⟩) n k) n xs) (hb : b < base) : (w1.setCell ⟨b, j, none⟩ v).ownsRow base e size (.slice (some ⟨g, 0, none⟩) n k) n xs :=
  own_keep h (Below.heap_setCell _ _ _ _ (by have := own_ge h; simp; omega))

/-- the zero circuit's cells -/
def zc : Array Value := #[.int .i64 0, .slice none 0 0, .slice none 0 0, .slice none 0 0, .slice none 0 0]

end Go.Proofs.YtecmldnigohjfabDoor

namespace Go.Proofs.YtecmldnigohjfabDoor
open Go.RowKit Go.ChangeShapes Go.WideShapes Go.ChangeAt
set_option linter.unusedVariables false

set_option linter.unusedSimpArgs false

/-- the numbers of a circuit are ints -/
structure Vals (c : Cr) : Prop where
  i : I64 c.i
  nx : ∀ j, I64 (c.nx j)
  rs : ∀ j, I64 (c.rs j)
  ga : ∀ j, I64 (c.ga j)
  gb : ∀ j, I64 (c.gb j)
  bd : ∀ j, I64 (c.bd j)
  cn : ∀ j, I64 (c.cn j)
theorem Vals.sm {c : Cr} (h : Vals c) (h1 : c.nl ≤ 1000) (h2 : c.na ≤ 1000) (h3 : c.nb ≤ 1000) (h4 : c.nc ≤ 1000) : Sm c :=
  ⟨h.i, h1, h2, h3, h4, h.nx, h.rs, h.ga, h.gb, h.bd, h.cn⟩

section
variable {H : Type} {enc : TypeId × Value → H} {W : World} {base : Nat} {held : Bool}

theorem i64_0 : I64 0 := by unfold I64; omega
theorem i64_of {n : Int} (h : (Lit.int .i64 n).wf = true) : I64 n := bounds_i64 h

set_option maxRecDepth 100000 in
/-- a list of ints -/
theorem open_il {n : Nat} {v : Value} {y : DataW H × List MemPlace} (h : DataW.trod enc Tryd.prog W base (fun _ => true) held n 22 [v] = some y) :
    ∃ (A : Option Addr) (m k : Nat) (f : Nat → Int), v = .slice A m k ∧ IntsAt W W.heap.size A m f ∧ (A = none → m = 0 ∧ k = 0) ∧ (∀ j, I64 (f j)) ∧ m ≤ k ∧ k ≤ maxLen := by
  rcases open_ints Tryd.underlying22 Tryd.underlying3 (by kernel_rfl) h with ⟨hv, _⟩ | ⟨a, len, cap, zs, hv, _, hl, hml, hz, _, hc, hw⟩
  · injection hv with hv
    exact ⟨none, 0, 0, fun _ => 0, hv, fun h => absurd h (Nat.not_lt_zero _), fun _ => ⟨rfl, rfl⟩, fun _ => i64_0, Nat.le_refl _, Nat.zero_le _⟩
  · injection hv with hv
    have hz' : zs.length = cap := by simpa using hz
    refine ⟨some a, len, cap, fun j => zs.getD j 0, hv, fun hn => ⟨a, rfl, ?_, fun j hj => hc j (by omega)⟩, (fun h => by cases h), fun j => ?_, hl, hml⟩
    · have := cell_lt (hc 0 (by omega))
      rwa [add_block] at this
    · have := range_i64 hw j
      show I64 (zs.getD j 0)
      rw [List.getD_eq_getElem?_getD]
      exact this

set_option maxRecDepth 100000 in
/-- a list of structs of two ints -/
theorem open_pl {n : Nat} {v : Value} {t e : TypeId} {f0 f1 : Field} {y : DataW H × List MemPlace} (ht : Tryd.prog.underlying t = some (.slice e)) (he : Tryd.prog.underlying e = some (.struct #[f0, f1])) (ce : Tryd.prog.cellsOf e = 2) (o0 : f0.offset = 0) (o1 : f1.offset = 1) (t0 : f0.type = 3) (t1 : f1.type = 3)
    (h : DataW.trod enc Tryd.prog W base (fun _ => true) held n t [v] = some y) :
    ∃ (A : Option Addr) (m k : Nat) (f g : Nat → Int), v = .slice A m k ∧ PairsAt W W.heap.size A m f g ∧ (A = none → m = 0 ∧ k = 0) ∧ (∀ j, I64 (f j)) ∧ (∀ j, I64 (g j)) ∧ m ≤ k ∧ k ≤ maxLen := by
  have c3 : Tryd.prog.cellsOf 3 = 1 := by kernel_rfl
  rcases Deep.open_slice_pairs ht he ce o0 o1 (by rw [t0]; exact c3) (by rw [t1]; exact c3) h with ⟨hv, _⟩ | ⟨a, len, cap, m, q, V0, V1, D0, D1, P0, P1, hv, _, hl, hml, hm, _, hc⟩
  · injection hv with hv
    exact ⟨none, 0, 0, fun _ => 0, fun _ => 0, hv, fun h => absurd h (Nat.not_lt_zero _), fun _ => ⟨rfl, rfl⟩, fun _ => i64_0, fun _ => i64_0, Nat.le_refl _, Nat.zero_le _⟩
  · injection hv with hv
    have hm' : m = cap := by simpa using hm
    have each : ∀ j, ∃ x y : Int, I64 x ∧ I64 y ∧ (j < len → V0 j = .int .i64 x ∧ V1 j = .int .i64 y) := fun j => by
      by_cases hj : j < len
      · obtain ⟨_, _, h0, h1⟩ := hc j (by omega)
        rw [t0] at h0
        rw [t1] at h1
        obtain ⟨x, e0, _, w0⟩ := DataW.trod_int Tryd.underlying3 h0
        obtain ⟨y, e1, _, w1⟩ := DataW.trod_int Tryd.underlying3 h1
        injection e0 with e0
        injection e1 with e1
        exact ⟨x, y, i64_of w0, i64_of w1, fun _ => ⟨e0, e1⟩⟩
      · exact ⟨0, 0, i64_0, i64_0, fun h => absurd h hj⟩
    obtain ⟨f, hf⟩ := Classical.axiomOfChoice each
    obtain ⟨g, hg⟩ := Classical.axiomOfChoice hf
    refine ⟨some a, len, cap, f, g, hv, fun hn => ⟨a, rfl, ?_, fun j hj => ?_⟩, (fun h => by cases h), fun j => (hg j).1, fun j => (hg j).2.1, hl, hml⟩
    · have := cell_lt (hc 0 (by omega)).1
      rwa [add_block] at this
    · obtain ⟨h0, h1, _⟩ := hc j (by omega)
      obtain ⟨e0, e1⟩ := (hg j).2.2 hj
      exact ⟨by rw [h0, e0], by rw [← add_succ, h1, e1]⟩

/-- an argument behind the call -/
theorem arg_back {P : Program} {t : TypeId} (hl : laidOutB P = true) (hr : P.readableRec t = true) (hrow : t < P.types.size) {W W' : World} {v : Value} {d : DataW H} {ps : List MemPlace}
    (h : DataW.Trod enc P W 0 (fun _ => true) true t v d ps) (hb : Below W.heap.size W W') (hlt : ∀ x ∈ ps, x.block < W.heap.size) : DataW.Trod enc P W' 0 (fun b => decide (b < W.heap.size)) true t v d ps := Below.trod hl hr hrow h hb hlt

/-- the row's last step: nothing old has turned, the arguments read as they did, no package variable is named -/
theorem law_post {P : Program} {f : Func} {s : ChangeSpec} {W W' : World} {args : Array Value} {v : Value} {ds : List (DataW H)} {before : List MemPlace}
    (hW : DataW.Whole enc P f.params.toList s.vars false W args.toList ds [] before)
    (hres : DataW.TrodAll enc P W' W.heap.size (fun _ => false) false f.resultTypes.toList (v.resultList f.resultTypes.size) (s.fn H (ds ++ [])).results [])
    (hargs : DataW.TrodAll enc P W' 0 (fun b => decide (b < W.heap.size)) true f.params.toList args.toList (s.fn H (ds ++ [])).args before)
    (hvars : DataW.TrodVars enc P W' (fun b => decide (b < W.heap.size)) s.vars (s.fn H (ds ++ [])).vars [])
    (hb : Below W.heap.size W W') : s.post enc P f false true false false W args v W' :=
  ⟨ds, [], before, [], before, [], hW, hres, hargs, hvars, World.keptBut_mono (fun p hp => ⟨hp, Or.inr (Or.inl hp)⟩) (hb.frame (· ∈ before)), fun h => by cases h⟩

end

theorem Cr.gr_no {c : Cr} (h : c.gr = false) : c.nl ≤ 60 ∧ c.na ≤ 120 ∧ c.nb ≤ 110 ∧ c.nc ≤ 110 ∧ (c.i ≤ 40 ∨ 996 ≤ c.i) := by
  have := of_decide_eq_false h
  omega

end Go.Proofs.YtecmldnigohjfabDoor
