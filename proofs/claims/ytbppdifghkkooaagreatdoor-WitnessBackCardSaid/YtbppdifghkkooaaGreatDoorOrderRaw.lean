/- order.Raw and the reference's Raw: a circuit as a raw one. -/
import Derived.Test.YtbppdifghkkooaaGreatDoorOrderRef
import Derived.Test.YtbppdifghkkooaaGreatDoorOrderMem
import Derived.Test.YtbppdifghkkooaaGreatDoorHeadTail
import Derived.Test.YtbppdifghkkooaaGreatDoorGatesProg2
import Derived.Deep.AppendLies
import Derived.Lib.SliceRun
import Derived.Deep.DeepCutAuto
import Derived.StillTailTactics
namespace Go.Proofs.YtbppdifghkkooaaGreatDoor
open Go.RowKit
set_option linter.unusedVariables false
set_option linter.unusedSimpArgs false

/-- the raw circuit of a circuit -/
def Cr.raw (c : Cr) : Rw := ⟨c.sz, c.i.toNat, c.nl, c.na, c.nb, c.nc, fun j => 2 * (1 + j), fun j => 2 * (1 + c.i + j), c.nx, c.rs, fun j => 2 * (1 + c.i + c.nl + j), c.ga, c.gb, c.bd, c.cn⟩

/-- the cells of a list of triples -/
def tripL (f g h : Nat → Int) : Nat → List Value
  | 0 => []
  | n + 1 => tripL f g h n ++ [.int .i64 (f n), .int .i64 (g n), .int .i64 (h n)]
theorem tripL_len (f g h : Nat → Int) : ∀ n, (tripL f g h n).length = n * 3
  | 0 => rfl
  | n + 1 => by rw [tripL, List.length_append, tripL_len f g h n]; simp; omega
theorem tripL_at (f g h : Nat → Int) : ∀ n j, j < n → (tripL f g h n)[j * 3]? = some (.int .i64 (f j)) ∧ (tripL f g h n)[j * 3 + 1]? = some (.int .i64 (g j)) ∧ (tripL f g h n)[j * 3 + 2]? = some (.int .i64 (h j))
  | 0, _, h => absurd h (Nat.not_lt_zero _)
  | n + 1, j, hj => by
    have hl := tripL_len f g h n
    rw [tripL]
    rcases Nat.lt_succ_iff_lt_or_eq.1 hj with h' | h'
    · obtain ⟨a, b, d⟩ := tripL_at f g h n j h'
      exact ⟨by rw [List.getElem?_append_left (by omega)]; exact a, by rw [List.getElem?_append_left (by omega)]; exact b, by rw [List.getElem?_append_left (by omega)]; exact d⟩
    · subst h'
      exact ⟨by rw [List.getElem?_append_right (by omega), hl]; simp, by rw [List.getElem?_append_right (by omega), hl]; simp, by rw [List.getElem?_append_right (by omega), hl]; simp⟩
theorem tripL_one (f g h : Nat → Int) : ∀ n, ∀ u ∈ tripL f g h n, u.oneCell' = true
  | 0, _, h => by cases h
  | n + 1, u, hu => by
    rw [tripL, List.mem_append] at hu
    rcases hu with hu | hu
    · exact tripL_one f g h n u hu
    · simp at hu; rcases hu with rfl | rfl | rfl <;> rfl
theorem info_def : (Tryz.prog.info? 129).map (fun i => (i.zero, i.size, i.bytes)) = some (some (.agg #[.int .i64 0, .int .i64 0, .int .i64 0]), 3, 24) := by kernel_rfl

/-- an owned list of triples, read -/
theorem own_trips {w : World} {base : Nat} {e : TypeId} {v : Value} {n : Nat} {f g h : Nat → Int} (ho : w.ownsRow base e 3 v n (tripL f g h n)) : ∃ A k, v = .slice A n k ∧ TripsAt w w.heap.size A n f g h ∧ (A = none → n = 0 ∧ k = 0) ∧ ∀ a, A = some a → base ≤ a.block := by
  rcases ho.2 with ⟨rfl, hn⟩ | ⟨q, cap, cur, rfl, hg, hh, r⟩
  · have hn0 : n = 0 := by
      have := tripL_len f g h n
      rw [hn] at this
      simp at this
      omega
    subst hn0
    exact ⟨none, 0, rfl, fun h => absurd h (Nat.not_lt_zero _), fun _ => ⟨rfl, rfl⟩, (fun a h => by cases h)⟩
  · refine ⟨_, cap, rfl, fun hn => ⟨_, rfl, Has.lt (t := e) (cs := cur) hh, fun j hj => ?_⟩, (fun h => by cases h), (fun a h => by cases h; exact hg)⟩
    obtain ⟨a, b, d⟩ := tripL_at f g h n j hj
    have e3 : (⟨q, 0, none⟩ : Addr).add (j * 3) = ⟨q, j * 3, none⟩ := by unfold Addr.add; split <;> simp_all
    rw [e3]
    exact ⟨(ho.cellAt (j * 3) (by omega)).trans a, (ho.cellAt (j * 3 + 1) (by omega)).trans b, (ho.cellAt (j * 3 + 2) (by omega)).trans d⟩
theorem own_ints' {w : World} {base : Nat} {e : TypeId} {v : Value} {n : Nat} {f : Nat → Int} (ho : w.ownsRow base e 1 v n (intL f n)) : ∃ A k, v = .slice A n k ∧ IntsAt w w.heap.size A n f ∧ (A = none → n = 0 ∧ k = 0) ∧ ∀ a, A = some a → base ≤ a.block := by
  rcases ho.2 with ⟨rfl, hn⟩ | ⟨q, cap, cur, rfl, hg, hh, r⟩
  · have hn0 : n = 0 := by
      have := intL_len f n
      rw [hn] at this
      simp at this
      omega
    subst hn0
    exact ⟨none, 0, rfl, fun h => absurd h (Nat.not_lt_zero _), fun _ => ⟨rfl, rfl⟩, (fun a h => by cases h)⟩
  · refine ⟨_, cap, rfl, fun hn => ⟨_, rfl, Has.lt (t := e) (cs := cur) hh, fun j hj => ?_⟩, (fun h => by cases h), (fun a h => by cases h; exact hg)⟩
    have e3 : (⟨q, 0, none⟩ : Addr).add j = ⟨q, j, none⟩ := by unfold Addr.add; split <;> simp_all
    rw [e3]
    exact (ho.cellAt _ (by omega)).trans (intL_at f n j hj)

theorem IntsAt.to1 {w W : World} {A : Option Addr} {n : Nat} {f : Nat → Int} (h : IntsAt w w.heap.size A n f) (hb : Below w.heap.size w W) : IntsAt W W.heap.size A n f := h.to hb hb.size
theorem box34 {W w' : World} {b : Nat} {c : Cr} {p : Pl} (h : Has W b 34 (cc c p)) (hb : Below W.heap.size W w') : Below W.heap.size W w' ∧ w'.cell? ⟨b, 3, none⟩ = some (.slice p.A3 c.nb p.k3) ∧ w'.cell? ⟨b, 4, none⟩ = some (.slice p.A4 c.nc p.k4) :=
  ⟨hb, (h.keep hb h.lt).box.2.2.2.1, (h.keep hb h.lt).box.2.2.2.2⟩
/-- the zero raw circuit's cells -/
def zr : Array Value := #[.int .i64 0, .slice none 0 0, .slice none 0 0, .slice none 0 0, .slice none 0 0, .slice none 0 0]
/-- what lies behind the copies: a box of its own with two lists that lie elsewhere -/
structure Built (w1 X : World) (b : Nat) (t : TypeId) (cs : Array Value) (P4 P5 : Option Addr) (n4 n5 : Nat) (f4 f5 : Nat → Int) : Prop where
  h : Has X b t cs
  b1 : w1.heap.size ≤ b
  B : Below w1.heap.size w1 X
  i4 : IntsAt X X.heap.size P4 n4 f4
  i5 : IntsAt X X.heap.size P5 n5 f5
  d4 : ∀ a, P4 = some a → a.block ≠ b
  d5 : ∀ a, P5 = some a → a.block ≠ b
  l4 : ∀ a, P4 = some a → w1.heap.size ≤ a.block
  l5 : ∀ a, P5 = some a → w1.heap.size ≤ a.block
/-- the box was made last -/
theorem built_last {w1 w6 : World} {t : TypeId} {P4 P5 : Option Addr} {n4 n5 : Nat} {f4 f5 : Nat → Int} (cs : Array Value) (hB : Below w1.heap.size w1 w6) (i4 : IntsAt w6 w6.heap.size P4 n4 f4) (i5 : IntsAt w6 w6.heap.size P5 n5 f5)
    (d4 : ∀ a, P4 = some a → w1.heap.size ≤ a.block ∧ a.block < w6.heap.size) (d5 : ∀ a, P5 = some a → w1.heap.size ≤ a.block ∧ a.block < w6.heap.size) : Built w1 (w6.alloc (.cells cs t)) w6.heap.size t cs P4 P5 n4 n5 f4 f5 :=
  ⟨Has.new _ _ _, hB.size, hB.alloc hB.size _, i4.to ((Below.refl _ _).alloc (Nat.le_refl _) _) (by simp), i5.to ((Below.refl _ _).alloc (Nat.le_refl _) _) (by simp), fun a e => by have := d4 a e; omega, fun a e => by have := d5 a e; omega, fun a e => (d4 a e).1, fun a e => (d5 a e).1⟩
/-- what a store into a box leaves -/
theorem IntsAt.set {w : World} {A : Option Addr} {n b j : Nat} {f : Nat → Int} (h : IntsAt w w.heap.size A n f) (hd : ∀ a, A = some a → a.block ≠ b) (v : Value) : IntsAt (w.setCell ⟨b, j, none⟩ v) (w.setCell ⟨b, j, none⟩ v).heap.size A n f := fun hn => by
  obtain ⟨a, e, hl, hc⟩ := h hn
  refine ⟨a, e, by simpa [World.setCell] using hl, fun i hi => ?_⟩
  rw [World.cell?_setCell_other _ _ _ _ (fun e' => hd a e (by have := congrArg Addr.block e'; simpa [add_block] using this.symm))]
  exact hc i hi
theorem TripsAt.set {w : World} {A : Option Addr} {n b j : Nat} {f g h : Nat → Int} (H : TripsAt w w.heap.size A n f g h) (hd : ∀ a, A = some a → a.block ≠ b) (v : Value) : TripsAt (w.setCell ⟨b, j, none⟩ v) (w.setCell ⟨b, j, none⟩ v).heap.size A n f g h := fun hn => by
  obtain ⟨a, e, hl, hc⟩ := H hn
  have hne : ∀ q : Addr, q.block = a.block → (w.setCell ⟨b, j, none⟩ v).cell? q = w.cell? q := fun q hq => World.cell?_setCell_other _ _ _ _ (fun e' => hd a e (by rw [← hq]; exact (congrArg Addr.block e').symm))
  refine ⟨a, e, by simpa [World.setCell] using hl, fun i hi => ?_⟩
  obtain ⟨c0, c1, c2⟩ := hc i hi
  exact ⟨(hne _ (add_block _ _)).trans c0, (hne ⟨(a.add (i * 3)).block, (a.add (i * 3)).off + 1, none⟩ (add_block _ _)).trans c1, (hne ⟨(a.add (i * 3)).block, (a.add (i * 3)).off + 2, none⟩ (add_block _ _)).trans c2⟩
/-- lists that lie elsewhere -/
def Far (p : Rp) (b : Nat) : Prop := (∀ a, p.A1 = some a → a.block ≠ b) ∧ (∀ a, p.A2 = some a → a.block ≠ b) ∧ (∀ a, p.A3 = some a → a.block ≠ b) ∧ (∀ a, p.A4 = some a → a.block ≠ b) ∧ ∀ a, p.A5 = some a → a.block ≠ b
theorem RMem.set {w : World} {r : Rw} {p : Rp} {b : Nat} (h : RMem w w.heap.size r p) (hf : Far p b) (j : Nat) (v : Value) : RMem (w.setCell ⟨b, j, none⟩ v) (w.setCell ⟨b, j, none⟩ v).heap.size r p :=
  ⟨h.ip.set hf.1 v, h.la.set hf.2.1 v, h.an.set hf.2.2.1 v, h.bd.set hf.2.2.2.1 v, h.cn.set hf.2.2.2.2 v⟩
theorem RMem.set6 {w : World} {r : Rw} {p : Rp} {b : Nat} (h : RMem w w.heap.size r p) (hf : Far p b) (v0 v1 v2 v3 v4 v5 : Value) : RMem ((((((w.setCell ⟨b, 0, none⟩ v0).setCell ⟨b, 1, none⟩ v1).setCell ⟨b, 2, none⟩ v2).setCell ⟨b, 3, none⟩ v3).setCell ⟨b, 4, none⟩ v4).setCell ⟨b, 5, none⟩ v5) ((((((w.setCell ⟨b, 0, none⟩ v0).setCell ⟨b, 1, none⟩ v1).setCell ⟨b, 2, none⟩ v2).setCell ⟨b, 3, none⟩ v3).setCell ⟨b, 4, none⟩ v4).setCell ⟨b, 5, none⟩ v5).heap.size r p :=
  (((((h.set hf 0 v0).set hf 1 v1).set hf 2 v2).set hf 3 v3).set hf 4 v4).set hf 5 v5
theorem below_set6 {B : Nat} {w W : World} {b : Nat} (h : Below B w W) (hb : B ≤ b) (v0 v1 v2 v3 v4 v5 : Value) : Below B w ((((((W.setCell ⟨b, 0, none⟩ v0).setCell ⟨b, 1, none⟩ v1).setCell ⟨b, 2, none⟩ v2).setCell ⟨b, 3, none⟩ v3).setCell ⟨b, 4, none⟩ v4).setCell ⟨b, 5, none⟩ v5) :=
  (((((h.setCell hb v0).setCell hb v1).setCell hb v2).setCell hb v3).setCell hb v4).setCell hb v5
theorem Built.set {w1 X : World} {b : Nat} {t : TypeId} {cs : Array Value} {P4 P5 : Option Addr} {n4 n5 : Nat} {f4 f5 : Nat → Int} (h : Built w1 X b t cs P4 P5 n4 n5 f4 f5) (j : Nat) (v : Value) : Built w1 (X.setCell ⟨b, j, none⟩ v) b t (cs.setIfInBounds j v) P4 P5 n4 n5 f4 f5 :=
  ⟨h.h.set j v, h.b1, h.B.setCell h.b1 v, h.i4.set h.d4 v, h.i5.set h.d5 v, h.d4, h.d5, h.l4, h.l5⟩
theorem Has.zr6 {w : World} {b : Nat} (h : Has w b 25 zr) : (w.cell? ⟨b, 0, none⟩ = some (.int .i64 0) ∧ w.cell? ⟨b, 1, none⟩ = some (.slice none 0 0) ∧ w.cell? ⟨b, 2, none⟩ = some (.slice none 0 0) ∧ w.cell? ⟨b, 3, none⟩ = some (.slice none 0 0) ∧ w.cell? ⟨b, 4, none⟩ = some (.slice none 0 0) ∧ w.cell? ⟨b, 5, none⟩ = some (.slice none 0 0)) ∧
    w.frozen? ⟨b, 0, none⟩ = false ∧ w.frozen? ⟨b, 1, none⟩ = false ∧ w.frozen? ⟨b, 2, none⟩ = false ∧ w.frozen? ⟨b, 3, none⟩ = false ∧ w.frozen? ⟨b, 4, none⟩ = false ∧ w.frozen? ⟨b, 5, none⟩ = false :=
  ⟨⟨h.cell 0, h.cell 1, h.cell 2, h.cell 3, h.cell 4, h.cell 5⟩, h.fz 0, h.fz 1, h.fz 2, h.fz 3, h.fz 4, h.fz 5⟩
theorem mid_zr {w5 w6 : World} (h : Below (w5.alloc (.cells #[.int .i64 0, .slice none 0 0, .slice none 0 0, .slice none 0 0, .slice none 0 0, .slice none 0 0] 25)).heap.size (w5.alloc (.cells #[.int .i64 0, .slice none 0 0, .slice none 0 0, .slice none 0 0, .slice none 0 0, .slice none 0 0] 25)) w6) : Has w6 w5.heap.size 25 zr := (Has.new w5 25 zr).keep h (by simp)
theorem mid_zr2 {w5 w6 : World} (h : Below (w5.alloc (.cells #[.int .i64 0, .slice none 0 0, .slice none 0 0, .slice none 0 0, .slice none 0 0, .slice none 0 0] 25)).drew.heap.size (w5.alloc (.cells #[.int .i64 0, .slice none 0 0, .slice none 0 0, .slice none 0 0, .slice none 0 0, .slice none 0 0] 25)).drew w6) : Has w6 w5.heap.size 25 zr := (show Has (w5.alloc (.cells zr 25)).drew w5.heap.size 25 zr from Has.new w5 25 zr).keep h (by simp)
theorem Built.six {w1 X : World} {b : Nat} {t : TypeId} {P4 P5 : Option Addr} {n4 n5 : Nat} {f4 f5 : Nat → Int} (h : Built w1 X b t zr P4 P5 n4 n5 f4 f5) (v0 v1 v2 v3 v4 v5 : Value) :
    Built w1 ((((((X.setCell ⟨b, 0, none⟩ v0).setCell ⟨b, 1, none⟩ v1).setCell ⟨b, 2, none⟩ v2).setCell ⟨b, 3, none⟩ v3).setCell ⟨b, 4, none⟩ v4).setCell ⟨b, 5, none⟩ v5) b t #[v0, v1, v2, v3, v4, v5] P4 P5 n4 n5 f4 f5 := by
  have := (((((h.set 0 v0).set 1 v1).set 2 v2).set 3 v3).set 4 v4).set 5 v5
  simpa [zr] using this
/-- a call that leaves the world as it is, inside a still region -/
theorem sc {P : Program} {f : FuncId} {args : Array Value} {w : World} {v : Value} (h : Calls P f args w fun e w' => e = .returned v ∧ w = w') : Calls P f args w fun e w'' => e = .returned v ∧ w'' = w := h.mono fun _ _ ⟨he, hm⟩ => ⟨he, hm.symm⟩
/-- all but box b and what came later is as it was -/
structure Kept (X wr : World) (b : Nat) : Prop where
  s : X.heap.size ≤ wr.heap.size
  k : ∀ g, g < X.heap.size → g ≠ b → wr.heap[g]? = X.heap[g]?
theorem Kept.refl (X : World) (b : Nat) : Kept X X b := ⟨Nat.le_refl _, fun _ _ _ => rfl⟩
theorem Kept.ints {X wr : World} {b n : Nat} {A : Option Addr} {f : Nat → Int} (h : Kept X wr b) (i : IntsAt X X.heap.size A n f) (d : ∀ a, A = some a → a.block ≠ b) : IntsAt wr wr.heap.size A n f := fun hn => by
  obtain ⟨a, e, hl, hc⟩ := i hn
  refine ⟨a, e, Nat.lt_of_lt_of_le hl h.s, fun j hj => ?_⟩
  rw [← hc j hj]
  have := h.k (a.add j).block (by rw [add_block]; exact hl) (by rw [add_block]; exact d a e)
  unfold World.cell?
  rw [this]
theorem Kept.trips {X wr : World} {b n : Nat} {A : Option Addr} {f g h : Nat → Int} (hK : Kept X wr b) (i : TripsAt X X.heap.size A n f g h) (d : ∀ a, A = some a → a.block ≠ b) : TripsAt wr wr.heap.size A n f g h := fun hn => by
  obtain ⟨a, e, hl, hc⟩ := i hn
  have hk : ∀ o, wr.cell? ⟨a.block, o, none⟩ = X.cell? ⟨a.block, o, none⟩ := fun o => by
    have := hK.k a.block hl (d a e)
    unfold World.cell?
    rw [this]
  have hk2 : ∀ j, wr.cell? (a.add j) = X.cell? (a.add j) := fun j => by
    have := hK.k (a.add j).block (by rw [add_block]; exact hl) (by rw [add_block]; exact d a e)
    unfold World.cell?
    rw [this]
  refine ⟨a, e, Nat.lt_of_lt_of_le hl hK.s, fun j hj => ?_⟩
  obtain ⟨c0, c1, c2⟩ := hc j hj
  have hb := add_block a (j * 3)
  exact ⟨(hk2 _).trans c0, by rw [← c1, hb]; exact hk _, by rw [← c2, hb]; exact hk _⟩
theorem Kept.round {X wr w8 : World} {b j size n : Nat} {o : Obj} {e : TypeId} {v u : Value} {xs : List Value} (h : Kept X wr b) (hown : wr.ownsRow X.heap.size e size v n xs) (hg : (wr.alloc o).grownBy w8 v.ownBlock) : Kept X (w8.setCell ⟨b, j, none⟩ u) b := by
  have hs := hg.size
  have hs0 := h.s
  simp at hs
  refine ⟨by simp [World.setCell]; omega, fun g hl hne => ?_⟩
  rw [Below.heap_setCell _ _ _ _ (by simpa using hne), hg.block g (by simp; omega) (fun e => by have := own_block hown _ e.symm; omega), Below.heap_alloc _ _ _ (by omega)]
  exact h.k g hl hne
theorem Kept.round2 {X wr w8 : World} {b j size n : Nat} {o o2 : Obj} {e : TypeId} {v u : Value} {xs : List Value} (h : Kept X wr b) (hown : wr.ownsRow X.heap.size e size v n xs) (hg : ((wr.alloc o2).alloc o).grownBy w8 v.ownBlock) : Kept X (w8.setCell ⟨b, j, none⟩ u) b := by
  refine Kept.round (wr := wr.alloc o2) ⟨by have := h.s; simp; omega, fun g hl hne => ?_⟩ (hown.alloc _) hg
  rw [Below.heap_alloc _ _ _ (by have := h.s; omega)]
  exact h.k g hl hne
theorem Has.keepg {w w8 : World} {b : Nat} {t : TypeId} {cs : Array Value} {r : Option Nat} (h : Has w b t cs) (hg : w.grownBy w8 r) (hne : r ≠ some b) : Has w8 b t cs := (hg.block b h.lt (fun e => hne e.symm)).trans h
theorem own_old {w : World} {base : Nat} {e : TypeId} {size n : Nat} {v : Value} {xs : List Value} (h : w.ownsRow base e size v n xs) (hh : v.ownBlock = some w.heap.size) : False := by
  rcases h.2 with ⟨rfl, _⟩ | ⟨g, cap, cur, rfl, _, hc, _⟩
  · cases hh
  · have := Has.lt (t := e) (cs := cur) hc
    simp [Value.ownBlock] at hh
    omega
/-- a raw circuit's value handed back -/
def RawIs (r : Rw) (w : World) (e : Ending) (w' : World) : Prop := ∃ p, e = .returned (.tuple #[rv r p, .int .i64 0]) ∧ RMem w' w'.heap.size r p ∧ RNils r p ∧ Below w.heap.size w w'