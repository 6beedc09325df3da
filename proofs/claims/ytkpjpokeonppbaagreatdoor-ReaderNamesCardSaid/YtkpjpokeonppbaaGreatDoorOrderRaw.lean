/- order.Raw and the reference's Raw: a circuit as a raw one. -/
import Derived.Test.YtkpjpokeonppbaaGreatDoorOrderRef
import Derived.Test.YtkpjpokeonppbaaGreatDoorOrderMem
import Derived.Test.YtkpjpokeonppbaaGreatDoorHeadTail
import Derived.Test.YtkpjpokeonppbaaGreatDoorGatesChk
import Derived.Test.YtkpjpokeonppbaaGreatDoorGatesRef2
import Derived.Deep.AppendLies
import Derived.Lib.SliceRun
import Derived.Deep.DeepCutAuto
import Derived.StillTailTactics
namespace Go.Proofs.YtkpjpokeonppbaaGreatDoor
open Go.RowKit
set_option linter.unusedVariables false
set_option linter.unusedSimpArgs false

/-- the raw circuit of a circuit -/
def Cr.raw (c : Cr) : Rw := ⟨c.sz, c.i.toNat, c.nl, c.na, c.nb, c.nc, fun j => 2 * (1 + j), fun j => 2 * (1 + c.i + j), c.nx, c.rs, fun j => 2 * (1 + c.i + c.nl + j), c.ga, c.gb, c.bd, c.cn⟩

/-- the cells of a list of triples -/
def tripL (f g h : Nat → Int) : Nat → List Value
  | 0 => []
  | n + 1 => tripL f g h n ++ [.int .i64 (f n), .int .i64 (g n), .int .i64 (h n)]
theorem tripL_len (f g h : Nat → Int) : ∀ n, (tripL f g h n).length = n * 3
  | 0 => rfl
  | n + 1 => by rw [tripL, List.length_append, tripL_len f g h n]; simp; omega
theorem tripL_at (f g h : Nat → Int) : ∀ n j, j < n → (tripL f g h n)[j * 3]? = some (.int .i64 (f j)) ∧ (tripL f g h n)[j * 3 + 1]? = some (.int .i64 (g j)) ∧ (tripL f g h n)[j * 3 + 2]? = some (.int .i64 (h j))
  | 0, _, h => absurd h (Nat.not_lt_zero _)
  | n + 1, j, hj => by
    have hl := tripL_len f g h n
    rw [tripL]
    rcases Nat.lt_succ_iff_lt_or_eq.1 hj with h' | h'
    · obtain ⟨a, b, d⟩ := tripL_at f g h n j h'
      exact ⟨by rw [List.getElem?_append_left (by omega)]; exact a, by rw [List.getElem?_append_left (by omega)]; exact b, by rw [List.getElem?_append_left (by omega)]; exact d⟩
    · subst h'
      exact ⟨by rw [List.getElem?_append_right (by omega), hl]; simp, by rw [List.getElem?_append_right (by omega), hl]; simp, by rw [List.getElem?_append_right (by omega), hl]; simp⟩
theorem tripL_one (f g h : Nat → Int) : ∀ n, ∀ u ∈ tripL f g h n, u.oneCell' = true
  | 0, _, h => by cases h
  | n + 1, u, hu => by
    rw [tripL, List.mem_append] at hu
    rcases hu with hu | hu
    · exact tripL_one f g h n u hu
    · simp at hu; rcases hu with rfl | rfl | rfl <;> rfl
theorem info_def : (Tryz.prog.info? 32).map (fun i => (i.zero, i.size, i.bytes)) = some (some (.agg #[.int .i64 0, .int .i64 0, .int .i64 0]), 3, 24) := by kernel_rfl

/-- an owned list of triples, read -/
theorem own_trips {w : World} {base : Nat} {e : TypeId} {v : Value} {n : Nat} {f g h : Nat → Int} (ho : w.ownsRow base e 3 v n (tripL f g h n)) : ∃ A k, v = .slice A n k ∧ TripsAt w w.heap.size A n f g h ∧ (A = none → n = 0 ∧ k = 0) ∧ ∀ a, A = some a → base ≤ a.block := by
  rcases ho.2 with ⟨rfl, hn⟩ | ⟨q, cap, cur, rfl, hg, hh, r⟩
  · have hn0 : n = 0 := by
      have := tripL_len f g h n
      rw [hn] at this
      simp at this
      omega
    subst hn0
    exact ⟨none, 0, rfl, fun h => absurd h (Nat.not_lt_zero _), fun _ => ⟨rfl, rfl⟩, (fun a h => by cases h)⟩
  · refine ⟨_, cap, rfl, fun hn => ⟨_, rfl, Has.lt (t := e) (cs := cur) hh, fun j hj => ?_⟩, (fun h => by cases h), (fun a h => by cases h; exact hg)⟩
    obtain ⟨a, b, d⟩ := tripL_at f g h n j hj
    have e3 : (⟨q, 0, none⟩ : Addr).add (j * 3) = ⟨q, j * 3, none⟩ := by unfold Addr.add; split <;> simp_all
    rw [e3]
    exact ⟨(ho.cellAt (j * 3) (by omega)).trans a, (ho.cellAt (j * 3 + 1) (by omega)).trans b, (ho.cellAt (j * 3 + 2) (by omega)).trans d⟩
theorem own_ints' {w : World} {base : Nat} {e : TypeId} {v : Value} {n : Nat} {f : Nat → Int} (ho : w.ownsRow base e 1 v n (intL f n)) : ∃ A k, v = .slice A n k ∧ IntsAt w w.heap.size A n f ∧ (A = none → n = 0 ∧ k = 0) ∧ ∀ a, A = some a → base ≤ a.block := by
  rcases ho.2 with ⟨rfl, hn⟩ | ⟨q, cap, cur, rfl, hg, hh, r⟩
  · have hn0 : n = 0 := by
      have := intL_len f n
      rw [hn] at this
      simp at this
      omega
    subst hn0
    exact ⟨none, 0, rfl, fun h => absurd h (Nat.not_lt_zero _), fun _ => ⟨rfl, rfl⟩, (fun a h => by cases h)⟩
  · refine ⟨_, cap, rfl, fun hn => ⟨_, rfl, Has.lt (t := e) (cs := cur) hh, fun j hj => ?_⟩, (fun h => by cases h), (fun a h => by cases h; exact hg)⟩
    have e3 : (⟨q, 0, none⟩ : Addr).add j = ⟨q, j, none⟩ := by unfold Addr.add; split <;> simp_all
    rw [e3]
    exact (ho.cellAt _ (by omega)).trans (intL_at f n j hj)

theorem litOf_o (v : Int) (w : World) (h0 : 0 ≤ v) (h1 : v ≤ 1000) : Calls Tryz.prog 72 #[.int .i64 v] w fun e w' => e = .returned (.int .i64 (2 * v)) ∧ w = w' := by
  go_enter Tryz.func72, Tryz.ntmps72
  go_wp2_with (go_at_call 78; refine (lit_yes v false _ (Li.isV_mk h0 h1)).mono ?_; rintro e w1 ⟨rfl, rfl⟩)
  go_ret
  exact ⟨by simp [Li.mk], rfl⟩

/-- a copy of a list -/
def CopyIs (n : Nat) (f : Nat → Int) (w : World) (e : Ending) (w' : World) : Prop := ∃ A k, e = .returned (.slice A n k) ∧ (A = none → n = 0 ∧ k = 0) ∧ (∀ a, A = some a → w.heap.size ≤ a.block ∧ a.block < w'.heap.size) ∧ IntsAt w' w'.heap.size A n f ∧ Below w.heap.size w w'
set_option maxRecDepth 100000 in
set_option maxHeartbeats 1000000 in
theorem clone_any (A : Option Addr) (n k : Nat) (f : Nat → Int) (w : World) (hn : n ≤ 100000) (hA : IntsAt w w.heap.size A n f) (hN : A = none → n = 0 ∧ k = 0) :
    Calls Tryz.prog 71 #[.slice A n k] w (CopyIs n f w) := by
  obtain ⟨i0, hi0, hzz0, hs0, hy0⟩ := info_parts info_int
  have hnil : ∀ w, (binOp .eql 23 (.slice A n k) (.slice none 0 0)).run Tryz.prog w = .ok (.bool A.isNone) w := fun w => Lib.run_eql_slice_nil w _ 3 A n k 0 0 Tryz.underlying23
  cases A with
  | none =>
    obtain ⟨rfl, rfl⟩ := hN rfl
    go_enter Tryz.func71, Tryz.ntmps71
    go_wp2
    go_ret
    exact ⟨none, 0, rfl, fun _ => ⟨rfl, rfl⟩, (fun _ h => by cases h), fun h => absurd h (Nat.not_lt_zero _), Below.refl _ _⟩
  | some a =>
    go_enter Tryz.func71, Tryz.ntmps71
    go_wp2_with (at_builtin; refine append_to_new rfl (.tmp 5) (.tmp 6) _ rfl w.heap.size 3 i0 _ 1 8 Tryz.underlying23 hi0 hzz0 hs0 hy0 rfl (by decide) w.heap.size rfl (by go_size) (Has.new' _ _ (by simp)) (some a) n k (intL f n) rfl (intL_len _ _) ((hA.keep ((Below.refl _ _).alloc (Nat.le_refl _) _)).src (fun h => by cases h)) (intL_one _ _) (by simp only [maxLen]; omega) (by omega) (by go_size) ?_; intro g1 k1 w1 ho1 hg1 hat1)
    go_ret
    refine ⟨some ⟨g1, 0, none⟩, k1, rfl, (fun h => by cases h), (fun a h => by cases h; exact ⟨own_ge ho1, own_lt ho1⟩), own_ints ho1 (fun _ => own_lt ho1), ?_⟩
    exact ((Below.refl w.heap.size w).alloc (Nat.le_refl _) _).grown hg1 (by simp) (fun k hk => by cases hk; omega)

theorem IntsAt.to1 {w W : World} {A : Option Addr} {n : Nat} {f : Nat → Int} (h : IntsAt w w.heap.size A n f) (hb : Below w.heap.size w W) : IntsAt W W.heap.size A n f := h.to hb hb.size
theorem box34 {W w' : World} {b : Nat} {c : Cr} {p : Pl} (h : Has W b 41 (cc c p)) (hb : Below W.heap.size W w') : Below W.heap.size W w' ∧ w'.cell? ⟨b, 3, none⟩ = some (.slice p.A3 c.nb p.k3) ∧ w'.cell? ⟨b, 4, none⟩ = some (.slice p.A4 c.nc p.k4) :=
  ⟨hb, (h.keep hb h.lt).box.2.2.2.1, (h.keep hb h.lt).box.2.2.2.2⟩
/-- the zero raw circuit's cells -/
def zr : Array Value := #[.int .i64 0, .slice none 0 0, .slice none 0 0, .slice none 0 0, .slice none 0 0, .slice none 0 0]
/-- what lies behind the copies: a box of its own with two lists that lie elsewhere -/
structure Built (w1 X : World) (b : Nat) (t : TypeId) (cs : Array Value) (P4 P5 : Option Addr) (n4 n5 : Nat) (f4 f5 : Nat → Int) : Prop where
  h : Has X b t cs
  b1 : w1.heap.size ≤ b
  B : Below w1.heap.size w1 X
  i4 : IntsAt X X.heap.size P4 n4 f4
  i5 : IntsAt X X.heap.size P5 n5 f5
  d4 : ∀ a, P4 = some a → a.block ≠ b
  d5 : ∀ a, P5 = some a → a.block ≠ b
  l4 : ∀ a, P4 = some a → w1.heap.size ≤ a.block
  l5 : ∀ a, P5 = some a → w1.heap.size ≤ a.block
/-- the box was made last -/
theorem built_last {w1 w6 : World} {t : TypeId} {P4 P5 : Option Addr} {n4 n5 : Nat} {f4 f5 : Nat → Int} (cs : Array Value) (hB : Below w1.heap.size w1 w6) (i4 : IntsAt w6 w6.heap.size P4 n4 f4) (i5 : IntsAt w6 w6.heap.size P5 n5 f5)
    (d4 : ∀ a, P4 = some a → w1.heap.size ≤ a.block ∧ a.block < w6.heap.size) (d5 : ∀ a, P5 = some a → w1.heap.size ≤ a.block ∧ a.block < w6.heap.size) : Built w1 (w6.alloc (.cells cs t)) w6.heap.size t cs P4 P5 n4 n5 f4 f5 :=
  ⟨Has.new _ _ _, hB.size, hB.alloc hB.size _, i4.to ((Below.refl _ _).alloc (Nat.le_refl _) _) (by simp), i5.to ((Below.refl _ _).alloc (Nat.le_refl _) _) (by simp), fun a e => by have := d4 a e; omega, fun a e => by have := d5 a e; omega, fun a e => (d4 a e).1, fun a e => (d5 a e).1⟩
/-- what a store into a box leaves -/
theorem IntsAt.set {w : World} {A : Option Addr} {n b j : Nat} {f : Nat → Int} (h : IntsAt w w.heap.size A n f) (hd : ∀ a, A = some a → a.block ≠ b) (v : Value) : IntsAt (w.setCell ⟨b, j, none⟩ v) (w.setCell ⟨b, j, none⟩ v).heap.size A n f := fun hn => by
  obtain ⟨a, e, hl, hc⟩ := h hn
  refine ⟨a, e, by simpa [World.setCell] using hl, fun i hi => ?_⟩
  rw [World.cell?_setCell_other _ _ _ _ (fun e' => hd a e (by have := congrArg Addr.block e'; simpa [add_block] using this.symm))]
  exact hc i hi
theorem TripsAt.set {w : World} {A : Option Addr} {n b j : Nat} {f g h : Nat → Int} (H : TripsAt w w.heap.size A n f g h) (hd : ∀ a, A = some a → a.block ≠ b) (v : Value) : TripsAt (w.setCell ⟨b, j, none⟩ v) (w.setCell ⟨b, j, none⟩ v).heap.size A n f g h := fun hn => by
  obtain ⟨a, e, hl, hc⟩ := H hn
  have hne : ∀ q : Addr, q.block = a.block → (w.setCell ⟨b, j, none⟩ v).cell? q = w.cell? q := fun q hq => World.cell?_setCell_other _ _ _ _ (fun e' => hd a e (by rw [← hq]; exact (congrArg Addr.block e').symm))
  refine ⟨a, e, by simpa [World.setCell] using hl, fun i hi => ?_⟩
  obtain ⟨c0, c1, c2⟩ := hc i hi
  exact ⟨(hne _ (add_block _ _)).trans c0, (hne ⟨(a.add (i * 3)).block, (a.add (i * 3)).off + 1, none⟩ (add_block _ _)).trans c1, (hne ⟨(a.add (i * 3)).block, (a.add (i * 3)).off + 2, none⟩ (add_block _ _)).trans c2⟩
/-- lists that lie elsewhere -/
def Far (p : Rp) (b : Nat) : Prop := (∀ a, p.A1 = some a → a.block ≠ b) ∧ (∀ a, p.A2 = some a → a.block ≠ b) ∧ (∀ a, p.A3 = some a → a.block ≠ b) ∧ (∀ a, p.A4 = some a → a.block ≠ b) ∧ ∀ a, p.A5 = some a → a.block ≠ b
theorem RMem.set {w : World} {r : Rw} {p : Rp} {b : Nat} (h : RMem w w.heap.size r p) (hf : Far p b) (j : Nat) (v : Value) : RMem (w.setCell ⟨b, j, none⟩ v) (w.setCell ⟨b, j, none⟩ v).heap.size r p :=
  ⟨h.ip.set hf.1 v, h.la.set hf.2.1 v, h.an.set hf.2.2.1 v, h.bd.set hf.2.2.2.1 v, h.cn.set hf.2.2.2.2 v⟩
theorem RMem.set6 {w : World} {r : Rw} {p : Rp} {b : Nat} (h : RMem w w.heap.size r p) (hf : Far p b) (v0 v1 v2 v3 v4 v5 : Value) : RMem ((((((w.setCell ⟨b, 0, none⟩ v0).setCell ⟨b, 1, none⟩ v1).setCell ⟨b, 2, none⟩ v2).setCell ⟨b, 3, none⟩ v3).setCell ⟨b, 4, none⟩ v4).setCell ⟨b, 5, none⟩ v5) ((((((w.setCell ⟨b, 0, none⟩ v0).setCell ⟨b, 1, none⟩ v1).setCell ⟨b, 2, none⟩ v2).setCell ⟨b, 3, none⟩ v3).setCell ⟨b, 4, none⟩ v4).setCell ⟨b, 5, none⟩ v5).heap.size r p :=
  (((((h.set hf 0 v0).set hf 1 v1).set hf 2 v2).set hf 3 v3).set hf 4 v4).set hf 5 v5
theorem below_set6 {B : Nat} {w W : World} {b : Nat} (h : Below B w W) (hb : B ≤ b) (v0 v1 v2 v3 v4 v5 : Value) : Below B w ((((((W.setCell ⟨b, 0, none⟩ v0).setCell ⟨b, 1, none⟩ v1).setCell ⟨b, 2, none⟩ v2).setCell ⟨b, 3, none⟩ v3).setCell ⟨b, 4, none⟩ v4).setCell ⟨b, 5, none⟩ v5) :=
  (((((h.setCell hb v0).setCell hb v1).setCell hb v2).setCell hb v3).setCell hb v4).setCell hb v5
theorem Built.set {w1 X : World} {b : Nat} {t : TypeId} {cs : Array Value} {P4 P5 : Option Addr} {n4 n5 : Nat} {f4 f5 : Nat → Int} (h : Built w1 X b t cs P4 P5 n4 n5 f4 f5) (j : Nat) (v : Value) : Built w1 (X.setCell ⟨b, j, none⟩ v) b t (cs.setIfInBounds j v) P4 P5 n4 n5 f4 f5 :=
  ⟨h.h.set j v, h.b1, h.B.setCell h.b1 v, h.i4.set h.d4 v, h.i5.set h.d5 v, h.d4, h.d5, h.l4, h.l5⟩
theorem Has.zr6 {w : World} {b : Nat} (h : Has w b 26 zr) : (w.cell? ⟨b, 0, none⟩ = some (.int .i64 0) ∧ w.cell? ⟨b, 1, none⟩ = some (.slice none 0 0) ∧ w.cell? ⟨b, 2, none⟩ = some (.slice none 0 0) ∧ w.cell? ⟨b, 3, none⟩ = some (.slice none 0 0) ∧ w.cell? ⟨b, 4, none⟩ = some (.slice none 0 0) ∧ w.cell? ⟨b, 5, none⟩ = some (.slice none 0 0)) ∧
    w.frozen? ⟨b, 0, none⟩ = false ∧ w.frozen? ⟨b, 1, none⟩ = false ∧ w.frozen? ⟨b, 2, none⟩ = false ∧ w.frozen? ⟨b, 3, none⟩ = false ∧ w.frozen? ⟨b, 4, none⟩ = false ∧ w.frozen? ⟨b, 5, none⟩ = false :=
  ⟨⟨h.cell 0, h.cell 1, h.cell 2, h.cell 3, h.cell 4, h.cell 5⟩, h.fz 0, h.fz 1, h.fz 2, h.fz 3, h.fz 4, h.fz 5⟩
theorem mid_zr {w5 w6 : World} (h : Below (w5.alloc (.cells #[.int .i64 0, .slice none 0 0, .slice none 0 0, .slice none 0 0, .slice none 0 0, .slice none 0 0] 26)).heap.size (w5.alloc (.cells #[.int .i64 0, .slice none 0 0, .slice none 0 0, .slice none 0 0, .slice none 0 0, .slice none 0 0] 26)) w6) : Has w6 w5.heap.size 26 zr := (Has.new w5 26 zr).keep h (by simp)
theorem mid_zr2 {w5 w6 : World} (h : Below (w5.alloc (.cells #[.int .i64 0, .slice none 0 0, .slice none 0 0, .slice none 0 0, .slice none 0 0, .slice none 0 0] 26)).drew.heap.size (w5.alloc (.cells #[.int .i64 0, .slice none 0 0, .slice none 0 0, .slice none 0 0, .slice none 0 0, .slice none 0 0] 26)).drew w6) : Has w6 w5.heap.size 26 zr := (show Has (w5.alloc (.cells zr 26)).drew w5.heap.size 26 zr from Has.new w5 26 zr).keep h (by simp)
theorem Built.six {w1 X : World} {b : Nat} {t : TypeId} {P4 P5 : Option Addr} {n4 n5 : Nat} {f4 f5 : Nat → Int} (h : Built w1 X b t zr P4 P5 n4 n5 f4 f5) (v0 v1 v2 v3 v4 v5 : Value) :
    Built w1 ((((((X.setCell ⟨b, 0, none⟩ v0).setCell ⟨b, 1, none⟩ v1).setCell ⟨b, 2, none⟩ v2).setCell ⟨b, 3, none⟩ v3).setCell ⟨b, 4, none⟩ v4).setCell ⟨b, 5, none⟩ v5) b t #[v0, v1, v2, v3, v4, v5] P4 P5 n4 n5 f4 f5 := by
  have := (((((h.set 0 v0).set 1 v1).set 2 v2).set 3 v3).set 4 v4).set 5 v5
  simpa [zr] using this
/-- a call that leaves the world as it is, inside a still region -/
theorem sc {P : Program} {f : FuncId} {args : Array Value} {w : World} {v : Value} (h : Calls P f args w fun e w' => e = .returned v ∧ w = w') : Calls P f args w fun e w'' => e = .returned v ∧ w'' = w := h.mono fun _ _ ⟨he, hm⟩ => ⟨he, hm.symm⟩
/-- all but box b and what came later is as it was -/
structure Kept (X wr : World) (b : Nat) : Prop where
  s : X.heap.size ≤ wr.heap.size
  k : ∀ g, g < X.heap.size → g ≠ b → wr.heap[g]? = X.heap[g]?
theorem Kept.refl (X : World) (b : Nat) : Kept X X b := ⟨Nat.le_refl _, fun _ _ _ => rfl⟩
theorem Kept.ints {X wr : World} {b n : Nat} {A : Option Addr} {f : Nat → Int} (h : Kept X wr b) (i : IntsAt X X.heap.size A n f) (d : ∀ a, A = some a → a.block ≠ b) : IntsAt wr wr.heap.size A n f := fun hn => by
  obtain ⟨a, e, hl, hc⟩ := i hn
  refine ⟨a, e, Nat.lt_of_lt_of_le hl h.s, fun j hj => ?_⟩
  rw [← hc j hj]
  have := h.k (a.add j).block (by rw [add_block]; exact hl) (by rw [add_block]; exact d a e)
  unfold World.cell?
  rw [this]
theorem Kept.trips {X wr : World} {b n : Nat} {A : Option Addr} {f g h : Nat → Int} (hK : Kept X wr b) (i : TripsAt X X.heap.size A n f g h) (d : ∀ a, A = some a → a.block ≠ b) : TripsAt wr wr.heap.size A n f g h := fun hn => by
  obtain ⟨a, e, hl, hc⟩ := i hn
  have hk : ∀ o, wr.cell? ⟨a.block, o, none⟩ = X.cell? ⟨a.block, o, none⟩ := fun o => by
    have := hK.k a.block hl (d a e)
    unfold World.cell?
    rw [this]
  have hk2 : ∀ j, wr.cell? (a.add j) = X.cell? (a.add j) := fun j => by
    have := hK.k (a.add j).block (by rw [add_block]; exact hl) (by rw [add_block]; exact d a e)
    unfold World.cell?
    rw [this]
  refine ⟨a, e, Nat.lt_of_lt_of_le hl hK.s, fun j hj => ?_⟩
  obtain ⟨c0, c1, c2⟩ := hc j hj
  have hb := add_block a (j * 3)
  exact ⟨(hk2 _).trans c0, by rw [← c1, hb]; exact hk _, by rw [← c2, hb]; exact hk _⟩
theorem Kept.round {X wr w8 : World} {b j size n : Nat} {o : Obj} {e : TypeId} {v u : Value} {xs : List Value} (h : Kept X wr b) (hown : wr.ownsRow X.heap.size e size v n xs) (hg : (wr.alloc o).grownBy w8 v.ownBlock) : Kept X (w8.setCell ⟨b, j, none⟩ u) b := by
  have hs := hg.size
  have hs0 := h.s
  simp at hs
  refine ⟨by simp [World.setCell]; omega, fun g hl hne => ?_⟩
  rw [Below.heap_setCell _ _ _ _ (by simpa using hne), hg.block g (by simp; omega) (fun e => by have := own_block hown _ e.symm; omega), Below.heap_alloc _ _ _ (by omega)]
  exact h.k g hl hne
theorem Kept.round2 {X wr w8 : World} {b j size n : Nat} {o o2 : Obj} {e : TypeId} {v u : Value} {xs : List Value} (h : Kept X wr b) (hown : wr.ownsRow X.heap.size e size v n xs) (hg : ((wr.alloc o2).alloc o).grownBy w8 v.ownBlock) : Kept X (w8.setCell ⟨b, j, none⟩ u) b := by
  refine Kept.round (wr := wr.alloc o2) ⟨by have := h.s; simp; omega, fun g hl hne => ?_⟩ (hown.alloc _) hg
  rw [Below.heap_alloc _ _ _ (by have := h.s; omega)]
  exact h.k g hl hne
theorem Has.keepg {w w8 : World} {b : Nat} {t : TypeId} {cs : Array Value} {r : Option Nat} (h : Has w b t cs) (hg : w.grownBy w8 r) (hne : r ≠ some b) : Has w8 b t cs := (hg.block b h.lt (fun e => hne e.symm)).trans h
theorem own_old {w : World} {base : Nat} {e : TypeId} {size n : Nat} {v : Value} {xs : List Value} (h : w.ownsRow base e size v n xs) (hh : v.ownBlock = some w.heap.size) : False := by
  rcases h.2 with ⟨rfl, _⟩ | ⟨g, cap, cur, rfl, _, hc, _⟩
  · cases hh
  · have := Has.lt (t := e) (cs := cur) hc
    simp [Value.ownBlock] at hh
    omega
/-- a raw circuit's value handed back -/
def RawIs (r : Rw) (w : World) (e : Ending) (w' : World) : Prop := ∃ p, e = .returned (.tuple #[rv r p, .int .i64 0]) ∧ RMem w' w'.heap.size r p ∧ RNils r p ∧ Below w.heap.size w w'

set_option maxRecDepth 100000 in
set_option maxHeartbeats 1000000 in
theorem oRaw_no (c : Cr) (p : Pl) (w : World) (hm : Mem w w.heap.size c p) (hs : Sm c) (h : (c.chk == 0) = false) :
    Calls Tryz.prog 40 #[cv c p] w fun e w' => e = .returned (.tuple #[.agg #[.int .i64 0, .slice none 0 0, .slice none 0 0, .slice none 0 0, .slice none 0 0, .slice none 0 0], .int .i64 c.chk]) ∧ Below w.heap.size w w' := by
  have h' : (c.chk != 0) = true := by simp [bne, h]
  go_enter Tryz.func40, Tryz.ntmps40
  go_wp2_with (first
    | (go_at_call 70; refine (gVars_any c p _ (hm.to (by go_grown) (by go_size)) hs).mono ?_; rintro e w1 ⟨rfl, hb1⟩; obtain ⟨hc1, hf1⟩ := bcell hb1; have hz1 : w.heap.size + 1 < w1.heap.size := (by have := hb1.size; (try simp at this); omega); have hB1 : Below w.heap.size w w1 := Below.step (by go_grown) (by go_size) hb1; have hZ1 : Has w1 (w.heap.size + 1) 26 zr := (Has.new' _ _ (by simp)).keep hb1 (by simp); have z0 : w1.cell? ⟨w.heap.size + 1, 0, none⟩ = some (.int .i64 0) := hZ1.cell 0; have z1 : w1.cell? ⟨w.heap.size + 1, 1, none⟩ = some (.slice none 0 0) := hZ1.cell 1; have z2 : w1.cell? ⟨w.heap.size + 1, 2, none⟩ = some (.slice none 0 0) := hZ1.cell 2; have z3 : w1.cell? ⟨w.heap.size + 1, 3, none⟩ = some (.slice none 0 0) := hZ1.cell 3; have z4 : w1.cell? ⟨w.heap.size + 1, 4, none⟩ = some (.slice none 0 0) := hZ1.cell 4; have z5 : w1.cell? ⟨w.heap.size + 1, 5, none⟩ = some (.slice none 0 0) := hZ1.cell 5))
  refine bodyPost_ret (v := .tuple #[.agg zr, .int .i64 c.chk]) (by simp [results, Tryz.results40, go_sem, z0, z1, z2, z3, z4, z5, zr]) rfl ⟨rfl, ?_⟩
  exact (((((hB1.setCell (by simp) _).setCell (by simp) _).setCell (by simp) _).setCell (by simp) _).setCell (by simp) _).setCell (by simp) _

set_option maxRecDepth 100000 in
set_option maxHeartbeats 4000000 in
theorem oRaw_yes (c : Cr) (p : Pl) (w : World) (hm : Mem w w.heap.size c p) (hs : Sm c) (hN : Nils c p) (h : (c.chk == 0) = true) :
    Calls Tryz.prog 40 #[cv c p] w (RawIs c.raw w) := by
  have h' : (c.chk != 0) = false := by simp [bne, h]
  have hb := Cr.chk_i h hs
  have hk := Lib.hid (show c.chk = 0 by simpa using h)
  have g1 := hs.nl
  have g2 := hs.na
  have g3 := hs.nb
  have g4 := hs.nc
  have hvr : c.vrs = c.sz := by unfold Cr.vrs; rw [if_pos hk.out]
  obtain ⟨i0, hi0, hzz0, hs0, hy0⟩ := info_parts info_int
  obtain ⟨i3, hi3, hzz3, hs3, hy3⟩ := info_parts info_def
  go_enter Tryz.func40, Tryz.ntmps40
  go_wp2_with (first
    | (go_at_call 70; refine (gVars_any c p _ (hm.to (by go_grown) (by go_size)) hs).mono ?_; rintro e w1 ⟨rfl, hb1⟩; rw [hvr]; obtain ⟨hc1, hf1⟩ := bcell hb1; have hz1 : w.heap.size + 1 < w1.heap.size := (by have := hb1.size; (try simp at this); omega); have hB1 : Below w.heap.size w w1 := Below.step (by go_grown) (by go_size) hb1; have hA1 : Has w1 w.heap.size 41 (cc c p) := ((Has.new _ _ _).al _).keep hb1 (by go_size); have hZ1 : Has w1 (w.heap.size + 1) 26 zr := (Has.new' _ _ (by simp)).keep hb1 (by simp)))
  have hM1 := hm.to hB1 (by omega)
  have HA := Lib.hid hA1
  go_cut [6] (fun s6 X => ∃ b P4 k4 P5 k5, s6 = .pointer (some ⟨b, 0, none⟩) ∧ Built w1 X b 26 #[.int .i64 c.sz, .slice none 0 0, .slice none 0 0, .slice none 0 0, .slice P4 c.nb k4, .slice P5 c.nc k5] P4 P5 c.nb c.nc c.bd c.cn ∧ (P4 = none → c.nb = 0 ∧ k4 = 0) ∧ (P5 = none → c.nc = 0 ∧ k5 = 0))
  case first =>
    go_region_held3 (fun w' => Below w1.heap.size w1 w' ∧ w'.cell? ⟨w.heap.size, 3, none⟩ = some (.slice p.A3 c.nb p.k3) ∧ w'.cell? ⟨w.heap.size, 4, none⟩ = some (.slice p.A4 c.nc p.k4))
      (exact box34 HA.out (by go_grown))
      (first
        | (go_at_call 71; (with_reducible refine (clone_any p.A3 c.nb p.k3 c.bd _ (by omega) (hM1.bd.to1 (by first | assumption | go_grown)) hN.bd).mono ?_); rintro e w5 ⟨P4, k4, rfl, hn4, hd4, hi4, hb5⟩; have hC5 : Below w1.heap.size w1 w5 := Below.next (by first | assumption | go_grown) hb5; have hs5 := hC5.size; (first | (have hBx := mid_zr2 hb5) | skip))
        | (go_at_call 71; (with_reducible refine (clone_any p.A4 c.nc p.k4 c.cn _ (by omega) (hM1.cn.to1 (by first | assumption | go_grown)) hN.cn).mono ?_); rintro e w6 ⟨P5, k5, rfl, hn5, hd5, hi5, hb6⟩; have hC6 : Below w1.heap.size w1 w6 := Below.next (by first | assumption | go_grown) hb6; have hs6 := hC6.size; (first | (have hBx := hBx.keep hb6 hBx.lt; obtain ⟨⟨e0, e1, e2, e3, e4, e5⟩, e0', e1', e2', e3', e4', e5'⟩ := hBx.zr6) | (have hA : Below w5.heap.size w5 w6 := hb6) | (have hBx := mid_zr hb6; obtain ⟨⟨e0, e1, e2, e3, e4, e5⟩, e0', e1', e2', e3', e4', e5'⟩ := hBx.zr6) | fail)))
    all_goals
      go_wp2_with fail
      go_meet
    · exact ⟨_, P4, k4, P5, k5, rfl, built_last _ hC6 (hi4.to1 hb6) hi5 (fun a e => by have h1 := hd4 a e; have h2 := hb6.size; have h3 : w1.drew.heap.size = w1.heap.size := rfl; omega) (fun a e => by have := hd5 a e; omega), hn4, hn5⟩
    · exact ⟨_, P4, k4, P5, k5, rfl, Built.six (Built.mk (mid_zr hb6) hs5 hC6 ((hi4.to ((Below.refl _ _).alloc (Nat.le_refl _) _) (by simp)).to1 hb6) hi5 (fun a e => by have := hd4 a e; omega) (fun a e => by have := hd5 a e; (try simp at this); omega) (fun a e => by have := hd4 a e; (try simp at this); omega) (fun a e => by have := hd5 a e; (try simp at this); omega)) (.int .i64 c.sz) (.slice none 0 0) (.slice none 0 0) (.slice none 0 0) (.slice P4 c.nb k4) (.slice P5 c.nc k5), hn4, hn5⟩
    · exact ⟨_, P4, k4, P5, k5, rfl, Built.six (Built.mk hBx (Nat.le_refl _) hC6 (hi4.to1 hb6) hi5 (fun a e => by have := hd4 a e; (try simp at this); omega) (fun a e => by have := hd5 a e; have := hb5.size; (try simp at this); omega) (fun a e => by have := hd4 a e; (try simp at this); omega) (fun a e => by have := hd5 a e; have := hb5.size; (try simp at this); omega)) (.int .i64 c.sz) (.slice none 0 0) (.slice none 0 0) (.slice none 0 0) (.slice P4 c.nb k4) (.slice P5 c.nc k5), hn4, hn5⟩
  case rest =>
    obtain ⟨b, P4, k4, P5, k5, rfl, hBt, hn4, hn5⟩ := hcut
    have hXA := HA.out.keep hBt.B HA.out.lt
    have hXZ0 := hZ1.keep hBt.B hz1
    have hb1b := hBt.b1
    have hblt := hBt.h.lt
    have hCN := Lib.hid (And.intro hn4 hn5)
    have HT := Lib.hid hBt
    obtain ⟨q0, q1, q2, q3, q4⟩ := hXA.box
    clear hb1 hn4 hn5 hc1 hf1
    go_wp2
    go_loopw [31] (fun i wr => ∃ q : Nat, ∃ v, (q : Int) ≤ c.i ∧ i = .int .i64 q ∧ wr.ownsRow wc.heap.size 3 1 v q (intL c.raw.ip q) ∧ Has wr b 26 #[.int .i64 c.sz, v, .slice none 0 0, .slice none 0 0, .slice P4 c.nb k4, .slice P5 c.nc k5] ∧ Below w1.heap.size w1 wr ∧ Kept wc wr b) (fun i _ => c.i.toNat - (intOf i).toNat)
    case atStart => exact ⟨0, _, by omega, rfl, World.ownsRow_nil _ _ _ _, hBt.h, hBt.B, Kept.refl _ _⟩
    case round =>
      obtain ⟨q, v, hq, rfl, hown, hX, hBr, hK0⟩ := hrel
      have y1 : wr.cell? ⟨b, 1, none⟩ = some v := hX.cell 1
      have yf : wr.frozen? ⟨b, 1, none⟩ = false := hX.fz 1
      have y2 : ∀ o : Obj, (wr.alloc o).cell? ⟨b, 1, none⟩ = some v := ca y1
      have hks := hK0.s
      by_cases hlt : (q : Int) < c.i
      · have n1 : IntKind.i64.wrap (1 + (q : Int)) = 1 + q := IntWalk.i64_in _ (by omega)
        have n2 : 0 ≤ 1 + (q : Int) := by omega
        have n3 : 1 + (q : Int) ≤ 1000 := by omega
        go_wp2
        have hS0 : wr.drew.cell? ⟨b, 1, none⟩ = some v := y1
        refine wp_region_T (fun w' => w'.cell? ⟨b, 1, none⟩ = some v) 7 (by kernel_rfl) ?_
        (refine wpT_take 0 (v := ?_) rfl (by kernel_rfl) (by kernel_rfl) (by kernel_rfl) (by kernel_rfl) (fun _ _ _ h => h) rfl hS0 (fun w hS => ?_) ?_; rotate_left; focus (go_simp; rfl)); (refine wpT_take 1 (v := ?_) rfl (by kernel_rfl) (by kernel_rfl) (by kernel_rfl) (by kernel_rfl) (fun _ _ _ h => h) rfl hS0 (fun w hS => ?_) ?_; rotate_left; focus (go_simp; rfl)); (refine wpT_take 2 (v := ?_) rfl (by kernel_rfl) (by kernel_rfl) (by kernel_rfl) (by kernel_rfl) (fun _ _ _ h => h) rfl hS0 (fun w hS => ?_) ?_; rotate_left; focus (go_simp; rfl)); (refine wpT_take 3 (v := ?_) rfl (by kernel_rfl) (by kernel_rfl) (by kernel_rfl) (by kernel_rfl) (fun _ _ _ h => h) rfl hS0 (fun w hS => ?_) ?_; rotate_left; focus (go_simp; rfl))
        refine wpT_one 4 (by kernel_rfl) (wpOp_go rfl rfl fun K hK => ?_)
        go_simp
        go_at_call 72
        refine (litOf_o _ _ n2 n3).mono ?_
        rintro e w6 ⟨rfl, rfl⟩
        refine hK _ _ ⟨fun _ => hS0, ?_⟩
        refine wpT_one 5 (by kernel_rfl) (wpOp_go rfl rfl fun K hK => ?_)
        go_simp
        refine hK _ _ ⟨fun _ => y2 _, ?_⟩
        refine wpT_one 6 (by kernel_rfl) (wpOp_go rfl rfl fun K hK => ?_)
        refine wp_append_lies _ _ _ _ (by rfl) wc.heap.size 3 i0 _ 1 8 Tryz.underlying23 hi0 hzz0 hs0 hy0 rfl (by omega) v q (intL c.raw.ip q) (by rfl) ((hown.alloc _).drew) ⟨wr.heap.size, 0, none⟩ 1 1 [.int .i64 (2 * (1 + (q : Int)))] (by rfl) (by rfl) (World.news_of_block (cs := #[.int .i64 (2 * (1 + (q : Int)))]) (t := 3) (fr := (0, 0)) (heap_alloc_new wr _)) (by simp [Value.oneCell']) (by omega) (by simp only [maxLen]; omega) (by omega) (by simp; omega) (wr.heap.size + 1) (by simp) ?_
        intro gg cap w8 hown' hgrow hat hlt8
        have hgrow := grown_undrew hgrow
        have hX8 := app_has hX hown hgrow (by omega)
        have y8 : w8.cell? ⟨b, 1, none⟩ = some v := hX8.cell 1
        have yf8 : w8.frozen? ⟨b, 1, none⟩ = false := hX8.fz 1
        refine hK _ _ ⟨fun _ => y8, ?_⟩
        refine wpT_one 7 (by kernel_rfl) (wpOp_go rfl rfl fun K hK => ?_)
        go_simp
        refine hK _ _ ⟨fun h => absurd h (by decide), ?_⟩
        refine wpT_one 8 (by kernel_rfl) (wpOp_go rfl rfl fun K hK => ?_)
        go_simp
        refine hK _ _ ⟨fun h => absurd h (by decide), ?_⟩
        refine wpT_done (by kernel_rfl) (NoPanic.normal ?_) _
        go_wp2
        go_roundw
        case rel => exact ⟨q + 1, _, by omega, by go_num, own_set hown' (by omega), hX8.set 1 _, (app_below hBr hBr.size (by omega) hown hgrow).setCell hb1b _, hK0.round hown hgrow⟩
        case measure => simp [intOf]; omega
      · have hqi : q = c.i.toNat := by omega
        subst hqi
        obtain ⟨P1, k1, hv1, i1, hn1, hd1⟩ := own_ints' hown
        subst hv1
        have d1 : ∀ a, P1 = some a → a.block ≠ b := fun a e => by have := hd1 a e; omega
        have d4 := hBt.d4
        have d5 := hBt.d5
        have i4 := hK0.ints hBt.i4 d4
        have i5 := hK0.ints hBt.i5 d5
        obtain ⟨W1, hW1⟩ : ∃ W1, W1 = wr := ⟨_, rfl⟩
        subst hW1
        have hH := HA.out.keep hBr HA.out.lt
        have hbW := hX.lt
        have hcW := hH.lt
        clear y1
        obtain ⟨q0, q1, q2, q3, q4⟩ := hH.box
        go_wp2
        go_loopw [46] (fun i wr => ∃ q : Nat, ∃ v, q ≤ c.nl ∧ i = .int .i64 q ∧ wr.ownsRow W1.heap.size 32 3 v q (tripL c.raw.ll c.raw.la c.raw.lb q) ∧ Has wr b 26 #[.int .i64 c.sz, .slice P1 c.i.toNat k1, v, .slice none 0 0, .slice P4 c.nb k4, .slice P5 c.nc k5] ∧ Below w1.heap.size w1 wr ∧ Kept W1 wr b) (fun i _ => c.nl - (intOf i).toNat)
        case atStart => exact ⟨0, _, Nat.zero_le _, rfl, World.ownsRow_nil _ _ _ _, hX, hBr, Kept.refl _ _⟩
        case round =>
          clear hX hBr
          obtain ⟨q, v, hq, rfl, hown, hX, hBr, hK2⟩ := hrel
          have hks := hK2.s
          have hH := HA.out.keep hBr HA.out.lt
          have hHl := hH.lt
          have hbX := hX.lt
          obtain ⟨q0, q1, q2, q3, q4⟩ := hH.box
          by_cases hlt : q < c.nl
          · obtain ⟨a, hA, hab, hcs⟩ := ((hm.to hB1 (by omega)).la.keep hBr) (by omega)
            obtain ⟨c1, c2⟩ := hcs q hlt
            have m1 : IntKind.i64.wrap (1 + c.i) = 1 + c.i := IntWalk.i64_in _ (by omega)
            have m2 : IntKind.i64.wrap (1 + c.i + (q : Int)) = 1 + c.i + q := IntWalk.i64_in _ (by have : c.sz = c.i + c.nl + c.na := rfl; omega)
            have hX1 := hX.al (.cells #[.int .i64 (c.nx q), .int .i64 (c.rs q)] 70)
            have hH1 := hH.al (.cells #[.int .i64 (c.nx q), .int .i64 (c.rs q)] 70)
            have hL1 := Has.new wr 70 #[.int .i64 (c.nx q), .int .i64 (c.rs q)]
            rw [hA]
            clear hcs hA
            go_wp2
            have hS0 : (wr.alloc (.cells #[.int .i64 (c.nx q), .int .i64 (c.rs q)] 70)).drew.cell? ⟨b, 2, none⟩ = some v ∧ (wr.alloc (.cells #[.int .i64 (c.nx q), .int .i64 (c.rs q)] 70)).drew.cell? ⟨w.heap.size, 0, none⟩ = some (.int .i64 c.i) ∧ (wr.alloc (.cells #[.int .i64 (c.nx q), .int .i64 (c.rs q)] 70)).drew.cell? ⟨w.heap.size, 1, none⟩ = some (.slice p.A1 c.nl p.k1) ∧ (wr.alloc (.cells #[.int .i64 (c.nx q), .int .i64 (c.rs q)] 70)).drew.cell? ⟨wr.heap.size, 0, none⟩ = some (.int .i64 (c.nx q)) ∧ (wr.alloc (.cells #[.int .i64 (c.nx q), .int .i64 (c.rs q)] 70)).drew.cell? ⟨wr.heap.size, 1, none⟩ = some (.int .i64 (c.rs q)) := ⟨hX1.cell 2, hH1.cell 0, hH1.cell 1, hL1.cell 0, hL1.cell 1⟩
            refine wp_region_T (fun w' => w'.cell? ⟨b, 2, none⟩ = some v ∧ w'.cell? ⟨w.heap.size, 0, none⟩ = some (.int .i64 c.i) ∧ w'.cell? ⟨w.heap.size, 1, none⟩ = some (.slice p.A1 c.nl p.k1) ∧ w'.cell? ⟨wr.heap.size, 0, none⟩ = some (.int .i64 (c.nx q)) ∧ w'.cell? ⟨wr.heap.size, 1, none⟩ = some (.int .i64 (c.rs q))) 15 (by kernel_rfl) ?_
            (refine wpT_take 0 (v := ?_) rfl (by kernel_rfl) (by kernel_rfl) (by kernel_rfl) (by kernel_rfl) (fun _ _ _ h => h) rfl hS0 (fun w hS => ?_) ?_; rotate_left; focus (obtain ⟨j1, j2, j3, j4, j5⟩ := hS; go_simp; rfl)); (refine wpT_take 1 (v := ?_) rfl (by kernel_rfl) (by kernel_rfl) (by kernel_rfl) (by kernel_rfl) (fun _ _ _ h => h) rfl hS0 (fun w hS => ?_) ?_; rotate_left; focus (obtain ⟨j1, j2, j3, j4, j5⟩ := hS; go_simp; rfl)); (refine wpT_take 2 (v := ?_) rfl (by kernel_rfl) (by kernel_rfl) (by kernel_rfl) (by kernel_rfl) (fun _ _ _ h => h) rfl hS0 (fun w hS => ?_) ?_; rotate_left; focus (obtain ⟨j1, j2, j3, j4, j5⟩ := hS; go_simp; rfl)); (refine wpT_take 3 (v := ?_) rfl (by kernel_rfl) (by kernel_rfl) (by kernel_rfl) (by kernel_rfl) (fun _ _ _ h => h) rfl hS0 (fun w hS => ?_) ?_; rotate_left; focus (obtain ⟨j1, j2, j3, j4, j5⟩ := hS; go_simp; rfl)); (refine wpT_take 4 (v := ?_) rfl (by kernel_rfl) (by kernel_rfl) (by kernel_rfl) (by kernel_rfl) (fun _ _ _ h => h) rfl hS0 (fun w hS => ?_) ?_; rotate_left; focus (obtain ⟨j1, j2, j3, j4, j5⟩ := hS; go_simp; rfl)); (refine wpT_take 5 (v := ?_) rfl (by kernel_rfl) (by kernel_rfl) (by kernel_rfl) (by kernel_rfl) (fun _ _ _ h => h) rfl hS0 (fun w hS => ?_) ?_; rotate_left; focus (obtain ⟨j1, j2, j3, j4, j5⟩ := hS; go_simp; rfl)); (refine wpT_take 6 (v := ?_) rfl (by kernel_rfl) (by kernel_rfl) (by kernel_rfl) (by kernel_rfl) (fun _ _ _ h => h) rfl hS0 (fun w hS => ?_) ?_; rotate_left; focus (obtain ⟨j1, j2, j3, j4, j5⟩ := hS; go_simp; rfl)); (refine wpT_take 8 (v := ?_) rfl (by kernel_rfl) (by kernel_rfl) (by kernel_rfl) (by kernel_rfl) (fun _ _ _ h => h) rfl hS0 (fun w hS => ?_) ?_; rotate_left; focus (obtain ⟨j1, j2, j3, j4, j5⟩ := hS; go_simp; rfl)); (refine wpT_take 9 (v := ?_) rfl (by kernel_rfl) (by kernel_rfl) (by kernel_rfl) (by kernel_rfl) (fun _ _ _ h => h) rfl hS0 (fun w hS => ?_) ?_; rotate_left; focus (obtain ⟨j1, j2, j3, j4, j5⟩ := hS; go_simp; rfl)); (refine wpT_take 10 (v := ?_) rfl (by kernel_rfl) (by kernel_rfl) (by kernel_rfl) (by kernel_rfl) (fun _ _ _ h => h) rfl hS0 (fun w hS => ?_) ?_; rotate_left; focus (obtain ⟨j1, j2, j3, j4, j5⟩ := hS; go_simp; rfl)); (refine wpT_take 11 (v := ?_) rfl (by kernel_rfl) (by kernel_rfl) (by kernel_rfl) (by kernel_rfl) (fun _ _ _ h => h) rfl hS0 (fun w hS => ?_) ?_; rotate_left; focus (obtain ⟨j1, j2, j3, j4, j5⟩ := hS; go_simp; rfl))
            refine wpT_one 7 (by kernel_rfl) (wpOp_go rfl rfl fun K hK => ?_)
            go_simp
            go_at_call 72
            refine (litOf_o _ _ (by omega) (by have : c.sz = c.i + c.nl + c.na := rfl; omega)).mono ?_
            rintro e w6 ⟨rfl, rfl⟩
            refine hK _ _ ⟨fun _ => hS0, ?_⟩
            (refine wpT_take 12 (v := ?_) rfl (by kernel_rfl) (by kernel_rfl) (by kernel_rfl) (by kernel_rfl) (fun _ _ _ h => h) rfl hS0 (fun w hS => ?_) ?_; rotate_left; focus (obtain ⟨j1, j2, j3, j4, j5⟩ := hS; go_simp; rfl))
            refine wpT_one 13 (by kernel_rfl) (wpOp_go rfl rfl fun K hK => ?_)
            go_simp
            refine hK _ _ ⟨fun _ => ⟨ca hS0.1 _, ca hS0.2.1 _, ca hS0.2.2.1 _, ca hS0.2.2.2.1 _, ca hS0.2.2.2.2 _⟩, ?_⟩
            refine wpT_one 14 (by kernel_rfl) (wpOp_go rfl rfl fun K hK => ?_)
            refine wp_append_lies _ _ _ _ (by rfl) W1.heap.size 32 i3 _ 3 24 Tryz.underlying24 hi3 hzz3 hs3 hy3 rfl (by omega) v q (tripL c.raw.ll c.raw.la c.raw.lb q) (by rfl) (((hown.alloc _).alloc _).drew) ⟨wr.heap.size + 1, 0, none⟩ 1 1 [.int .i64 (2 * (1 + c.i + (q : Int))), .int .i64 (c.nx q), .int .i64 (c.rs q)] (by rfl) (by rfl) (World.news_of_block (cs := #[.int .i64 (2 * (1 + c.i + (q : Int))), .int .i64 (c.nx q), .int .i64 (c.rs q)]) (t := 32) (fr := (0, 0)) (Has.new' _ _ (by simp))) (by simp [Value.oneCell']) (by omega) (by simp only [maxLen]; omega) (by omega) (by simp; omega) (wr.heap.size + 2) (by simp) ?_
            intro gg cap w8 hown' hgrow hat hlt8
            have hgrow := grown_undrew hgrow
            have hX8 := app_has hX1 (hown.alloc _) hgrow (by omega)
            have hH8 := app_has hH1 (hown.alloc _) hgrow (by omega)
            have hS8 : w8.cell? ⟨b, 2, none⟩ = some v ∧ w8.cell? ⟨w.heap.size, 0, none⟩ = some (.int .i64 c.i) ∧ w8.cell? ⟨w.heap.size, 1, none⟩ = some (.slice p.A1 c.nl p.k1) ∧ w8.cell? ⟨wr.heap.size, 0, none⟩ = some (.int .i64 (c.nx q)) ∧ w8.cell? ⟨wr.heap.size, 1, none⟩ = some (.int .i64 (c.rs q)) := by
              have hL8 := (hL1.al (.cells #[.int .i64 (2 * (1 + c.i + (q : Int))), .int .i64 (c.nx q), .int .i64 (c.rs q)] 32)).keepg hgrow (fun hh => own_old hown hh)
              exact ⟨hX8.cell 2, hH8.cell 0, hH8.cell 1, hL8.cell 0, hL8.cell 1⟩
            have y8 := hS8.1
            have yf8 : w8.frozen? ⟨b, 2, none⟩ = false := hX8.fz 2
            refine hK _ _ ⟨fun _ => hS8, ?_⟩
            refine wpT_one 15 (by kernel_rfl) (wpOp_go rfl rfl fun K hK => ?_)
            go_simp
            refine hK _ _ ⟨fun h => absurd h (by decide), ?_⟩
            refine wpT_one 16 (by kernel_rfl) (wpOp_go rfl rfl fun K hK => ?_)
            go_simp
            refine hK _ _ ⟨fun h => absurd h (by decide), ?_⟩
            refine wpT_done (by kernel_rfl) (NoPanic.normal ?_) _
            go_wp2
            go_roundw
            case rel => exact ⟨q + 1, _, by omega, by go_num, own_set hown' (by omega), hX8.set 2 _, (app_below (hBr.alloc hBr.size _) (by simp; omega) (by omega) (hown.alloc _) hgrow).setCell hb1b _, hK2.round2 hown hgrow⟩
            case measure => simp [intOf]; omega
          · obtain rfl : q = c.nl := by omega
            clear hq hlt
            obtain ⟨P2, k2, hv2, i2, hn2, hd2⟩ := own_trips hown
            subst hv2
            have d2 : ∀ a, P2 = some a → a.block ≠ b := fun a e => by have := hd2 a e; omega
            have i1 := hK2.ints i1 d1
            have i4 := hK2.ints i4 d4
            have i5 := hK2.ints i5 d5
            skip
            obtain ⟨W2, hW2⟩ : ∃ W2, W2 = wr := ⟨_, rfl⟩
            subst hW2
            have hbW := hX.lt
            have hcW := hH.lt
            go_wp2
            go_loopw [71] (fun i wr => ∃ q : Nat, ∃ v, q ≤ c.na ∧ i = .int .i64 q ∧ wr.ownsRow W2.heap.size 32 3 v q (tripL c.raw.gl c.raw.ga c.raw.gb q) ∧ Has wr b 26 #[.int .i64 c.sz, .slice P1 c.i.toNat k1, .slice P2 c.nl k2, v, .slice P4 c.nb k4, .slice P5 c.nc k5] ∧ Below w1.heap.size w1 wr ∧ Kept W2 wr b) (fun i _ => c.na - (intOf i).toNat)
            case atStart => exact ⟨0, _, Nat.zero_le _, rfl, World.ownsRow_nil _ _ _ _, hX, hBr, Kept.refl _ _⟩
            case round =>
              clear hX hBr
              obtain ⟨q, v, hq, rfl, hown, hX, hBr, hK3⟩ := hrel
              have hks := hK3.s
              have hH := HA.out.keep hBr HA.out.lt
              have hHl := hH.lt
              have hbX := hX.lt
              obtain ⟨q0, q1, q2, q3, q4⟩ := hH.box
              by_cases hlt : q < c.na
              · obtain ⟨a, hA, hab, hcs⟩ := ((hm.to hB1 (by omega)).an.keep hBr) (by omega)
                obtain ⟨c1, c2⟩ := hcs q hlt
                have m1 : IntKind.i64.wrap (1 + c.i) = 1 + c.i := IntWalk.i64_in _ (by omega)
                have m2 : IntKind.i64.wrap (1 + c.i + c.nl) = 1 + c.i + c.nl := IntWalk.i64_in _ (by have : c.sz = c.i + c.nl + c.na := rfl; omega)
                have m3 : IntKind.i64.wrap (1 + c.i + c.nl + (q : Int)) = 1 + c.i + c.nl + q := IntWalk.i64_in _ (by have : c.sz = c.i + c.nl + c.na := rfl; omega)
                have hX1 := hX.al (.cells #[.int .i64 (c.ga q), .int .i64 (c.gb q)] 80)
                have hH1 := hH.al (.cells #[.int .i64 (c.ga q), .int .i64 (c.gb q)] 80)
                have hL1 := Has.new wr 80 #[.int .i64 (c.ga q), .int .i64 (c.gb q)]
                rw [hA]
                clear hcs hA
                go_wp2
                have hS0 : (wr.alloc (.cells #[.int .i64 (c.ga q), .int .i64 (c.gb q)] 80)).drew.cell? ⟨b, 3, none⟩ = some v ∧ (wr.alloc (.cells #[.int .i64 (c.ga q), .int .i64 (c.gb q)] 80)).drew.cell? ⟨w.heap.size, 0, none⟩ = some (.int .i64 c.i) ∧ (wr.alloc (.cells #[.int .i64 (c.ga q), .int .i64 (c.gb q)] 80)).drew.cell? ⟨w.heap.size, 1, none⟩ = some (.slice p.A1 c.nl p.k1) ∧ (wr.alloc (.cells #[.int .i64 (c.ga q), .int .i64 (c.gb q)] 80)).drew.cell? ⟨wr.heap.size, 0, none⟩ = some (.int .i64 (c.ga q)) ∧ (wr.alloc (.cells #[.int .i64 (c.ga q), .int .i64 (c.gb q)] 80)).drew.cell? ⟨wr.heap.size, 1, none⟩ = some (.int .i64 (c.gb q)) := ⟨hX1.cell 3, hH1.cell 0, hH1.cell 1, hL1.cell 0, hL1.cell 1⟩
                refine wp_region_T (fun w' => w'.cell? ⟨b, 3, none⟩ = some v ∧ w'.cell? ⟨w.heap.size, 0, none⟩ = some (.int .i64 c.i) ∧ w'.cell? ⟨w.heap.size, 1, none⟩ = some (.slice p.A1 c.nl p.k1) ∧ w'.cell? ⟨wr.heap.size, 0, none⟩ = some (.int .i64 (c.ga q)) ∧ w'.cell? ⟨wr.heap.size, 1, none⟩ = some (.int .i64 (c.gb q))) 19 (by kernel_rfl) ?_
                (refine wpT_take 0 (v := ?_) rfl (by kernel_rfl) (by kernel_rfl) (by kernel_rfl) (by kernel_rfl) (fun _ _ _ h => h) rfl hS0 (fun w hS => ?_) ?_; rotate_left; focus (obtain ⟨j1, j2, j3, j4, j5⟩ := hS; go_simp; rfl)); (refine wpT_take 1 (v := ?_) rfl (by kernel_rfl) (by kernel_rfl) (by kernel_rfl) (by kernel_rfl) (fun _ _ _ h => h) rfl hS0 (fun w hS => ?_) ?_; rotate_left; focus (obtain ⟨j1, j2, j3, j4, j5⟩ := hS; go_simp; rfl)); (refine wpT_take 2 (v := ?_) rfl (by kernel_rfl) (by kernel_rfl) (by kernel_rfl) (by kernel_rfl) (fun _ _ _ h => h) rfl hS0 (fun w hS => ?_) ?_; rotate_left; focus (obtain ⟨j1, j2, j3, j4, j5⟩ := hS; go_simp; rfl)); (refine wpT_take 3 (v := ?_) rfl (by kernel_rfl) (by kernel_rfl) (by kernel_rfl) (by kernel_rfl) (fun _ _ _ h => h) rfl hS0 (fun w hS => ?_) ?_; rotate_left; focus (obtain ⟨j1, j2, j3, j4, j5⟩ := hS; go_simp; rfl)); (refine wpT_take 4 (v := ?_) rfl (by kernel_rfl) (by kernel_rfl) (by kernel_rfl) (by kernel_rfl) (fun _ _ _ h => h) rfl hS0 (fun w hS => ?_) ?_; rotate_left; focus (obtain ⟨j1, j2, j3, j4, j5⟩ := hS; go_simp; rfl)); (refine wpT_take 5 (v := ?_) rfl (by kernel_rfl) (by kernel_rfl) (by kernel_rfl) (by kernel_rfl) (fun _ _ _ h => h) rfl hS0 (fun w hS => ?_) ?_; rotate_left; focus (obtain ⟨j1, j2, j3, j4, j5⟩ := hS; go_simp; rfl)); (refine wpT_take 6 (v := ?_) rfl (by kernel_rfl) (by kernel_rfl) (by kernel_rfl) (by kernel_rfl) (fun _ _ _ h => h) rfl hS0 (fun w hS => ?_) ?_; rotate_left; focus (obtain ⟨j1, j2, j3, j4, j5⟩ := hS; go_simp; rfl)); (refine wpT_take 7 (v := ?_) rfl (by kernel_rfl) (by kernel_rfl) (by kernel_rfl) (by kernel_rfl) (fun _ _ _ h => h) rfl hS0 (fun w hS => ?_) ?_; rotate_left; focus (obtain ⟨j1, j2, j3, j4, j5⟩ := hS; go_simp; rfl)); (refine wpT_take 8 (v := ?_) rfl (by kernel_rfl) (by kernel_rfl) (by kernel_rfl) (by kernel_rfl) (fun _ _ _ h => h) rfl hS0 (fun w hS => ?_) ?_; rotate_left; focus (obtain ⟨j1, j2, j3, j4, j5⟩ := hS; go_simp; rfl)); (refine wpT_take 9 (v := ?_) rfl (by kernel_rfl) (by kernel_rfl) (by kernel_rfl) (by kernel_rfl) (fun _ _ _ h => h) rfl hS0 (fun w hS => ?_) ?_; rotate_left; focus (obtain ⟨j1, j2, j3, j4, j5⟩ := hS; go_simp; rfl)); (refine wpT_take 10 (v := ?_) rfl (by kernel_rfl) (by kernel_rfl) (by kernel_rfl) (by kernel_rfl) (fun _ _ _ h => h) rfl hS0 (fun w hS => ?_) ?_; rotate_left; focus (obtain ⟨j1, j2, j3, j4, j5⟩ := hS; go_simp; rfl)); (refine wpT_take 12 (v := ?_) rfl (by kernel_rfl) (by kernel_rfl) (by kernel_rfl) (by kernel_rfl) (fun _ _ _ h => h) rfl hS0 (fun w hS => ?_) ?_; rotate_left; focus (obtain ⟨j1, j2, j3, j4, j5⟩ := hS; go_simp; rfl)); (refine wpT_take 13 (v := ?_) rfl (by kernel_rfl) (by kernel_rfl) (by kernel_rfl) (by kernel_rfl) (fun _ _ _ h => h) rfl hS0 (fun w hS => ?_) ?_; rotate_left; focus (obtain ⟨j1, j2, j3, j4, j5⟩ := hS; go_simp; rfl)); (refine wpT_take 14 (v := ?_) rfl (by kernel_rfl) (by kernel_rfl) (by kernel_rfl) (by kernel_rfl) (fun _ _ _ h => h) rfl hS0 (fun w hS => ?_) ?_; rotate_left; focus (obtain ⟨j1, j2, j3, j4, j5⟩ := hS; go_simp; rfl)); (refine wpT_take 15 (v := ?_) rfl (by kernel_rfl) (by kernel_rfl) (by kernel_rfl) (by kernel_rfl) (fun _ _ _ h => h) rfl hS0 (fun w hS => ?_) ?_; rotate_left; focus (obtain ⟨j1, j2, j3, j4, j5⟩ := hS; go_simp; rfl))
                refine wpT_one 11 (by kernel_rfl) (wpOp_go rfl rfl fun K hK => ?_)
                go_simp
                go_at_call 72
                refine (litOf_o _ _ (by omega) (by have : c.sz = c.i + c.nl + c.na := rfl; omega)).mono ?_
                rintro e w6 ⟨rfl, rfl⟩
                refine hK _ _ ⟨fun _ => hS0, ?_⟩
                (refine wpT_take 16 (v := ?_) rfl (by kernel_rfl) (by kernel_rfl) (by kernel_rfl) (by kernel_rfl) (fun _ _ _ h => h) rfl hS0 (fun w hS => ?_) ?_; rotate_left; focus (obtain ⟨j1, j2, j3, j4, j5⟩ := hS; go_simp; rfl))
                refine wpT_one 17 (by kernel_rfl) (wpOp_go rfl rfl fun K hK => ?_)
                go_simp
                refine hK _ _ ⟨fun _ => ⟨ca hS0.1 _, ca hS0.2.1 _, ca hS0.2.2.1 _, ca hS0.2.2.2.1 _, ca hS0.2.2.2.2 _⟩, ?_⟩
                refine wpT_one 18 (by kernel_rfl) (wpOp_go rfl rfl fun K hK => ?_)
                refine wp_append_lies _ _ _ _ (by rfl) W2.heap.size 32 i3 _ 3 24 Tryz.underlying24 hi3 hzz3 hs3 hy3 rfl (by omega) v q (tripL c.raw.gl c.raw.ga c.raw.gb q) (by rfl) (((hown.alloc _).alloc _).drew) ⟨wr.heap.size + 1, 0, none⟩ 1 1 [.int .i64 (2 * (1 + c.i + c.nl + (q : Int))), .int .i64 (c.ga q), .int .i64 (c.gb q)] (by rfl) (by rfl) (World.news_of_block (cs := #[.int .i64 (2 * (1 + c.i + c.nl + (q : Int))), .int .i64 (c.ga q), .int .i64 (c.gb q)]) (t := 32) (fr := (0, 0)) (Has.new' _ _ (by simp))) (by simp [Value.oneCell']) (by omega) (by simp only [maxLen]; omega) (by omega) (by simp; omega) (wr.heap.size + 2) (by simp) ?_
                intro gg cap w8 hown' hgrow hat hlt8
                have hgrow := grown_undrew hgrow
                have hX8 := app_has hX1 (hown.alloc _) hgrow (by omega)
                have hH8 := app_has hH1 (hown.alloc _) hgrow (by omega)
                have hS8 : w8.cell? ⟨b, 3, none⟩ = some v ∧ w8.cell? ⟨w.heap.size, 0, none⟩ = some (.int .i64 c.i) ∧ w8.cell? ⟨w.heap.size, 1, none⟩ = some (.slice p.A1 c.nl p.k1) ∧ w8.cell? ⟨wr.heap.size, 0, none⟩ = some (.int .i64 (c.ga q)) ∧ w8.cell? ⟨wr.heap.size, 1, none⟩ = some (.int .i64 (c.gb q)) := by
                  have hL8 := (hL1.al (.cells #[.int .i64 (2 * (1 + c.i + c.nl + (q : Int))), .int .i64 (c.ga q), .int .i64 (c.gb q)] 32)).keepg hgrow (fun hh => own_old hown hh)
                  exact ⟨hX8.cell 3, hH8.cell 0, hH8.cell 1, hL8.cell 0, hL8.cell 1⟩
                have y8 := hS8.1
                have yf8 : w8.frozen? ⟨b, 3, none⟩ = false := hX8.fz 3
                refine hK _ _ ⟨fun _ => hS8, ?_⟩
                refine wpT_one 19 (by kernel_rfl) (wpOp_go rfl rfl fun K hK => ?_)
                go_simp
                refine hK _ _ ⟨fun h => absurd h (by decide), ?_⟩
                refine wpT_one 20 (by kernel_rfl) (wpOp_go rfl rfl fun K hK => ?_)
                go_simp
                refine hK _ _ ⟨fun h => absurd h (by decide), ?_⟩
                refine wpT_done (by kernel_rfl) (NoPanic.normal ?_) _
                go_wp2
                go_roundw
                case rel => exact ⟨q + 1, _, by omega, by go_num, own_set hown' (by omega), hX8.set 3 _, (app_below (hBr.alloc hBr.size _) (by simp; omega) (by omega) (hown.alloc _) hgrow).setCell hb1b _, hK3.round2 hown hgrow⟩
                case measure => simp [intOf]; omega
              · obtain rfl : q = c.na := by omega
                clear hq hlt
                obtain ⟨P3, k3, hv3, i3, hn3, hd3⟩ := own_trips hown
                subst hv3
                have d3 : ∀ a, P3 = some a → a.block ≠ b := fun a e => by have := hd3 a e; omega
                have i1 := hK3.ints i1 d1
                have i4 := hK3.ints i4 d4
                have i5 := hK3.ints i5 d5
                have i2 := hK3.trips i2 d2
                obtain ⟨y0, y1, y2, y3, y4, y5⟩ := (show Has wr b 26 (rc c.raw ⟨P1, P2, P3, P4, P5, k1, k2, k3, k4, k5⟩) from hX).rbox
                have hZ := hZ1.keep hBr hz1
                obtain ⟨⟨e0, e1, e2, e3, e4, e5⟩, e0', e1', e2', e3', e4', e5'⟩ := hZ.zr6
                go_wp2
                refine bodyPost_ret (v := .tuple #[rv c.raw ⟨P1, P2, P3, P4, P5, k1, k2, k3, k4, k5⟩, .int .i64 0]) (by simp [results, Tryz.results40, go_sem, e0, e1, e2, e3, e4, e5]) rfl ⟨_, rfl, ?_, ?_, ?_⟩
                · exact RMem.set6 ⟨i1, i2, i3, i4, i5⟩ ⟨fun a e => by have := hd1 a e; omega, fun a e => by have := hd2 a e; omega, fun a e => by have := hd3 a e; omega, fun a e => by have := HT.out.l4 a e; omega, fun a e => by have := HT.out.l5 a e; omega⟩ _ _ _ _ _ _
                · exact ⟨hn1, hn2, hn3, hCN.out.1, hCN.out.2⟩
                · exact below_set6 (Below.step hB1 hB1.size hBr) (by omega) _ _ _ _ _ _
end Go.Proofs.YtkpjpokeonppbaaGreatDoor
