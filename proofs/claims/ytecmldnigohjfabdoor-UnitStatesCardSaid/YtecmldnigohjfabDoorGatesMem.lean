/- Circuits in memory: what a value of the type api.Circuit reads as, and what keeps it. -/
import Derived.Test.YtecmldnigohjfabDoorLitsCore
import Derived.Carry
import Derived.Deep.SlicePairs
import Derived.Lib.SmallJoins
import Derived.OwnWalk
import Derived.LoopTactic
import Derived.Deep.RegionHeld3
import Derived.StillTailTactics
import Derived.Laws.EntriesVeiled
namespace Go.Proofs.YtecmldnigohjfabDoor
open Go.RowKit
set_option linter.unusedVariables false

/-- a circuit, as numbers -/
structure Cr where
  i : Int
  nl : Nat
  na : Nat
  nb : Nat
  nc : Nat
  nx : Nat → Int
  rs : Nat → Int
  ga : Nat → Int
  gb : Nat → Int
  bd : Nat → Int
  cn : Nat → Int

/-- where its slices lie -/
structure Pl where
  A1 : Option Addr
  A2 : Option Addr
  A3 : Option Addr
  A4 : Option Addr
  k1 : Nat
  k2 : Nat
  k3 : Nat
  k4 : Nat

/-- the value -/
abbrev cv (c : Cr) (p : Pl) : Value := .agg #[.int .i64 c.i, .slice p.A1 c.nl p.k1, .slice p.A2 c.na p.k2, .slice p.A3 c.nb p.k3, .slice p.A4 c.nc p.k4]

/-- its cells -/
def cc (c : Cr) (p : Pl) : Array Value := #[.int .i64 c.i, .slice p.A1 c.nl p.k1, .slice p.A2 c.na p.k2, .slice p.A3 c.nb p.k3, .slice p.A4 c.nc p.k4]

/-- the numbers of a list of ints -/
def IntsAt (w : World) (B : Nat) (A : Option Addr) (n : Nat) (f : Nat → Int) : Prop :=
  0 < n → ∃ a, A = some a ∧ a.block < B ∧ ∀ j, j < n → w.cell? (a.add j) = some (.int .i64 (f j))
/-- the numbers of a list of structs of two ints -/
def PairsAt (w : World) (B : Nat) (A : Option Addr) (n : Nat) (f g : Nat → Int) : Prop :=
  0 < n → ∃ a, A = some a ∧ a.block < B ∧ ∀ j, j < n → w.cell? (a.add (j * 2)) = some (.int .i64 (f j)) ∧ w.cell? ⟨(a.add (j * 2)).block, (a.add (j * 2)).off + 1, none⟩ = some (.int .i64 (g j))

theorem add_block (a : Addr) (n : Nat) : (a.add n).block = a.block := by unfold Addr.add; split <;> rfl
theorem add_succ (a : Addr) (n : Nat) : a.add (n + 1) = ⟨(a.add n).block, (a.add n).off + 1, none⟩ := by
  unfold Addr.add
  by_cases h : n = 0 <;> simp [h]; omega
theorem IntsAt.keep {w w' : World} {B : Nat} {A : Option Addr} {n : Nat} {f : Nat → Int} (h : IntsAt w B A n f) (hb : Below B w w') : IntsAt w' B A n f := fun hn => by
  obtain ⟨a, e, hl, hc⟩ := h hn
  exact ⟨a, e, hl, fun j hj => (hb.cell (by rw [add_block]; exact hl)).trans (hc j hj)⟩
theorem PairsAt.keep {w w' : World} {B : Nat} {A : Option Addr} {n : Nat} {f g : Nat → Int} (h : PairsAt w B A n f g) (hb : Below B w w') : PairsAt w' B A n f g := fun hn => by
  obtain ⟨a, e, hl, hc⟩ := h hn
  exact ⟨a, e, hl, fun j hj => ⟨(hb.cell (by rw [add_block]; exact hl)).trans (hc j hj).1, (hb.cell (by rw [add_block]; exact hl)).trans (hc j hj).2⟩⟩
theorem IntsAt.more {w : World} {B B' : Nat} {A : Option Addr} {n : Nat} {f : Nat → Int} (h : IntsAt w B A n f) (hb : B ≤ B') : IntsAt w B' A n f := fun hn => by
  obtain ⟨a, e, hl, hc⟩ := h hn
  exact ⟨a, e, by omega, hc⟩
theorem PairsAt.more {w : World} {B B' : Nat} {A : Option Addr} {n : Nat} {f g : Nat → Int} (h : PairsAt w B A n f g) (hb : B ≤ B') : PairsAt w B' A n f g := fun hn => by
  obtain ⟨a, e, hl, hc⟩ := h hn
  exact ⟨a, e, by omega, hc⟩

/-- the circuit lies in the memory, below block B -/
structure Mem (w : World) (B : Nat) (c : Cr) (p : Pl) : Prop where
  la : PairsAt w B p.A1 c.nl c.nx c.rs
  an : PairsAt w B p.A2 c.na c.ga c.gb
  bd : IntsAt w B p.A3 c.nb c.bd
  cn : IntsAt w B p.A4 c.nc c.cn
theorem Mem.keep {w w' : World} {B : Nat} {c : Cr} {p : Pl} (h : Mem w B c p) (hb : Below B w w') : Mem w' B c p := ⟨h.la.keep hb, h.an.keep hb, h.bd.keep hb, h.cn.keep hb⟩
theorem Mem.more {w : World} {B B' : Nat} {c : Cr} {p : Pl} (h : Mem w B c p) (hb : B ≤ B') : Mem w B' c p := ⟨h.la.more hb, h.an.more hb, h.bd.more hb, h.cn.more hb⟩

/-- an int of Go -/
def I64 (x : Int) : Prop := -9223372036854775808 ≤ x ∧ x ≤ 9223372036854775807
/-- a circuit of ints, with lists that are not long -/
structure Sm (c : Cr) : Prop where
  i : I64 c.i
  nl : c.nl ≤ 1000
  na : c.na ≤ 1000
  nb : c.nb ≤ 1000
  nc : c.nc ≤ 1000
  nx : ∀ j, I64 (c.nx j)
  rs : ∀ j, I64 (c.rs j)
  ga : ∀ j, I64 (c.ga j)
  gb : ∀ j, I64 (c.gb j)
  bd : ∀ j, I64 (c.bd j)
  cn : ∀ j, I64 (c.cn j)

theorem bcell {W w1 : World} (hb : Below W.heap.size W w1) : (∀ b o, b < W.heap.size → w1.cell? ⟨b, o, none⟩ = W.cell? ⟨b, o, none⟩) ∧ (∀ b o, b < W.heap.size → w1.frozen? ⟨b, o, none⟩ = W.frozen? ⟨b, o, none⟩) :=
  ⟨fun b o h => hb.cell (p := ⟨b, o, none⟩) h, fun b o h => hb.frozen (p := ⟨b, o, none⟩) h⟩

namespace Cr
/-- how many variables it has -/
def sz (c : Cr) : Int := c.i + c.nl + c.na
/-- all numbers of a list are literals of variables up to m -/
def allB (m : Int) (f : Nat → Int) (n : Nat) : Bool := decide (∀ j, j < n → 0 ≤ f j ∧ f j / 2 ≤ m)
def latB (c : Cr) : Bool := decide (∀ j, j < c.nl → 0 ≤ c.nx j ∧ c.nx j / 2 ≤ c.sz ∧ 0 ≤ c.rs j ∧ c.rs j ≤ 2)
def gatB (c : Cr) : Bool := decide (∀ j, j < c.na → 0 ≤ c.gb j ∧ c.gb j ≤ c.ga j ∧ c.ga j / 2 ≤ c.i + c.nl + j)
/-- what Check says -/
def chk (c : Cr) : Int :=
  if c.i < 0 then 8 else if 1000 < c.sz ∨ 100 < c.nb ∨ 100 < c.nc then 4
  else if allB c.sz c.bd c.nb = true ∧ allB c.sz c.cn c.nc = true ∧ c.latB = true ∧ c.gatB = true then 0 else 8
/-- larger than the statements consider -/
def gr (c : Cr) : Bool := decide (60 < c.nl ∨ 120 < c.na ∨ 110 < c.nb ∨ 110 < c.nc ∨ 40 < c.i ∧ c.i < 996)
end Cr

theorem ret_int {k : IntKind} {a b : Int} (h : a = b) : Ending.returned (.int k a) = .returned (.int k b) := by rw [h]

/-- a block that is known whole -/
def Has (w : World) (g : Nat) (t : TypeId) (cs : Array Value) : Prop := w.heap[g]? = some (.cells cs t (0, 0))
theorem Has.cell {w : World} {g : Nat} {t : TypeId} {cs : Array Value} (h : Has w g t cs) (j : Nat) : w.cell? ⟨g, j, none⟩ = cs[j]? := cell_of_row w g j cs t (0, 0) h
theorem Has.fz {w : World} {g : Nat} {t : TypeId} {cs : Array Value} (h : Has w g t cs) (j : Nat) : w.frozen? ⟨g, j, none⟩ = false := by
  unfold Has at h
  simp [World.frozen?, h]
theorem Has.new (w : World) (t : TypeId) (cs : Array Value) : Has (w.alloc (.cells cs t)) w.heap.size t cs := heap_alloc_new w _
theorem Has.keep {w w' : World} {g B : Nat} {t : TypeId} {cs : Array Value} (h : Has w g t cs) (hb : Below B w w') (hg : g < B) : Has w' g t cs := (hb.block g hg).trans h
theorem Has.lt {w : World} {g : Nat} {t : TypeId} {cs : Array Value} (h : Has w g t cs) : g < w.heap.size := by
  rcases Nat.lt_or_ge g w.heap.size with hl | hl
  · exact hl
  · unfold Has at h; rw [Array.getElem?_eq_none hl] at h; cases h
/-- the list of one int that a call has just laid -/
theorem IntsAt.one (w : World) (x : Int) (t : TypeId) : IntsAt (w.alloc (.cells #[.int .i64 x] t)) (w.heap.size + 1) (some ⟨w.heap.size, 0, none⟩) 1 (fun _ => x) := fun _ =>
  ⟨_, rfl, Nat.lt_succ_self _, fun j hj => by
    obtain rfl : j = 0 := by omega
    exact (Has.new w t #[.int .i64 x]).cell 0⟩
theorem Below.step {B : Nat} {w W w1 : World} (h : Below B w W) (hB : B ≤ W.heap.size) (hb : Below W.heap.size W w1) : Below B w w1 := h.trans (hb.mono hB)
theorem Mem.to {w W : World} {B : Nat} {c : Cr} {p : Pl} (h : Mem w B c p) (hb : Below B w W) (hB : B ≤ W.heap.size) : Mem W W.heap.size c p := (h.keep hb).more hB
theorem cell_lt {w : World} {q : Addr} {v : Value} (h : w.cell? q = some v) : q.block < w.heap.size := by
  rcases Nat.lt_or_ge q.block w.heap.size with hl | hl
  · exact hl
  · unfold World.cell? at h; rw [Array.getElem?_eq_none hl] at h; cases h
/-- a new block leaves a cell as it was -/
theorem ca {w : World} {q : Addr} {v : Value} (h : w.cell? q = some v) (o : Obj) : (w.alloc o).cell? q = some v := (World.cell?_alloc_lt w o q (cell_lt h)).trans h
