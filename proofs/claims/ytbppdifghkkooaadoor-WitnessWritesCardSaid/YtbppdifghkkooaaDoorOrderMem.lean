/- Raw circuits in memory: what a value of the type api.Raw reads as, and what keeps it. -/
import Derived.Test.YtbppdifghkkooaaDoorGatesFrame
namespace Go.Proofs.YtbppdifghkkooaaDoor
open Go.RowKit
set_option linter.unusedVariables false

/-- a raw circuit, as numbers -/
structure Rw where
  m : Int
  ni : Nat
  nl : Nat
  na : Nat
  nb : Nat
  nc : Nat
  ip : Nat → Int
  ll : Nat → Int
  la : Nat → Int
  lb : Nat → Int
  gl : Nat → Int
  ga : Nat → Int
  gb : Nat → Int
  bd : Nat → Int
  cn : Nat → Int

/-- where its slices lie -/
structure Rp where
  A1 : Option Addr
  A2 : Option Addr
  A3 : Option Addr
  A4 : Option Addr
  A5 : Option Addr
  k1 : Nat
  k2 : Nat
  k3 : Nat
  k4 : Nat
  k5 : Nat

/-- the value -/
abbrev rv (r : Rw) (p : Rp) : Value := .agg #[.int .i64 r.m, .slice p.A1 r.ni p.k1, .slice p.A2 r.nl p.k2, .slice p.A3 r.na p.k3, .slice p.A4 r.nb p.k4, .slice p.A5 r.nc p.k5]

/-- its cells -/
def rc (r : Rw) (p : Rp) : Array Value := #[.int .i64 r.m, .slice p.A1 r.ni p.k1, .slice p.A2 r.nl p.k2, .slice p.A3 r.na p.k3, .slice p.A4 r.nb p.k4, .slice p.A5 r.nc p.k5]

/-- the numbers of a list of structs of three ints -/
def TripsAt (w : World) (B : Nat) (A : Option Addr) (n : Nat) (f g h : Nat → Int) : Prop :=
  0 < n → ∃ a, A = some a ∧ a.block < B ∧ ∀ j, j < n → w.cell? (a.add (j * 3)) = some (.int .i64 (f j)) ∧ w.cell? ⟨(a.add (j * 3)).block, (a.add (j * 3)).off + 1, none⟩ = some (.int .i64 (g j)) ∧ w.cell? ⟨(a.add (j * 3)).block, (a.add (j * 3)).off + 2, none⟩ = some (.int .i64 (h j))
theorem TripsAt.keep {w w' : World} {B : Nat} {A : Option Addr} {n : Nat} {f g h : Nat → Int} (H : TripsAt w B A n f g h) (hb : Below B w w') : TripsAt w' B A n f g h := fun hn => by
  obtain ⟨a, e, hl, hc⟩ := H hn
  exact ⟨a, e, hl, fun j hj => ⟨(hb.cell (by rw [add_block]; exact hl)).trans (hc j hj).1, (hb.cell (by rw [add_block]; exact hl)).trans (hc j hj).2.1, (hb.cell (by rw [add_block]; exact hl)).trans (hc j hj).2.2⟩⟩
theorem TripsAt.more {w : World} {B B' : Nat} {A : Option Addr} {n : Nat} {f g h : Nat → Int} (H : TripsAt w B A n f g h) (hb : B ≤ B') : TripsAt w B' A n f g h := fun hn => by
  obtain ⟨a, e, hl, hc⟩ := H hn
  exact ⟨a, e, by omega, hc⟩
theorem IntsAt.to {w W : World} {B : Nat} {A : Option Addr} {n : Nat} {f : Nat → Int} (h : IntsAt w B A n f) (hb : Below B w W) (hB : B ≤ W.heap.size) : IntsAt W W.heap.size A n f := (h.keep hb).more hB

/-- the raw circuit lies in the memory, below block B -/
structure RMem (w : World) (B : Nat) (r : Rw) (p : Rp) : Prop where
  ip : IntsAt w B p.A1 r.ni r.ip
  la : TripsAt w B p.A2 r.nl r.ll r.la r.lb
  an : TripsAt w B p.A3 r.na r.gl r.ga r.gb
  bd : IntsAt w B p.A4 r.nb r.bd
  cn : IntsAt w B p.A5 r.nc r.cn
theorem RMem.keep {w w' : World} {B : Nat} {r : Rw} {p : Rp} (h : RMem w B r p) (hb : Below B w w') : RMem w' B r p := ⟨h.ip.keep hb, h.la.keep hb, h.an.keep hb, h.bd.keep hb, h.cn.keep hb⟩
theorem RMem.more {w : World} {B B' : Nat} {r : Rw} {p : Rp} (h : RMem w B r p) (hb : B ≤ B') : RMem w B' r p := ⟨h.ip.more hb, h.la.more hb, h.an.more hb, h.bd.more hb, h.cn.more hb⟩
theorem RMem.to {w W : World} {B : Nat} {r : Rw} {p : Rp} (h : RMem w B r p) (hb : Below B w W) (hB : B ≤ W.heap.size) : RMem W W.heap.size r p := (h.keep hb).more hB
theorem RMem.to2 {w W1 W : World} {B : Nat} {r : Rw} {p : Rp} (h : RMem w B r p) (hb : Below B w W1) (hB : B ≤ W1.heap.size) (hb2 : Below W1.heap.size W1 W) : RMem W W.heap.size r p := h.to (Below.step hb hB hb2) (Nat.le_trans hB hb2.size)

/-- a raw circuit of ints, with lists that are not long -/
structure RSm (r : Rw) : Prop where
  m : I64 r.m
  ni : r.ni ≤ 2000
  nl : r.nl ≤ 1000
  na : r.na ≤ 1000
  nb : r.nb ≤ 1000
  nc : r.nc ≤ 1000
  ip : ∀ j, j < r.ni → I64 (r.ip j)
  ll : ∀ j, j < r.nl → I64 (r.ll j)
  la : ∀ j, j < r.nl → I64 (r.la j)
  lb : ∀ j, j < r.nl → I64 (r.lb j)
  gl : ∀ j, j < r.na → I64 (r.gl j)
  ga : ∀ j, j < r.na → I64 (r.ga j)
  gb : ∀ j, j < r.na → I64 (r.gb j)
  bd : ∀ j, j < r.nb → I64 (r.bd j)
  cn : ∀ j, j < r.nc → I64 (r.cn j)

/-- nil lists are empty -/
structure RNils (r : Rw) (p : Rp) : Prop where
  ip : p.A1 = none → r.ni = 0 ∧ p.k1 = 0
  la : p.A2 = none → r.nl = 0 ∧ p.k2 = 0
  an : p.A3 = none → r.na = 0 ∧ p.k3 = 0
  bd : p.A4 = none → r.nb = 0 ∧ p.k4 = 0
  cn : p.A5 = none → r.nc = 0 ∧ p.k5 = 0

/-- the numbers of a raw circuit are ints -/
structure RVals (r : Rw) : Prop where
  m : I64 r.m
  ip : ∀ j, I64 (r.ip j)
  ll : ∀ j, I64 (r.ll j)
  la : ∀ j, I64 (r.la j)
  lb : ∀ j, I64 (r.lb j)
  gl : ∀ j, I64 (r.gl j)
  ga : ∀ j, I64 (r.ga j)
  gb : ∀ j, I64 (r.gb j)
  bd : ∀ j, I64 (r.bd j)
  cn : ∀ j, I64 (r.cn j)

namespace Rw
/-- larger than the statements consider -/
def gr (r : Rw) : Bool := decide ((60 < r.ni ∧ r.ni ≠ 1001) ∨ 60 < r.nl ∨ 60 < r.na ∨ 110 < r.nb ∨ 110 < r.nc ∨ 200 < r.m ∧ r.m < 991)
theorem gr_no {r : Rw} (h : r.gr = false) : (r.ni ≤ 60 ∨ r.ni = 1001) ∧ r.nl ≤ 60 ∧ r.na ≤ 60 ∧ r.nb ≤ 110 ∧ r.nc ≤ 110 ∧ (r.m ≤ 200 ∨ 991 ≤ r.m) := by
  have := of_decide_eq_false h
  omega
end Rw
theorem RVals.sm {r : Rw} (h : RVals r) (hg : r.gr = false) : RSm r := by
  have := Rw.gr_no hg
  exact ⟨h.m, by omega, by omega, by omega, by omega, by omega, fun j _ => h.ip j, fun j _ => h.ll j, fun j _ => h.la j, fun j _ => h.lb j, fun j _ => h.gl j, fun j _ => h.ga j, fun j _ => h.gb j, fun j _ => h.bd j, fun j _ => h.cn j⟩

/-- the list of a function's first numbers -/
def lst (f : Nat → Int) (n : Nat) : List Int := (List.range n).map f
theorem lst_len (f : Nat → Int) (n : Nat) : (lst f n).length = n := by simp [lst]
theorem lst_succ (f : Nat → Int) (n : Nat) : lst f (n + 1) = lst f n ++ [f n] := by simp [lst, List.range_succ]
theorem lst_at (f : Nat → Int) (n j : Nat) (h : j < n) : (lst f n)[j]? = some (f j) := by
  simp [lst, List.getElem?_map, List.getElem?_range h]
theorem mem_lst {f : Nat → Int} {n : Nat} {x : Int} : x ∈ lst f n ↔ ∃ j, j < n ∧ f j = x := by simp [lst]

end Go.Proofs.YtbppdifghkkooaaDoor

namespace Go.Proofs.YtbppdifghkkooaaDoor
open Go.RowKit
set_option linter.unusedVariables false
set_option linter.unusedSimpArgs false

end Go.Proofs.YtbppdifghkkooaaDoor
