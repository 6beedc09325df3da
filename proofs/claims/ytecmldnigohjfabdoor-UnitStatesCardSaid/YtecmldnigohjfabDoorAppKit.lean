/- Appends to what a call owns. -/
import Derived.Test.YtecmldnigohjfabDoorGatesFrame
import Derived.Test.YtecmldnigohjfabDoorGatesMore
import Derived.Deep.AppendLies
namespace Go.Proofs.YtecmldnigohjfabDoor
open Go.RowKit
set_option linter.unusedVariables false
set_option linter.unusedSimpArgs false

/-- an append to what a call owns leaves another block whole -/
theorem app_has {wr w8 : World} {o : Obj} {b base size n : Nat} {t e : TypeId} {cs : Array Value} {v : Value} {xs : List Value} (hH : Has wr b t cs) (hown : wr.ownsRow base e size v n xs) (hgrow : (wr.alloc o).grownBy w8 v.ownBlock) (hb : b < base) : Has w8 b t cs :=
  (hgrow.block b (by simp; have := hH.lt; omega) (fun e => by have := own_block hown _ e.symm; omega)).trans (hH.al o)
theorem app_below {w wr w8 : World} {o : Obj} {B base size n : Nat} {e : TypeId} {v : Value} {xs : List Value} (hB : Below B w wr) (hs : B ≤ wr.heap.size) (hbb : B ≤ base) (hown : wr.ownsRow base e size v n xs) (hgrow : (wr.alloc o).grownBy w8 v.ownBlock) : Below B w w8 :=
  (hB.alloc hs _).grown hgrow (by simp; omega) (fun k hk => Nat.le_trans hbb (own_block hown k hk))
theorem app_has0 {wr w8 : World} {b base size n : Nat} {t e : TypeId} {cs : Array Value} {v : Value} {xs : List Value} (hH : Has wr b t cs) (hown : wr.ownsRow base e size v n xs) (hgrow : wr.grownBy w8 v.ownBlock) (hb : b < base) : Has w8 b t cs :=
  (hgrow.block b hH.lt (fun e => by have := own_block hown _ e.symm; omega)).trans hH
theorem app_below0 {w wr w8 : World} {B base size n : Nat} {e : TypeId} {v : Value} {xs : List Value} (hB : Below B w wr) (hs : B ≤ wr.heap.size) (hbb : B ≤ base) (hown : wr.ownsRow base e size v n xs) (hgrow : wr.grownBy w8 v.ownBlock) : Below B w w8 :=
  hB.grown hgrow hs (fun k hk => Nat.le_trans hbb (own_block hown k hk))

theorem grown_undrew {w w8 : World} {r : Option Nat} (h : w.drew.grownBy w8 r) : w.grownBy w8 r := by
  obtain ⟨a, b, c, d, e⟩ := h
  exact ⟨a, b, c, d, e⟩

/-- append of a whole list to what the call owns -/
theorem append_more {P : Program} {w : World} {ops : Array Oper} {rest : List Oper} {o : Oper} {a : Act} {Q : Exit → Act → World → Prop} (hgd : o.guard = none) (s x : Operand) (t : TypeId)
    (ho : o.op = .call { callee := .builtin .append, args := #[s, x], argTypes := #[t, t] })
    (base : Nat) (e : TypeId) (i : TypeInfo) (z : Value) (size bytes : Nat) (ht : P.underlying t = some (.slice e)) (hi : P.info? e = some i) (hz : i.zero = some z)
    (hsize : i.size = size) (hby : i.bytes = bytes) (hzs : z.cells.size = size) (hsz : 0 < size) (v : Value) (n : Nat) (xs : List Value)
    (hs : a.eval s = v) (hown : w.ownsRow base e size v n xs)
    (A : Option Addr) (m k : Nat) (news : List Value) (hx : a.eval x = .slice A m k) (hl : news.length = m * size) (hnews : Src w A m k news) (h1 : ∀ u ∈ news, u.oneCell' = true)
    (h63 : n + m ≤ maxLen) (hbytes : (n + m) * bytes ≤ 140737488355328) (hbase : base ≤ w.heap.size)
    (h : ∀ v' w', w'.ownsRow base e size v' (n + m) (xs ++ news) → w.grownBy w' v.ownBlock → wpList P ops Q rest (a.put o.dst v') w') :
    wpList P ops Q (o :: rest) a w := by
  rcases hnews with ⟨rfl, rfl, rfl, rfl⟩ | ⟨ad, rfl, hc⟩
  · exact wpList_append_own_none hgd s x t ho base e i size ht hi v n xs hs hown hx (h v w (by simpa using hown) (World.grownBy.refl w _))
  · exact wpList_append_own w hgd s x t ho base e i z size bytes ht hi hz hsize hby hzs hsz v n xs hs hown ad m k news hx hl hc h1 h63 hbytes hbase (fun v' w' h2 h3 _ => h v' w' h2 h3)

