/- Small lemmas for the laws of layer 6. -/
import Derived.Test.YtpobkemgbbgolaaTraceRCut
import Derived.Test.YtpobkemgbbgolaaGatesFrame
namespace Go.Proofs.Ytpobkemgbbgolaa
open Go.RowKit
set_option linter.unusedVariables false

/-- the two boxes, in a later world -/
structure Bx (w wk : World) (c : Cr) (p : Pl) (t : Tr) (q : Tp) : Prop where
  b : Below w.heap.size w wk
  c : Has wk w.heap.size 28 (cc c p)
  t : Has wk (w.heap.size + 1) 32 (tcs t q)
theorem Bx.first {w w1 : World} {c : Cr} {p : Pl} {t : Tr} {q : Tp} (hb : Below (ctW w c p t q).heap.size (ctW w c p t q) w1) : Bx w w1 c p t q := ⟨(ct_k hb).1, (ct_k hb).2.1, (ct_k hb).2.2.1⟩
theorem Bx.call {w wk wl : World} {c : Cr} {p : Pl} {t : Tr} {q : Tp} (h : Bx w wk c p t q) (hb : Below wk.heap.size wk wl) : Bx w wl c p t q := ⟨Below.step h.b h.b.size hb, h.c.keep hb h.c.lt, h.t.keep hb h.t.lt⟩
theorem Bx.al {w wk : World} {c : Cr} {p : Pl} {t : Tr} {q : Tp} (h : Bx w wk c p t q) (o : Obj) : Bx w (wk.alloc o) c p t q := ⟨h.b.alloc h.b.size o, h.c.al o, h.t.al o⟩
theorem Bx.cells {w wk : World} {c : Cr} {p : Pl} {t : Tr} {q : Tp} (h : Bx w wk c p t q) :
    wk.cell? ⟨w.heap.size, 0, none⟩ = some (.int .i64 c.i) ∧ wk.cell? ⟨w.heap.size, 1, none⟩ = some (.slice p.A1 c.nl p.k1) ∧ wk.cell? ⟨w.heap.size, 2, none⟩ = some (.slice p.A2 c.na p.k2) ∧ wk.cell? ⟨w.heap.size, 3, none⟩ = some (.slice p.A3 c.nb p.k3) ∧ wk.cell? ⟨w.heap.size, 4, none⟩ = some (.slice p.A4 c.nc p.k4) ∧
    wk.cell? ⟨w.heap.size + 1, 0, none⟩ = some (.slice q.A1 t.nf q.k1) ∧ wk.cell? ⟨w.heap.size + 1, 1, none⟩ = some (.slice q.A2 t.ni q.k2) ∧ w.heap.size < wk.heap.size ∧ w.heap.size + 1 < wk.heap.size :=
  ⟨h.c.cell 0, h.c.cell 1, h.c.cell 2, h.c.cell 3, h.c.cell 4, h.t.cell 0, h.t.cell 1, h.c.lt, h.t.lt⟩

theorem tn_bd {c : Cr} {t : Tr} (h : TSm t) : c.tn t ≤ 100000 := by
  have := h.ni
  unfold Cr.tn
  split <;> omega
theorem states6_any {c : Cr} {p : Pl} {t : Tr} {q : Tp} (w : World) (h : RArg w w.heap.size c p t q) :
    Calls Try.prog 4 #[cv c p, tv t q] w (RowsErr (c.tn t) (fun _ => c.nl) (c.sts t) (c.tck t) w) := by
  by_cases hk : c.tck t = 0
  · rw [show c.tn t = t.ni from if_pos hk, hk]; exact states_yes hk w h
  · exact states_no hk w h
theorem Below.undn {B : Nat} {w w' : World} (h : Below B w w') : Below B w.drew w' := ⟨h.os, h.tape, h.output, h.size, h.block⟩
theorem Below.undn2 {w w' : World} (h : Below w.heap.size w w') : Below w.drew.heap.size w.drew w' := ⟨h.os, h.tape, h.output, h.size, h.block⟩
theorem Below.undn' {B : Nat} {w w' : World} (h : Below B w.drew w') : Below B w w' := ⟨h.os, h.tape, h.output, h.size, h.block⟩
theorem Below.undn2' {w w' : World} (h : Below w.drew.heap.size w.drew w') : Below w.heap.size w w' := ⟨h.os, h.tape, h.output, h.size, h.block⟩
theorem Has.keepg6 {w w8 : World} {b : Nat} {t : TypeId} {cs : Array Value} {r : Option Nat} (h : Has w b t cs) (hg : w.grownBy w8 r) (hne : r ≠ some b) : Has w8 b t cs := (hg.block b h.lt (fun e => hne e.symm)).trans h
theorem Bx.far6 {w wk wl : World} {c : Cr} {p : Pl} {t : Tr} {q : Tp} (h : Bx w wk c p t q) {r : Option Nat} (hg : wk.grownBy wl r) (hr : ∀ g, r = some g → w.heap.size + 1 < g) {x : Nat} (hx : w.heap.size + 1 < x) (j : Nat) (u : Value) : Bx w (wl.setCell ⟨x, j, none⟩ u) c p t q :=
  ⟨(h.b.grown hg h.b.size (fun k hk => by have := hr k hk; omega)).setCell (by show w.heap.size ≤ x; omega) _, (h.c.keepg6 hg (fun e => by have := hr _ e; omega)).far (by show w.heap.size ≠ x; omega) _, (h.t.keepg6 hg (fun e => by have := hr _ e; omega)).far (by show w.heap.size + 1 ≠ x; omega) _⟩
