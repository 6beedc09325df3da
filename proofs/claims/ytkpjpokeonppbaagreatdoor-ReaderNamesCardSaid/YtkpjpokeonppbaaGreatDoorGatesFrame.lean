/- A circuit that comes in as an argument; the row's last step for laws that leave old memory alone. -/
import Derived.Test.YtkpjpokeonppbaaGreatDoorGatesTwin
import Derived.ProofKit
import Derived.OpenShut
import Derived.WideKeyArgs
import Derived.ChangeSame
namespace Go.Proofs.YtkpjpokeonppbaaGreatDoor
open Go.RowKit Go.ChangeShapes Go.WideShapes Go.ChangeAt
set_option linter.unusedVariables false
set_option linter.unusedSimpArgs false

/-- the numbers of a circuit are ints -/
structure Vals (c : Cr) : Prop where
  i : I64 c.i
  nx : ∀ j, I64 (c.nx j)
  rs : ∀ j, I64 (c.rs j)
  ga : ∀ j, I64 (c.ga j)
  gb : ∀ j, I64 (c.gb j)
  bd : ∀ j, I64 (c.bd j)
  cn : ∀ j, I64 (c.cn j)
theorem Vals.sm {c : Cr} (h : Vals c) (h1 : c.nl ≤ 1000) (h2 : c.na ≤ 1000) (h3 : c.nb ≤ 1000) (h4 : c.nc ≤ 1000) : Sm c :=
  ⟨h.i, h1, h2, h3, h4, h.nx, h.rs, h.ga, h.gb, h.bd, h.cn⟩

section
variable {H : Type} {enc : TypeId × Value → H} {W : World} {base : Nat} {held : Bool}

theorem i64_0 : I64 0 := by unfold I64; omega
theorem i64_of {n : Int} (h : (Lit.int .i64 n).wf = true) : I64 n := bounds_i64 h

set_option maxRecDepth 100000 in
/-- a list of ints -/
theorem open_il {n : Nat} {v : Value} {y : DataW H × List MemPlace} (h : DataW.trod enc Tryz.prog W base (fun _ => true) held n 23 [v] = some y) :
    ∃ (A : Option Addr) (m k : Nat) (f : Nat → Int), v = .slice A m k ∧ IntsAt W W.heap.size A m f ∧ (A = none → m = 0 ∧ k = 0) ∧ (∀ j, I64 (f j)) ∧ m ≤ k ∧ k ≤ maxLen := by
  rcases open_ints Tryz.underlying23 Tryz.underlying3 (by kernel_rfl) h with ⟨hv, _⟩ | ⟨a, len, cap, zs, hv, _, hl, hml, hz, _, hc, hw⟩
  · injection hv with hv
    exact ⟨none, 0, 0, fun _ => 0, hv, fun h => absurd h (Nat.not_lt_zero _), fun _ => ⟨rfl, rfl⟩, fun _ => i64_0, Nat.le_refl _, Nat.zero_le _⟩
  · injection hv with hv
    have hz' : zs.length = cap := by simpa using hz
    refine ⟨some a, len, cap, fun j => zs.getD j 0, hv, fun hn => ⟨a, rfl, ?_, fun j hj => hc j (by omega)⟩, (fun h => by cases h), fun j => ?_, hl, hml⟩
    · have := cell_lt (hc 0 (by omega))
      rwa [add_block] at this
    · have := range_i64 hw j
      show I64 (zs.getD j 0)
      rw [List.getD_eq_getElem?_getD]
      exact this

set_option maxRecDepth 100000 in
/-- a list of structs of two ints -/
theorem open_pl {n : Nat} {v : Value} {t e : TypeId} {f0 f1 : Field} {y : DataW H × List MemPlace} (ht : Tryz.prog.underlying t = some (.slice e)) (he : Tryz.prog.underlying e = some (.struct #[f0, f1])) (ce : Tryz.prog.cellsOf e = 2) (o0 : f0.offset = 0) (o1 : f1.offset = 1) (t0 : f0.type = 3) (t1 : f1.type = 3)
    (h : DataW.trod enc Tryz.prog W base (fun _ => true) held n t [v] = some y) :
    ∃ (A : Option Addr) (m k : Nat) (f g : Nat → Int), v = .slice A m k ∧ PairsAt W W.heap.size A m f g ∧ (A = none → m = 0 ∧ k = 0) ∧ (∀ j, I64 (f j)) ∧ (∀ j, I64 (g j)) ∧ m ≤ k ∧ k ≤ maxLen := by
  have c3 : Tryz.prog.cellsOf 3 = 1 := by kernel_rfl
  rcases Deep.open_slice_pairs ht he ce o0 o1 (by rw [t0]; exact c3) (by rw [t1]; exact c3) h with ⟨hv, _⟩ | ⟨a, len, cap, m, q, V0, V1, D0, D1, P0, P1, hv, _, hl, hml, hm, _, hc⟩
  · injection hv with hv
    exact ⟨none, 0, 0, fun _ => 0, fun _ => 0, hv, fun h => absurd h (Nat.not_lt_zero _), fun _ => ⟨rfl, rfl⟩, fun _ => i64_0, fun _ => i64_0, Nat.le_refl _, Nat.zero_le _⟩
  · injection hv with hv
    have hm' : m = cap := by simpa using hm
    have each : ∀ j, ∃ x y : Int, I64 x ∧ I64 y ∧ (j < len → V0 j = .int .i64 x ∧ V1 j = .int .i64 y) := fun j => by
      by_cases hj : j < len
      · obtain ⟨_, _, h0, h1⟩ := hc j (by omega)
        rw [t0] at h0
        rw [t1] at h1
        obtain ⟨x, e0, _, w0⟩ := DataW.trod_int Tryz.underlying3 h0
        obtain ⟨y, e1, _, w1⟩ := DataW.trod_int Tryz.underlying3 h1
        injection e0 with e0
        injection e1 with e1
        exact ⟨x, y, i64_of w0, i64_of w1, fun _ => ⟨e0, e1⟩⟩
      · exact ⟨0, 0, i64_0, i64_0, fun h => absurd h hj⟩
    obtain ⟨f, hf⟩ := Classical.axiomOfChoice each
    obtain ⟨g, hg⟩ := Classical.axiomOfChoice hf
    refine ⟨some a, len, cap, f, g, hv, fun hn => ⟨a, rfl, ?_, fun j hj => ?_⟩, (fun h => by cases h), fun j => (hg j).1, fun j => (hg j).2.1, hl, hml⟩
    · have := cell_lt (hc 0 (by omega)).1
      rwa [add_block] at this
    · obtain ⟨h0, h1, _⟩ := hc j (by omega)
      obtain ⟨e0, e1⟩ := (hg j).2.2 hj
      exact ⟨by rw [h0, e0], by rw [← add_succ, h1, e1]⟩

/-- lists are no longer than their room -/
structure Caps (c : Cr) (p : Pl) : Prop where
  la : c.nl ≤ p.k1 ∧ p.k1 ≤ maxLen
  an : c.na ≤ p.k2 ∧ p.k2 ≤ maxLen
  bd : c.nb ≤ p.k3 ∧ p.k3 ≤ maxLen
  cn : c.nc ≤ p.k4 ∧ p.k4 ≤ maxLen
set_option maxRecDepth 100000 in
/-- a circuit, as it comes in -/
theorem open_circ {r : Reach} {b0 : Nat} {v : Value} {d : DataW H} {ps : List MemPlace} (hv : Value.okWide Tryz.prog W r b0 41 v) (h : DataW.Trod enc Tryz.prog W base (fun _ => true) held 41 v d ps) :
    ∃ c p, v = cv c p ∧ Mem W W.heap.size c p ∧ Nils c p ∧ Vals c ∧ Caps c p := by
  obtain ⟨⟨l⟩, rfl, hsz⟩ := okWide_struct Tryz.underlying41 hv
  have hC : Tryz.prog.cellsOf 41 = 5 := by kernel_rfl
  have k3 : Tryz.prog.cellsOf 3 = 1 := by kernel_rfl
  have k22 : Tryz.prog.cellsOf 38 = 1 := by kernel_rfl
  have k23 : Tryz.prog.cellsOf 39 = 1 := by kernel_rfl
  have k24 : Tryz.prog.cellsOf 23 = 1 := by kernel_rfl
  match l, hsz.trans hC with
  | [v0, v1, v2, v3, v4], _ =>
    obtain ⟨fuel, hf⟩ := h
    obtain ⟨xs, n, _, _, _, hlen, hg⟩ := DataW.trod_struct Tryz.underlying41 hf
    match xs, hlen with
    | [y0, y1, y2, y3, y4], _ =>
      have e0 : DataW.trod enc Tryz.prog W base (fun _ => true) held n 3 [v0] = some y0 := by
        have h := hg 0 _ rfl
        simpa [Value.cells, k3] using h
      have e1 : DataW.trod enc Tryz.prog W base (fun _ => true) held n 38 [v1] = some y1 := by
        have h := hg 1 _ rfl
        simpa [Value.cells, k22] using h
      have e2 : DataW.trod enc Tryz.prog W base (fun _ => true) held n 39 [v2] = some y2 := by
        have h := hg 2 _ rfl
        simpa [Value.cells, k23] using h
      have e3 : DataW.trod enc Tryz.prog W base (fun _ => true) held n 23 [v3] = some y3 := by
        have h := hg 3 _ rfl
        simpa [Value.cells, k24] using h
      have e4 : DataW.trod enc Tryz.prog W base (fun _ => true) held n 23 [v4] = some y4 := by
        have h := hg 4 _ rfl
        simpa [Value.cells, k24] using h
      obtain ⟨i, q0, _, w0⟩ := DataW.trod_int Tryz.underlying3 e0
      injection q0 with q0
      obtain ⟨A1, m1, k1, f1, g1, q1, a1, b1, d1, d1', z1⟩ := open_pl Tryz.underlying38 Tryz.underlying70 (by kernel_rfl) rfl rfl rfl rfl e1
      obtain ⟨A2, m2, k2, f2, g2, q2, a2, b2, d2, d2', z2⟩ := open_pl Tryz.underlying39 Tryz.underlying80 (by kernel_rfl) rfl rfl rfl rfl e2
      obtain ⟨A3, m3, k3, f3, q3, a3, b3, d3, z3⟩ := open_il e3
      obtain ⟨A4, m4, k4, f4, q4, a4, b4, d4, z4⟩ := open_il e4
      subst q0 q1 q2 q3 q4
      exact ⟨⟨i, m1, m2, m3, m4, f1, g1, f2, g2, f3, f4⟩, ⟨A1, A2, A3, A4, k1, k2, k3, k4⟩, rfl, ⟨a1, a2, a3, a4⟩, ⟨b1, b2, b3, b4⟩, ⟨i64_of w0, d1, d1', d2, d2', d3, d4⟩, ⟨z1, z2, z3, z4⟩⟩

/-- an argument behind the call -/
theorem arg_back {P : Program} {t : TypeId} (hl : laidOutB P = true) (hr : P.readableRec t = true) (hrow : t < P.types.size) {W W' : World} {v : Value} {d : DataW H} {ps : List MemPlace}
    (h : DataW.Trod enc P W 0 (fun _ => true) true t v d ps) (hb : Below W.heap.size W W') (hlt : ∀ x ∈ ps, x.block < W.heap.size) : DataW.Trod enc P W' 0 (fun b => decide (b < W.heap.size)) true t v d ps := Below.trod hl hr hrow h hb hlt

/-- the row's last step: nothing old has turned, the arguments read as they did, no package variable is named -/
theorem law_post {P : Program} {f : Func} {s : ChangeSpec} {W W' : World} {args : Array Value} {v : Value} {ds : List (DataW H)} {before : List MemPlace}
    (hW : DataW.Whole enc P f.params.toList s.vars false W args.toList ds [] before)
    (hres : DataW.TrodAll enc P W' W.heap.size (fun _ => false) false f.resultTypes.toList (v.resultList f.resultTypes.size) (s.fn H (ds ++ [])).results [])
    (hargs : DataW.TrodAll enc P W' 0 (fun b => decide (b < W.heap.size)) true f.params.toList args.toList (s.fn H (ds ++ [])).args before)
    (hvars : DataW.TrodVars enc P W' (fun b => decide (b < W.heap.size)) s.vars (s.fn H (ds ++ [])).vars [])
    (hb : Below W.heap.size W W') : s.post enc P f false true false false W args v W' :=
  ⟨ds, [], before, [], before, [], hW, hres, hargs, hvars, World.keptBut_mono (fun p hp => ⟨hp, Or.inr (Or.inl hp)⟩) (hb.frame (· ∈ before)), fun h => by cases h⟩
end

theorem Cr.gr_no {c : Cr} (h : c.gr = false) : c.nl ≤ 60 ∧ c.na ≤ 120 ∧ c.nb ≤ 110 ∧ c.nc ≤ 110 ∧ (c.i ≤ 40 ∨ 996 ≤ c.i) := by
  have := of_decide_eq_false h
  omega

/-- two boxes that hold circuits, while nothing old turns -/
def Two (W : World) (b b' : Nat) (c : Cr) (p q : Pl) (w' : World) : Prop :=
  Below W.heap.size W w' ∧ w'.cell? ⟨b, 0, none⟩ = some (.int .i64 c.i) ∧ w'.cell? ⟨b, 1, none⟩ = some (.slice p.A1 c.nl p.k1) ∧ w'.cell? ⟨b, 2, none⟩ = some (.slice p.A2 c.na p.k2) ∧ w'.cell? ⟨b, 3, none⟩ = some (.slice p.A3 c.nb p.k3) ∧ w'.cell? ⟨b, 4, none⟩ = some (.slice p.A4 c.nc p.k4) ∧
  w'.cell? ⟨b', 0, none⟩ = some (.int .i64 c.i) ∧ w'.cell? ⟨b', 1, none⟩ = some (.slice q.A1 c.nl q.k1) ∧ w'.cell? ⟨b', 2, none⟩ = some (.slice q.A2 c.na q.k2) ∧ w'.cell? ⟨b', 3, none⟩ = some (.slice q.A3 c.nb q.k3) ∧ w'.cell? ⟨b', 4, none⟩ = some (.slice q.A4 c.nc q.k4)
theorem Two.of {W w' : World} {b b' : Nat} {c : Cr} {p q : Pl} (h : Has W b 41 (cc c p)) (h' : Has W b' 41 (cc c q)) (hb : Below W.heap.size W w') : Two W b b' c p q w' := by
  have k := h.keep hb h.lt
  have k' := h'.keep hb h'.lt
  exact ⟨hb, k.cell 0, k.cell 1, k.cell 2, k.cell 3, k.cell 4, k'.cell 0, k'.cell 1, k'.cell 2, k'.cell 3, k'.cell 4⟩
theorem Mem.to2 {w W1 W : World} {B : Nat} {c : Cr} {p : Pl} (h : Mem w B c p) (hb : Below B w W1) (hB : B ≤ W1.heap.size) (hb2 : Below W1.heap.size W1 W) : Mem W W.heap.size c p := h.to (Below.step hb hB hb2) (Nat.le_trans hB hb2.size)
theorem Below.next {w6 W w7 : World} (h : Below w6.heap.size w6 W) (hb : Below W.heap.size W w7) : Below w6.heap.size w6 w7 := h.trans (hb.mono h.size)
/-- the cells of a box that holds a circuit, also behind a new block -/
theorem Has.box {w : World} {b : Nat} {c : Cr} {p : Pl} (h : Has w b 41 (cc c p)) :
    w.cell? ⟨b, 0, none⟩ = some (.int .i64 c.i) ∧ w.cell? ⟨b, 1, none⟩ = some (.slice p.A1 c.nl p.k1) ∧ w.cell? ⟨b, 2, none⟩ = some (.slice p.A2 c.na p.k2) ∧ w.cell? ⟨b, 3, none⟩ = some (.slice p.A3 c.nb p.k3) ∧ w.cell? ⟨b, 4, none⟩ = some (.slice p.A4 c.nc p.k4) :=
  ⟨h.cell 0, h.cell 1, h.cell 2, h.cell 3, h.cell 4⟩
theorem Has.box' {w : World} {b : Nat} {c : Cr} {p : Pl} (h : Has w b 41 (cc c p)) (o : Obj) :
    (w.alloc o).cell? ⟨b, 0, none⟩ = some (.int .i64 c.i) ∧ (w.alloc o).cell? ⟨b, 1, none⟩ = some (.slice p.A1 c.nl p.k1) ∧ (w.alloc o).cell? ⟨b, 2, none⟩ = some (.slice p.A2 c.na p.k2) ∧ (w.alloc o).cell? ⟨b, 3, none⟩ = some (.slice p.A3 c.nb p.k3) ∧ (w.alloc o).cell? ⟨b, 4, none⟩ = some (.slice p.A4 c.nc p.k4) :=
  (h.keep ((Below.refl w.heap.size _).alloc (Nat.le_refl _) o) h.lt).box
