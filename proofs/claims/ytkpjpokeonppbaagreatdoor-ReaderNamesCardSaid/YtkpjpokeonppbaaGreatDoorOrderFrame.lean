/- A raw circuit that comes in as an argument. -/
import Derived.Test.YtkpjpokeonppbaaGreatDoorOrderMem
import Derived.Test.YtkpjpokeonppbaaGreatDoorGatesFrame
namespace Go.Proofs.YtkpjpokeonppbaaGreatDoor
open Go.RowKit Go.ChangeShapes Go.WideShapes Go.ChangeAt
set_option linter.unusedVariables false
set_option linter.unusedSimpArgs false

section
variable {H : Type} {enc : TypeId × Value → H} {W : World} {base : Nat} {held : Bool}

set_option maxRecDepth 100000 in
/-- a list of structs of three ints -/
theorem open_tl {n : Nat} {v : Value} {t e : TypeId} {f0 f1 f2 : Field} {y : DataW H × List MemPlace} (ht : Tryz.prog.underlying t = some (.slice e)) (he : Tryz.prog.underlying e = some (.struct #[f0, f1, f2])) (ce : Tryz.prog.cellsOf e = 3) (o0 : f0.offset = 0) (o1 : f1.offset = 1) (o2 : f2.offset = 2) (t0 : f0.type = 3) (t1 : f1.type = 3) (t2 : f2.type = 3)
    (h : DataW.trod enc Tryz.prog W base (fun _ => true) held n t [v] = some y) :
    ∃ (A : Option Addr) (m k : Nat) (f g h : Nat → Int), v = .slice A m k ∧ TripsAt W W.heap.size A m f g h ∧ (A = none → m = 0 ∧ k = 0) ∧ (∀ j, I64 (f j)) ∧ (∀ j, I64 (g j)) ∧ (∀ j, I64 (h j)) ∧ m ≤ k ∧ k ≤ maxLen := by
  have c3 : Tryz.prog.cellsOf 3 = 1 := by kernel_rfl
  rcases Deep.open_slice ht h with ⟨hv, _⟩ | ⟨a, len, cap, m, q, D, Pl, hv, hb, hl, hm, hmm, hx, hc⟩
  · injection hv with hv
    exact ⟨none, 0, 0, fun _ => 0, fun _ => 0, fun _ => 0, hv, fun h => absurd h (Nat.not_lt_zero _), fun _ => ⟨rfl, rfl⟩, fun _ => i64_0, fun _ => i64_0, fun _ => i64_0, Nat.le_refl _, Nat.zero_le _⟩
  · injection hv with hv
    have hm' : m = cap := by simpa using hmm
    have each : ∀ j, ∃ x : Int × Int × Int, I64 x.1 ∧ I64 x.2.1 ∧ I64 x.2.2 ∧ (j < len → W.cell? (a.add (j * 3)) = some (.int .i64 x.1) ∧ W.cell? ⟨(a.add (j * 3)).block, (a.add (j * 3)).off + 1, none⟩ = some (.int .i64 x.2.1) ∧ W.cell? ⟨(a.add (j * 3)).block, (a.add (j * 3)).off + 2, none⟩ = some (.int .i64 x.2.2)) := fun j => by
      by_cases hj : j < len
      · obtain ⟨cs', h1, h2⟩ := hc j (by omega)
        rw [ce] at h1
        obtain ⟨_, hlen, hcell⟩ := World.cells?_some h1
        obtain ⟨xs, k, hk, hxy, _, hxl, hf⟩ := DataW.trod_struct he h2
        match xs, hxl, cs', hlen with
        | [y0, y1, y2], _, [v0, v1, v2], _ =>
          have g0 := hf 0 f0 rfl
          have g1 := hf 1 f1 rfl
          have g2 := hf 2 f2 rfl
          rw [t0] at g0
          rw [t1] at g1
          rw [t2] at g2
          simp [o0, o1, o2, c3] at g0 g1 g2
          have e0 := hcell 0 (by omega)
          have e1 := hcell 1 (by omega)
          have e2 := hcell 2 (by omega)
          obtain ⟨x, q0, _, w0⟩ := DataW.trod_int Tryz.underlying3 g0
          obtain ⟨y, q1, _, w1⟩ := DataW.trod_int Tryz.underlying3 g1
          obtain ⟨z, q2, _, w2⟩ := DataW.trod_int Tryz.underlying3 g2
          injection q0 with q0
          injection q1 with q1
          injection q2 with q2
          subst q0 q1 q2
          refine ⟨(x, y, z), i64_of w0, i64_of w1, i64_of w2, fun _ => ⟨?_, ?_, ?_⟩⟩
          · simpa [Addr.add] using e0
          · simpa [Addr.add] using e1
          · simpa [Addr.add] using e2
      · exact ⟨(0, 0, 0), i64_0, i64_0, i64_0, fun h => absurd h hj⟩
    obtain ⟨f, hf⟩ := Classical.axiomOfChoice each
    refine ⟨some a, len, cap, fun j => (f j).1, fun j => (f j).2.1, fun j => (f j).2.2, hv, fun hn => ⟨a, rfl, ?_, fun j hj => (hf j).2.2.2 hj⟩, (fun h => by cases h), fun j => (hf j).1, fun j => (hf j).2.1, fun j => (hf j).2.2.1, hl, hm⟩
    have := cell_lt ((hf 0).2.2.2 hn).1
    rwa [add_block] at this

/-- lists are no longer than their room -/
structure RCaps (c : Rw) (p : Rp) : Prop where
  ip : c.ni ≤ p.k1 ∧ p.k1 ≤ maxLen
  la : c.nl ≤ p.k2 ∧ p.k2 ≤ maxLen
  an : c.na ≤ p.k3 ∧ p.k3 ≤ maxLen
  bd : c.nb ≤ p.k4 ∧ p.k4 ≤ maxLen
  cn : c.nc ≤ p.k5 ∧ p.k5 ≤ maxLen
set_option maxRecDepth 100000 in
/-- a raw circuit, as it comes in -/
theorem open_raw {r : Reach} {b0 : Nat} {v : Value} {d : DataW H} {ps : List MemPlace} (hv : Value.okWide Tryz.prog W r b0 26 v) (h : DataW.Trod enc Tryz.prog W base (fun _ => true) held 26 v d ps) :
    ∃ c p, v = rv c p ∧ RMem W W.heap.size c p ∧ RNils c p ∧ RVals c ∧ RCaps c p := by
  obtain ⟨⟨l⟩, rfl, hsz⟩ := okWide_struct Tryz.underlying26 hv
  have hC : Tryz.prog.cellsOf 26 = 6 := by kernel_rfl
  have k3 : Tryz.prog.cellsOf 3 = 1 := by kernel_rfl
  have k22 : Tryz.prog.cellsOf 24 = 1 := by kernel_rfl
  have k24 : Tryz.prog.cellsOf 23 = 1 := by kernel_rfl
  match l, hsz.trans hC with
  | [v0, v1, v2, v3, v4, v5], _ =>
    obtain ⟨fuel, hf⟩ := h
    obtain ⟨xs, n, _, _, _, hlen, hg⟩ := DataW.trod_struct Tryz.underlying26 hf
    match xs, hlen with
    | [y0, y1, y2, y3, y4, y5], _ =>
      have e0 : DataW.trod enc Tryz.prog W base (fun _ => true) held n 3 [v0] = some y0 := by
        have h := hg 0 _ rfl
        simpa [Value.cells, k3] using h
      have e1 : DataW.trod enc Tryz.prog W base (fun _ => true) held n 23 [v1] = some y1 := by
        have h := hg 1 _ rfl
        simpa [Value.cells, k24] using h
      have e2 : DataW.trod enc Tryz.prog W base (fun _ => true) held n 24 [v2] = some y2 := by
        have h := hg 2 _ rfl
        simpa [Value.cells, k22] using h
      have e3 : DataW.trod enc Tryz.prog W base (fun _ => true) held n 24 [v3] = some y3 := by
        have h := hg 3 _ rfl
        simpa [Value.cells, k22] using h
      have e4 : DataW.trod enc Tryz.prog W base (fun _ => true) held n 23 [v4] = some y4 := by
        have h := hg 4 _ rfl
        simpa [Value.cells, k24] using h
      have e5 : DataW.trod enc Tryz.prog W base (fun _ => true) held n 23 [v5] = some y5 := by
        have h := hg 5 _ rfl
        simpa [Value.cells, k24] using h
      obtain ⟨i, q0, _, w0⟩ := DataW.trod_int Tryz.underlying3 e0
      injection q0 with q0
      obtain ⟨A1, m1, k1, f1, q1, a1, b1, d1, z1⟩ := open_il e1
      obtain ⟨A2, m2, k2, f2, g2, h2, q2, a2, b2, d2, d2', d2'', z2⟩ := open_tl Tryz.underlying24 Tryz.underlying32 (by kernel_rfl) rfl rfl rfl rfl rfl rfl e2
      obtain ⟨A3, m3, k3, f3, g3, h3, q3, a3, b3, d3, d3', d3'', z3⟩ := open_tl Tryz.underlying24 Tryz.underlying32 (by kernel_rfl) rfl rfl rfl rfl rfl rfl e3
      obtain ⟨A4, m4, k4, f4, q4, a4, b4, d4, z4⟩ := open_il e4
      obtain ⟨A5, m5, k5, f5, q5, a5, b5, d5, z5⟩ := open_il e5
      subst q0 q1 q2 q3 q4 q5
      exact ⟨⟨i, m1, m2, m3, m4, m5, f1, f2, g2, h2, f3, g3, h3, f4, f5⟩, ⟨A1, A2, A3, A4, A5, k1, k2, k3, k4, k5⟩, rfl, ⟨a1, a2, a3, a4, a5⟩, ⟨b1, b2, b3, b4, b5⟩, ⟨i64_of w0, d1, d2, d2', d2'', d3, d3', d3'', d4, d5⟩, ⟨z1, z2, z3, z4, z5⟩⟩
end
end Go.Proofs.YtkpjpokeonppbaaGreatDoor
