/- A circuit that comes in as an argument; the row's last step for laws that leave old memory alone. -/
import Derived.Test.YtafhdckcclhjlaaGatesTwin
import Derived.ProofKit
import Derived.OpenShut
import Derived.WideKeyArgs
import Derived.ChangeSame
namespace Go.Proofs.Ytafhdckcclhjlaa
open Go.RowKit Go.ChangeShapes Go.WideShapes Go.ChangeAt
set_option linter.unusedVariables false
set_option linter.unusedSimpArgs false

/-- the numbers of a circuit are ints -/
structure Vals (c : Cr) : Prop where
  i : I64 c.i
  nx : ∀ j, I64 (c.nx j)
  rs : ∀ j, I64 (c.rs j)
  ga : ∀ j, I64 (c.ga j)
  gb : ∀ j, I64 (c.gb j)
  bd : ∀ j, I64 (c.bd j)
  cn : ∀ j, I64 (c.cn j)
theorem Vals.sm {c : Cr} (h : Vals c) (h1 : c.nl ≤ 1000) (h2 : c.na ≤ 1000) (h3 : c.nb ≤ 1000) (h4 : c.nc ≤ 1000) : Sm c :=
  ⟨h.i, h1, h2, h3, h4, h.nx, h.rs, h.ga, h.gb, h.bd, h.cn⟩

section
variable {H : Type} {enc : TypeId × Value → H} {W : World} {base : Nat} {held : Bool}

theorem i64_0 : I64 0 := by unfold I64; omega
theorem i64_of {n : Int} (h : (Lit.int .i64 n).wf = true) : I64 n := bounds_i64 h

set_option maxRecDepth 100000 in
/-- a list of structs of two ints -/
theorem open_pl {n : Nat} {v : Value} {t e : TypeId} {f0 f1 : Field} {y : DataW H × List MemPlace} (ht : Try.prog.underlying t = some (.slice e)) (he : Try.prog.underlying e = some (.struct #[f0, f1])) (ce : Try.prog.cellsOf e = 2) (o0 : f0.offset = 0) (o1 : f1.offset = 1) (t0 : f0.type = 3) (t1 : f1.type = 3)
    (h : DataW.trod enc Try.prog W base (fun _ => true) held n t [v] = some y) :
    ∃ (A : Option Addr) (m k : Nat) (f g : Nat → Int), v = .slice A m k ∧ PairsAt W W.heap.size A m f g ∧ (A = none → m = 0 ∧ k = 0) ∧ (∀ j, I64 (f j)) ∧ (∀ j, I64 (g j)) ∧ m ≤ k ∧ k ≤ maxLen := by
  have c3 : Try.prog.cellsOf 3 = 1 := by kernel_rfl
  rcases Deep.open_slice_pairs ht he ce o0 o1 (by rw [t0]; exact c3) (by rw [t1]; exact c3) h with ⟨hv, _⟩ | ⟨a, len, cap, m, q, V0, V1, D0, D1, P0, P1, hv, _, hl, hml, hm, _, hc⟩
  · injection hv with hv
    exact ⟨none, 0, 0, fun _ => 0, fun _ => 0, hv, fun h => absurd h (Nat.not_lt_zero _), fun _ => ⟨rfl, rfl⟩, fun _ => i64_0, fun _ => i64_0, Nat.le_refl _, Nat.zero_le _⟩
  · injection hv with hv
    have hm' : m = cap := by simpa using hm
    have each : ∀ j, ∃ x y : Int, I64 x ∧ I64 y ∧ (j < len → V0 j = .int .i64 x ∧ V1 j = .int .i64 y) := fun j => by
      by_cases hj : j < len
      · obtain ⟨_, _, h0, h1⟩ := hc j (by omega)
        rw [t0] at h0
        rw [t1] at h1
        obtain ⟨x, e0, _, w0⟩ := DataW.trod_int Try.underlying3 h0
        obtain ⟨y, e1, _, w1⟩ := DataW.trod_int Try.underlying3 h1
        injection e0 with e0
        injection e1 with e1
        exact ⟨x, y, i64_of w0, i64_of w1, fun _ => ⟨e0, e1⟩⟩
      · exact ⟨0, 0, i64_0, i64_0, fun h => absurd h hj⟩
    obtain ⟨f, hf⟩ := Classical.axiomOfChoice each
    obtain ⟨g, hg⟩ := Classical.axiomOfChoice hf
    refine ⟨some a, len, cap, f, g, hv, fun hn => ⟨a, rfl, ?_, fun j hj => ?_⟩, (fun h => by cases h), fun j => (hg j).1, fun j => (hg j).2.1, hl, hml⟩
    · have := cell_lt (hc 0 (by omega)).1
      rwa [add_block] at this
    · obtain ⟨h0, h1, _⟩ := hc j (by omega)
      obtain ⟨e0, e1⟩ := (hg j).2.2 hj
      exact ⟨by rw [h0, e0], by rw [← add_succ, h1, e1]⟩

/-- an argument behind the call -/
theorem arg_back {P : Program} {t : TypeId} (hl : laidOutB P = true) (hr : P.readableRec t = true) (hrow : t < P.types.size) {W W' : World} {v : Value} {d : DataW H} {ps : List MemPlace}
    (h : DataW.Trod enc P W 0 (fun _ => true) true t v d ps) (hb : Below W.heap.size W W') (hlt : ∀ x ∈ ps, x.block < W.heap.size) : DataW.Trod enc P W' 0 (fun b => decide (b < W.heap.size)) true t v d ps := Below.trod hl hr hrow h hb hlt

/-- the row's last step: nothing old has turned, the arguments read as they did, no package variable is named -/
theorem law_post {P : Program} {f : Func} {s : ChangeSpec} {W W' : World} {args : Array Value} {v : Value} {ds : List (DataW H)} {before : List MemPlace}
    (hW : DataW.Whole enc P f.params.toList s.vars false W args.toList ds [] before)
    (hres : DataW.TrodAll enc P W' W.heap.size (fun _ => false) false f.resultTypes.toList (v.resultList f.resultTypes.size) (s.fn H (ds ++ [])).results [])
    (hargs : DataW.TrodAll enc P W' 0 (fun b => decide (b < W.heap.size)) true f.params.toList args.toList (s.fn H (ds ++ [])).args before)
    (hvars : DataW.TrodVars enc P W' (fun b => decide (b < W.heap.size)) s.vars (s.fn H (ds ++ [])).vars [])
    (hb : Below W.heap.size W W') : s.post enc P f false true false false W args v W' :=
  ⟨ds, [], before, [], before, [], hW, hres, hargs, hvars, World.keptBut_mono (fun p hp => ⟨hp, Or.inr (Or.inl hp)⟩) (hb.frame (· ∈ before)), fun h => by cases h⟩
end

theorem Cr.gr_no {c : Cr} (h : c.gr = false) : c.nl ≤ 60 ∧ c.na ≤ 120 ∧ c.nb ≤ 110 ∧ c.nc ≤ 110 ∧ (c.i ≤ 40 ∨ 996 ≤ c.i) := by
  have := of_decide_eq_false h
  omega