/- An assignment in memory, and as an argument. -/
import Derived.Test.YtcmdongdjacgbaaAsMath
import Derived.Test.YtcmdongdjacgbaaClCut
namespace Go.Proofs.Ytcmdongdjacgbaa
open Go Go.RowKit Go.ChangeShapes Go.WideShapes Go.ChangeAt
set_option linter.unusedVariables false
set_option linter.unusedSimpArgs false

/-- an assignment, as a value -/
abbrev asv (v : Int) (A : Option Addr) (n k : Nat) (B : Option Addr) (m q : Nat) : Value := .agg #[.int .i64 v, .slice A n k, .slice B m q]
theorem Ia.ofInts {w : World} {B m k : Nat} {A : Option Addr} {f : Nat → Int} (h : IntsAt w B A m f) (hn : A = none → m = 0 ∧ k = 0) (hc : m ≤ k) : Ia w B A ((List.range m).map f) k := by
  have hl : ((List.range m).map f).length = m := by simp
  refine ⟨?_, fun e => ?_, by rw [hl]; exact hc⟩
  · rw [hl]
    intro h0
    obtain ⟨a, e, hb, hcs⟩ := h h0
    refine ⟨a, e, hb, fun j hj => ?_⟩
    rw [hcs j hj]
    show some (Value.int .i64 (f j)) = some (Value.int .i64 (((List.range m).map f).getD j 0))
    rw [getD_at (by rw [hl]; exact hj)]
    simp
  · obtain ⟨h1, h2⟩ := hn e
    subst h1
    exact ⟨rfl, h2⟩
/-- what a function that makes an assignment returns -/
def AsIs (v : Int) (t s : List Int) (e : Int) (w : World) (en : Ending) (w' : World) : Prop := ∃ A k B q, en = .returned (.tuple #[asv v A t.length k B s.length q, .int .i64 e]) ∧ Ia w' w'.heap.size A t k ∧ Ia w' w'.heap.size B s q ∧ Below w.heap.size w w' ∧ (∀ a, A = some a → w.heap.size ≤ a.block) ∧ ∀ a, B = some a → w.heap.size ≤ a.block
def As1 (v : Int) (t s : List Int) (w : World) (en : Ending) (w' : World) : Prop := ∃ A k B q, en = .returned (asv v A t.length k B s.length q) ∧ Ia w' w'.heap.size A t k ∧ Ia w' w'.heap.size B s q ∧ Below w.heap.size w w'
/-- what Decide and Imply, and Undo, return -/
def pV (v : Int) (t s : List Int) (x : Int) : Int := if pE v t s x = 0 then v else 0
def pT (v : Int) (t s : List Int) (x : Int) : List Int := if pE v t s x = 0 then t ++ [x] else []
def pS (v : Int) (t s : List Int) (x : Int) (d : Bool) : List Int := if pE v t s x = 0 then (if d = true then s ++ [(t.length : Int)] else s) else []
def uV (v : Int) (t s : List Int) (lv : Int) : Int := if uE v t s lv = 0 then v else 0
def uT (v : Int) (t s : List Int) (lv : Int) : List Int := if uE v t s lv = 0 then t.take (usz t.length s lv.toNat) else []
def uS (v : Int) (t s : List Int) (lv : Int) : List Int := if uE v t s lv = 0 then s.take lv.toNat else []
theorem p_no {v : Int} {t s : List Int} {x : Int} {d : Bool} (h : pE v t s x ≠ 0) : pV v t s x = 0 ∧ pT v t s x = [] ∧ pS v t s x d = [] := by
  unfold pV pT pS; rw [if_neg h, if_neg h, if_neg h]; exact ⟨rfl, rfl, rfl⟩
theorem p_yes {v : Int} {t s : List Int} {x : Int} (h : pE v t s x = 0) : pV v t s x = v ∧ pT v t s x = t ++ [x] ∧ pS v t s x true = s ++ [(t.length : Int)] ∧ pS v t s x false = s := by
  unfold pV pT pS; rw [if_pos h, if_pos h, if_pos h, if_pos h]; exact ⟨rfl, rfl, rfl, rfl⟩
theorem u_no {v : Int} {t s : List Int} {lv : Int} (h : uE v t s lv ≠ 0) : uV v t s lv = 0 ∧ uT v t s lv = [] ∧ uS v t s lv = [] := by
  unfold uV uT uS; rw [if_neg h, if_neg h, if_neg h]; exact ⟨rfl, rfl, rfl⟩
theorem u_yes {v : Int} {t s : List Int} {lv : Int} (h : uE v t s lv = 0) : uV v t s lv = v ∧ uT v t s lv = t.take (usz t.length s lv.toNat) ∧ uS v t s lv = s.take lv.toNat := by
  unfold uV uT uS; rw [if_pos h, if_pos h, if_pos h]; exact ⟨rfl, rfl, rfl⟩

section
variable {H : Type} {enc : TypeId × Value → H} {W : World} {base : Nat} {held : Bool}
set_option maxRecDepth 100000 in
/-- an assignment, as it comes in -/
theorem open_as {r : Reach} {b0 : Nat} {v : Value} {d : DataW H} {ps : List MemPlace} (hv : Value.okWide Try.prog W r b0 24 v) (h : DataW.Trod enc Try.prog W base (fun _ => true) held 24 v d ps) :
    ∃ (a : Int) (A : Option Addr) (t : List Int) (k : Nat) (B : Option Addr) (s : List Int) (q : Nat), v = .agg #[.int .i64 a, .slice A t.length k, .slice B s.length q] ∧ (Lit.int .i64 a).wf = true ∧ Ia W W.heap.size A t k ∧ k ≤ maxLen ∧ (∀ x ∈ t, I64 x) ∧ Ia W W.heap.size B s q ∧ q ≤ maxLen ∧ ∀ x ∈ s, I64 x := by
  obtain ⟨⟨l⟩, rfl, hsz⟩ := okWide_struct Try.underlying24 hv
  have hC : Try.prog.cellsOf 24 = 3 := by kernel_rfl
  have k3 : Try.prog.cellsOf 3 = 1 := by kernel_rfl
  have k24 : Try.prog.cellsOf 22 = 1 := by kernel_rfl
  match l, hsz.trans hC with
  | [v0, v1, v2], _ =>
    obtain ⟨fuel, hf⟩ := h
    obtain ⟨xs, n, _, _, _, hlen, hg⟩ := DataW.trod_struct Try.underlying24 hf
    match xs, hlen with
    | [y0, y1, y2], _ =>
      have e0 : DataW.trod enc Try.prog W base (fun _ => true) held n 3 [v0] = some y0 := by
        have h := hg 0 _ rfl
        simpa [Value.cells, k3] using h
      have e1 : DataW.trod enc Try.prog W base (fun _ => true) held n 22 [v1] = some y1 := by
        have h := hg 1 _ rfl
        simpa [Value.cells, k24] using h
      have e2 : DataW.trod enc Try.prog W base (fun _ => true) held n 22 [v2] = some y2 := by
        have h := hg 2 _ rfl
        simpa [Value.cells, k24] using h
      obtain ⟨i, q0, _, w0⟩ := DataW.trod_int Try.underlying3 e0
      injection q0 with q0
      obtain ⟨A1, m1, k1, f1, q1, a1, b1, d1, z1⟩ := open_il e1
      obtain ⟨A2, m2, k2, f2, q2, a2, b2, d2, z2⟩ := open_il e2
      subst q0 q1 q2
      have r1 : ∀ x ∈ (List.range m1).map f1, I64 x := fun x hx => by
        obtain ⟨j, _, rfl⟩ := List.mem_map.1 hx
        exact d1 j
      have r2 : ∀ x ∈ (List.range m2).map f2, I64 x := fun x hx => by
        obtain ⟨j, _, rfl⟩ := List.mem_map.1 hx
        exact d2 j
      exact ⟨i, A1, (List.range m1).map f1, k1, A2, (List.range m2).map f2, k2, by simp, w0, Ia.ofInts a1 b1 z1.1, z1.2, r1, Ia.ofInts a2 b2 z2.1, z2.2, r2⟩
end

end Go.Proofs.Ytcmdongdjacgbaa
