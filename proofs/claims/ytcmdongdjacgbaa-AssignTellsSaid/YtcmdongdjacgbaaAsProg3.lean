/- The contracts of assign.New, Imply, Decide. -/
import Derived.Test.YtcmdongdjacgbaaAsProg2
namespace Go.Proofs.Ytcmdongdjacgbaa
open Go Go.RowKit Go.Lib Go.Sort
set_option linter.unusedVariables false
set_option linter.unusedSimpArgs false

theorem Ia.set {w : World} {B k : Nat} {A : Option Addr} {l : List Int} (h : Ia w B A l k) {q : Addr} (hq : ∀ a, A = some a → a.block ≠ q.block) (u : Value) : Ia (w.setCell q u) B A l k := by
  refine ⟨fun hn => ?_, h.n, h.c⟩
  obtain ⟨a, e, hb, hc⟩ := h.h hn
  refine ⟨a, e, hb, fun j hj => ?_⟩
  rw [World.cell?_setCell_other _ _ _ _ (fun e' => hq a e (by have := congrArg Addr.block e'; simpa [add_block] using this.symm))]
  exact hc j hj
theorem Io.set {B : Nat} {w : World} {v : Value} {l : List Int} (h : Io B w v l) {q : Addr} (hq : q.block < B) (u : Value) : Io B (w.setCell q u) v l := by
  refine ⟨h.1, h.2.imp id fun ⟨g, cap, cur, h1, h2, h3, h4⟩ => ⟨g, cap, cur, h1, h2, ?_, h4⟩⟩
  rw [Below.heap_setCell _ _ _ _ (by omega)]; exact h3
/-- a struct of three cells, stored whole -/
abbrev st3 (W : World) (b : Nat) (v0 v1 v2 : Value) : World := ((W.setCell ⟨b, 0, none⟩ v0).setCell ⟨b, 1, none⟩ v1).setCell ⟨b, 2, none⟩ v2
theorem st3_below {B : Nat} {w W : World} {b : Nat} (h : Below B w W) (hb : B ≤ b) (v0 v1 v2 : Value) : Below B w (st3 W b v0 v1 v2) := ((h.setCell hb v0).setCell hb v1).setCell hb v2
theorem st3_size (W : World) (b : Nat) (v0 v1 v2 : Value) : (st3 W b v0 v1 v2).heap.size = W.heap.size := by simp [st3, World.setCell]
theorem Ia.st3 {w : World} {B k : Nat} {A : Option Addr} {l : List Int} (h : Ia w B A l k) {b : Nat} (hq : ∀ a, A = some a → a.block ≠ b) (v0 v1 v2 : Value) : Ia (st3 w b v0 v1 v2) B A l k := ((h.set (q := ⟨b, 0, none⟩) hq v0).set (q := ⟨b, 1, none⟩) hq v1).set (q := ⟨b, 2, none⟩) hq v2
theorem Io.st3 {B : Nat} {w : World} {v : Value} {l : List Int} (h : Io B w v l) {b : Nat} (hq : b < B) (v0 v1 v2 : Value) : Io B (st3 w b v0 v1 v2) v l := ((h.set (q := ⟨b, 0, none⟩) hq v0).set (q := ⟨b, 1, none⟩) hq v1).set (q := ⟨b, 2, none⟩) hq v2
/-- what Imply and Undo return: the starts are its own, behind all else -/
def OwIs (v : Int) (t s : List Int) (e : Int) (w : World) (en : Ending) (w' : World) : Prop := ∃ A k vS m, en = .returned (.tuple #[.agg #[.int .i64 v, .slice A t.length k, vS], .int .i64 e]) ∧ Ia w' m A t k ∧ Io m w' vS s ∧ w.heap.size ≤ m ∧ m ≤ w'.heap.size ∧ Below w.heap.size w w' ∧ ∀ a, A = some a → w.heap.size ≤ a.block
theorem OwIs.as {v : Int} {t s : List Int} {e : Int} {w : World} {en : Ending} {w' : World} (h : OwIs v t s e w en w') : AsIs v t s e w en w' := by
  obtain ⟨A, k, vS, m, rfl, h1, h2, h3, h4, h5, h7⟩ := h
  obtain ⟨B, q, rfl, h6⟩ := h2.at
  exact ⟨A, k, B, q, rfl, h1.more h4, h6, h5, h7, fun a e => by subst e; have := h2.blk a.block rfl; omega⟩
theorem OwIs.none {e : Int} {w w' : World} {en : Ending} (he : en = .returned (.tuple #[.agg #[.int .i64 0, .slice none 0 0, .slice none 0 0], .int .i64 e])) (hb : Below w.heap.size w w') : OwIs 0 [] [] e w en w' :=
  ⟨Option.none, 0, .slice Option.none 0 0, w'.heap.size, he, Ia.nil _ _, Io.nil _ _, hb.size, Nat.le_refl _, hb, fun a h => by cases h⟩
abbrev nE (v : Int) : Int := if v < 0 ∨ 4000 < v then 2 else 0
abbrev nV (v : Int) : Int := if v < 0 ∨ 4000 < v then 0 else v

set_option maxRecDepth 100000 in
theorem new14_any (v : Int) (w : World) : Calls Try.prog 6 #[.int .i64 v] w (AsIs (nV v) [] [] (nE v) w) := by
  by_cases hv : v < 0 ∨ 4000 < v
  · have ev : (!decide (v < 0 ∨ 4000 < v)) = false := by simp [hv]
    rw [show nV v = 0 from if_pos hv, show nE v = 2 from if_pos hv]
    clear hv
    go_enter Try.func6, Try.ntmps6
    go_wp2_with (first | (go_at_call 20; (with_reducible refine (isCount14_any v _).mono ?_); rintro e w1 ⟨rfl, hw1⟩; obtain rfl := hw1.symm; rw [ev]))
    refine bodyPost_ret (v := .tuple #[.agg #[.int .i64 0, .slice none 0 0, .slice none 0 0], .int .i64 2]) (by simp [results, Try.results6, go_sem]) rfl ?_
    exact (OwIs.none rfl (bx_on _ _)).as
  · have ev : (!decide (v < 0 ∨ 4000 < v)) = true := by simp [hv]
    rw [show nV v = v from if_neg hv, show nE v = 0 from if_neg hv]
    clear hv
    go_enter Try.func6, Try.ntmps6
    go_wp2_with (first | (go_at_call 20; (with_reducible refine (isCount14_any v _).mono ?_); rintro e w1 ⟨rfl, hw1⟩; obtain rfl := hw1.symm; rw [ev]))
    refine bodyPost_ret (v := .tuple #[.agg #[.int .i64 v, .slice none 0 0, .slice none 0 0], .int .i64 0]) (by simp [results, Try.results6, go_sem]) rfl ?_
    exact ⟨none, 0, none, 0, rfl, Ia.nil _ _, Ia.nil _ _, bx_on _ _, fun a h => (by cases h), fun a h => by cases h⟩

/-- the box of an assignment, and that of the result behind it -/
def bx2 (w : World) (v0 v1 v2 : Value) : World := (w.alloc (.cells #[v0, v1, v2] 24)).alloc (.cells #[.int .i64 0, .slice none 0 0, .slice none 0 0] 24)
structure Bx2 (w : World) (v0 v1 v2 : Value) (W : World) : Prop where
  b : Below w.heap.size w W
  z : w.heap.size + 2 ≤ W.heap.size
  h1 : Has W w.heap.size 24 #[v0, v1, v2]
  h2 : Has W (w.heap.size + 1) 24 #[.int .i64 0, .slice none 0 0, .slice none 0 0]
theorem Bx2.new (w : World) (v0 v1 v2 : Value) : Bx2 w v0 v1 v2 (bx2 w v0 v1 v2) := by
  unfold bx2
  exact ⟨((Below.refl _ _).alloc (Nat.le_refl _) _).alloc (by simp) _, by simp, (Has.new _ _ _).al _, Has.new' _ _ (by simp)⟩
theorem Bx2.on {w W W' : World} {v0 v1 v2 : Value} (h : Bx2 w v0 v1 v2 W) (hb : Below W.heap.size W W') : Bx2 w v0 v1 v2 W' :=
  ⟨bn h.b hb, Nat.le_trans h.z hb.size, h.h1.keep hb h.h1.lt, h.h2.keep hb h.h2.lt⟩
theorem Bx2.c {w W : World} {v0 v1 v2 : Value} (h : Bx2 w v0 v1 v2 W) : W.cell? ⟨w.heap.size, 0, none⟩ = some v0 ∧ W.cell? ⟨w.heap.size, 1, none⟩ = some v1 ∧ W.cell? ⟨w.heap.size, 2, none⟩ = some v2 := ⟨h.h1.cell 0, h.h1.cell 1, h.h1.cell 2⟩
theorem Bx2.d {w W : World} {v0 v1 v2 : Value} (h : Bx2 w v0 v1 v2 W) : W.cell? ⟨w.heap.size + 1, 0, none⟩ = some (.int .i64 0) ∧ W.cell? ⟨w.heap.size + 1, 1, none⟩ = some (.slice none 0 0) ∧ W.cell? ⟨w.heap.size + 1, 2, none⟩ = some (.slice none 0 0) ∧ W.frozen? ⟨w.heap.size + 1, 0, none⟩ = false ∧ W.frozen? ⟨w.heap.size + 1, 1, none⟩ = false ∧ W.frozen? ⟨w.heap.size + 1, 2, none⟩ = false := ⟨h.h2.cell 0, h.h2.cell 1, h.h2.cell 2, h.h2.fz 0, h.h2.fz 1, h.h2.fz 2⟩

set_option maxRecDepth 100000 in
set_option maxHeartbeats 4000000 in
theorem imply_no (v : Int) (A : Option Addr) (t : List Int) (k : Nat) (B : Option Addr) (s : List Int) (q : Nat) (x : Int) (w : World) (h : Ia w w.heap.size A t k) (hl : t.length ≤ 100000) (hr : ∀ x ∈ t, I64 x) (h' : Ia w w.heap.size B s q) (hl' : s.length ≤ 100000) (hx : I64 x) (hE : wE v t s x ≠ 0) :
    Calls Try.prog 10 #[asv v A t.length k B s.length q, .int .i64 x] w fun e w' => e = .returned (.tuple #[.agg #[.int .i64 0, .slice none 0 0, .slice none 0 0], .int .i64 (wE v t s x)]) ∧ Below w.heap.size w w' := by
  have H0 := Bx2.new w (.int .i64 v) (.slice A t.length k) (.slice B s.length q)
  have D1 := checkWith_any v A t k B s q x (bx2 w (.int .i64 v) (.slice A t.length k) (.slice B s.length q)) (h.on H0.b) hl hr (h'.on H0.b) hl' hx
  unfold bx2 at D1
  have e2 : (wE v t s x != 0) = true := by simpa using hE
  obtain ⟨n, hn⟩ : ∃ n, n = t.length := ⟨_, rfl⟩
  obtain ⟨m, hm⟩ : ∃ m, m = s.length := ⟨_, rfl⟩
  obtain ⟨u, hu⟩ : ∃ u, u = wE v t s x := ⟨_, rfl⟩
  rw [← hn, ← hm] at H0
  rw [← hn, ← hm, ← hu] at D1
  rw [← hn, ← hm, ← hu]
  rw [← hu] at e2
  have HB := Lib.hid H0
  clear h hl hr h' hl' hx hn hm hE hu H0
  go_enter Try.func10, Try.ntmps10
  go_wp2_with (first
    | (go_at_call 25; (with_reducible refine D1.mono ?_); rintro e w2 ⟨rfl, hb2⟩
       have H2 := HB.out.on hb2
       obtain ⟨d0, d1, d2, f0, f1, f2⟩ := H2.d
       have HB2 := Lib.hid H2
       clear H2 hb2))
  refine bodyPost_ret (v := .tuple #[.agg #[.int .i64 0, .slice none 0 0, .slice none 0 0], .int .i64 u]) (by simp [results, Try.results10, go_sem, d0, d1, d2]) rfl ⟨rfl, ?_⟩
  exact st3_below HB2.out.b (Nat.le_succ _) _ _ _

set_option maxRecDepth 100000 in
set_option maxHeartbeats 4000000 in
theorem imply_full (v : Int) (A : Option Addr) (t : List Int) (k : Nat) (B : Option Addr) (s : List Int) (q : Nat) (x : Int) (w : World) (h : Ia w w.heap.size A t k) (hl : t.length ≤ 100000) (hr : ∀ x ∈ t, I64 x) (h' : Ia w w.heap.size B s q) (hl' : s.length ≤ 100000) (hx : I64 x) (hE : wE v t s x = 0) (hin : vin t x = true) :
    Calls Try.prog 10 #[asv v A t.length k B s.length q, .int .i64 x] w fun e w' => e = .returned (.tuple #[.agg #[.int .i64 0, .slice none 0 0, .slice none 0 0], .int .i64 18]) ∧ Below w.heap.size w w' := by
  have H0 := Bx2.new w (.int .i64 v) (.slice A t.length k) (.slice B s.length q)
  have D1 := checkWith_any v A t k B s q x (bx2 w (.int .i64 v) (.slice A t.length k) (.slice B s.length q)) (h.on H0.b) hl hr (h'.on H0.b) hl' hx
  unfold bx2 at D1
  obtain ⟨hO, hL⟩ := wE_0.1 hE
  have D2 := fun (W : World) (hb : Below w.heap.size w W) => place_any v (by have := hO.1; omega) A t k x W (h.on hb) hl hO.2.1 hL
  obtain ⟨y, hy, ey⟩ := vin_iff.1 hin
  obtain ⟨j, hj, hjy⟩ := mem_getD hy
  rw [plc_at hO.2.1 hj (by rw [hjy]; exact ey)] at D2
  have j1 : (0 : Int) ≤ (j : Int) := by omega
  rw [hE] at D1
  obtain ⟨n, hn⟩ : ∃ n, n = t.length := ⟨_, rfl⟩
  obtain ⟨m, hm⟩ : ∃ m, m = s.length := ⟨_, rfl⟩
  rw [← hn] at H0 D1 D2 ⊢
  rw [← hm] at H0 D1 ⊢
  have HB := Lib.hid H0
  clear h hl hr h' hl' hx hn hm hE H0 hO hL hy ey hj hjy hin
  go_enter Try.func10, Try.ntmps10
  go_wp2_with (first
    | (go_at_call 25; (with_reducible refine D1.mono ?_); rintro e w2 ⟨rfl, hb2⟩
       have H2 := HB.out.on hb2
       obtain ⟨c0, c1, c2⟩ := H2.c
       have HB2 := Lib.hid H2
       clear H2 hb2)
    | (go_at_call 26; (with_reducible refine (D2 _ HB2.out.b).mono ?_); rintro e w3 ⟨rfl, hb3⟩
       have H3 := HB2.out.on hb3
       obtain ⟨d0, d1, d2, f0, f1, f2⟩ := H3.d
       have HB3 := Lib.hid H3
       clear H3 hb3))
  refine bodyPost_ret (v := .tuple #[.agg #[.int .i64 0, .slice none 0 0, .slice none 0 0], .int .i64 18]) (by simp [results, Try.results10, go_sem, d0, d1, d2]) rfl ⟨rfl, ?_⟩
  exact st3_below HB3.out.b (Nat.le_succ _) _ _ _

/-- a list cut at its own length: no room behind it -/
theorem Ia.cap {w : World} {B k : Nat} {A : Option Addr} {l : List Int} (h : Ia w B A l k) (i : Nat) (hi : i ≤ l.length) : ∃ A', (∀ W, (Instr.sliceAt 22 (.slice A l.length k) none (some (.int .i64 (i : Int))) (some (.int .i64 (i : Int)))).run Try.prog W = .ok (.slice A' i i) W) ∧ Ia w B A' (l.take i) i := by
  have ht : Try.prog.underlying 22 = some (.slice (Try.prog.elem 22)) := by simp [Program.elem, Try.underlying22]
  have he : Try.prog.elem 22 = 3 := by simp [Program.elem, Try.underlying22]
  have hk := h.c
  refine ⟨if i = 0 then A else A.map (·.add (0 * 1)), fun W => ?_, ?_⟩
  · rw [run_sliceAt_slice _ _ _ _ _ _ ht, run_slice_hm W _ _ _ _ ht .i64 .i64 _ _ (by omega) (by omega) (by omega), he, sl_int w W]
    simp [Result.andThen, sliced]
  · have hA : (if i = 0 then A else A.map (·.add (0 * 1))) = A := by
      by_cases hk0 : i = 0
      · rw [if_pos hk0]
      · rw [if_neg hk0]
        cases A with
        | none => rfl
        | some a => simp [Addr.add]
    rw [hA]
    refine ⟨fun hn => ?_, fun hn => ?_, by rw [List.length_take]; omega⟩
    · rw [List.length_take] at hn
      obtain ⟨a, e, hl, hc⟩ := h.h (by omega)
      refine ⟨a, e, hl, fun j hj => ?_⟩
      rw [List.length_take] at hj
      rw [hc j (by omega)]
      show some (Value.int .i64 (l.getD j 0)) = some (Value.int .i64 ((l.take i).getD j 0))
      rw [getD_take (by omega)]
    · obtain ⟨rfl, rfl⟩ := h.n hn
      exact ⟨by simp, by simpa using hi⟩

end Go.Proofs.Ytcmdongdjacgbaa
