/- Lists of clauses that a law makes: appends, cuts, rows. -/
import Derived.Test.YtecmldnigohjfaaDoorUnLaw2
namespace Go.Proofs.YtecmldnigohjfaaDoor
open Go Go.RowKit
set_option linter.unusedVariables false
set_option linter.unusedSimpArgs false

theorem info_row15 : (Tryd.prog.info? 22).map (fun i => (i.zero, i.size, i.bytes)) = some (some (.slice none 0 0), 1, 24) := by kernel_rfl

/-- the cells of a list of clauses -/
def Rl (W : World) (B : Nat) (xs : List Value) (L : List (List Int)) : Prop := xs.length = L.length ∧ ∀ j, j < L.length → ∃ A k, xs[j]? = some (.slice A (L.getD j []).length k) ∧ Ia W B A (L.getD j []) k
theorem Rl.keep {W W' : World} {B : Nat} {xs : List Value} {L : List (List Int)} (h : Rl W B xs L) (hb : Below B W W') : Rl W' B xs L :=
  ⟨h.1, fun j hj => by obtain ⟨A, k, h1, h2⟩ := h.2 j hj; exact ⟨A, k, h1, h2.keep hb⟩⟩
theorem Rl.app {W : World} {B : Nat} {xs ys : List Value} {L M : List (List Int)} (h : Rl W B xs L) (h' : Rl W B ys M) : Rl W B (xs ++ ys) (L ++ M) := by
  refine ⟨by rw [List.length_append, List.length_append, h.1, h'.1], fun j hj => ?_⟩
  rcases Nat.lt_or_ge j L.length with hl | hl
  · obtain ⟨A, k, h1, h2⟩ := h.2 j hl
    have e : (L ++ M).getD j [] = L.getD j [] := by rw [List.getD_eq_getElem?_getD, List.getD_eq_getElem?_getD, List.getElem?_append_left hl]
    rw [e]
    exact ⟨A, k, by rw [List.getElem?_append_left (by rw [h.1]; exact hl)]; exact h1, h2⟩
  · rw [List.length_append] at hj
    obtain ⟨A, k, h1, h2⟩ := h'.2 (j - L.length) (by omega)
    have e : (L ++ M).getD j [] = M.getD (j - L.length) [] := by rw [List.getD_eq_getElem?_getD, List.getD_eq_getElem?_getD, List.getElem?_append_right hl]
    rw [e]
    exact ⟨A, k, by rw [List.getElem?_append_right (by rw [h.1]; exact hl), h.1]; exact h1, h2⟩
theorem Rl.one {W : World} {B : Nat} {xs : List Value} {L : List (List Int)} (h : Rl W B xs L) : ∀ u ∈ xs, u.oneCell' = true := fun u hu => by
  obtain ⟨j, hj, rfl⟩ := List.getElem_of_mem hu
  obtain ⟨A, k, h1, _⟩ := h.2 j (by rw [← h.1]; exact hj)
  rw [List.getElem?_eq_getElem hj] at h1
  injection h1 with h1
  rw [h1]; rfl
theorem addr_add (b o j : Nat) : (⟨b, o, none⟩ : Addr).add j = ⟨b, o + j, none⟩ := by unfold Addr.add; split <;> simp_all
theorem Ill.rl {w : World} {B k : Nat} {A : Option Addr} {L : List (List Int)} (h : Ill w B A L k) : ∃ xs, Src w A L.length k xs ∧ Rl w B xs L := by
  cases A with
  | none =>
    obtain ⟨rfl, rfl⟩ := h.n rfl
    exact ⟨[], Or.inl ⟨rfl, rfl, rfl, rfl⟩, rfl, fun j hj => absurd hj (Nat.not_lt_zero _)⟩
  | some ad =>
    rcases Nat.eq_zero_or_pos L.length with h0 | h0
    · have := List.eq_nil_of_length_eq_zero h0
      subst this
      exact ⟨[], Or.inr ⟨ad, rfl, fun j u hu => by cases hu⟩, rfl, fun j hj => absurd hj (Nat.not_lt_zero _)⟩
    · obtain ⟨b, o, e, hb, hc⟩ := h.h h0
      injection e with e
      subst e
      have hx : ∀ j, j < L.length → ((List.range L.length).map fun j => (w.cell? ⟨b, o + j, none⟩).getD (.slice none 0 0))[j]? = w.cell? ⟨b, o + j, none⟩ := fun j hj => by
        obtain ⟨A', k', h1, _⟩ := hc j hj
        simp [hj, h1]
      refine ⟨(List.range L.length).map fun j => (w.cell? ⟨b, o + j, none⟩).getD (.slice none 0 0), Or.inr ⟨_, rfl, fun j u hu => ?_⟩, by simp, fun j hj => ?_⟩
      · have hj : j < L.length := by have := (List.getElem?_eq_some_iff.1 hu).1; simpa using this
        rw [addr_add, ← hx j hj]; exact hu
      · obtain ⟨A', k', h1, h2⟩ := hc j hj
        exact ⟨A', k', by rw [hx j hj, h1], h2⟩
/-- what a call owns -/
structure Oo (B : Nat) (W : World) (v : Value) (L : List (List Int)) : Prop where
  r : ∃ xs, W.ownsRow B 22 1 v L.length xs ∧ Rl W B xs L
theorem Oo.new {B : Nat} {W : World} {g : Nat} (h : Has W g 22 #[]) (hg : B ≤ g) : Oo B W (.slice (some ⟨g, 0, none⟩) 0 0) [] :=
  ⟨[], ⟨by simp, Or.inr ⟨g, 0, #[], rfl, hg, h, Nat.le_refl _, by simp [maxLen], by simp, by simp⟩⟩, rfl, fun j hj => absurd hj (Nat.not_lt_zero _)⟩
theorem Oo.keep {B : Nat} {W W' : World} {v : Value} {L : List (List Int)} (h : Oo B W v L) (hB : B ≤ W.heap.size) (hb : Below W.heap.size W W') : Oo B W' v L := by
  obtain ⟨xs, h1, h2⟩ := h.r
  refine ⟨xs, ⟨h1.1, h1.2.imp id fun ⟨g, cap, cur, e1, e2, e3, e4⟩ => ⟨g, cap, cur, e1, e2, ?_, e4⟩⟩, h2.keep (hb.mono hB)⟩
  exact (hb.block g (Has.lt (t := 22) (cs := cur) e3)).trans e3
theorem Oo.blk {B : Nat} {W : World} {v : Value} {L : List (List Int)} (h : Oo B W v L) : ∀ k, v.ownBlock = some k → B ≤ k ∧ k < W.heap.size := fun k hk => by
  obtain ⟨xs, h1, _⟩ := h.r
  exact World.ownsRow.lt h1 k hk
theorem Oo.ill {B : Nat} {W : World} {v : Value} {L : List (List Int)} (h : Oo B W v L) (hB : B ≤ W.heap.size) : ∃ A k, v = .slice A L.length k ∧ Ill W W.heap.size A L k := by
  obtain ⟨xs, h1, h2⟩ := h.r
  have h1' := h1
  rcases h1.2 with ⟨rfl, hn⟩ | ⟨g, cap, cur, rfl, hg, hh, hk, r⟩
  · have e : L = [] := List.eq_nil_of_length_eq_zero hn
    subst e
    exact ⟨none, 0, rfl, Ill.nil _ _⟩
  · refine ⟨_, cap, rfl, fun hn => ⟨g, 0, rfl, Has.lt (t := 22) (cs := cur) hh, fun j hj => ?_⟩, fun e => (by cases e), hk⟩
    obtain ⟨A, k, e1, e2⟩ := h2.2 j hj
    refine ⟨A, k, ?_, e2.more hB⟩
    have := World.ownsRow.cells h1' (g := g) rfl j _ e1
    rw [addr_add] at this
    exact this
/-- an append -/
theorem oo_run {w : World} (B : Nat) (v : Value) (L : List (List Int)) (hown : Oo B w v L) (A : Option Addr) (n k : Nat) (M : List (List Int)) (hn : n = M.length) {ys : List Value} (hsrc : Src w A M.length k ys) (hrl : Rl w B ys M) (hle : L.length + M.length ≤ 1000000) (hB : B ≤ w.heap.size) (ty : TypeId) :
    ∃ v' w', (Builtin.append_ #[25, 25] ty #[v, .slice A n k]).run Tryd.prog w = .ok v' w' ∧ Oo B w' v' (L ++ M) ∧ Below B w w' ∧ w.grownBy w' v.ownBlock ∧ (v'.ownBlock = v.ownBlock ∨ v'.ownBlock = some w.heap.size) := by
  obtain ⟨i0, hi0, hzz0, hs0, hy0⟩ := info_parts info_row15
  subst hn
  obtain ⟨xs, h1, h2⟩ := hown.r
  rcases hsrc with ⟨rfl, e1, rfl, e3⟩ | ⟨ad, rfl, hc⟩
  · have hm : M = [] := List.eq_nil_of_length_eq_zero e1
    subst hm
    exact ⟨v, w, run_append_owned_none (P := Tryd.prog) (w := w) B 25 ty 22 i0 1 Tryd.underlying25 hi0 v L.length xs h1, by simpa using hown, Below.refl _ _, World.grownBy.refl w _, Or.inl rfl⟩
  · obtain ⟨v', w', hr, g2, g3, _, g5⟩ := run_append_own_at (P := Tryd.prog) w B 25 ty 22 i0 (.slice none 0 0) 1 24 Tryd.underlying25 hi0 hzz0 hs0 hy0 rfl (by decide) v L.length xs h1 ad M.length k ys (by rw [hrl.1, Nat.mul_one]) hc hrl.one (by simp only [maxLen]; omega) (by omega) hB
    have hb : Below B w w' := (Below.refl B w).grown g3 hB (fun k hk => (World.ownsRow.lt h1 k hk).1)
    exact ⟨v', w', hr, ⟨xs ++ ys, by rw [List.length_append]; exact g2, (h2.keep hb).app (hrl.keep hb)⟩, hb, g3, g5⟩
theorem sl_row (w : World) : ∀ W : World, (Go.sizeOf 22).run Tryd.prog W = .ok 1 W := fun W => by go_simp
/-- what stands from a place on -/
theorem Ill.from {w : World} {B k : Nat} {A : Option Addr} {l : List (List Int)} (h : Ill w B A l k) (i : Nat) (hi : i ≤ l.length) : ∃ A' k', (∀ W, (Instr.sliceAt 25 (.slice A l.length k) (some (.int .i64 (i : Int))) none none).run Tryd.prog W = .ok (.slice A' (l.drop i).length k') W) ∧ Ill w B A' (l.drop i) k' := by
  have ht : Tryd.prog.underlying 25 = some (.slice (Tryd.prog.elem 25)) := by simp [Program.elem, Tryd.underlying25]
  have he : Tryd.prog.elem 25 = 22 := by simp [Program.elem, Tryd.underlying25]
  refine ⟨if k = i then A else A.map (·.add (i * 1)), k - i, fun W => ?_, ?_⟩
  · rw [run_sliceAt_slice _ _ _ _ _ _ ht, run_slice_l W _ _ _ _ ht .i64 _ (by omega) (by omega), he, sl_row w W]
    simp [Result.andThen, sliced, List.length_drop]
  · refine ⟨fun hn => ?_, fun hn => ?_, by rw [List.length_drop]; have := h.c; omega⟩
    · rw [List.length_drop] at hn
      obtain ⟨b, o, e, hl, hc⟩ := h.h (by omega)
      have hne : ¬ k = i := by have := h.c; omega
      refine ⟨b, o + i, by rw [if_neg hne, e, Nat.mul_one]; show some ((⟨b, o, none⟩ : Addr).add i) = _; rw [addr_add], hl, fun j hj => ?_⟩
      rw [List.length_drop] at hj
      obtain ⟨A', k', h1, h2⟩ := hc (i + j) (by omega)
      have eg : (l.drop i).getD j [] = l.getD (i + j) [] := by rw [List.getD_eq_getElem?_getD, List.getD_eq_getElem?_getD, List.getElem?_drop]
      rw [eg]
      exact ⟨A', k', by rw [Nat.add_assoc]; exact h1, h2⟩
    · by_cases hki : k = i
      · rw [if_pos hki] at hn
        obtain ⟨rfl, rfl⟩ := h.n hn
        exact ⟨by simp, by omega⟩
      · rw [if_neg hki] at hn
        have : A = none := by cases A with
          | none => rfl
          | some a => cases hn
        obtain ⟨rfl, rfl⟩ := h.n this
        exact ⟨by simp, by omega⟩
/-- what stands ahead of a place -/
theorem Ill.upto {w : World} {B k : Nat} {A : Option Addr} {l : List (List Int)} (h : Ill w B A l k) (i : Nat) (hi : i ≤ l.length) : ∃ A', (∀ W, (Instr.sliceAt 25 (.slice A l.length k) none (some (.int .i64 (i : Int))) none).run Tryd.prog W = .ok (.slice A' (l.take i).length k) W) ∧ Ill w B A' (l.take i) k := by
  have ht : Tryd.prog.underlying 25 = some (.slice (Tryd.prog.elem 25)) := by simp [Program.elem, Tryd.underlying25]
  have he : Tryd.prog.elem 25 = 22 := by simp [Program.elem, Tryd.underlying25]
  have hk := h.c
  refine ⟨if k = 0 then A else A.map (·.add (0 * 1)), fun W => ?_, ?_⟩
  · rw [run_sliceAt_slice _ _ _ _ _ _ ht, run_slice_h W _ _ _ _ ht .i64 _ (by omega) (by omega), he, sl_row w W]
    simp [Result.andThen, sliced, List.length_take]
    omega
  · have hA : (if k = 0 then A else A.map (·.add (0 * 1))) = A := by
      by_cases hk0 : k = 0
      · rw [if_pos hk0]
      · rw [if_neg hk0]
        cases A with
        | none => rfl
        | some a => simp [Addr.add]
    rw [hA]
    refine ⟨fun hn => ?_, fun hn => ?_, by rw [List.length_take]; omega⟩
    · rw [List.length_take] at hn
      obtain ⟨b, o, e, hl, hc⟩ := h.h (by omega)
      refine ⟨b, o, e, hl, fun j hj => ?_⟩
      rw [List.length_take] at hj
      obtain ⟨A', k', h1, h2⟩ := hc j (by omega)
      have eg : (l.take i).getD j [] = l.getD j [] := by rw [List.getD_eq_getElem?_getD, List.getD_eq_getElem?_getD, List.getElem?_take, if_pos (by omega)]
      rw [eg]
      exact ⟨A', k', h1, h2⟩
    · obtain ⟨rfl, rfl⟩ := h.n hn
      exact ⟨by simp, rfl⟩
/-- a list of clauses out of a row -/
theorem Ill.ofRow {W : World} {g n : Nat} {f : Nat → Value} {L : List (List Int)} (h : W.rowIs g 22 n f) (hn : n = L.length) {B : Nat} (hB : B ≤ W.heap.size) (hf : ∀ j, j < n → ∃ A k, f j = .slice A (L.getD j []).length k ∧ Ia W B A (L.getD j []) k) : Ill W W.heap.size (some ⟨g, 0, none⟩) L n := by
  refine ⟨fun _ => ⟨g, 0, rfl, h.lt, fun j hj => ?_⟩, fun e => (by cases e), by omega⟩
  obtain ⟨A, k, h1, h2⟩ := hf j (by omega)
  exact ⟨A, k, by rw [Nat.zero_add, h.cell (i := j) (by omega), h1], h2.more hB⟩

end Go.Proofs.YtecmldnigohjfaaDoor
