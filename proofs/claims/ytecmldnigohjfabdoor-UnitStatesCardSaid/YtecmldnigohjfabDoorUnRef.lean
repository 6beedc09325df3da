/- The reference's contracts: Wrong, Of. -/
import Derived.Test.YtecmldnigohjfabDoorUnRun
import Derived.Test.YtecmldnigohjfabDoorAsTell
namespace Go.Proofs.YtecmldnigohjfabDoor
open Go Go.RowKit
set_option linter.unusedVariables false
set_option linter.unusedSimpArgs false

end Go.Proofs.YtecmldnigohjfabDoor

namespace Go.Proofs.YtecmldnigohjfabDoor
open Go Go.RowKit
set_option linter.unusedVariables false
set_option linter.unusedSimpArgs false

/-- clauses that are great -/
def grt (v : Int) (L : List (List Int)) : Bool := (L.take 61).any (fun c => decide (40 < c.length)) || (decide (60 < L.length) || (decide (40 < v) && !decide (v = 4001)))
theorem grt_no {v : Int} {L : List (List Int)} (h : grt v L = false) : L.length ≤ 60 ∧ (∀ c ∈ L, c.length ≤ 40) ∧ v ≤ 4001 := by
  unfold grt at h
  rw [Bool.or_eq_false_iff, Bool.or_eq_false_iff, Bool.and_eq_false_iff] at h
  obtain ⟨h1, h2, h3⟩ := h
  have h2 : L.length ≤ 60 := by simpa using h2
  refine ⟨h2, fun c hc => ?_, ?_⟩
  · rw [List.take_of_length_le (by omega)] at h1
    have := List.any_eq_false.1 h1 c hc
    simpa using this
  · rcases h3 with h3 | h3
    · have : v ≤ 40 := by simpa using h3
      omega
    · have : v = 4001 := by simpa using h3
      omega
theorem grt_at {v : Int} {L : List (List Int)} {j : Nat} (hj : j < L.length) (h60 : j ≤ 60) (h : 40 < (L.getD j []).length) : grt v L = true := by
  unfold grt
  rw [Bool.or_eq_true]
  refine Or.inl (List.any_eq_true.2 ⟨L.getD j [], ?_, by simpa using h⟩)
  rw [gotD hj]
  exact List.mem_take_iff_getElem.2 ⟨j, by omega, rfl⟩
theorem grt_end {v : Int} {L : List (List Int)} {j : Nat} (h : ∀ p, p < j → (L.getD p []).length ≤ 40) (hj : L.length ≤ j ∨ 61 ≤ j) : grt v L = (decide (60 < L.length) || (decide (40 < v) && !decide (v = 4001))) := by
  unfold grt
  rw [show (L.take 61).any (fun c => decide (40 < c.length)) = false from List.any_eq_false.2 fun c hc => by
    obtain ⟨i, hi, rfl⟩ := List.mem_take_iff_getElem.1 hc
    have := h i (by omega)
    rw [gotD (by omega)] at this
    simpa using this]
  rfl

/-- what Step says of the clauses from a place on -/
def sA (t : List Int) (L : List (List Int)) (j : Nat) : Int := match fF t (L.drop j) with
  | some i => ((j + i : Nat) : Int)
  | none => -1
def sL (t : List Int) (L : List (List Int)) (j : Nat) : Int := match fU t (L.drop j) with
  | some c => stX t c
  | none => 0
theorem sA_at {t : List Int} {L : List (List Int)} {j : Nat} (hj : j < L.length) : sA t L j = if stC t (L.getD j []) = 0 then (j : Int) else sA t L (j + 1) := by
  unfold sA fF
  rw [List.drop_eq_getElem_cons hj, gotD hj, List.findIdx?_cons]
  by_cases h : stC t L[j] = 0
  · rw [if_pos h, if_pos (by simpa using h)]; simp
  · rw [if_neg h, if_neg (by simpa using h)]
    cases List.findIdx? (fun c => stC t c == 0) (L.drop (j + 1)) with
    | none => rfl
    | some i => simp only [Option.map_some]; congr 1; omega
theorem sL_at {t : List Int} {L : List (List Int)} {j : Nat} (hj : j < L.length) : sL t L j = if stC t (L.getD j []) = 3 then stX t (L.getD j []) else sL t L (j + 1) := by
  unfold sL fU
  rw [List.drop_eq_getElem_cons hj, gotD hj, List.find?_cons]
  by_cases h : stC t L[j] = 3
  · rw [if_pos h]; simp [h]
  · rw [if_neg h, show (stC t L[j] == 3) = false by simpa using h]
theorem sA_end {t : List Int} {L : List (List Int)} {j : Nat} (hj : L.length ≤ j) : sA t L j = -1 := by
  unfold sA fF; rw [List.drop_eq_nil_of_le hj]; rfl
theorem sL_end {t : List Int} {L : List (List Int)} {j : Nat} (hj : L.length ≤ j) : sL t L j = 0 := by
  unfold sL fU; rw [List.drop_eq_nil_of_le hj]; rfl

end Go.Proofs.YtecmldnigohjfabDoor

namespace Go.Proofs.YtecmldnigohjfabDoor
open Go Go.RowKit
set_option linter.unusedVariables false
set_option linter.unusedSimpArgs false

theorem Bx2.st {w W : World} {x0 x1 x2 : Value} (h : Bx2 w x0 x1 x2 W) (u0 u1 u2 : Value) : Bx2 w u0 u1 u2 (st3 W w.heap.size u0 u1 u2) :=
  ⟨st3_below h.b (Nat.le_refl _) _ _ _, by rw [st3_size]; exact h.z, st3_has h.h1 _ _ _, (Bs.far ⟨h.h2⟩ (by omega) _ _ _).h⟩
theorem Bx2.f1 {w W : World} {x0 x1 x2 : Value} (h : Bx2 w x0 x1 x2 W) : W.frozen? ⟨w.heap.size, 0, none⟩ = false ∧ W.frozen? ⟨w.heap.size, 1, none⟩ = false ∧ W.frozen? ⟨w.heap.size, 2, none⟩ = false := ⟨h.h1.fz 0, h.h1.fz 1, h.h1.fz 2⟩
theorem sA_0 {t : List Int} {L : List (List Int)} : sA t L 0 = match fF t L with
  | some i => (i : Int)
  | none => -1 := by
  unfold sA
  rw [List.drop_zero]
  cases fF t L with
  | none => rfl
  | some i => simp
theorem sL_0 {t : List Int} {L : List (List Int)} : sL t L 0 = match fU t L with
  | some c => stX t c
  | none => 0 := by
  unfold sL
  rw [List.drop_zero] <;> (cases fU t L <;> rfl)
theorem up_succ (n : Nat) (t : List Int) (L : List (List Int)) : up (n + 1) t L = match fF t L with
    | some i => (t, (i : Int))
    | none => match fU t L with
      | none => (t, -1)
      | some c => up n (t ++ [stX t c]) L := rfl

/-- a slice that lies apart from the two boxes -/
def Apt (w : World) (A : Option Addr) (n : Nat) : Prop := 0 < n → ∀ a, A = some a → a.block < w.heap.size ∨ w.heap.size + 2 ≤ a.block
theorem Apt.of {w : World} {A : Option Addr} {t : List Int} {k : Nat} (h : Ia w w.heap.size A t k) : Apt w A t.length := fun hl a e => by
  obtain ⟨b, o, e2, hb, _⟩ := h.cells hl
  rw [e] at e2; cases e2
  exact Or.inl hb
theorem ia_st3a {W : World} {B k : Nat} {A : Option Addr} {l : List Int} (h : Ia W B A l k) {b : Nat} (hq : 0 < l.length → ∀ a, A = some a → a.block ≠ b) (v0 v1 v2 : Value) : Ia (st3 W b v0 v1 v2) B A l k := by
  by_cases hl : 0 < l.length
  · exact h.st3 (hq hl) _ _ _
  · exact ⟨fun h => absurd h hl, h.n, h.c⟩
/-- the propagation of the reference, as far as it is -/
structure Pq (b0 : Nat) (w W : World) (v : Int) (A : Option Addr) (n k : Nat) (t : List Int) (B : Option Addr) (m q : Nat) (s : List Int) : Prop where
  x : Bx2 w (.int .i64 v) (.slice A n k) (.slice B m q) W
  a : Ia W W.heap.size A t k
  b : Ia W W.heap.size B s q
  en : n = t.length
  em : m = s.length
  aa : Apt w A n
  ab : Apt w B m
  la : ∀ a, A = some a → b0 ≤ a.block
  lb : ∀ a, B = some a → b0 ≤ a.block
  lw : b0 ≤ w.heap.size
theorem Pq.on {b0 : Nat} {w W W' : World} {v : Int} {A : Option Addr} {n k : Nat} {t : List Int} {B : Option Addr} {m q : Nat} {s : List Int} (h : Pq b0 w W v A n k t B m q s) (hb : Below W.heap.size W W') : Pq b0 w W' v A n k t B m q s := ⟨h.x.on hb, h.a.on hb, h.b.on hb, h.en, h.em, h.aa, h.ab, h.la, h.lb, h.lw⟩
/-- the next one, stored -/
theorem Pq.next {b0 : Nat} {w W W' : World} {v : Int} {A : Option Addr} {n k : Nat} {t : List Int} {B : Option Addr} {m q : Nat} {s : List Int} (h : Pq b0 w W v A n k t B m q s) {A' : Option Addr} {n' k' : Nat} {t' : List Int} {B' : Option Addr} {m' q' : Nat} (hN : Nw W.heap.size W' A' n' k' t' B' m' q' s) (hb : Below W.heap.size W W') : Pq b0 w (st3 W' w.heap.size (.int .i64 v) (.slice A' n' k') (.slice B' m' q')) v A' n' k' t' B' m' q' s := by
  have hz := h.x.z
  have h1 : 0 < n' → ∀ a, A' = some a → w.heap.size + 2 ≤ a.block := fun _ a e => by have := hN.ta a e; omega
  have h2 : 0 < m' → ∀ a, B' = some a → w.heap.size + 2 ≤ a.block := fun _ a e => by have := hN.sa a e; omega
  refine ⟨(h.x.on hb).st _ _ _, ?_, ?_, hN.nt, hN.ms, fun hl a e => Or.inr (h1 hl a e), fun hl a e => Or.inr (h2 hl a e), fun a e => by have := hN.ta a e; have := h.lw; omega, fun a e => by have := hN.sa a e; have := h.lw; omega, h.lw⟩
  · rw [st3_size]; exact ia_st3a hN.ti (fun hl a e => by have := h1 (by rw [hN.nt]; exact hl) a e; omega) _ _ _
  · rw [st3_size]; exact ia_st3a hN.si (fun hl a e => by have := h2 (by rw [hN.ms]; exact hl) a e; omega) _ _ _
/-- the result, stored -/
theorem Pq.out {b0 : Nat} {w W : World} {v : Int} {A : Option Addr} {n k : Nat} {t : List Int} {B : Option Addr} {m q : Nat} {s : List Int} (h : Pq b0 w W v A n k t B m q s) : Nw b0 (st3 W (w.heap.size + 1) (.int .i64 v) (.slice A n k) (.slice B m q)) A n k t B m q s ∧ Below w.heap.size w (st3 W (w.heap.size + 1) (.int .i64 v) (.slice A n k) (.slice B m q)) := by
  refine ⟨⟨?_, ?_, h.en, h.em, h.la, h.lb⟩, st3_below h.x.b (Nat.le_succ _) _ _ _⟩
  · rw [st3_size]; exact ia_st3a h.a (fun hl a e => by have := h.aa (by rw [h.en]; exact hl) a e; omega) _ _ _
  · rw [st3_size]; exact ia_st3a h.b (fun hl a e => by have := h.ab (by rw [h.em]; exact hl) a e; omega) _ _ _
/-- what Propagated returns -/
def PrIs (b0 : Nat) (v : Int) (t s : List Int) (L : List (List Int)) (w : World) (en : Ending) (w' : World) : Prop := ∃ A n k B m q, en = .returned (.tuple #[asv v A n k B m q, .int .i64 (upR v t L).2]) ∧ Nw b0 w' A n k (upR v t L).1 B m q s ∧ Below w.heap.size w w'

end Go.Proofs.YtecmldnigohjfabDoor

namespace Go.Proofs.YtecmldnigohjfabDoor
open Go Go.RowKit
set_option linter.unusedVariables false
set_option linter.unusedSimpArgs false

/-- what the reference's Run returns -/
def RrIs (v : Int) (t s : List Int) (at_ e : Int) (w : World) (en : Ending) (w' : World) : Prop := ∃ A n k B m q, en = .returned (.tuple #[asv v A n k B m q, .int .i64 at_, .int .i64 e]) ∧ Nw 0 w' A n k t B m q s ∧ Below w.heap.size w w'

/-- both, whatever the argument is -/
theorem aE_v {v : Int} {t s : List Int} {L : List (List Int)} (h : cE v t s L = 0) : 0 ≤ v := by
  have := (cE_0.1 h).1.1; omega
theorem run15_all (v : Int) (A : Option Addr) (t : List Int) (k : Nat) (B : Option Addr) (s : List Int) (q : Nat) (C : Option Addr) (L : List (List Int)) (kc : Nat) (w : World) (h : Ia w w.heap.size A t k) (hl : t.length ≤ 100000) (hr : ∀ x ∈ t, I64 x) (h' : Ia w w.heap.size B s q) (hl' : s.length ≤ 100000) (hc : Ill w w.heap.size C L kc) (hcl : L.length ≤ 100000) (hcr : ∀ c ∈ L, c.length ≤ 100000 ∧ ∀ x ∈ c, I64 x) (htab : Tab w.heap.size w) :
    Calls Tryd.prog 20 #[asv v A t.length k B s.length q, .slice C L.length kc] w (RuIs (rV v t s L) (rT v t s L) (rS v t s L) (rAt v t s L) (cE v t s L) w) := by
  by_cases hE : cE v t s L = 0
  · obtain ⟨nv, rfl⟩ : ∃ n : Nat, v = n := ⟨v.toNat, by have := aE_v hE; omega⟩
    rw [show rV (nv : Int) t s L = nv from if_pos hE, show rT (nv : Int) t s L = (upR (nv : Int) t L).1 from if_pos hE, show rS (nv : Int) t s L = s from if_pos hE, show rAt (nv : Int) t s L = (upR (nv : Int) t L).2 from if_pos hE, hE]
    exact urun_yes nv A t k B s q C L kc w h hl hr h' hl' hc hcl hcr htab hE
  · exact urun_no v A t k B s q C L kc w h hl hr h' hl' hc hcl hcr hE

end Go.Proofs.YtecmldnigohjfabDoor
