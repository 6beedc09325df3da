/- An assignment in memory, and as an argument. -/
import Derived.Test.YtecmldnigohjfabDoorAsMath
import Derived.Test.YtecmldnigohjfabDoorClCut
namespace Go.Proofs.YtecmldnigohjfabDoor
open Go Go.RowKit Go.ChangeShapes Go.WideShapes Go.ChangeAt
set_option linter.unusedVariables false
set_option linter.unusedSimpArgs false

/-- an assignment, as a value -/
abbrev asv (v : Int) (A : Option Addr) (n k : Nat) (B : Option Addr) (m q : Nat) : Value := .agg #[.int .i64 v, .slice A n k, .slice B m q]
theorem Ia.ofInts {w : World} {B m k : Nat} {A : Option Addr} {f : Nat → Int} (h : IntsAt w B A m f) (hn : A = none → m = 0 ∧ k = 0) (hc : m ≤ k) : Ia w B A ((List.range m).map f) k := by
  have hl : ((List.range m).map f).length = m := by simp
  refine ⟨?_, fun e => ?_, by rw [hl]; exact hc⟩
  · rw [hl]
    intro h0
    obtain ⟨a, e, hb, hcs⟩ := h h0
    refine ⟨a, e, hb, fun j hj => ?_⟩
    rw [hcs j hj]
    show some (Value.int .i64 (f j)) = some (Value.int .i64 (((List.range m).map f).getD j 0))
    rw [getD_at (by rw [hl]; exact hj)]
    simp
  · obtain ⟨h1, h2⟩ := hn e
    subst h1
    exact ⟨rfl, h2⟩
/-- what a function that makes an assignment returns -/
def AsIs (v : Int) (t s : List Int) (e : Int) (w : World) (en : Ending) (w' : World) : Prop := ∃ A k B q, en = .returned (.tuple #[asv v A t.length k B s.length q, .int .i64 e]) ∧ Ia w' w'.heap.size A t k ∧ Ia w' w'.heap.size B s q ∧ Below w.heap.size w w' ∧ (∀ a, A = some a → w.heap.size ≤ a.block) ∧ ∀ a, B = some a → w.heap.size ≤ a.block
def As1 (v : Int) (t s : List Int) (w : World) (en : Ending) (w' : World) : Prop := ∃ A k B q, en = .returned (asv v A t.length k B s.length q) ∧ Ia w' w'.heap.size A t k ∧ Ia w' w'.heap.size B s q ∧ Below w.heap.size w w'
/-- what Decide and Imply, and Undo, return -/
def pV (v : Int) (t s : List Int) (x : Int) : Int := if pE v t s x = 0 then v else 0
def pT (v : Int) (t s : List Int) (x : Int) : List Int := if pE v t s x = 0 then t ++ [x] else []
def pS (v : Int) (t s : List Int) (x : Int) (d : Bool) : List Int := if pE v t s x = 0 then (if d = true then s ++ [(t.length : Int)] else s) else []
def uV (v : Int) (t s : List Int) (lv : Int) : Int := if uE v t s lv = 0 then v else 0
def uT (v : Int) (t s : List Int) (lv : Int) : List Int := if uE v t s lv = 0 then t.take (usz t.length s lv.toNat) else []
def uS (v : Int) (t s : List Int) (lv : Int) : List Int := if uE v t s lv = 0 then s.take lv.toNat else []
theorem p_no {v : Int} {t s : List Int} {x : Int} {d : Bool} (h : pE v t s x ≠ 0) : pV v t s x = 0 ∧ pT v t s x = [] ∧ pS v t s x d = [] := by
  unfold pV pT pS; rw [if_neg h, if_neg h, if_neg h]; exact ⟨rfl, rfl, rfl⟩
theorem p_yes {v : Int} {t s : List Int} {x : Int} (h : pE v t s x = 0) : pV v t s x = v ∧ pT v t s x = t ++ [x] ∧ pS v t s x true = s ++ [(t.length : Int)] ∧ pS v t s x false = s := by
  unfold pV pT pS; rw [if_pos h, if_pos h, if_pos h, if_pos h]; exact ⟨rfl, rfl, rfl, rfl⟩
theorem u_no {v : Int} {t s : List Int} {lv : Int} (h : uE v t s lv ≠ 0) : uV v t s lv = 0 ∧ uT v t s lv = [] ∧ uS v t s lv = [] := by
  unfold uV uT uS; rw [if_neg h, if_neg h, if_neg h]; exact ⟨rfl, rfl, rfl⟩
theorem u_yes {v : Int} {t s : List Int} {lv : Int} (h : uE v t s lv = 0) : uV v t s lv = v ∧ uT v t s lv = t.take (usz t.length s lv.toNat) ∧ uS v t s lv = s.take lv.toNat := by
  unfold uV uT uS; rw [if_pos h, if_pos h, if_pos h]; exact ⟨rfl, rfl, rfl⟩

section
variable {H : Type} {enc : TypeId × Value → H} {W : World} {base : Nat} {held : Bool}
set_option maxRecDepth 100000 in
/-- an assignment, as it comes in -/
theorem open_as {r : Reach} {b0 : Nat} {v : Value} {d : DataW H} {ps : List MemPlace} (hv : Value.okWide Tryd.prog W r b0 24 v) (h : DataW.Trod enc Tryd.prog W base (fun _ => true) held 24 v d ps) :
    ∃ (a : Int) (A : Option Addr) (t : List Int) (k : Nat) (B : Option Addr) (s : List Int) (q : Nat), v = .agg #[.int .i64 a, .slice A t.length k, .slice B s.length q] ∧ (Lit.int .i64 a).wf = true ∧ Ia W W.heap.size A t k ∧ k ≤ maxLen ∧ (∀ x ∈ t, I64 x) ∧ Ia W W.heap.size B s q ∧ q ≤ maxLen ∧ ∀ x ∈ s, I64 x := by
  obtain ⟨⟨l⟩, rfl, hsz⟩ := okWide_struct Tryd.underlying24 hv
  have hC : Tryd.prog.cellsOf 24 = 3 := by kernel_rfl
  have k3 : Tryd.prog.cellsOf 3 = 1 := by kernel_rfl
  have k24 : Tryd.prog.cellsOf 22 = 1 := by kernel_rfl
  match l, hsz.trans hC with
  | [v0, v1, v2], _ =>
    obtain ⟨fuel, hf⟩ := h
    obtain ⟨xs, n, _, _, _, hlen, hg⟩ := DataW.trod_struct Tryd.underlying24 hf
    match xs, hlen with
    | [y0, y1, y2], _ =>
      have e0 : DataW.trod enc Tryd.prog W base (fun _ => true) held n 3 [v0] = some y0 := by
        have h := hg 0 _ rfl
        simpa [Value.cells, k3] using h
      have e1 : DataW.trod enc Tryd.prog W base (fun _ => true) held n 22 [v1] = some y1 := by
        have h := hg 1 _ rfl
        simpa [Value.cells, k24] using h
      have e2 : DataW.trod enc Tryd.prog W base (fun _ => true) held n 22 [v2] = some y2 := by
        have h := hg 2 _ rfl
        simpa [Value.cells, k24] using h
      obtain ⟨i, q0, _, w0⟩ := DataW.trod_int Tryd.underlying3 e0
      injection q0 with q0
      obtain ⟨A1, m1, k1, f1, q1, a1, b1, d1, z1⟩ := open_il e1
      obtain ⟨A2, m2, k2, f2, q2, a2, b2, d2, z2⟩ := open_il e2
      subst q0 q1 q2
      have r1 : ∀ x ∈ (List.range m1).map f1, I64 x := fun x hx => by
        obtain ⟨j, _, rfl⟩ := List.mem_map.1 hx
        exact d1 j
      have r2 : ∀ x ∈ (List.range m2).map f2, I64 x := fun x hx => by
        obtain ⟨j, _, rfl⟩ := List.mem_map.1 hx
        exact d2 j
      exact ⟨i, A1, (List.range m1).map f1, k1, A2, (List.range m2).map f2, k2, by simp, w0, Ia.ofInts a1 b1 z1.1, z1.2, r1, Ia.ofInts a2 b2 z2.1, z2.2, r2⟩
end

end Go.Proofs.YtecmldnigohjfabDoor

namespace Go.Proofs.YtecmldnigohjfabDoor
open Go Go.RowKit
set_option linter.unusedVariables false
set_option linter.unusedSimpArgs false

def noVar : Array Value := Array.replicate 4001 (.bool false)
theorem info_arr : (Tryd.prog.info? 62).map (fun i => (i.zero, i.size, i.bytes)) = some (some (.agg noVar), 4001, 4001) := by kernel_rfl
theorem noVar_at {i : Nat} (h : i < 4001) : noVar[i]? = some (.bool false) := by simp [noVar, h]
theorem zero_arr (w : World) : Sem.run Tryd.prog (zeroValue 62) w = .ok (.agg noVar) w := by
  obtain ⟨i0, hi0, hzz0, hs0, hy0⟩ := info_parts info_arr
  unfold zeroValue
  simp [Sem.run_bind, typeInfo, hi0, hzz0, go_sem]
/-- a variable stands among the first ones -/
def hv (t : List Int) (j i : Nat) : Bool := (t.take j).any fun y => decide (y / 2 = (i : Int))
theorem hv_iff {t : List Int} {j i : Nat} : hv t j i = true ↔ ∃ q, q < j ∧ q < t.length ∧ t.getD q 0 / 2 = (i : Int) := by
  unfold hv
  simp only [List.any_eq_true, decide_eq_true_eq]
  constructor
  · rintro ⟨y, hy, e⟩
    obtain ⟨q, hq, rfl⟩ := mem_getD hy
    rw [List.length_take] at hq
    rw [getD_take (by omega)] at e
    exact ⟨q, by omega, by omega, e⟩
  · rintro ⟨q, h1, h2, e⟩
    refine ⟨t.getD q 0, ?_, e⟩
    rw [← getD_take (m := j) h1]
    exact getD_mem (by rw [List.length_take]; omega)
theorem hv_zero (t : List Int) (i : Nat) : hv t 0 i = false := by unfold hv; simp
theorem hv_succ {t : List Int} {j : Nat} (hj : j < t.length) (i : Nat) : hv t (j + 1) i = (hv t j i || decide (t.getD j 0 / 2 = (i : Int))) := by
  unfold hv
  rw [List.take_succ_eq_append_getElem hj, List.any_append, getD_at hj]
  simp

theorem isCount14_any (v : Int) (w : World) : Calls Tryd.prog 22 #[.int .i64 v] w fun e w' => e = .returned (.bool (!decide (v < 0 ∨ 4000 < v))) ∧ w' = w := by
  by_cases h0 : 0 ≤ v
  · by_cases h1 : v ≤ 4000
    · have e : (!decide (v < 0 ∨ 4000 < v)) = true := by simp; omega
      rw [e]
      go_enter Tryd.func22, Tryd.ntmps22
      go_wp2
      go_ret
      exact ⟨rfl, rfl⟩
    · have e : (!decide (v < 0 ∨ 4000 < v)) = false := by simp; omega
      rw [e]
      go_enter Tryd.func22, Tryd.ntmps22
      go_wp2
      go_ret
      exact ⟨rfl, rfl⟩
  · have e : (!decide (v < 0 ∨ 4000 < v)) = false := by simp; omega
    rw [e]
    go_enter Tryd.func22, Tryd.ntmps22
    go_wp2
    go_ret
    exact ⟨rfl, rfl⟩

theorem isLit14_any (v x : Int) (hx : I64 x) (w : World) : Calls Tryd.prog 31 #[.int .i64 v, .int .i64 x] w fun e w' => e = .returned (.bool (isL v x)) ∧ w' = w := by
  unfold I64 at hx
  by_cases h0 : 2 ≤ x
  · have hq : x.tdiv 2 = x / 2 := Int.tdiv_eq_ediv_of_nonneg (by omega)
    by_cases h1 : x / 2 ≤ v
    · have e : isL v x = true := isL_iff.2 (by omega)
      rw [e]
      go_enter Tryd.func31, Tryd.ntmps31
      go_wp2
      go_ret
      exact ⟨rfl, rfl⟩
    · have e : isL v x = false := by rw [← Bool.not_eq_true, isL_iff]; omega
      rw [e]
      go_enter Tryd.func31, Tryd.ntmps31
      go_wp2
      go_ret
      exact ⟨rfl, rfl⟩
  · have e : isL v x = false := by rw [← Bool.not_eq_true, isL_iff]; omega
    rw [e]
    go_enter Tryd.func31, Tryd.ntmps31
    go_wp2
    go_ret
    exact ⟨rfl, rfl⟩

set_option maxRecDepth 100000 in
set_option maxHeartbeats 4000000 in
theorem isTrail_any (v : Int) (hv0 : 0 ≤ v ∧ v ≤ 4000) (A : Option Addr) (t : List Int) (k : Nat) (w : World) (h : Ia w w.heap.size A t k) (hl : t.length ≤ 100000) (hr : ∀ x ∈ t, I64 x) :
    Calls Tryd.prog 23 #[.int .i64 v, .slice A t.length k] w fun e w' => e = .returned (.bool (decide (OkT v t))) ∧ Below w.heap.size w w' := by
  have hz := fun w => zero_arr w
  obtain ⟨n, hn⟩ : ∃ n, n = t.length := ⟨_, rfl⟩
  rw [← hn]
  have hl' : n ≤ 100000 := by rw [hn]; exact hl
  obtain ⟨v1, v2⟩ := hv0
  have HH := Lib.hid (And.intro h (And.intro hr hn))
  clear h hl hr hn
  go_enter Tryd.func23, Tryd.ntmps23
  go_wp2
  go_loopw [10] (fun i wr => ∃ j : Nat, j ≤ n ∧ i = .int .i64 (j : Int) ∧ (∀ q, q < j → tJ v t q) ∧ (∃ cs, Has wr w.heap.size 62 cs ∧ ∀ i, i < 4001 → cs[i]? = some (.bool (hv t j i))) ∧ Below w.heap.size w wr) (fun i _ => n - (intOf i).toNat)
  case atStart => exact ⟨0, Nat.zero_le _, rfl, fun q hq => absurd hq (Nat.not_lt_zero _), ⟨noVar, Has.new _ _ _, fun i hi => by rw [hv_zero]; exact noVar_at hi⟩, (Below.refl _ _).alloc (Nat.le_refl _) _⟩
  case round =>
    obtain ⟨j, hj, rfl, hok, ⟨cs, hC, hcs0⟩, hB⟩ := hrel
    by_cases hlt : j < n
    · obtain ⟨b, o, rfl, hb0, hcs⟩ := HH.out.1.cells (by have := HH.out.2.2; omega)
      have hjl : j < t.length := by have := HH.out.2.2; omega
      have y0 := hcs j hjl
      have y : wr.cell? ⟨b, o + j, none⟩ = some (.int .i64 (t.getD j 0)) := (hB.cell (cell_lt y0)).trans y0
      have hj1 : (j : Int) < (n : Int) := by omega
      have hj0 : (0 : Int) ≤ (j : Int) := by omega
      have hx := HH.out.2.1 _ (getD_mem hjl)
      obtain ⟨x, hx0⟩ : ∃ x, x = t.getD j 0 := ⟨_, rfl⟩
      rw [← hx0] at y hx
      have D := fun W => isLit14_any v x hx W
      have HX := Lib.hid hx0
      clear hcs hx0 y0
      cases eL : isL v x with
      | false =>
        have HR := Lib.hid (show decide (OkT v t) = false from decide_eq_false (okT_no hjl fun h => by have := h.1; rw [← HX.out, eL] at this; cases this))
        rw [eL] at D
        have HB := Lib.hid hB
        clear hok hC hcs0 hx eL hB
        go_wp2_with (first | (go_at_call 31; (with_reducible refine (D _).mono ?_); rintro e w1 ⟨rfl, hw1⟩; obtain rfl := hw1.symm))
        go_ret
        exact ⟨by rw [HR.out]; rfl, HB.out⟩
      | true =>
        obtain ⟨x1, x2⟩ := isL_iff.1 eL
        have hq : x.tdiv 2 = x / 2 := Int.tdiv_eq_ediv_of_nonneg (by omega)
        have q0 : (0 : Int) ≤ x / 2 := by omega
        have q1 : x / 2 < 4001 := by omega
        rw [eL] at D
        have z : wr.cell? ⟨w.heap.size, (x / 2).toNat, none⟩ = some (.bool (hv t j (x / 2).toNat)) := by
          rw [hC.cell]; exact hcs0 _ (by omega)
        have hfz : wr.frozen? ⟨w.heap.size, (x / 2).toNat, none⟩ = false := hC.fz _
        cases eh : hv t j (x / 2).toNat with
        | true =>
          have HR := Lib.hid (show decide (OkT v t) = false from decide_eq_false (okT_no hjl fun h => by
            obtain ⟨q, hq1, hq2, hq3⟩ := hv_iff.1 eh
            have := h.2 q hq1
            rw [← HX.out] at this
            omega))
          rw [eh] at z
          have HB := Lib.hid hB
          clear hok hC hcs0 hx eL hB eh hfz
          go_wp2_with (first | (go_at_call 31; (with_reducible refine (D _).mono ?_); rintro e w1 ⟨rfl, hw1⟩; obtain rfl := hw1.symm))
          go_ret
          exact ⟨by rw [HR.out]; rfl, HB.out⟩
        | false =>
          have HK := Lib.hid (show ∀ q, q < j + 1 → tJ v t q from fun q hq' => by
            rcases Nat.lt_succ_iff_lt_or_eq.1 hq' with h' | h'
            · exact hok q h'
            · subst h'
              refine ⟨by rw [← HX.out]; exact eL, fun p hp hpe => ?_⟩
              rw [← HX.out] at hpe
              have := hv_iff.2 ⟨p, hp, by omega, show t.getD p 0 / 2 = ((x / 2).toNat : Int) by omega⟩
              rw [eh] at this
              cases this)
          have HC := Lib.hid (show ∃ cs', Has (wr.setCell ⟨w.heap.size, (x / 2).toNat, none⟩ (.bool true)) w.heap.size 62 cs' ∧ ∀ i, i < 4001 → cs'[i]? = some (.bool (hv t (j + 1) i)) from
            ⟨_, hC.set _ _, fun i hi => by
              have hsz : cs.size = 4001 ∨ 4001 < cs.size := by
                have := (Array.getElem?_eq_some_iff.1 (hcs0 4000 (by omega))).1
                omega
              rw [hv_succ hjl, ← HX.out]
              by_cases e : (x / 2).toNat = i
              · subst e
                rw [Array.getElem?_setIfInBounds_self_of_lt (by omega), show decide (x / 2 = ((x / 2).toNat : Int)) = true from decide_eq_true (by omega), Bool.or_true]
              · rw [Array.getElem?_setIfInBounds_ne e, hcs0 i hi, show decide (x / 2 = (i : Int)) = false from decide_eq_false (by omega), Bool.or_false]⟩)
          rw [eh] at z
          have HB := Lib.hid (hB.setCell (p := ⟨w.heap.size, (x / 2).toNat, none⟩) (Nat.le_refl _) (.bool true))
          clear hok hC hcs0 hx eL hB eh
          go_wp2_with (first | (go_at_call 31; (with_reducible refine (D _).mono ?_); rintro e w1 ⟨rfl, hw1⟩; obtain rfl := hw1.symm))
          go_roundw
          case rel => exact ⟨j + 1, by omega, by go_num, HK.out, HC.out, HB.out⟩
          case measure => simp [intOf]; omega
    · have HR := Lib.hid (show decide (OkT v t) = true from decide_eq_true (OkT_iff.2 fun q hq => hok q (by have := HH.out.2.2; omega)))
      have hjn : ¬ (j : Int) < (n : Int) := by omega
      have HB := Lib.hid hB
      clear hok hC hcs0 hB
      go_wp2
      go_ret
      exact ⟨by rw [HR.out]; rfl, HB.out⟩

set_option maxRecDepth 100000 in
set_option maxHeartbeats 4000000 in
theorem areStarts_any (A : Option Addr) (s : List Int) (k : Nat) (m : Nat) (w : World) (h : Ia w w.heap.size A s k) (hl : s.length ≤ 100000) :
    Calls Tryd.prog 24 #[.slice A s.length k, .int .i64 (m : Int)] w fun e w' => e = .returned (.bool (decide (OkS m s))) ∧ w = w' := by
  obtain ⟨n, hn⟩ : ∃ n, n = s.length := ⟨_, rfl⟩
  rw [← hn]
  have hl' : n ≤ 100000 := by rw [hn]; exact hl
  have HH := Lib.hid (And.intro h hn)
  clear h hl hn
  go_enter Tryd.func24, Tryd.ntmps24
  go_wp2
  go_loopw [5, 10] (fun b i wr => ∃ j : Nat, j ≤ n ∧ i = .int .i64 (j : Int) ∧ b = .int .i64 (sb s j) ∧ (∀ q, q < j → sJ m s q) ∧ w = wr) (fun _ i _ => n - (intOf i).toNat)
  case atStart => exact ⟨0, Nat.zero_le _, rfl, rfl, fun q hq => absurd hq (Nat.not_lt_zero _), rfl⟩
  case round =>
    obtain ⟨j, hj, rfl, rfl, hok, rfl⟩ := hrel
    by_cases hlt : j < n
    · obtain ⟨b, o, rfl, hb0, hcs⟩ := HH.out.1.cells (by have := HH.out.2; omega)
      have hjl : j < s.length := by have := HH.out.2; omega
      have y := hcs j hjl
      have hj1 : (j : Int) < (n : Int) := by omega
      have hj0 : (0 : Int) ≤ (j : Int) := by omega
      have HS := Lib.hid (sb_succ s j)
      obtain ⟨x, hx0⟩ : ∃ x, x = s.getD j 0 := ⟨_, rfl⟩
      obtain ⟨p, hp0⟩ : ∃ p, p = sb s j := ⟨_, rfl⟩
      rw [← hx0] at y
      rw [← hp0]
      have HX := Lib.hid (And.intro hx0 hp0)
      clear hcs hx0 hp0
      by_cases h1 : x ≤ p
      · have HR := Lib.hid (show decide (OkS m s) = false from decide_eq_false (okS_no hjl fun h => by have := h.1; rw [← HX.out.1, ← HX.out.2] at this; omega))
        clear hok
        go_wp2
        go_ret
        exact ⟨by rw [HR.out]; rfl, rfl⟩
      · by_cases h2 : (m : Int) ≤ x
        · have HR := Lib.hid (show decide (OkS m s) = false from decide_eq_false (okS_no hjl fun h => by have := h.2; rw [← HX.out.1] at this; omega))
          clear hok
          go_wp2
          go_ret
          exact ⟨by rw [HR.out]; rfl, rfl⟩
        · have HK := Lib.hid (And.intro hok (show sJ m s j from ⟨by rw [← HX.out.1, ← HX.out.2]; omega, by rw [← HX.out.1]; omega⟩))
          clear hok
          go_wp2
          go_roundw
          case rel => exact ⟨j + 1, by omega, by go_num, by rw [HS.out, HX.out.1], fun q hq' => by
            rcases Nat.lt_succ_iff_lt_or_eq.1 hq' with h' | h'
            · exact HK.out.1 q h'
            · subst h'; exact HK.out.2, by trivial⟩
          case measure => simp [intOf]; omega
    · have HR := Lib.hid (show decide (OkS m s) = true from decide_eq_true (OkS_iff.2 fun q hq => hok q (by have := HH.out.2; omega)))
      have hjn : ¬ (j : Int) < (n : Int) := by omega
      clear hok
      go_wp2
      go_ret
      exact ⟨by rw [HR.out]; rfl, rfl⟩

end Go.Proofs.YtecmldnigohjfabDoor

namespace Go.Proofs.YtecmldnigohjfabDoor
open Go Go.RowKit Go.Lib Go.Sort
set_option linter.unusedVariables false
set_option linter.unusedSimpArgs false

theorem bx_cell {w W : World} {cs : Array Value} {ty : TypeId} (hb : Below (w.alloc (.cells cs ty)).heap.size (w.alloc (.cells cs ty)) W) (i : Nat) : W.cell? ⟨w.heap.size, i, none⟩ = cs[i]? := ((Has.new w ty cs).keep hb (Has.new w ty cs).lt).cell i
theorem bx_on (w : World) (o : Obj) : Below w.heap.size w (w.alloc o) := (Below.refl _ _).alloc (Nat.le_refl _) _
theorem bx_bn {w : World} {o : Obj} {W : World} (hb : Below (w.alloc o).heap.size (w.alloc o) W) : Below w.heap.size w W := bn (bx_on w o) hb

set_option maxRecDepth 100000 in
set_option maxHeartbeats 4000000 in
theorem aCheck_any (v : Int) (A : Option Addr) (t : List Int) (k : Nat) (B : Option Addr) (s : List Int) (q : Nat) (w : World) (h : Ia w w.heap.size A t k) (hl : t.length ≤ 100000) (hr : ∀ x ∈ t, I64 x) (h' : Ia w w.heap.size B s q) (hl' : s.length ≤ 100000) :
    Calls Tryd.prog 15 #[asv v A t.length k B s.length q] w fun e w' => e = .returned (.int .i64 (aE v t s)) ∧ Below w.heap.size w w' := by
  by_cases hv : v < 0 ∨ 4000 < v
  · have ev : (!decide (v < 0 ∨ 4000 < v)) = false := by simp [hv]
    rw [aE_no (fun h => h.1 hv)]
    clear h hl hr h' hl'
    go_enter Tryd.func15, Tryd.ntmps15
    go_wp2_with (first | (go_at_call 22; (with_reducible refine (isCount14_any v _).mono ?_); rintro e w1 ⟨rfl, hw1⟩; obtain rfl := hw1.symm; rw [ev]))
    go_ret
    exact ⟨rfl, bx_on _ _⟩
  · have ev : (!decide (v < 0 ∨ 4000 < v)) = true := by simp [hv]
    have D1 := fun (W : World) (hb : Below w.heap.size w W) => isTrail_any v (by omega) A t k W (h.on hb) hl hr
    have D2 := fun (W : World) (hb : Below w.heap.size w W) => areStarts_any B s q t.length W (h'.on hb) hl'
    by_cases hT : OkT v t
    · rw [show decide (OkT v t) = true from decide_eq_true hT] at D1
      have hE : aE v t s = if OkS t.length s then 0 else 8 := by
        by_cases hS : OkS t.length s
        · rw [if_pos hS]; exact aE_yes ⟨hv, hT, hS⟩
        · rw [if_neg hS]; exact aE_no fun h => hS h.2.2
      by_cases hS : OkS t.length s
      · rw [show decide (OkS t.length s) = true from decide_eq_true hS] at D2
        rw [hE, if_pos hS]
        obtain ⟨n, hn⟩ : ∃ n, n = t.length := ⟨_, rfl⟩
        obtain ⟨m, hm⟩ : ∃ m, m = s.length := ⟨_, rfl⟩
        rw [← hn] at D1 D2 ⊢
        rw [← hm] at D2 ⊢
        clear h hl hr h' hl' hT hS hE hn hm hv
        go_enter Tryd.func15, Tryd.ntmps15
        go_wp2_with (first
          | (go_at_call 22; (with_reducible refine (isCount14_any v _).mono ?_); rintro e w1 ⟨rfl, hw1⟩; obtain rfl := hw1.symm; rw [ev])
          | (go_at_call 23; (with_reducible refine (D1 _ (bx_on _ _)).mono ?_); rintro e w2 ⟨rfl, hb2⟩
             have c0 := bx_cell hb2 0
             have c1 := bx_cell hb2 1
             have c2 := bx_cell hb2 2
             have HB2 := Lib.hid (bx_bn hb2)
             clear hb2)
          | (go_at_call 24; (with_reducible refine (D2 _ HB2.out).mono ?_); rintro e w3 ⟨rfl, rfl⟩))
        go_ret
        exact ⟨rfl, HB2.out⟩
      · rw [show decide (OkS t.length s) = false from decide_eq_false hS] at D2
        rw [hE, if_neg hS]
        obtain ⟨n, hn⟩ : ∃ n, n = t.length := ⟨_, rfl⟩
        obtain ⟨m, hm⟩ : ∃ m, m = s.length := ⟨_, rfl⟩
        rw [← hn] at D1 D2 ⊢
        rw [← hm] at D2 ⊢
        clear h hl hr h' hl' hT hS hE hn hm hv
        go_enter Tryd.func15, Tryd.ntmps15
        go_wp2_with (first
          | (go_at_call 22; (with_reducible refine (isCount14_any v _).mono ?_); rintro e w1 ⟨rfl, hw1⟩; obtain rfl := hw1.symm; rw [ev])
          | (go_at_call 23; (with_reducible refine (D1 _ (bx_on _ _)).mono ?_); rintro e w2 ⟨rfl, hb2⟩
             have c0 := bx_cell hb2 0
             have c1 := bx_cell hb2 1
             have c2 := bx_cell hb2 2
             have HB2 := Lib.hid (bx_bn hb2)
             clear hb2)
          | (go_at_call 24; (with_reducible refine (D2 _ HB2.out).mono ?_); rintro e w3 ⟨rfl, rfl⟩))
        go_ret
        exact ⟨rfl, HB2.out⟩
    · rw [show decide (OkT v t) = false from decide_eq_false hT] at D1
      rw [aE_no (fun h => hT h.2.1)]
      obtain ⟨n, hn⟩ : ∃ n, n = t.length := ⟨_, rfl⟩
      obtain ⟨m, hm⟩ : ∃ m, m = s.length := ⟨_, rfl⟩
      rw [← hn] at D1 ⊢
      rw [← hm]
      clear h hl hr h' hl' hT hn hm hv D2
      go_enter Tryd.func15, Tryd.ntmps15
      go_wp2_with (first
        | (go_at_call 22; (with_reducible refine (isCount14_any v _).mono ?_); rintro e w1 ⟨rfl, hw1⟩; obtain rfl := hw1.symm; rw [ev])
        | (go_at_call 23; (with_reducible refine (D1 _ (bx_on _ _)).mono ?_); rintro e w2 ⟨rfl, hb2⟩
           have HB2 := Lib.hid (bx_bn hb2)
           clear hb2))
      go_ret
      exact ⟨rfl, HB2.out⟩

end Go.Proofs.YtecmldnigohjfabDoor

namespace Go.Proofs.YtecmldnigohjfabDoor
open Go Go.RowKit Go.Lib Go.Sort
set_option linter.unusedVariables false
set_option linter.unusedSimpArgs false

theorem Ia.set {w : World} {B k : Nat} {A : Option Addr} {l : List Int} (h : Ia w B A l k) {q : Addr} (hq : ∀ a, A = some a → a.block ≠ q.block) (u : Value) : Ia (w.setCell q u) B A l k := by
  refine ⟨fun hn => ?_, h.n, h.c⟩
  obtain ⟨a, e, hb, hc⟩ := h.h hn
  refine ⟨a, e, hb, fun j hj => ?_⟩
  rw [World.cell?_setCell_other _ _ _ _ (fun e' => hq a e (by have := congrArg Addr.block e'; simpa [add_block] using this.symm))]
  exact hc j hj
theorem Io.set {B : Nat} {w : World} {v : Value} {l : List Int} (h : Io B w v l) {q : Addr} (hq : q.block < B) (u : Value) : Io B (w.setCell q u) v l := by
  refine ⟨h.1, h.2.imp id fun ⟨g, cap, cur, h1, h2, h3, h4⟩ => ⟨g, cap, cur, h1, h2, ?_, h4⟩⟩
  rw [Below.heap_setCell _ _ _ _ (by omega)]; exact h3
/-- a struct of three cells, stored whole -/
abbrev st3 (W : World) (b : Nat) (v0 v1 v2 : Value) : World := ((W.setCell ⟨b, 0, none⟩ v0).setCell ⟨b, 1, none⟩ v1).setCell ⟨b, 2, none⟩ v2
theorem st3_below {B : Nat} {w W : World} {b : Nat} (h : Below B w W) (hb : B ≤ b) (v0 v1 v2 : Value) : Below B w (st3 W b v0 v1 v2) := ((h.setCell hb v0).setCell hb v1).setCell hb v2
theorem st3_size (W : World) (b : Nat) (v0 v1 v2 : Value) : (st3 W b v0 v1 v2).heap.size = W.heap.size := by simp [st3, World.setCell]
theorem Ia.st3 {w : World} {B k : Nat} {A : Option Addr} {l : List Int} (h : Ia w B A l k) {b : Nat} (hq : ∀ a, A = some a → a.block ≠ b) (v0 v1 v2 : Value) : Ia (st3 w b v0 v1 v2) B A l k := ((h.set (q := ⟨b, 0, none⟩) hq v0).set (q := ⟨b, 1, none⟩) hq v1).set (q := ⟨b, 2, none⟩) hq v2
theorem Io.st3 {B : Nat} {w : World} {v : Value} {l : List Int} (h : Io B w v l) {b : Nat} (hq : b < B) (v0 v1 v2 : Value) : Io B (st3 w b v0 v1 v2) v l := ((h.set (q := ⟨b, 0, none⟩) hq v0).set (q := ⟨b, 1, none⟩) hq v1).set (q := ⟨b, 2, none⟩) hq v2
/-- what Imply and Undo return: the starts are its own, behind all else -/
def OwIs (v : Int) (t s : List Int) (e : Int) (w : World) (en : Ending) (w' : World) : Prop := ∃ A k vS m, en = .returned (.tuple #[.agg #[.int .i64 v, .slice A t.length k, vS], .int .i64 e]) ∧ Ia w' m A t k ∧ Io m w' vS s ∧ w.heap.size ≤ m ∧ m ≤ w'.heap.size ∧ Below w.heap.size w w' ∧ ∀ a, A = some a → w.heap.size ≤ a.block
theorem OwIs.as {v : Int} {t s : List Int} {e : Int} {w : World} {en : Ending} {w' : World} (h : OwIs v t s e w en w') : AsIs v t s e w en w' := by
  obtain ⟨A, k, vS, m, rfl, h1, h2, h3, h4, h5, h7⟩ := h
  obtain ⟨B, q, rfl, h6⟩ := h2.at
  exact ⟨A, k, B, q, rfl, h1.more h4, h6, h5, h7, fun a e => by subst e; have := h2.blk a.block rfl; omega⟩
theorem OwIs.none {e : Int} {w w' : World} {en : Ending} (he : en = .returned (.tuple #[.agg #[.int .i64 0, .slice none 0 0, .slice none 0 0], .int .i64 e])) (hb : Below w.heap.size w w') : OwIs 0 [] [] e w en w' :=
  ⟨Option.none, 0, .slice Option.none 0 0, w'.heap.size, he, Ia.nil _ _, Io.nil _ _, hb.size, Nat.le_refl _, hb, fun a h => by cases h⟩
abbrev nE (v : Int) : Int := if v < 0 ∨ 4000 < v then 2 else 0
abbrev nV (v : Int) : Int := if v < 0 ∨ 4000 < v then 0 else v

/-- the box of an assignment, and that of the result behind it -/
def bx2 (w : World) (v0 v1 v2 : Value) : World := (w.alloc (.cells #[v0, v1, v2] 24)).alloc (.cells #[.int .i64 0, .slice none 0 0, .slice none 0 0] 24)
structure Bx2 (w : World) (v0 v1 v2 : Value) (W : World) : Prop where
  b : Below w.heap.size w W
  z : w.heap.size + 2 ≤ W.heap.size
  h1 : Has W w.heap.size 24 #[v0, v1, v2]
  h2 : Has W (w.heap.size + 1) 24 #[.int .i64 0, .slice none 0 0, .slice none 0 0]
theorem Bx2.new (w : World) (v0 v1 v2 : Value) : Bx2 w v0 v1 v2 (bx2 w v0 v1 v2) := by
  unfold bx2
  exact ⟨((Below.refl _ _).alloc (Nat.le_refl _) _).alloc (by simp) _, by simp, (Has.new _ _ _).al _, Has.new' _ _ (by simp)⟩
theorem Bx2.on {w W W' : World} {v0 v1 v2 : Value} (h : Bx2 w v0 v1 v2 W) (hb : Below W.heap.size W W') : Bx2 w v0 v1 v2 W' :=
  ⟨bn h.b hb, Nat.le_trans h.z hb.size, h.h1.keep hb h.h1.lt, h.h2.keep hb h.h2.lt⟩
theorem Bx2.c {w W : World} {v0 v1 v2 : Value} (h : Bx2 w v0 v1 v2 W) : W.cell? ⟨w.heap.size, 0, none⟩ = some v0 ∧ W.cell? ⟨w.heap.size, 1, none⟩ = some v1 ∧ W.cell? ⟨w.heap.size, 2, none⟩ = some v2 := ⟨h.h1.cell 0, h.h1.cell 1, h.h1.cell 2⟩
theorem Bx2.d {w W : World} {v0 v1 v2 : Value} (h : Bx2 w v0 v1 v2 W) : W.cell? ⟨w.heap.size + 1, 0, none⟩ = some (.int .i64 0) ∧ W.cell? ⟨w.heap.size + 1, 1, none⟩ = some (.slice none 0 0) ∧ W.cell? ⟨w.heap.size + 1, 2, none⟩ = some (.slice none 0 0) ∧ W.frozen? ⟨w.heap.size + 1, 0, none⟩ = false ∧ W.frozen? ⟨w.heap.size + 1, 1, none⟩ = false ∧ W.frozen? ⟨w.heap.size + 1, 2, none⟩ = false := ⟨h.h2.cell 0, h.h2.cell 1, h.h2.cell 2, h.h2.fz 0, h.h2.fz 1, h.h2.fz 2⟩

/-- a list cut at its own length: no room behind it -/
theorem Ia.cap {w : World} {B k : Nat} {A : Option Addr} {l : List Int} (h : Ia w B A l k) (i : Nat) (hi : i ≤ l.length) : ∃ A', (∀ W, (Instr.sliceAt 22 (.slice A l.length k) none (some (.int .i64 (i : Int))) (some (.int .i64 (i : Int)))).run Tryd.prog W = .ok (.slice A' i i) W) ∧ Ia w B A' (l.take i) i := by
  have ht : Tryd.prog.underlying 22 = some (.slice (Tryd.prog.elem 22)) := by simp [Program.elem, Tryd.underlying22]
  have he : Tryd.prog.elem 22 = 3 := by simp [Program.elem, Tryd.underlying22]
  have hk := h.c
  refine ⟨if i = 0 then A else A.map (·.add (0 * 1)), fun W => ?_, ?_⟩
  · rw [run_sliceAt_slice _ _ _ _ _ _ ht, run_slice_hm W _ _ _ _ ht .i64 .i64 _ _ (by omega) (by omega) (by omega), he, sl_int w W]
    simp [Result.andThen, sliced]
  · have hA : (if i = 0 then A else A.map (·.add (0 * 1))) = A := by
      by_cases hk0 : i = 0
      · rw [if_pos hk0]
      · rw [if_neg hk0]
        cases A with
        | none => rfl
        | some a => simp [Addr.add]
    rw [hA]
    refine ⟨fun hn => ?_, fun hn => ?_, by rw [List.length_take]; omega⟩
    · rw [List.length_take] at hn
      obtain ⟨a, e, hl, hc⟩ := h.h (by omega)
      refine ⟨a, e, hl, fun j hj => ?_⟩
      rw [List.length_take] at hj
      rw [hc j (by omega)]
      show some (Value.int .i64 (l.getD j 0)) = some (Value.int .i64 ((l.take i).getD j 0))
      rw [getD_take (by omega)]
    · obtain ⟨rfl, rfl⟩ := h.n hn
      exact ⟨by simp, by simpa using hi⟩

end Go.Proofs.YtecmldnigohjfabDoor

namespace Go.Proofs.YtecmldnigohjfabDoor
open Go Go.RowKit Go.Lib Go.Sort
set_option linter.unusedVariables false
set_option linter.unusedSimpArgs false

theorem st3_cell {W : World} {b g j : Nat} (h : g ≠ b) (v0 v1 v2 : Value) : (st3 W b v0 v1 v2).cell? ⟨g, j, none⟩ = W.cell? ⟨g, j, none⟩ := by
  rw [World.cell?_setCell_other _ _ _ _ (by simp [h]), World.cell?_setCell_other _ _ _ _ (by simp [h]), World.cell?_setCell_other _ _ _ _ (by simp [h])]
theorem st3_has {W : World} {b : Nat} {ty : TypeId} {u0 u1 u2 : Value} (h : Has W b ty #[u0, u1, u2]) (v0 v1 v2 : Value) : Has (st3 W b v0 v1 v2) b ty #[v0, v1, v2] := by
  have := ((h.set 0 v0).set 1 v1).set 2 v2
  simpa using this
theorem Io.of_own {B : Nat} {w : World} {v : Value} {n : Nat} {xs : List Value} {l : List Int} (h : w.ownsRow B 3 1 v n xs) (hn : n = l.length) (hx : xs = iC l) : Io B w v l := Io.mk h hn hx
/-- append of a number to a list without room behind it, at an operation -/
theorem append_full {w : World} {ops : Array Oper} {rest : List Oper} {o : Oper} {a : Act} {Q : Exit → Act → World → Prop} (hgd : o.guard = none) (s x : Operand)
    (ho : o.op = .call { callee := .builtin .append, args := #[s, x], argTypes := #[22, 22] })
    {A : Option Addr} {l : List Int} {n : Nat} {y : Int} (hn : n = l.length) (hs : a.eval s = .slice A n n) (h : Ia w w.heap.size A l n) (hl : n ≤ 100000) (hx : a.eval x = .slice (some ⟨w.heap.size, 0, none⟩) 1 1)
    (hK : ∀ v' w', Io (w.heap.size + 1) w' v' (l ++ [y]) → Below w.heap.size w w' → w.heap.size + 1 ≤ w'.heap.size → wpList Tryd.prog ops Q rest (a.put o.dst v') w') :
    wpList Tryd.prog ops Q (o :: rest) a (w.alloc (.cells #[.int .i64 y] 3)) := by
  obtain ⟨i0, hi0, hzz0, hs0, hy0⟩ := info_parts info_int
  have h1 : Ia (w.alloc (.cells #[.int .i64 y] 3)) (w.alloc (.cells #[.int .i64 y] 3)).heap.size A l n := h.on (bx_on _ _)
  have hsz : (w.alloc (.cells #[.int .i64 y] 3)).heap.size = w.heap.size + 1 := World.size_alloc _ _
  refine wpList_append_grows (w.alloc (.cells #[.int .i64 y] 3)) hgd s x 22 ho 3 i0 (.int .i64 0) 1 8 Tryd.underlying22 hi0 hzz0 hs0 hy0 rfl (by decide) A n n (iC l) hs (fun e => by obtain ⟨rfl, h3⟩ := h.n e; exact ⟨h3, h3⟩) (by rw [iC_len, hn]) (fun b hb j u hu => ?_) ⟨w.heap.size, 0, none⟩ 1 1 (iC [y]) hx rfl (cell_one_new w (.int .i64 y) 3) (iC_one [y]) (by omega) (by simp only [maxLen]; omega) (by omega) ?_
  · subst hb
    have hj : j < l.length := by
      have := (List.getElem?_eq_some_iff.1 hu).1
      rw [iC_len] at this
      omega
    rw [iC_at l j hj] at hu
    obtain ⟨a', e, _, hc⟩ := h1.h (by omega)
    injection e with e
    rw [e]
    exact (hc j hj).trans hu
  · intro v' w' ho' hg
    rw [hsz] at ho'
    have hB := (Below.refl w.heap.size (w.alloc (.cells #[.int .i64 y] 3))).grown hg (by omega) (fun k hk => by cases hk)
    refine hK v' w' (Io.mk ho' (by rw [List.length_append, hn]; rfl) (by rw [iC_app])) ((bx_on _ _).trans hB) ?_
    have := hg.size
    omega

/-- append to what a call owns; what else it leaves -/
theorem io_run_g {w : World} (B : Nat) (v : Value) (l : List Int) (hown : Io B w v l) (y : Int) (hle : l.length ≤ 1000000) (hB : B ≤ w.heap.size) (ty : TypeId) :
    ∃ v' w', (Builtin.append_ #[22, 22] ty #[v, .slice (some ⟨w.heap.size, 0, none⟩) 1 1]).run Tryd.prog (w.alloc (.cells #[.int .i64 y] 3)) = .ok v' w' ∧ Io B w' v' (l ++ [y]) ∧ Below B w w' ∧
      (∀ g, g < w.heap.size → v.ownBlock ≠ some g → w'.heap[g]? = w.heap[g]?) ∧ w.heap.size ≤ w'.heap.size ∧ ∀ k, v'.ownBlock = some k → v.ownBlock = some k ∨ w.heap.size < k := by
  obtain ⟨i0, hi0, hzz0, hs0, hy0⟩ := info_parts info_int
  have ho1 : Io B (w.alloc (.cells #[.int .i64 y] 3)) v l := hown.keep (bx_on _ _)
  have hsz : (w.alloc (.cells #[.int .i64 y] 3)).heap.size = w.heap.size + 1 := World.size_alloc _ _
  obtain ⟨v', w', hr, h2, h3, _, h5⟩ := run_append_own_at (P := Tryd.prog) (w.alloc (.cells #[.int .i64 y] 3)) B 22 ty 3 i0 (.int .i64 0) 1 8 Tryd.underlying22 hi0 hzz0 hs0 hy0 rfl (by decide) v l.length (iC l) ho1 ⟨w.heap.size, 0, none⟩ 1 1 (iC [y]) rfl (cell_one_new w (.int .i64 y) 3) (iC_one [y]) (by simp only [maxLen]; omega) (by omega) (by omega)
  refine ⟨v', w', hr, Io.mk h2 (by rw [List.length_append]; rfl) (by rw [iC_app]), ((Below.refl B w).alloc hB _).grown h3 (by omega) (fun k hk => hown.blk k hk), fun g hg hne => ?_, ?_, fun k hk => ?_⟩
  · rw [h3.block g (by omega) (fun e => hne e.symm), Below.heap_alloc _ _ _ hg]
  · have := h3.size; omega
  · rcases h5 with h5 | h5
    · exact Or.inl (h5 ▸ hk)
    · rw [h5, hsz] at hk
      injection hk with hk
      exact Or.inr (by omega)
theorem append_own1 {w : World} {ops : Array Oper} {rest : List Oper} {o : Oper} {a : Act} {Q : Exit → Act → World → Prop} (hgd : o.guard = none) (s x : Operand)
    (ho : o.op = .call { callee := .builtin .append, args := #[s, x], argTypes := #[22, 22] })
    (B : Nat) (v : Value) (l : List Int) (y : Int) (hs : a.eval s = v) (hown : Io B w v l) (hle : l.length ≤ 1000000) (hB : B ≤ w.heap.size) (N : Nat) (hN : N = w.heap.size) (hx : a.eval x = .slice (some ⟨N, 0, none⟩) 1 1)
    (hK : ∀ v' w', Io B w' v' (l ++ [y]) → Below B w w' → (∀ g, g < w.heap.size → v.ownBlock ≠ some g → w'.heap[g]? = w.heap[g]?) → w.heap.size ≤ w'.heap.size → (∀ k, v'.ownBlock = some k → v.ownBlock = some k ∨ w.heap.size < k) → wpList Tryd.prog ops Q rest (a.put o.dst v') w') :
    wpList Tryd.prog ops Q (o :: rest) a (w.alloc (.cells #[.int .i64 y] 3)) := by
  subst hN
  obtain ⟨v', w', hr, h2, h3, h4, h5, h6⟩ := io_run_g B v l hown y hle hB o.type
  refine wpList_plain hgd fun _ hK' => ?_
  unfold Oper.wp execOp
  simp only [ho, resolve, invoke, builtin, Sem.run_bind, Sem.run_pure, Result.andThen_ok, List.map_toArray, List.map_cons, List.map_nil, hs, hx, hr]
  exact hK' _ _ (hK v' w' h2 h3 h4 h5 h6)

end Go.Proofs.YtecmldnigohjfabDoor

namespace Go.Proofs.YtecmldnigohjfabDoor
open Go Go.RowKit Go.Lib Go.Sort
set_option linter.unusedVariables false
set_option linter.unusedSimpArgs false

end Go.Proofs.YtecmldnigohjfabDoor
