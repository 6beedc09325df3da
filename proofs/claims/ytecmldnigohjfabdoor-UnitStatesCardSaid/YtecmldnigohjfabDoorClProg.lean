/- Lists of ints in memory, and what a call owns of them. -/
import Derived.Test.YtecmldnigohjfabDoorClMath
import Derived.Test.YtecmldnigohjfabDoorGatesFrame
import Derived.Test.YtecmldnigohjfabDoorHeadTail
import Derived.Test.YtecmldnigohjfabDoorOrderConcat
import Derived.Test.YtecmldnigohjfabDoorShelf
import Derived.Lib.OwnBridge
import Derived.Test.YtecmldnigohjfabDoorValuesRef
import Derived.Sort.OwnSortedInts
import Derived.Shelf.SlicesE.DeleteFunc
namespace Go.Proofs.YtecmldnigohjfabDoor
open Go.RowKit Go.ChangeShapes Go.WideShapes Go.ChangeAt
set_option linter.unusedVariables false
set_option linter.unusedSimpArgs false

/-- the cells of a list -/
def iC (l : List Int) : List Value := l.map (Value.int .i64)
theorem iC_len (l : List Int) : (iC l).length = l.length * 1 := by simp [iC]
theorem iC_app (l m : List Int) : iC (l ++ m) = iC l ++ iC m := by simp [iC]
theorem iC_one (l : List Int) : ∀ u ∈ iC l, u.oneCell' = true := fun u h => by
  simp only [iC, List.mem_map] at h
  obtain ⟨b, _, rfl⟩ := h
  rfl
theorem iC_at (l : List Int) (j : Nat) (hj : j < l.length) : (iC l)[j]? = some (.int .i64 (l.getD j 0)) := by
  rw [getD_at hj]; simp [iC, hj]
/-- a list, as a call has it -/
structure Ia (w : World) (B : Nat) (A : Option Addr) (l : List Int) (k : Nat) : Prop where
  h : IntsAt w B A l.length (fun j => l.getD j 0)
  n : A = none → l = [] ∧ k = 0
  c : l.length ≤ k
section
variable {w w' W : World} {B B' k : Nat} {A : Option Addr} {l : List Int}
theorem Ia.keep (h : Ia w B A l k) (hb : Below B w w') : Ia w' B A l k := ⟨h.h.keep hb, h.n, h.c⟩
theorem Ia.more (h : Ia w B A l k) (hb : B ≤ B') : Ia w B' A l k := ⟨h.h.more hb, h.n, h.c⟩
theorem Ia.to (h : Ia w B A l k) (hb : Below B w W) (hB : B ≤ W.heap.size) : Ia W W.heap.size A l k := (h.keep hb).more hB
theorem Ia.on (h : Ia w w.heap.size A l k) (hb : Below w.heap.size w W) : Ia W W.heap.size A l k := h.to hb hb.size
theorem Ia.nil (w : World) (B : Nat) : Ia w B none [] 0 := ⟨fun h => absurd h (Nat.lt_irrefl 0), fun _ => ⟨rfl, rfl⟩, Nat.le_refl _⟩
theorem Ia.nn (h : Ia w B A l k) : A = none → l.length = 0 ∧ k = 0 := fun e => by obtain ⟨rfl, rfl⟩ := h.n e; exact ⟨rfl, rfl⟩
theorem add_spot {a : Addr} {v : Value} (h : w.cell? (a.add 0) = some v) (j : Nat) : a.add j = ⟨a.block, a.off + j, none⟩ := by
  have e : a.spot = none := by
    unfold World.cell? at h
    rw [show a.add 0 = a from rfl] at h
    split at h
    · split at h
      · cases h
      · next hs => simpa using hs
    · cases h
  unfold Addr.add
  split
  · next h0 => subst h0; cases a; simp only at e; subst e; rfl
  · rfl
/-- its cells, by block and place -/
theorem Ia.cells (h : Ia w B A l k) (hl : 0 < l.length) : ∃ b o, A = some ⟨b, o, none⟩ ∧ b < B ∧ ∀ j, j < l.length → w.cell? ⟨b, o + j, none⟩ = some (.int .i64 (l.getD j 0)) := by
  obtain ⟨a, e, hb, hc⟩ := h.h hl
  refine ⟨a.block, a.off, ?_, hb, fun j hj => ?_⟩
  · rw [e]; have := add_spot (hc 0 hl) 0; rw [show a.add 0 = a from rfl] at this; rw [this]
  · rw [← add_spot (hc 0 hl) j]; exact hc j hj
theorem intL_iC (l : List Int) (f : Nat → Int) : ∀ (m : Nat), m ≤ l.length → (∀ j, j < m → f j = l.getD j 0) → intL f m = iC (l.take m) := by
  intro m hm hf
  refine List.ext_getElem? fun j => ?_
  rcases Nat.lt_or_ge j m with hj | hj
  · rw [intL_at f m j hj, iC_at _ j (by rw [List.length_take]; omega), hf j hj, getD_at (show j < l.length by omega), getD_at (show j < (l.take m).length by rw [List.length_take]; omega)]
    simp
  · rw [List.getElem?_eq_none (by rw [intL_len]; omega), List.getElem?_eq_none (by rw [iC_len, List.length_take]; omega)]
theorem intL_all (l : List Int) : intL (fun j => l.getD j 0) l.length = iC l := by
  have := intL_iC l (fun j => l.getD j 0) l.length (Nat.le_refl _) (fun _ _ => rfl)
  rwa [List.take_length] at this
theorem Ia.src (h : Ia w B A l k) : Src w A l.length k (iC l) := by
  rw [← intL_all]; exact h.h.src h.nn
end
/-- what a call owns -/
def Io (B : Nat) (w : World) (v : Value) (l : List Int) : Prop := w.ownsRow B 3 1 v l.length (iC l)
section
variable {B B' : Nat} {w w' : World} {v : Value} {l : List Int}
theorem Io.nil (B : Nat) (w : World) : Io B w (.slice none 0 0) [] := World.ownsRow_nil _ _ _ _
theorem Io.mk {n : Nat} {xs : List Value} (h : w.ownsRow B 3 1 v n xs) (hn : n = l.length) (hx : xs = iC l) : Io B w v l := by subst hn hx; exact h
theorem Io.base (h : Io B w v l) (hb : B' ≤ B) : Io B' w v l := by
  refine ⟨h.1, ?_⟩
  rcases h.2 with h | ⟨g, cap, cur, hv, hg, r⟩
  · exact Or.inl h
  · exact Or.inr ⟨g, cap, cur, hv, Nat.le_trans hb hg, r⟩
theorem Io.keep (h : Io B w v l) (hb : Below w.heap.size w w') : Io B w' v l := by
  refine ⟨h.1, h.2.imp id fun ⟨g, cap, cur, h1, h2, h3, h4⟩ => ⟨g, cap, cur, h1, h2, ?_, h4⟩⟩
  exact (hb.block g (Has.lt (t := 3) (cs := cur) h3)).trans h3
/-- what a call owns, as a list that it has -/
theorem Io.at (h : Io B w v l) : ∃ A k, v = .slice A l.length k ∧ Ia w w.heap.size A l k := by
  rcases h.2 with ⟨rfl, hn⟩ | ⟨g, cap, cur, rfl, hg, hh, hk, r⟩
  · have e : l = [] := List.eq_nil_of_length_eq_zero hn
    subst e
    exact ⟨none, 0, rfl, Ia.nil _ _⟩
  · refine ⟨_, cap, rfl, fun hn => ⟨_, rfl, Has.lt (t := 3) (cs := cur) hh, fun j hj => ?_⟩, fun h => (by cases h), hk⟩
    exact World.ownsRow.cells h (g := g) rfl _ _ (iC_at l j hj)
theorem Io.blk (h : Io B w v l) : ∀ k, v.ownBlock = some k → B ≤ k := fun k hk => (World.ownsRow.lt h k hk).1
end
/-- what a function that makes a list returns: the list and what comes behind it -/
def LsIs (l : List Int) (r : List Value) (w : World) (e : Ending) (w' : World) : Prop := ∃ A k, e = .returned (.tuple (#[.slice A l.length k] ++ r.toArray)) ∧ Ia w' w'.heap.size A l k ∧ Below w.heap.size w w'
def Ls1 (l : List Int) (w : World) (e : Ending) (w' : World) : Prop := ∃ A k, e = .returned (.slice A l.length k) ∧ Ia w' w'.heap.size A l k ∧ Below w.heap.size w w'

section
variable {H : Type} {enc : TypeId × Value → H} {W : World} {base : Nat} {held : Bool}
set_option maxRecDepth 100000 in
/-- a list of ints, as it comes in -/
theorem open_is {v : Value} {d : DataW H} {ps : List MemPlace} {r : Reach} {b0 : Nat} (hv : Value.okWide Tryd.prog W r b0 22 v) (h : DataW.Trod enc Tryd.prog W base (fun _ => true) held 22 v d ps) :
    ∃ A l k, v = .slice A (List.length (α := Int) l) k ∧ Ia W W.heap.size A l k ∧ k ≤ maxLen ∧ ∀ x ∈ l, I64 x := by
  obtain ⟨a0, n0, k0, rfl⟩ := okWide_slice Tryd.underlying22 hv
  obtain ⟨fuel, hf⟩ := h
  rcases ChangeShapes.open_ints Tryd.underlying22 Tryd.underlying3 (by kernel_rfl) hf with ⟨hv, _⟩ | ⟨a, len, cap, zs, hv, _, hl, hml, hzl, _, hc, hw⟩
  · have hv' : [Value.slice a0 n0 k0] = [.slice none 0 0] := hv
    injection hv' with hv'
    exact ⟨none, [], 0, hv', Ia.nil _ _, Nat.zero_le _, fun x hx => by cases hx⟩
  · have hv' : [Value.slice a0 n0 k0] = [.slice (some a) len cap] := hv
    injection hv' with hv'
    have hz : zs.length = cap := hzl.trans (if_pos rfl)
    have hL : (zs.take len).length = len := by rw [List.length_take]; omega
    refine ⟨some a, zs.take len, cap, by rw [hL]; exact hv', ⟨?_, (fun h => by cases h), by rw [hL]; exact hl⟩, hml, fun x hx => i64_of (hw x (List.mem_of_mem_take hx))⟩
    rw [hL]
    intro hn
    refine ⟨a, rfl, ?_, fun j hj => ?_⟩
    · have := cell_lt (hc 0 (by omega))
      rwa [add_block] at this
    · rw [hc j (by omega)]
      show some (Value.int .i64 (zs.getD j 0)) = some (Value.int .i64 ((zs.take len).getD j 0))
      rw [List.getD_eq_getElem?_getD, List.getD_eq_getElem?_getD, List.getElem?_take, if_pos hj]
end

end Go.Proofs.YtecmldnigohjfabDoor

namespace Go.Proofs.YtecmldnigohjfabDoor
open Go Go.RowKit
set_option linter.unusedVariables false
set_option linter.unusedSimpArgs false

theorem isCount_any (v : Int) (w : World) : Calls Tryd.prog 25 #[.int .i64 v] w fun e w' => e = .returned (.bool (!decide (v < 0 ∨ 4000 < v))) ∧ w' = w := by
  by_cases h0 : 0 ≤ v
  · by_cases h1 : v ≤ 4000
    · have e : (!decide (v < 0 ∨ 4000 < v)) = true := by simp; omega
      rw [e]
      go_enter Tryd.func25, Tryd.ntmps25
      go_wp2
      go_ret
      exact ⟨rfl, rfl⟩
    · have e : (!decide (v < 0 ∨ 4000 < v)) = false := by simp; omega
      rw [e]
      go_enter Tryd.func25, Tryd.ntmps25
      go_wp2
      go_ret
      exact ⟨rfl, rfl⟩
  · have e : (!decide (v < 0 ∨ 4000 < v)) = false := by simp; omega
    rw [e]
    go_enter Tryd.func25, Tryd.ntmps25
    go_wp2
    go_ret
    exact ⟨rfl, rfl⟩

theorem isLit_any (v x : Int) (hx : I64 x) (w : World) : Calls Tryd.prog 26 #[.int .i64 v, .int .i64 x] w fun e w' => e = .returned (.bool (isL v x)) ∧ w' = w := by
  unfold I64 at hx
  by_cases h0 : 2 ≤ x
  · have hq : x.tdiv 2 = x / 2 := Int.tdiv_eq_ediv_of_nonneg (by omega)
    by_cases h1 : x / 2 ≤ v
    · have e : isL v x = true := isL_iff.2 (by omega)
      rw [e]
      go_enter Tryd.func26, Tryd.ntmps26
      go_wp2
      go_ret
      exact ⟨rfl, rfl⟩
    · have e : isL v x = false := by rw [← Bool.not_eq_true, isL_iff]; omega
      rw [e]
      go_enter Tryd.func26, Tryd.ntmps26
      go_wp2
      go_ret
      exact ⟨rfl, rfl⟩
  · have e : isL v x = false := by rw [← Bool.not_eq_true, isL_iff]; omega
    rw [e]
    go_enter Tryd.func26, Tryd.ntmps26
    go_wp2
    go_ret
    exact ⟨rfl, rfl⟩

set_option maxRecDepth 100000 in
set_option maxHeartbeats 2000000 in
theorem check_any (v : Int) (A : Option Addr) (l : List Int) (k : Nat) (w : World) (h : Ia w w.heap.size A l k) (hl : l.length ≤ 100000) (hr : ∀ x ∈ l, I64 x) :
    Calls Tryd.prog 16 #[.int .i64 v, .slice A l.length k] w fun e w' => e = .returned (.int .i64 (ckE v l)) ∧ ∃ d, w' = w.drewN d := by
  obtain ⟨n, hn⟩ : ∃ n, n = l.length := ⟨_, rfl⟩
  rw [← hn]
  have hl' : n ≤ 100000 := by rw [hn]; exact hl
  have HH := Lib.hid (And.intro h (And.intro hr hn))
  clear h hl hr hn
  by_cases hv : v < 0 ∨ 4000 < v
  · have ev : (!decide (v < 0 ∨ 4000 < v)) = false := by simp [hv]
    rw [ckE_lo hv]
    go_enter Tryd.func16, Tryd.ntmps16
    go_wp2_with (first | (go_at_call 25; (with_reducible refine (isCount_any v w).mono ?_); rintro e w1 ⟨rfl, hw1⟩; obtain rfl := hw1.symm; rw [ev]))
    go_ret
    exact ⟨rfl, 0, rfl⟩
  · have ev : (!decide (v < 0 ∨ 4000 < v)) = true := by simp [hv]
    go_enter Tryd.func16, Tryd.ntmps16
    go_wp2_with (first | (go_at_call 25; (with_reducible refine (isCount_any v w).mono ?_); rintro e w1 ⟨rfl, hw1⟩; obtain rfl := hw1.symm; rw [ev]))
    go_loopw [5, 13] (fun b i wr => ∃ j : Nat, j ≤ n ∧ i = .int .i64 (j : Int) ∧ b = .int .i64 (bf l j) ∧ (∀ q, q < j → okJ v l q) ∧ ∃ d, wr = w.drewN d) (fun _ i _ => n - (intOf i).toNat)
    case atStart => exact ⟨0, Nat.zero_le _, rfl, rfl, fun q hq => absurd hq (Nat.not_lt_zero _), 0, rfl⟩
    case round =>
      obtain ⟨j, hj, rfl, rfl, hok, d, rfl⟩ := hrel
      by_cases hlt : j < n
      · obtain ⟨b, o, rfl, hb, hc⟩ := HH.out.1.cells (by have := HH.out.2.2; omega)
        have hjl : j < l.length := by have := HH.out.2.2; omega
        have y := hc j hjl
        have hx := HH.out.2.1 _ (getD_mem hjl)
        have hj1 : (j : Int) < (n : Int) := by omega
        have hj0 : (0 : Int) ≤ (j : Int) := by omega
        obtain ⟨x, hx0⟩ : ∃ x, x = l.getD j 0 := ⟨_, rfl⟩
        rw [← hx0] at y hx
        have hx' := hx
        unfold I64 at hx
        have HX := Lib.hid hx0
        clear hc hx0
        cases eL : isL v x with
        | false =>
          have hck : ckE v l = 8 := by
            unfold ckE
            rw [if_neg hv, if_neg (by rw [okC_no hjl (fun h => by have h1 := h.1; rw [← HX.out, eL] at h1; exact absurd h1 (by decide))]; decide)]
          clear hok
          go_wp2_with (first | (go_at_call 26; (with_reducible refine (isLit_any v x hx' _).mono ?_); rintro e w1 ⟨rfl, hw1⟩; obtain rfl := hw1.symm; rw [eL]))
          go_ret
          rw [hck]
          exact ⟨rfl, _, rfl⟩
        | true =>
          obtain ⟨x1, x2⟩ := isL_iff.1 eL
          have hq : x.tdiv 2 = x / 2 := Int.tdiv_eq_ediv_of_nonneg (by omega)
          obtain ⟨p, hp⟩ : ∃ p, p = bf l j := ⟨_, rfl⟩
          rw [← hp]
          by_cases hle : x / 2 ≤ p
          · have hck : ckE v l = 8 := by
              unfold ckE
              rw [if_neg hv, if_neg (by
                rw [okC_no hjl (fun h => by
                  rcases h.2 with h' | h'
                  · subst h'; rw [show bf l 0 = 0 from rfl] at hp; omega
                  · rw [← HX.out] at h'
                    unfold bf at hp
                    split at hp
                    · omega
                    · omega)]; decide)]
            clear hok
            go_wp2_with (first | (go_at_call 26; (with_reducible refine (isLit_any v x hx' _).mono ?_); rintro e w1 ⟨rfl, hw1⟩; obtain rfl := hw1.symm; rw [eL]))
            go_ret
            rw [hck]
            exact ⟨rfl, _, rfl⟩
          · have hok' : okJ v l j := ⟨by rw [← HX.out]; exact eL, by
              rcases Nat.eq_zero_or_pos j with h' | h'
              · exact Or.inl h'
              · refine Or.inr ?_
                unfold bf at hp
                rw [if_neg (by omega)] at hp
                rw [← HX.out]; omega⟩
            have HK := Lib.hid (And.intro hok hok')
            have hbf : bf l (j + 1) = x / 2 := by unfold bf; rw [if_neg (by omega), Nat.add_sub_cancel, ← HX.out]
            clear hok hok'
            go_wp2_with (first | (go_at_call 26; (with_reducible refine (isLit_any v x hx' _).mono ?_); rintro e w1 ⟨rfl, hw1⟩; obtain rfl := hw1.symm; rw [eL]))
            go_roundw
            case rel => exact ⟨j + 1, by omega, by go_num, by rw [hbf], fun q hq' => by
              rcases Nat.lt_succ_iff_lt_or_eq.1 hq' with h' | h'
              · exact HK.out.1 q h'
              · subst h'; exact HK.out.2, _, rfl⟩
            case measure => simp [intOf]; omega
      · have ej : j = n := by omega
        have hck : ckE v l = 0 := by
          unfold ckE
          rw [if_neg hv, if_pos (okC_yes fun q hq => hok q (by have := HH.out.2.2; omega))]
        clear hok
        have hjn : ¬ (j : Int) < (n : Int) := by omega
        go_wp2
        go_ret
        exact ⟨rfl, _, rfl⟩

end Go.Proofs.YtecmldnigohjfabDoor

namespace Go.Proofs.YtecmldnigohjfabDoor
open Go Go.RowKit Go.Lib Go.Sort
set_option linter.unusedVariables false
set_option linter.unusedSimpArgs false

/-- a function that tells something of a number, and reads one cell besides -/
def Clo (g c : Nat) (u : Value) (Q : Int → Prop) (p : Int → Bool) : Prop := ∀ (W : World) (x : Int), Q x → W.cell? ⟨c, 0, none⟩ = some u → FnGives Tryd.prog g #[.pointer (some ⟨c, 0, none⟩)] #[.int .i64 x] (.bool (p x)) W
theorem att_map (Q : Int → Prop) (l : List Int) (h : ∀ x ∈ l, Q x) : (l.attachWith Q h).map (·.1) = l := by simp
theorem att_at (Q : Int → Prop) [Inhabited {x // Q x}] (l : List Int) (h : ∀ x ∈ l, Q x) (j : Nat) (hj : j < l.length) : ((l.attachWith Q h)[j]!).1 = l.getD j 0 := by
  rw [getElem!_pos _ j (by simpa using hj), getD_at hj]; simp

theorem clone_any (A : Option Addr) (l : List Int) (k : Nat) (w : World) (h : Ia w w.heap.size A l k) (hl : l.length ≤ 100000) :
    Calls Tryd.prog 29 #[.slice A l.length k] w fun e w' => ∃ v, e = .returned v ∧ Io w.heap.size w' v l ∧ Below w.heap.size w w' := by
  cases A with
  | none =>
    obtain ⟨rfl, rfl⟩ := h.n rfl
    exact (Tryd.slices_Clone_int_nil 0 0 w).mono fun e w' h => ⟨_, h.1, Io.nil _ _, by rw [h.2]; exact Below.refl _ _⟩
  | some a =>
    rcases Nat.eq_zero_or_pos l.length with h0 | h0
    · have e : l = [] := List.eq_nil_of_length_eq_zero h0
      subst e
      exact (Tryd.slices_Clone_int_zero a k w).mono fun e w' ⟨v, h1, h2, _, h3⟩ => ⟨v, h1, h2, h3⟩
    · obtain ⟨b, o, e, hb, hc⟩ := h.cells h0
      rw [e]
      refine (Tryd.slices_Clone_int b o l.length k l w (Nat.le_refl _) (by omega) hc).mono fun e w' ⟨v, h1, h2, _, h3⟩ => ⟨v, h1, ?_, h3⟩
      rw [List.take_length] at h2
      exact h2

end Go.Proofs.YtecmldnigohjfabDoor

namespace Go.Proofs.YtecmldnigohjfabDoor
open Go Go.RowKit Go.Lib Go.Sort
set_option linter.unusedVariables false
set_option linter.unusedSimpArgs false

theorem any_not (v : Int) (l : List Int) : (l.any fun x => !isL v x) = !allL v l := by
  unfold allL; rw [List.all_eq_not_any_not, Bool.not_not]

/-- what a function that makes a list returns, with what comes behind -/
def LsIs3 (l : List Int) (b : Bool) (e3 : Int) (w : World) (e : Ending) (w' : World) : Prop := ∃ A k, e = .returned (.tuple #[.slice A l.length k, .bool b, .int .i64 e3]) ∧ Ia w' w'.heap.size A l k ∧ Below w.heap.size w w'

end Go.Proofs.YtecmldnigohjfabDoor

namespace Go.Proofs.YtecmldnigohjfabDoor
open Go Go.RowKit Go.Lib Go.Sort
set_option linter.unusedVariables false
set_option linter.unusedSimpArgs false

def trB (n : Int) (V : Nat → Bool) (l : List Int) : Bool := decide (ckE n l = 0) && trs V l

end Go.Proofs.YtecmldnigohjfabDoor

namespace Go.Proofs.YtecmldnigohjfabDoor
open Go Go.RowKit Go.Lib Go.Sort
set_option linter.unusedVariables false
set_option linter.unusedSimpArgs false

end Go.Proofs.YtecmldnigohjfabDoor

namespace Go.Proofs.YtecmldnigohjfabDoor
open Go Go.RowKit Go.Lib Go.Sort
set_option linter.unusedVariables false
set_option linter.unusedSimpArgs false

theorem rv_im {n : Int} {a b : List Int} {v : Int} (h : imE n a b ≠ 0) : rvE n a b v = imE n a b ∧ rvC n a b v = [] ∧ rvA n a b v = false := by
  have e : rvE n a b v = imE n a b := by unfold rvE; rw [if_pos h]
  exact ⟨e, by unfold rvC; rw [if_neg (by rw [e]; exact h)], by unfold rvA; rw [e]; simp [h]⟩
theorem rv_no {n : Int} {a b : List Int} {v : Int} (h : imE n a b = 0) (h2 : rvOk a b v = false) : rvE n a b v = 6 ∧ rvC n a b v = [] ∧ rvA n a b v = false := by
  have e : rvE n a b v = 6 := by unfold rvE; rw [if_neg (by rw [h]; simp), if_neg (by rw [h2]; decide)]
  exact ⟨e, by unfold rvC; rw [if_neg (by rw [e]; decide)], by unfold rvA; rw [e]; rfl⟩
theorem rv_yes {n : Int} {a b : List Int} {v : Int} (h : imE n a b = 0) (h2 : rvOk a b v = true) : rvE n a b v = 0 ∧ rvC n a b v = mkL n (rvL a b v) ∧ rvA n a b v = mkA n (rvL a b v) := by
  have e : rvE n a b v = 0 := rvE_iff.2 ⟨h, h2⟩
  exact ⟨e, by unfold rvC; rw [if_pos e], by unfold rvA; rw [e]; simp⟩
theorem rvOk_no {a b : List Int} {v : Int} (h : (∀ x ∈ a, x / 2 ≠ v) ∨ (∀ x ∈ b, x / 2 ≠ v)) : rvOk a b v = false := by
  rw [← Bool.not_eq_true, rvOk_iff]
  rintro (⟨p, q⟩ | ⟨p, q⟩)
  · rcases h with h | h
    · exact h _ p (by omega)
    · exact h _ q (by omega)
  · rcases h with h | h
    · exact h _ p (by omega)
    · exact h _ q (by omega)
theorem rvOk_two {n : Int} {a b : List Int} {v x y : Int} (ha : OkC n a) (hb : OkC n b) (hx : x ∈ a) (hy : y ∈ b) (ex : x / 2 = v) (ey : y / 2 = v) : rvOk a b v = decide (x ≠ y) := by
  rw [Bool.eq_iff_iff, rvOk_iff, decide_eq_true_iff]
  constructor
  · rintro (⟨p, q⟩ | ⟨p, q⟩)
    · have := ha.one hx p (by omega); have := hb.one hy q (by omega); omega
    · have := ha.one hx p (by omega); have := hb.one hy q (by omega); omega
  · intro h
    rcases (show x = 2 * v ∨ x = 2 * v + 1 by omega) with e | e
    · exact Or.inl ⟨e ▸ hx, (show y = 2 * v + 1 by omega) ▸ hy⟩
    · exact Or.inr ⟨e ▸ hx, (show y = 2 * v by omega) ▸ hy⟩
theorem td {x : Int} (h : 2 ≤ x) : x.tdiv 2 = x / 2 := Int.tdiv_eq_ediv_of_nonneg (by omega)

end Go.Proofs.YtecmldnigohjfabDoor
