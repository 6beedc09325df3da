/- The library's functions over lists of ints, in my words. -/
import Derived.Test.YtigfdfbjpelcaaaClProg
import Derived.Sort.OwnSortedInts
import Derived.Shelf.SlicesE.DeleteFunc
namespace Go.Proofs.Ytigfdfbjpelcaaa
open Go Go.RowKit Go.Lib Go.Sort
set_option linter.unusedVariables false
set_option linter.unusedSimpArgs false

/-- a function that tells something of a number, and reads one cell besides -/
def Clo (g c : Nat) (u : Value) (Q : Int → Prop) (p : Int → Bool) : Prop := ∀ (W : World) (x : Int), Q x → W.cell? ⟨c, 0, none⟩ = some u → FnGives Try.prog g #[.pointer (some ⟨c, 0, none⟩)] #[.int .i64 x] (.bool (p x)) W
theorem att_map (Q : Int → Prop) (l : List Int) (h : ∀ x ∈ l, Q x) : (l.attachWith Q h).map (·.1) = l := by simp
theorem att_at (Q : Int → Prop) [Inhabited {x // Q x}] (l : List Int) (h : ∀ x ∈ l, Q x) (j : Nat) (hj : j < l.length) : ((l.attachWith Q h)[j]!).1 = l.getD j 0 := by
  rw [getElem!_pos _ j (by simpa using hj), getD_at hj]; simp

theorem containsF_gen {g : Nat} {lb : Array Value} {Q : Int → Prop} {p : Int → Bool} {w : World} (hp : ∀ (W : World) (x : Int), Q x → Below w.heap.size w W → FnGives Try.prog g lb #[.int .i64 x] (.bool (p x)) W) (eg : ∀ args w, (callFunc g args).run Try.prog w = .ok (.enter g args) w) (A : Option Addr) (l : List Int) (k : Nat) (h : Ia w w.heap.size A l k) (hl : l.length ≤ 100000) (hQ : ∀ x ∈ l, Q x) :
    Calls Try.prog 29 #[.slice A l.length k, .func (.func g) #[] lb] w fun e w' => e = .returned (.bool (l.any p)) ∧ ∃ d, w' = w.drewN d := by
  cases l with
  | nil => exact (Try.slices_ContainsFunc_empty (α := Int) A k _ w).mono fun e w' h => ⟨h.1, 0, h.2⟩
  | cons x0 r =>
    obtain ⟨b, o, rfl, hb, hc⟩ := h.cells (by simp)
    haveI : Inhabited {x // Q x} := ⟨⟨x0, hQ x0 (by simp)⟩⟩
    obtain ⟨l, hle⟩ : ∃ l, l = x0 :: r := ⟨_, rfl⟩
    rw [← hle] at hl hc ⊢
    have hQ : ∀ x ∈ l, Q x := by rw [hle]; exact hQ
    have hC := Try.slices_ContainsFunc (α := {x // Q x}) (fun x => .int .i64 x.1) (fun x => p x.1) g lb eg b o l.length k (l.attachWith Q hQ) w (fun W x hb => hp W x.1 x.2 hb) (by simp) (by omega) (fun j hj => by
      have hj' : j < l.length := by simpa using hj
      rw [hc j hj']
      simp only [att_at Q l hQ j hj'])
    refine hC.mono fun e w' h => ⟨?_, h.2⟩
    rw [h.1]
    congr 2
    rw [List.take_of_length_le (by simp)]
    conv => rhs; rw [← att_map Q l hQ, List.any_map]
    rfl

theorem containsF_any {g c : Nat} {u : Value} {Q : Int → Prop} {p : Int → Bool} (hp : Clo g c u Q p) (eg : ∀ args w, (callFunc g args).run Try.prog w = .ok (.enter g args) w) (A : Option Addr) (l : List Int) (k : Nat) (w : World) (h : Ia w w.heap.size A l k) (hl : l.length ≤ 100000) (hQ : ∀ x ∈ l, Q x) (hcell : w.cell? ⟨c, 0, none⟩ = some u) :
    Calls Try.prog 29 #[.slice A l.length k, .func (.func g) #[] #[.pointer (some ⟨c, 0, none⟩)]] w fun e w' => e = .returned (.bool (l.any p)) ∧ ∃ d, w' = w.drewN d :=
  containsF_gen (fun W x hx hb => hp W x hx ((hb.cell (cell_lt hcell)).trans hcell)) eg A l k h hl hQ

theorem indexF_any {g c : Nat} {u : Value} {Q : Int → Prop} {p : Int → Bool} (hp : Clo g c u Q p) (eg : ∀ args w, (callFunc g args).run Try.prog w = .ok (.enter g args) w) (A : Option Addr) (l : List Int) (k : Nat) (w : World) (h : Ia w w.heap.size A l k) (hl : l.length ≤ 100000) (hQ : ∀ x ∈ l, Q x) (hcell : w.cell? ⟨c, 0, none⟩ = some u) :
    Calls Try.prog 42 #[.slice A l.length k, .func (.func g) #[] #[.pointer (some ⟨c, 0, none⟩)]] w fun e w' => ∃ i : Int, e = .returned (.int .i64 i) ∧ ((i = -1 ∧ ∀ x ∈ l, p x = false) ∨ ∃ j : Nat, j < l.length ∧ i = j ∧ p (l.getD j 0) = true) ∧ ∃ d, w' = w.drewN d := by
  cases l with
  | nil => exact (Try.slices_IndexFunc_empty (α := Int) A k _ w).mono fun e w' h => ⟨-1, h.1, Or.inl ⟨rfl, fun x hx => by cases hx⟩, 0, h.2⟩
  | cons x0 r =>
    obtain ⟨b, o, rfl, hb, hc⟩ := h.cells (by simp)
    haveI : Inhabited {x // Q x} := ⟨⟨x0, hQ x0 (by simp)⟩⟩
    obtain ⟨l, hle⟩ : ∃ l, l = x0 :: r := ⟨_, rfl⟩
    rw [← hle] at hl hc ⊢
    have hQ : ∀ x ∈ l, Q x := by rw [hle]; exact hQ
    have hC := Try.slices_IndexFunc (α := {x // Q x}) (fun x => .int .i64 x.1) (fun x => p x.1) g #[.pointer (some ⟨c, 0, none⟩)] eg b o l.length k (l.attachWith Q hQ) w (fun W x hb => hp W x.1 x.2 ((hb.cell (cell_lt hcell)).trans hcell)) (by simp) (by omega) (fun j hj => by
      have hj' : j < l.length := by simpa using hj
      rw [hc j hj']
      simp only [att_at Q l hQ j hj'])
    refine hC.mono fun e w' h => ⟨_, h.1, ?_, h.2⟩
    rw [List.take_of_length_le (by simp)]
    rcases idxByFrom_spec (fun _ (y : {x // Q x}) => p y.1) default (l.attachWith Q hQ) 0 with ⟨h1, h2⟩ | ⟨j, h1, h2, h3, h4⟩
    · refine Or.inl ⟨h1, fun x hx => ?_⟩
      obtain ⟨j, hj, rfl⟩ := mem_getD hx
      have := h2 j (by simpa using hj)
      rwa [att_at Q l hQ j hj] at this
    · have hj : j < l.length := by simpa using h1
      refine Or.inr ⟨j, hj, by rw [show idxBy (fun _ (y : {x // Q x}) => p y.1) (l.attachWith Q hQ) default = ((0 + j : Nat) : Int) from h2]; simp, ?_⟩
      rwa [att_at Q l hQ j hj] at h3

theorem clone_any (A : Option Addr) (l : List Int) (k : Nat) (w : World) (h : Ia w w.heap.size A l k) (hl : l.length ≤ 100000) :
    Calls Try.prog 30 #[.slice A l.length k] w fun e w' => ∃ v, e = .returned v ∧ Io w.heap.size w' v l ∧ Below w.heap.size w w' := by
  cases A with
  | none =>
    obtain ⟨rfl, rfl⟩ := h.n rfl
    exact (Try.slices_Clone_int_nil 0 0 w).mono fun e w' h => ⟨_, h.1, Io.nil _ _, by rw [h.2]; exact Below.refl _ _⟩
  | some a =>
    rcases Nat.eq_zero_or_pos l.length with h0 | h0
    · have e : l = [] := List.eq_nil_of_length_eq_zero h0
      subst e
      exact (Try.slices_Clone_int_zero a k w).mono fun e w' ⟨v, h1, h2, _, h3⟩ => ⟨v, h1, h2, h3⟩
    · obtain ⟨b, o, e, hb, hc⟩ := h.cells h0
      rw [e]
      refine (Try.slices_Clone_int b o l.length k l w (Nat.le_refl _) (by omega) hc).mono fun e w' ⟨v, h1, h2, _, h3⟩ => ⟨v, h1, ?_, h3⟩
      rw [List.take_length] at h2
      exact h2

theorem sort_any (B : Nat) (v : Value) (l : List Int) (w : World) (ho : Io B w v l) (hB : B ≤ w.heap.size) (hl : l.length ≤ 100000) :
    Calls Try.prog 31 #[v] w fun e w' => e = .returned (.tuple #[]) ∧ Io B w' v (l.mergeSort fun x y => decide (x ≤ y)) ∧ Below B w w' := by
  rcases ho.2 with ⟨rfl, hn⟩ | ⟨g, cap, cur, rfl, hg, hh, hk, hm, hs, ht⟩
  · have e : l = [] := List.eq_nil_of_length_eq_zero hn
    subst e
    exact (Try.slices_Sort_int_none none 0 w).mono fun e w' h => ⟨h.1, by rw [List.mergeSort_nil]; exact Io.nil _ _, by rw [h.2]; exact Below.refl _ _⟩
  · have hH := holds_of_blockI (ss := l) hh (by simpa [iC] using ht)
    have hlt : g < w.heap.size := Has.lt (t := 3) (cs := cur) hh
    refine (Try.slices_Sort_int g 0 cap l w hH hlt (by omega)).mono fun e w' ⟨h1, n, os, h2⟩ => ⟨h1, ?_, ?_⟩
    · have := ownsRow_sortedI (n := n) (os := os) (ss := l) (ts := l.mergeSort fun x y => decide (x ≤ y)) (List.length_mergeSort l) hg hh hk hm hs
      rw [h2]
      exact Io.mk (l := l.mergeSort fun x y => decide (x ≤ y)) this (List.length_mergeSort l).symm rfl |> fun h => by
        have e := List.length_mergeSort (le := fun x y : Int => decide (x ≤ y)) l
        unfold Io at h ⊢
        exact h
    · rw [h2]
      exact (Below.refl B w).grown (grownBy_sortedI _) hB (fun k hk => by cases hk; exact hg)

theorem compact_any (B : Nat) (v : Value) (l : List Int) (w : World) (ho : Io B w v l) (hl : l.length ≤ 100000) :
    Calls Try.prog 32 #[v] w fun e w' => ∃ v', e = .returned v' ∧ Io B w' v' (Lib.compact l) ∧ Below B w w' := by
  rcases ho.2 with ⟨rfl, hn⟩ | ⟨g, cap, cur, rfl, hg, hh, hk, hm, hs, ht⟩
  · have e : l = [] := List.eq_nil_of_length_eq_zero hn
    subst e
    exact (Try.slices_Compact_int_empty none 0 w).mono fun e w' h => ⟨_, h.1, by rw [show Lib.compact ([] : List Int) = [] from rfl]; exact Io.nil _ _, by rw [h.2]; exact Below.refl _ _⟩
  · have hH := holds_of_blockI (ss := l) hh (by simpa [iC] using ht)
    have hlen := compact_len l
    refine (Try.slices_Compact_int g 0 cap l w hH (by omega) hk).mono fun e w' ⟨h1, q, h2⟩ => ⟨_, h1, ?_, ?_⟩
    · have := Lib.ownsRow_putRow (q := q) (k := (Lib.compact l).length) (ys := Lib.compact l ++ List.replicate (l.length - (Lib.compact l).length) 0) ho (by simp; omega) hlen
      rw [List.take_left] at this
      rw [h2]
      exact this
    · rw [h2]
      exact Lib.below_putRow (Below.refl B w) hg

theorem bsearch_any (A : Option Addr) (l : List Int) (k : Nat) (x : Int) (w : World) (h : Ia w w.heap.size A l k) (hl : l.length ≤ 100000) (hs : l.Pairwise (· < ·)) :
    Calls Try.prog 39 #[.slice A l.length k, .int .i64 x] w fun e w' => ∃ c : Int, e = .returned (.tuple #[.int .i64 c, .bool (l.contains x)]) ∧ ∃ d, w' = w.drewN d := by
  rcases Nat.eq_zero_or_pos l.length with h0 | h0
  · have e : l = [] := List.eq_nil_of_length_eq_zero h0
    subst e
    go_enter Try.func39, Try.ntmps39
    go_wp2
    go_loopw [7, 8] (fun i j wr => i = .int .i64 0 ∧ j = .int .i64 0 ∧ ∃ d, wr = w.drewN d) (fun _ _ _ => 0)
    case atStart => exact ⟨rfl, rfl, 0, rfl⟩
    case round =>
      obtain ⟨rfl, rfl, d, rfl⟩ := hrel
      go_wp2
      go_ret2
      exact ⟨_, rfl, _, rfl⟩
  · obtain ⟨b, o, rfl, hb, hc⟩ := h.cells h0
    refine (Try.slices_BinarySearch_int b o l.length k l x w (Nat.le_refl _) (by omega) hc (by rw [List.take_length]; exact hs.imp fun h => Int.le_of_lt h)).mono fun e w' h => ⟨((l.countP (· < x) : Nat) : Int), ?_, h.2⟩
    rw [h.1, List.take_length]

end Go.Proofs.Ytigfdfbjpelcaaa
