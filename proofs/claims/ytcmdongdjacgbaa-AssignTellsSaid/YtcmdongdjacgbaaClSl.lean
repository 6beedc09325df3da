/- The library's functions over lists of ints, in my words. -/
import Derived.Test.YtcmdongdjacgbaaClProg
import Derived.Sort.OwnSortedInts
import Derived.Shelf.SlicesE.DeleteFunc
namespace Go.Proofs.Ytcmdongdjacgbaa
open Go Go.RowKit Go.Lib Go.Sort
set_option linter.unusedVariables false
set_option linter.unusedSimpArgs false

/-- a function that tells something of a number, and reads one cell besides -/
def Clo (g c : Nat) (u : Value) (Q : Int → Prop) (p : Int → Bool) : Prop := ∀ (W : World) (x : Int), Q x → W.cell? ⟨c, 0, none⟩ = some u → FnGives Try.prog g #[.pointer (some ⟨c, 0, none⟩)] #[.int .i64 x] (.bool (p x)) W
theorem att_map (Q : Int → Prop) (l : List Int) (h : ∀ x ∈ l, Q x) : (l.attachWith Q h).map (·.1) = l := by simp
theorem att_at (Q : Int → Prop) [Inhabited {x // Q x}] (l : List Int) (h : ∀ x ∈ l, Q x) (j : Nat) (hj : j < l.length) : ((l.attachWith Q h)[j]!).1 = l.getD j 0 := by
  rw [getElem!_pos _ j (by simpa using hj), getD_at hj]; simp

theorem indexF_any {g c : Nat} {u : Value} {Q : Int → Prop} {p : Int → Bool} (hp : Clo g c u Q p) (eg : ∀ args w, (callFunc g args).run Try.prog w = .ok (.enter g args) w) (A : Option Addr) (l : List Int) (k : Nat) (w : World) (h : Ia w w.heap.size A l k) (hl : l.length ≤ 100000) (hQ : ∀ x ∈ l, Q x) (hcell : w.cell? ⟨c, 0, none⟩ = some u) :
    Calls Try.prog 36 #[.slice A l.length k, .func (.func g) #[] #[.pointer (some ⟨c, 0, none⟩)]] w fun e w' => ∃ i : Int, e = .returned (.int .i64 i) ∧ ((i = -1 ∧ ∀ x ∈ l, p x = false) ∨ ∃ j : Nat, j < l.length ∧ i = j ∧ p (l.getD j 0) = true) ∧ ∃ d, w' = w.drewN d := by
  cases l with
  | nil => exact (Try.slices_IndexFunc_empty (α := Int) A k _ w).mono fun e w' h => ⟨-1, h.1, Or.inl ⟨rfl, fun x hx => by cases hx⟩, 0, h.2⟩
  | cons x0 r =>
    obtain ⟨b, o, rfl, hb, hc⟩ := h.cells (by simp)
    haveI : Inhabited {x // Q x} := ⟨⟨x0, hQ x0 (by simp)⟩⟩
    obtain ⟨l, hle⟩ : ∃ l, l = x0 :: r := ⟨_, rfl⟩
    rw [← hle] at hl hc ⊢
    have hQ : ∀ x ∈ l, Q x := by rw [hle]; exact hQ
    have hC := Try.slices_IndexFunc (α := {x // Q x}) (fun x => .int .i64 x.1) (fun x => p x.1) g #[.pointer (some ⟨c, 0, none⟩)] eg b o l.length k (l.attachWith Q hQ) w (fun W x hb => hp W x.1 x.2 ((hb.cell (cell_lt hcell)).trans hcell)) (by simp) (by omega) (fun j hj => by
      have hj' : j < l.length := by simpa using hj
      rw [hc j hj']
      simp only [att_at Q l hQ j hj'])
    refine hC.mono fun e w' h => ⟨_, h.1, ?_, h.2⟩
    rw [List.take_of_length_le (by simp)]
    rcases idxByFrom_spec (fun _ (y : {x // Q x}) => p y.1) default (l.attachWith Q hQ) 0 with ⟨h1, h2⟩ | ⟨j, h1, h2, h3, h4⟩
    · refine Or.inl ⟨h1, fun x hx => ?_⟩
      obtain ⟨j, hj, rfl⟩ := mem_getD hx
      have := h2 j (by simpa using hj)
      rwa [att_at Q l hQ j hj] at this
    · have hj : j < l.length := by simpa using h1
      refine Or.inr ⟨j, hj, by rw [show idxBy (fun _ (y : {x // Q x}) => p y.1) (l.attachWith Q hQ) default = ((0 + j : Nat) : Int) from h2]; simp, ?_⟩
      rwa [att_at Q l hQ j hj] at h3

theorem clone_any (A : Option Addr) (l : List Int) (k : Nat) (w : World) (h : Ia w w.heap.size A l k) (hl : l.length ≤ 100000) :
    Calls Try.prog 27 #[.slice A l.length k] w fun e w' => ∃ v, e = .returned v ∧ Io w.heap.size w' v l ∧ Below w.heap.size w w' := by
  cases A with
  | none =>
    obtain ⟨rfl, rfl⟩ := h.n rfl
    exact (Try.slices_Clone_int_nil 0 0 w).mono fun e w' h => ⟨_, h.1, Io.nil _ _, by rw [h.2]; exact Below.refl _ _⟩
  | some a =>
    rcases Nat.eq_zero_or_pos l.length with h0 | h0
    · have e : l = [] := List.eq_nil_of_length_eq_zero h0
      subst e
      exact (Try.slices_Clone_int_zero a k w).mono fun e w' ⟨v, h1, h2, _, h3⟩ => ⟨v, h1, h2, h3⟩
    · obtain ⟨b, o, e, hb, hc⟩ := h.cells h0
      rw [e]
      refine (Try.slices_Clone_int b o l.length k l w (Nat.le_refl _) (by omega) hc).mono fun e w' ⟨v, h1, h2, _, h3⟩ => ⟨v, h1, ?_, h3⟩
      rw [List.take_length] at h2
      exact h2

theorem bsearch_any (A : Option Addr) (l : List Int) (k : Nat) (x : Int) (w : World) (h : Ia w w.heap.size A l k) (hl : l.length ≤ 100000) (hs : l.Pairwise (· < ·)) :
    Calls Try.prog 29 #[.slice A l.length k, .int .i64 x] w fun e w' => ∃ c : Int, e = .returned (.tuple #[.int .i64 c, .bool (l.contains x)]) ∧ ∃ d, w' = w.drewN d := by
  rcases Nat.eq_zero_or_pos l.length with h0 | h0
  · have e : l = [] := List.eq_nil_of_length_eq_zero h0
    subst e
    go_enter Try.func29, Try.ntmps29
    go_wp2
    go_loopw [7, 8] (fun i j wr => i = .int .i64 0 ∧ j = .int .i64 0 ∧ ∃ d, wr = w.drewN d) (fun _ _ _ => 0)
    case atStart => exact ⟨rfl, rfl, 0, rfl⟩
    case round =>
      obtain ⟨rfl, rfl, d, rfl⟩ := hrel
      go_wp2
      go_ret2
      exact ⟨_, rfl, _, rfl⟩
  · obtain ⟨b, o, rfl, hb, hc⟩ := h.cells h0
    refine (Try.slices_BinarySearch_int b o l.length k l x w (Nat.le_refl _) (by omega) hc (by rw [List.take_length]; exact hs.imp fun h => Int.le_of_lt h)).mono fun e w' h => ⟨((l.countP (· < x) : Nat) : Int), ?_, h.2⟩
    rw [h.1, List.take_length]

end Go.Proofs.Ytcmdongdjacgbaa
