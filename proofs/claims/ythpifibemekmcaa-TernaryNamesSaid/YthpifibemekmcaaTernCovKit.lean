/- Calls of layer 5 as the laws of covering make them. -/
import Derived.Test.YthpifibemekmcaaTernKit
namespace Go.Proofs.Ythpifibemekmcaa
open Go.RowKit
set_option linter.unusedVariables false
set_option linter.unusedSimpArgs false

/-- Covers of two lists of truth values that are as long -/
theorem tCov_at {n : Nat} {f g : Nat → Int} {x : Bool} (hx : covL f g n = x) (hn : n ≤ 100000) (h1 : ∀ j, j < n → isT (f j)) (h2 : ∀ j, j < n → isT (g j)) (A A' : Option Addr) (k k' : Nat) (B : Nat) (w : World) (hA : TrAt w B A n f) (hA' : TrAt w B A' n g) :
    Calls Try.prog 13 #[.slice A n k, .slice A' n k'] w fun e w' => e = .returned (.tuple #[.bool x, .int .i64 0]) ∧ w = w' := by
  have := tCovers_any A A' n n k k' f g B w hn hn hA hA' (fun j hj => ⟨(h1 j hj).lo.1, by have := (h1 j hj).lo.2; omega⟩) (fun j hj => ⟨(h2 j hj).lo.1, by have := (h2 j hj).lo.2; omega⟩)
  have e1 : covV n n f g = x := by unfold covV; rw [allTb_of h1, allTb_of h2]; simpa using hx
  have e2 : covE n n f g = 0 := by unfold covE; rw [allTb_of h1, allTb_of h2]; simp
  rwa [e1, e2] at this
theorem covL_self (f : Nat → Int) (n : Nat) : covL f f n = true := covL_yes fun _ _ => Or.inr rfl

section
variable {c : Cr} {p : Pl}
set_option maxRecDepth 100000 in
set_option maxHeartbeats 4000000 in
/-- the lists are not as long as they have to be -/
theorem tAsked_len (As At : Option Addr) (ns ks ni ki : Nat) (hne : ns ≠ c.nl ∨ (ni : Int) ≠ c.i) (w : World) (hm : Mem w w.heap.size c p) (hs : Sm c) :
    Calls Try.prog 30 #[cv c p, .slice As ns ks, .slice At ni ki] w fun e w' => (∃ x : Int, e = .returned (.int .i64 x) ∧ (x != 0) = true) ∧ Below w.heap.size w w' := by
  have hB0 : Below w.heap.size w w := Below.refl _ _
  by_cases a : c.chk = 0
  · have h : (c.chk != 0) = false := by simp [bne, a]
    by_cases b : ns = c.nl
    · have t1 : ((ns : Int) != (c.nl : Int)) = false := by simp; omega
      have t2 : ((ni : Int) != c.i) = true := by simp; omega
      clear a b hne
      go_enter Try.func30, Try.ntmps30
      go_wp2_with (first
        | (go_at_call 55; (with_reducible refine (rCheck_any c p (w.alloc _) (hm.to (by go_grown) (by go_size)) hs).mono ?_); rintro e w1 ⟨rfl, hb1⟩; obtain ⟨hc1, hf1⟩ := bcell hb1; have hz1 : w.heap.size < w1.heap.size := (by have := hb1.size; (try simp at this); omega); have hB1 : Below w.heap.size w w1 := Below.step (by go_grown) (by go_size) hb1))
      go_ret
      exact ⟨⟨2, rfl, rfl⟩, hB1⟩
    · have t1 : ((ns : Int) != (c.nl : Int)) = true := by simp; omega
      clear a b hne
      go_enter Try.func30, Try.ntmps30
      go_wp2_with (first
        | (go_at_call 55; (with_reducible refine (rCheck_any c p (w.alloc _) (hm.to (by go_grown) (by go_size)) hs).mono ?_); rintro e w1 ⟨rfl, hb1⟩; obtain ⟨hc1, hf1⟩ := bcell hb1; have hz1 : w.heap.size < w1.heap.size := (by have := hb1.size; (try simp at this); omega); have hB1 : Below w.heap.size w w1 := Below.step (by go_grown) (by go_size) hb1))
      go_ret
      exact ⟨⟨2, rfl, rfl⟩, hB1⟩
  · have h : (c.chk != 0) = true := by simpa [bne] using a
    have H := Lib.hid h
    clear a hne
    go_enter Try.func30, Try.ntmps30
    go_wp2_with (first
      | (go_at_call 55; (with_reducible refine (rCheck_any c p (w.alloc _) (hm.to (by go_grown) (by go_size)) hs).mono ?_); rintro e w1 ⟨rfl, hb1⟩; obtain ⟨hc1, hf1⟩ := bcell hb1; have hz1 : w.heap.size < w1.heap.size := (by have := hb1.size; (try simp at this); omega); have hB1 : Below w.heap.size w w1 := Below.step (by go_grown) (by go_size) hb1)
      | (go_at_call 55; (with_reducible refine (rCheck_any c p w1 (hm.to hB1 hB1.size) hs).mono ?_); rintro e w2 ⟨rfl, hb2⟩; have hB2 : Below w.heap.size w w2 := Below.step hB1 hB1.size hb2))
    go_ret
    exact ⟨⟨c.chk, rfl, H.out⟩, hB2⟩
end
theorem Cr.tsk_b3 {c : Cr} {ns ni : Nat} (s t : Nat → Bool) (h : c.ask ns ni = 0) : c.tsk ns ni (fun j => b3 (s j)) (fun j => b3 (t j)) = 0 := by
  unfold tsk
  rw [h, if_neg (by omega), if_pos ⟨allTb_of fun j _ => b3_isT _, allTb_of fun j _ => b3_isT _⟩]
end Go.Proofs.Ythpifibemekmcaa
