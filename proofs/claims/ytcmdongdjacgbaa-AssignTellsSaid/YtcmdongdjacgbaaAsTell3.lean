/- The reference's contracts: Level. -/
import Derived.Test.YtcmdongdjacgbaaAsTell2
namespace Go.Proofs.Ytcmdongdjacgbaa
open Go Go.RowKit
set_option linter.unusedVariables false
set_option linter.unusedSimpArgs false

set_option maxRecDepth 100000 in
set_option maxHeartbeats 4000000 in
theorem rLevel14_any (v : Int) (A : Option Addr) (t : List Int) (k : Nat) (B : Option Addr) (s : List Int) (q : Nat) (x : Int) (w : World) (h : Ia w w.heap.size A t k) (hl : t.length ≤ 100000) (h' : Ia w w.heap.size B s q) (hl' : s.length ≤ 100000) :
    Calls Try.prog 15 #[asv v A t.length k B s.length q, .int .i64 x] w fun e w' => e = .returned (.tuple #[.int .i64 (lV v t s x), .int .i64 (lE v t s x)]) ∧ Below w.heap.size w w' := by
  have DC := rCheck14_any v A t k B s q (w.alloc (.cells #[.int .i64 v, .slice A t.length k, .slice B s.length q] 24)) (h.on (bx_on _ _)) hl (h'.on (bx_on _ _)) hl'
  obtain ⟨n, hn⟩ : ∃ n, n = t.length := ⟨_, rfl⟩
  obtain ⟨m, hm⟩ : ∃ m, m = s.length := ⟨_, rfl⟩
  by_cases hO : OkA v t s
  · have DT := fun W => rLit_any v x (by have := hO.1; omega) W
    rw [aE_yes hO] at DC
    cases hL : isL v x with
    | true =>
      have DO := fun (W : World) (hb : Below w.heap.size w W) => rOf_any v (by have := hO.1; omega) A t k B s q x W (h.on hb) hl (h'.on hb) hl' hO.2.1 hL
      rw [hL] at DT
      cases hin : vin t x with
      | true =>
        have e1 : lE v t s x = 0 := lE_0.2 ⟨hO, hL, hin⟩
        have e2 : lV v t s x = (atL s (plc t x) : Nat) := by unfold lV; rw [if_pos e1]
        have e3 : ofL t s x = (atL s (plc t x) : Nat) := by unfold ofL; rw [if_pos hin]
        rw [e3] at DO
        rw [e1, e2]
        obtain ⟨z, hz⟩ : ∃ z, z = atL s (plc t x) := ⟨_, rfl⟩
        rw [← hz] at DO ⊢
        have z0 : ¬ ((z : Int) < 0) := by omega
        rw [← hn, ← hm] at DC DO ⊢
        clear h hl h' hl' hn hm hO hL hin e1 e2 e3 hz
        go_enter Try.func15, Try.ntmps15
        go_wp2_with (first
          | (go_at_call 19; (with_reducible refine DC.mono ?_); rintro e w2 ⟨rfl, hb2⟩
             have c0 := bx_cell hb2 0
             have c1 := bx_cell hb2 1
             have c2 := bx_cell hb2 2
             have HC2 := Lib.hid hb2
             have HB2 := Lib.hid (bx_bn hb2)
             clear hb2)
          | (go_at_call 22; (with_reducible refine (DT _).mono ?_); rintro e w3 ⟨rfl, rfl⟩)
          | (go_at_call 30; (with_reducible refine (DO _ HB2.out).mono ?_); rintro e w4 ⟨rfl, hb4⟩
             have d0 := bx_cell (bn HC2.out hb4) 0
             have d1 := bx_cell (bn HC2.out hb4) 1
             have d2 := bx_cell (bn HC2.out hb4) 2
             have HB4 := Lib.hid (bn HB2.out hb4)
             clear hb4)
          | (go_at_call 30; (with_reducible refine (DO _ HB4.out).mono ?_); rintro e w5 ⟨rfl, hb5⟩
             have HB5 := Lib.hid (bn HB4.out hb5)
             clear hb5))
        go_ret2
        exact ⟨rfl, HB5.out⟩
      | false =>
        have e1 : lE v t s x = 6 := by unfold lE; rw [if_pos hO, if_pos hL, hin]; rfl
        have e2 : lV v t s x = 0 := by unfold lV; rw [if_neg (by rw [e1]; decide)]
        have e3 : ofL t s x = -1 := by unfold ofL; rw [hin]; rfl
        rw [e3] at DO
        rw [e1, e2]
        rw [← hn, ← hm] at DC DO ⊢
        clear h hl h' hl' hn hm hO hL hin e1 e2 e3
        go_enter Try.func15, Try.ntmps15
        go_wp2_with (first
          | (go_at_call 19; (with_reducible refine DC.mono ?_); rintro e w2 ⟨rfl, hb2⟩
             have c0 := bx_cell hb2 0
             have c1 := bx_cell hb2 1
             have c2 := bx_cell hb2 2
             have HC2 := Lib.hid hb2
             have HB2 := Lib.hid (bx_bn hb2)
             clear hb2)
          | (go_at_call 22; (with_reducible refine (DT _).mono ?_); rintro e w3 ⟨rfl, rfl⟩)
          | (go_at_call 30; (with_reducible refine (DO _ HB2.out).mono ?_); rintro e w4 ⟨rfl, hb4⟩
             have d0 := bx_cell (bn HC2.out hb4) 0
             have d1 := bx_cell (bn HC2.out hb4) 1
             have d2 := bx_cell (bn HC2.out hb4) 2
             have HB4 := Lib.hid (bn HB2.out hb4)
             clear hb4))
        go_ret2
        exact ⟨rfl, HB4.out⟩
    | false =>
      have e1 : lE v t s x = 2 := by unfold lE; rw [if_pos hO, hL]; rfl
      have e2 : lV v t s x = 0 := by unfold lV; rw [if_neg (by rw [e1]; decide)]
      rw [hL] at DT
      rw [e1, e2]
      rw [← hn, ← hm] at DC ⊢
      clear h hl h' hl' hn hm hO hL e1 e2
      go_enter Try.func15, Try.ntmps15
      go_wp2_with (first
        | (go_at_call 19; (with_reducible refine DC.mono ?_); rintro e w2 ⟨rfl, hb2⟩
           have c0 := bx_cell hb2 0
           have c1 := bx_cell hb2 1
           have c2 := bx_cell hb2 2
           have HC2 := Lib.hid hb2
           have HB2 := Lib.hid (bx_bn hb2)
           clear hb2)
        | (go_at_call 22; (with_reducible refine (DT _).mono ?_); rintro e w3 ⟨rfl, rfl⟩))
      go_ret2
      exact ⟨rfl, HB2.out⟩
  · have e1 : lE v t s x = 8 := by unfold lE; rw [if_neg hO]
    have e2 : lV v t s x = 0 := by unfold lV; rw [if_neg (by rw [e1]; decide)]
    rw [aE_no hO] at DC
    rw [e1, e2]
    rw [← hn, ← hm] at DC ⊢
    clear h hl h' hl' hn hm hO e1 e2
    go_enter Try.func15, Try.ntmps15
    go_wp2_with (first
      | (go_at_call 19; (with_reducible refine DC.mono ?_); rintro e w2 ⟨rfl, hb2⟩
         have c0 := bx_cell hb2 0
         have c1 := bx_cell hb2 1
         have c2 := bx_cell hb2 2
         have HC2 := Lib.hid hb2
         have HB2 := Lib.hid (bx_bn hb2)
         clear hb2))
    go_ret2
    exact ⟨rfl, HB2.out⟩

end Go.Proofs.Ytcmdongdjacgbaa
