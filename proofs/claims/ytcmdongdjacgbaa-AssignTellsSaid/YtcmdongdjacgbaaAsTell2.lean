/- The reference's contracts: Value, Of, Level. -/
import Derived.Test.YtcmdongdjacgbaaAsTell
namespace Go.Proofs.Ytcmdongdjacgbaa
open Go Go.RowKit
set_option linter.unusedVariables false
set_option linter.unusedSimpArgs false

set_option maxRecDepth 100000 in
set_option maxHeartbeats 4000000 in
theorem rValue14_any (v : Int) (A : Option Addr) (t : List Int) (k : Nat) (B : Option Addr) (s : List Int) (q : Nat) (x : Int) (w : World) (h : Ia w w.heap.size A t k) (hl : t.length ≤ 100000) (h' : Ia w w.heap.size B s q) (hl' : s.length ≤ 100000) :
    Calls Try.prog 13 #[asv v A t.length k B s.length q, .int .i64 x] w fun e w' => e = .returned (.tuple #[.int .u8 (vV v t s x), .int .i64 (wE v t s x)]) ∧ Below w.heap.size w w' := by
  have DC := rCheck14_any v A t k B s q (w.alloc (.cells #[.int .i64 v, .slice A t.length k, .slice B s.length q] 24)) (h.on (bx_on _ _)) hl (h'.on (bx_on _ _)) hl'
  obtain ⟨n, hn⟩ : ∃ n, n = t.length := ⟨_, rfl⟩
  obtain ⟨m, hm⟩ : ∃ m, m = s.length := ⟨_, rfl⟩
  by_cases hO : OkA v t s
  · have DT := fun W => rLit_any v x (by have := hO.1; omega) W
    rw [aE_yes hO] at DC
    cases hL : isL v x with
    | true =>
      have e1 : wE v t s x = 0 := wE_0.2 ⟨hO, hL⟩
      have e2 : vV v t s x = isv t x := by unfold vV; rw [if_pos e1]
      have DI := fun (W : World) (hb : Below w.heap.size w W) => rIs_any v v (by have := hO.1; omega) A t k B s.length q x W (h.on hb) hl hO.2.1 hL
      rw [hL] at DT
      rw [e1, e2]
      obtain ⟨z, hz⟩ : ∃ z, z = isv t x := ⟨_, rfl⟩
      rw [← hz] at DI ⊢
      rw [← hn, ← hm] at DC DI ⊢
      clear h hl h' hl' hn hm hO hL e1 e2 hz
      go_enter Try.func13, Try.ntmps13
      go_wp2_with (first
        | (go_at_call 19; (with_reducible refine DC.mono ?_); rintro e w2 ⟨rfl, hb2⟩
           have c0 := bx_cell hb2 0
           have c1 := bx_cell hb2 1
           have c2 := bx_cell hb2 2
           have HB2 := Lib.hid (bx_bn hb2)
           clear hb2)
        | (go_at_call 22; (with_reducible refine (DT _).mono ?_); rintro e w3 ⟨rfl, rfl⟩)
        | (go_at_call 23; (with_reducible refine (DI _ HB2.out).mono ?_); rintro e w4 ⟨rfl, hb4⟩
           have HB4 := Lib.hid (bn HB2.out hb4)
           clear hb4))
      go_ret2
      exact ⟨rfl, HB4.out⟩
    | false =>
      have e1 : wE v t s x = 2 := by unfold wE; rw [if_pos hO, hL]; rfl
      have e2 : vV v t s x = 0 := by unfold vV; rw [if_neg (by rw [e1]; decide)]
      rw [hL] at DT
      rw [e1, e2]
      rw [← hn, ← hm] at DC ⊢
      clear h hl h' hl' hn hm hO hL e1 e2
      go_enter Try.func13, Try.ntmps13
      go_wp2_with (first
        | (go_at_call 19; (with_reducible refine DC.mono ?_); rintro e w2 ⟨rfl, hb2⟩
           have c0 := bx_cell hb2 0
           have HB2 := Lib.hid (bx_bn hb2)
           clear hb2)
        | (go_at_call 22; (with_reducible refine (DT _).mono ?_); rintro e w3 ⟨rfl, rfl⟩))
      go_ret2
      exact ⟨rfl, HB2.out⟩
  · have e1 : wE v t s x = 8 := by unfold wE; rw [if_neg hO]
    have e2 : vV v t s x = 0 := by unfold vV; rw [if_neg (by rw [e1]; decide)]
    rw [aE_no hO] at DC
    rw [e1, e2]
    rw [← hn, ← hm] at DC ⊢
    clear h hl h' hl' hn hm hO e1 e2
    go_enter Try.func13, Try.ntmps13
    go_wp2_with (first
      | (go_at_call 19; (with_reducible refine DC.mono ?_); rintro e w2 ⟨rfl, hb2⟩
         have HB2 := Lib.hid (bx_bn hb2)
         clear hb2))
    go_ret2
    exact ⟨rfl, HB2.out⟩

set_option maxRecDepth 100000 in
set_option maxHeartbeats 4000000 in
theorem rOf_any (v : Int) (hv : v ≤ 4000) (A : Option Addr) (t : List Int) (k : Nat) (B : Option Addr) (s : List Int) (q : Nat) (x : Int) (w : World) (h : Ia w w.heap.size A t k) (hl : t.length ≤ 100000) (h' : Ia w w.heap.size B s q) (hl' : s.length ≤ 100000) (ho : OkT v t) (hx : isL v x = true) :
    Calls Try.prog 30 #[asv v A t.length k B s.length q, .int .i64 x] w fun e w' => e = .returned (.int .i64 (ofL t s x)) ∧ Below w.heap.size w w' := by
  obtain ⟨n, hn⟩ : ∃ n, n = t.length := ⟨_, rfl⟩
  obtain ⟨m, hm⟩ : ∃ m, m = s.length := ⟨_, rfl⟩
  have hl2 : n ≤ 100000 := by omega
  have DA := fun (W : World) (hb : Below w.heap.size w W) (i : Int) => rAt_any v A n k B s q i W (h'.on hb) hl'
  rw [← hm] at DA
  have hr1 := isL_iff.1 hx
  have hx2 := td2 hr1.1
  have hxv : 0 ≤ x / 2 ∧ x / 2 ≤ 4000 := by omega
  rw [← hn, ← hm]
  have HH := Lib.hid (And.intro h (And.intro ho (And.intro hn hv)))
  have HD := Lib.hid DA
  clear h hl h' hl' ho hx hn hm hr1 DA hv
  go_enter Try.func30, Try.ntmps30
  go_wp2
  go_loopw [5] (fun i wr => ∃ j : Nat, j ≤ n ∧ i = .int .i64 (j : Int) ∧ (∀ q, q < j → t.getD q 0 / 2 ≠ x / 2) ∧ ∃ d, wr = (w.alloc (.cells #[.int .i64 v, .slice A n k, .slice B m q] 24)).drewN d) (fun i _ => n - (intOf i).toNat)
  case atStart => exact ⟨0, Nat.zero_le _, rfl, fun q hq => absurd hq (Nat.not_lt_zero _), 0, rfl⟩
  case round =>
    obtain ⟨j, hj, rfl, hok, d, rfl⟩ := hrel
    have c0 : ((w.alloc (.cells #[.int .i64 v, .slice A n k, .slice B m q] 24)).drewN d).cell? ⟨w.heap.size, 0, none⟩ = some (.int .i64 v) := box_c d 0
    have c1 : ((w.alloc (.cells #[.int .i64 v, .slice A n k, .slice B m q] 24)).drewN d).cell? ⟨w.heap.size, 1, none⟩ = some (.slice A n k) := box_c d 1
    have c2 : ((w.alloc (.cells #[.int .i64 v, .slice A n k, .slice B m q] 24)).drewN d).cell? ⟨w.heap.size, 2, none⟩ = some (.slice B m q) := box_c d 2
    by_cases hlt : j < n
    · obtain ⟨b, o, rfl, hb0, hcs⟩ := HH.out.1.cells (by have := HH.out.2.2; omega)
      have hjl : j < t.length := by have := HH.out.2.2; omega
      have y0 := hcs j hjl
      have hBd := below_dn (bx_on w (.cells #[.int .i64 v, .slice (some ⟨b, o, none⟩) n k, .slice B m q] 24)) d
      have yy := (hBd.cell (cell_lt y0)).trans y0
      have hj1 : (j : Int) < (n : Int) := by omega
      have hj0 : (0 : Int) ≤ (j : Int) := by omega
      have hpl := isL_iff.1 (HH.out.2.1.1 _ (getD_mem hjl))
      have hv4 := HH.out.2.2.2
      have DA := HD.out _ hBd (j : Int)
      have hat : t.getD j 0 / 2 = x / 2 → ofL t s x = (atL s (j : Int) : Nat) := fun e => by
        unfold ofL; rw [if_pos (vin_iff.2 ⟨_, getD_mem hjl, e⟩), plc_at HH.out.2.1 hjl e]
      obtain ⟨p, hp⟩ : ∃ p, p = t.getD j 0 := ⟨_, rfl⟩
      rw [← hp] at yy hpl hat
      have hp2 := td2 hpl.1
      have hpv : 0 ≤ p / 2 ∧ p / 2 ≤ 4000 := by omega
      have HP := Lib.hid hp
      have HBd := Lib.hid hBd
      clear hcs y0 hp hpl hBd hv4
      by_cases e1 : p / 2 = x / 2
      · have f1 : (p / 2 == x / 2) = true := by simpa using e1
        have HR := Lib.hid (hat e1)
        clear hok e1 hat
        go_wp2_with (first
          | (go_at_call 40; (with_reducible refine DA.mono ?_); rintro e w2 ⟨rfl, hb2⟩))
        go_ret
        exact ⟨by rw [HR.out]; rfl, bn HBd.out hb2⟩
      · have f1 : (p / 2 == x / 2) = false := by simpa using e1
        have HK := Lib.hid (And.intro hok (show t.getD j 0 / 2 ≠ x / 2 by rw [← HP.out]; exact e1))
        clear hok e1 hat DA
        go_wp2
        go_roundw
        case rel => exact ⟨j + 1, by omega, by go_num, fun q hq => by
          rcases Nat.lt_succ_iff_lt_or_eq.1 hq with h' | h'
          · exact HK.out.1 q h'
          · subst h'; exact HK.out.2, _, rfl⟩
        case measure => simp [intOf]; omega
    · have HR := Lib.hid (show ofL t s x = -1 by
        unfold ofL
        rw [if_neg (by
          rw [vin_no.2 fun y hy => by
            obtain ⟨q, hq, rfl⟩ := mem_getD hy
            exact hok q (by have := HH.out.2.2.1; omega)]
          decide)])
      have hjn : ¬ (j : Int) < (n : Int) := by omega
      clear hok
      go_wp2
      go_ret
      exact ⟨by rw [HR.out]; rfl, below_dn (bx_on _ _) d⟩

end Go.Proofs.Ytcmdongdjacgbaa
