/- For a valid assignment of at most 200 literals, at most 60 literals and for each whether it is a decision: what is decided and implied behind the assignment, and then undone to the level before, leaves it as it was. No conditions. -/
import Derived.Test.YtcefphdabomlpaaAsGuard
namespace Go.Proofs.Ytcefphdabomlpaa.assignBack
open Go.ChangeShapes Go.WideShapes Go.ChangeAt Go.RowKit
set_option linter.unusedVariables false
set_option linter.unusedSimpArgs false

/-- what stands behind an assignment after p literals more -/
def Inv (t0 s0 T S : List Int) (n p : Nat) : Prop := (p = 0 ∧ T = t0 ∧ S = s0) ∨ (0 < p ∧ ∃ U V, T = t0 ++ U ∧ U.length = p ∧ S = s0 ++ (n : Int) :: V)
theorem Inv.len {t0 s0 T S : List Int} {n p : Nat} (h : Inv t0 s0 T S n p) : T.length = t0.length + p ∧ s0.length ≤ S.length := by
  rcases h with ⟨rfl, rfl, rfl⟩ | ⟨_, U, V, rfl, rfl, rfl⟩
  · exact ⟨rfl, Nat.le_refl _⟩
  · exact ⟨List.length_append, by rw [List.length_append]; omega⟩
theorem Inv.dec {t0 s0 T S : List Int} {n p : Nat} (h : Inv t0 s0 T S n p) (hn : n = t0.length) (x : Int) : Inv t0 s0 (T ++ [x]) (S ++ [(T.length : Int)]) n (p + 1) := by
  refine Or.inr ⟨Nat.succ_pos _, ?_⟩
  rcases h with ⟨rfl, rfl, rfl⟩ | ⟨_, U, V, rfl, rfl, rfl⟩
  · exact ⟨[x], [], rfl, rfl, by rw [hn]⟩
  · exact ⟨U ++ [x], V ++ [((t0 ++ U).length : Int)], by rw [List.append_assoc], by simp, by simp⟩
theorem Inv.imp {t0 s0 T S : List Int} {n p : Nat} (h : Inv t0 s0 T S n p) (hp : 0 < p) (x : Int) : Inv t0 s0 (T ++ [x]) S n (p + 1) := by
  rcases h with ⟨rfl, _, _⟩ | ⟨_, U, V, rfl, rfl, rfl⟩
  · omega
  · exact Or.inr ⟨Nat.succ_pos _, U ++ [x], V, by rw [List.append_assoc], by simp, rfl⟩
theorem Inv.undo {t0 s0 T S : List Int} {n p m : Nat} (h : Inv t0 s0 T S n p) (hn : n = t0.length) (hm : m = s0.length) : usz T.length S m = n ∧ T.take n = t0 ∧ S.take m = s0 := by
  subst hn hm
  rcases h with ⟨rfl, rfl, rfl⟩ | ⟨_, U, V, rfl, rfl, rfl⟩
  · refine ⟨?_, List.take_length, List.take_length⟩
    unfold usz; rw [if_neg (Nat.lt_irrefl _)]
  · refine ⟨?_, List.take_left, List.take_left⟩
    unfold usz
    rw [if_pos (by rw [List.length_append, List.length_cons]; omega)]
    simp
/-- the assignment as it goes on -/
structure Rb (a0 : Int) (t0 s0 : List Int) (n g : Nat) (wr : World) (A : Option Addr) (n' k : Nat) (T : List Int) (B : Option Addr) (m' q : Nat) (S : List Int) (p : Nat) : Prop where
  b : Bs g wr (.int .i64 a0) (.slice A n' k) (.slice B m' q)
  w : Nw 0 wr A n' k T B m' q S
  o : OkA a0 T S
  i : Inv t0 s0 T S n p

theorem own : ownKnob Try.prog.godebug = none := by kernel_rfl

set_option maxRecDepth 100000 in
set_option maxHeartbeats 40000000 in
theorem walk (a0 : Int) (A0 : Option Addr) (t0 : List Int) (k0 : Nat) (B0 : Option Addr) (s0 : List Int) (q0 : Nat) (A1 : Option Addr) (l1 : List Int) (k1 : Nat) (A2 : Option Addr) (n2 k2 : Nat) (f2 : Nat → Bool) (w : World) (w0 : (Lit.int .i64 a0).wf = true) (hm0 : Ia w w.heap.size A0 t0 k0) (hr0 : ∀ x ∈ t0, I64 x) (hK0 : k0 ≤ maxLen) (hn0 : Ia w w.heap.size B0 s0 q0) (hs0 : ∀ x ∈ s0, I64 x) (hQ0 : q0 ≤ maxLen) (hm1 : Ia w w.heap.size A1 l1 k1) (hr1 : ∀ x ∈ l1, I64 x) (hK1 : k1 ≤ maxLen) (hm2 : BlsAt w w.heap.size A2 n2 f2) (hN2 : A2 = none → n2 = 0 ∧ k2 = 0) (hC2 : n2 ≤ k2 ∧ k2 ≤ maxLen) :
    Calls Try.prog 5 #[.agg #[.int .i64 a0, .slice A0 t0.length k0, .slice B0 s0.length q0], .slice A1 l1.length k1, .slice A2 n2 k2] w fun e w' => e = .returned (.bool true) ∧ Below w.heap.size w w' := by
  have hv0 := i64_of w0
  clear w0
  have hkl : k1 ≤ 9223372036854775807 := hK1
  have hkd : n2 ≤ 9223372036854775807 := Nat.le_trans hC2.1 hC2.2
  obtain ⟨nl, hnl⟩ : ∃ nl, nl = l1.length := ⟨_, rfl⟩
  have hl63 : nl ≤ 9223372036854775807 := by have := hm1.c; omega
  have hk0 : k0 ≤ 9223372036854775807 ∧ q0 ≤ 9223372036854775807 := ⟨hK0, hQ0⟩
  obtain ⟨n, hn⟩ : ∃ n, n = t0.length := ⟨_, rfl⟩
  obtain ⟨m, hm⟩ : ∃ m, m = s0.length := ⟨_, rfl⟩
  have hn63 : n ≤ 9223372036854775807 := by have := hm0.c; omega
  have hm63 : m ≤ 9223372036854775807 := by have := hn0.c; omega
  have hNw := Nw.arg hm0 hn0 hn hm
  rw [← hn, ← hm, ← hnl]
  have DA := alive14_any (w.alloc (.cells #[.int .i64 a0, .slice A0 n k0, .slice B0 m q0] 24))
  have DG := fun W => rGreat14_any a0 A0 n k0 B0 m q0 W hn63 hm63
  by_cases hg : 200 < n ∨ 200 < m
  · rw [show decide (200 < n ∨ 200 < m) = true from decide_eq_true hg] at DG
    clear hm1 hr1 hK1 hm2 hN2 hC2 hnl hm0 hr0 hK0 hn0 hs0 hQ0 hn hm hk0 hNw hg hn63 hm63
    go_enter Try.func5, Try.ntmps5
    go_wp2_with (first
      | (go_at_call 26; (with_reducible refine DA.mono ?_); rintro e w3 ⟨rfl, hb3⟩
         have c0 := bx_cell hb3 0
         have c1 := bx_cell hb3 1
         have c2 := bx_cell hb3 2
         have HC3 := Lib.hid hb3
         have HB3 := Lib.hid (bx_bn hb3)
         clear hb3)
      | (go_at_call 9; (with_reducible refine (DG w3).mono ?_); rintro e w4 ⟨rfl, hb4⟩
         have d0 := bx_cell (bn HC3.out hb4) 0
         have d1 := bx_cell (bn HC3.out hb4) 1
         have d2 := bx_cell (bn HC3.out hb4) 2
         have HC4 := Lib.hid (bn HC3.out hb4)
         have HB4 := Lib.hid (bn HB3.out hb4)
         clear hb4))
    go_ret
    exact ⟨rfl, HB4.out⟩
  · rw [show decide (200 < n ∨ 200 < m) = false from decide_eq_false hg] at DG
    have DC := fun (W : World) (hb : Below w.heap.size w W) => (hNw.on hb).rcheck (by omega) (by omega) a0
    by_cases hO : OkA a0 t0 s0
    case neg =>
      rw [aE_no hO] at DC
      clear hm1 hr1 hK1 hm2 hN2 hC2 hnl hm0 hr0 hK0 hn0 hs0 hQ0 hn hm hk0 hNw hg hn63 hm63 hO
      go_enter Try.func5, Try.ntmps5
      go_wp2_with (first
        | (go_at_call 26; (with_reducible refine DA.mono ?_); rintro e w3 ⟨rfl, hb3⟩
           have c0 := bx_cell hb3 0
           have c1 := bx_cell hb3 1
           have c2 := bx_cell hb3 2
           have HC3 := Lib.hid hb3
           have HB3 := Lib.hid (bx_bn hb3)
           clear hb3)
        | (go_at_call 9; (with_reducible refine (DG w3).mono ?_); rintro e w4 ⟨rfl, hb4⟩
           have d0 := bx_cell (bn HC3.out hb4) 0
           have d1 := bx_cell (bn HC3.out hb4) 1
           have d2 := bx_cell (bn HC3.out hb4) 2
           have HC4 := Lib.hid (bn HC3.out hb4)
           have HB4 := Lib.hid (bn HB3.out hb4)
           clear hb4)
        | (go_at_call 24; (with_reducible refine (DC w4 HB4.out).mono ?_); rintro e w5 ⟨rfl, hb5⟩
           have e0 := bx_cell (bn HC4.out hb5) 0
           have e1 := bx_cell (bn HC4.out hb5) 1
           have e2 := bx_cell (bn HC4.out hb5) 2
           have HC5 := Lib.hid (bn HC4.out hb5)
           have HB5 := Lib.hid (bn HB4.out hb5)
           clear hb5))
      go_ret
      exact ⟨rfl, HB5.out⟩
    case pos =>
      rw [aE_yes hO] at DC
      by_cases hg6 : 60 < nl
      case pos =>
        have hg7 : (60 : Int) < (nl : Int) := by omega
        clear hm1 hr1 hK1 hm2 hN2 hC2 hnl hm0 hr0 hK0 hn0 hs0 hQ0 hn hm hk0 hNw hg hn63 hm63 hO hg6
        go_enter Try.func5, Try.ntmps5
        go_wp2_with (first
          | (go_at_call 26; (with_reducible refine DA.mono ?_); rintro e w3 ⟨rfl, hb3⟩
             have c0 := bx_cell hb3 0
             have c1 := bx_cell hb3 1
             have c2 := bx_cell hb3 2
             have HC3 := Lib.hid hb3
             have HB3 := Lib.hid (bx_bn hb3)
             clear hb3)
          | (go_at_call 9; (with_reducible refine (DG w3).mono ?_); rintro e w4 ⟨rfl, hb4⟩
             have d0 := bx_cell (bn HC3.out hb4) 0
             have d1 := bx_cell (bn HC3.out hb4) 1
             have d2 := bx_cell (bn HC3.out hb4) 2
             have HC4 := Lib.hid (bn HC3.out hb4)
             have HB4 := Lib.hid (bn HB3.out hb4)
             clear hb4)
          | (go_at_call 24; (with_reducible refine (DC w4 HB4.out).mono ?_); rintro e w5 ⟨rfl, hb5⟩
             have e0 := bx_cell (bn HC4.out hb5) 0
             have e1 := bx_cell (bn HC4.out hb5) 1
             have e2 := bx_cell (bn HC4.out hb5) 2
             have HC5 := Lib.hid (bn HC4.out hb5)
             have HB5 := Lib.hid (bn HB4.out hb5)
             clear hb5))
        go_ret
        exact ⟨rfl, HB5.out⟩
      case neg =>
        have hg7 : ¬ (60 : Int) < (nl : Int) := by omega
        by_cases hg8 : n2 < nl
        case pos =>
          have hg9 : (n2 : Int) < (nl : Int) := by omega
          clear hm1 hr1 hK1 hm2 hN2 hC2 hnl hm0 hr0 hK0 hn0 hs0 hQ0 hn hm hk0 hNw hg hn63 hm63 hO hg6 hg8
          go_enter Try.func5, Try.ntmps5
          go_wp2_with (first
            | (go_at_call 26; (with_reducible refine DA.mono ?_); rintro e w3 ⟨rfl, hb3⟩
               have c0 := bx_cell hb3 0
               have c1 := bx_cell hb3 1
               have c2 := bx_cell hb3 2
               have HC3 := Lib.hid hb3
               have HB3 := Lib.hid (bx_bn hb3)
               clear hb3)
            | (go_at_call 9; (with_reducible refine (DG w3).mono ?_); rintro e w4 ⟨rfl, hb4⟩
               have d0 := bx_cell (bn HC3.out hb4) 0
               have d1 := bx_cell (bn HC3.out hb4) 1
               have d2 := bx_cell (bn HC3.out hb4) 2
               have HC4 := Lib.hid (bn HC3.out hb4)
               have HB4 := Lib.hid (bn HB3.out hb4)
               clear hb4)
            | (go_at_call 24; (with_reducible refine (DC w4 HB4.out).mono ?_); rintro e w5 ⟨rfl, hb5⟩
               have e0 := bx_cell (bn HC4.out hb5) 0
               have e1 := bx_cell (bn HC4.out hb5) 1
               have e2 := bx_cell (bn HC4.out hb5) 2
               have HC5 := Lib.hid (bn HC4.out hb5)
               have HB5 := Lib.hid (bn HB4.out hb5)
               clear hb5))
          go_ret
          exact ⟨rfl, HB5.out⟩
        case neg =>
          have hg9 : ¬ (n2 : Int) < (nl : Int) := by omega
          have HI := Lib.hid (And.intro hm1 (And.intro hr1 (And.intro hnl (And.intro hm2 hg8))))
          have HO := Lib.hid (And.intro hO (And.intro hn (And.intro hm (And.intro hNw (show n ≤ 200 ∧ nl ≤ 60 by omega)))))
          clear hm1 hr1 hK1 hm2 hN2 hC2 hnl hm0 hr0 hK0 hn0 hs0 hQ0 hn hm hk0 hNw hg hn63 hm63 hO hg6
          go_enter Try.func5, Try.ntmps5
          go_wp2_with (first
            | (go_at_call 26; (with_reducible refine DA.mono ?_); rintro e w3 ⟨rfl, hb3⟩
               have c0 := bx_cell hb3 0
               have c1 := bx_cell hb3 1
               have c2 := bx_cell hb3 2
               have HC3 := Lib.hid hb3
               have HB3 := Lib.hid (bx_bn hb3)
               clear hb3)
            | (go_at_call 9; (with_reducible refine (DG w3).mono ?_); rintro e w4 ⟨rfl, hb4⟩
               have d0 := bx_cell (bn HC3.out hb4) 0
               have d1 := bx_cell (bn HC3.out hb4) 1
               have d2 := bx_cell (bn HC3.out hb4) 2
               have HC4 := Lib.hid (bn HC3.out hb4)
               have HB4 := Lib.hid (bn HB3.out hb4)
               clear hb4)
            | (go_at_call 24; (with_reducible refine (DC w4 HB4.out).mono ?_); rintro e w5 ⟨rfl, hb5⟩
               have e0 := bx_cell (bn HC4.out hb5) 0
               have e1 := bx_cell (bn HC4.out hb5) 1
               have e2 := bx_cell (bn HC4.out hb5) 2
               have HC5 := Lib.hid (bn HC4.out hb5)
               have HB5 := Lib.hid (bn HB4.out hb5)
               clear hb5))
          have hx5 := bx_on w5 (.cells #[.int .i64 a0, .slice A0 n k0, .slice B0 m q0] 24)
          have H5 := Lib.hid (And.intro (bn HB5.out hx5) (And.intro ((Has.new w 24 #[.int .i64 a0, .slice A0 n k0, .slice B0 m q0]).keep (bn HC5.out hx5) (Has.new w _ _).lt) (And.intro (show Rb a0 t0 s0 n w5.heap.size (w5.alloc (.cells #[.int .i64 a0, .slice A0 n k0, .slice B0 m q0] 24)) A0 n k0 t0 B0 m q0 s0 0 from ⟨Bs.new w5 _ _ _, HO.out.2.2.2.1.on (bn HB5.out hx5), HO.out.1, Or.inl ⟨rfl, rfl, rfl⟩⟩) HB5.out.size)))
          have HX5 := Lib.hid (show w.heap.size < w5.heap.size by have := (Has.new w 24 #[.int .i64 a0, .slice A0 n k0, .slice B0 m q0]).lt; have := HC5.out.size; omega)
          clear hx5
          go_loopw [9, 10] (fun pp i wr => ∃ (j p : Nat) (A : Option Addr) (n' k : Nat) (T : List Int) (B : Option Addr) (m' q : Nat) (S : List Int), j ≤ nl ∧ i = .int .i64 (j : Int) ∧ pp = .int .i64 (p : Int) ∧ p ≤ j ∧ Below w.heap.size w wr ∧ Has wr w.heap.size 24 #[.int .i64 a0, .slice A0 n k0, .slice B0 m q0] ∧ Rb a0 t0 s0 n w5.heap.size wr A n' k T B m' q S p) (fun _ i _ => nl - (intOf i).toNat)
          case atStart => exact ⟨0, 0, A0, n, k0, t0, B0, m, q0, s0, Nat.zero_le _, rfl, rfl, Nat.le_refl _, H5.out.1, H5.out.2.1, H5.out.2.2.1⟩
          case round =>
            obtain ⟨j, p, A, n', k, T, B, m', q, S, hj, rfl, rfl, hpj, hB, hC, hR⟩ := hrel
            have hnT : n' = n + p := by have := hR.w.nt; have := hR.i.len.1; have := HO.out.2.1; omega
            have hn260 : n' ≤ 260 := by have := HO.out.2.2.2.2; omega
            have hm260 : m' ≤ 260 := by have := hR.w.ms; have := hR.o.2.2.len; have := hR.w.nt; omega
            have hn260' : n' ≤ 100000 := by omega
            have hm260' : m' ≤ 100000 := by omega
            by_cases hlt : j < nl
            · obtain ⟨bl, ol, rfl, hb0, hcs⟩ := HI.out.1.cells (by have := HI.out.2.2.1; omega)
              have hjl : j < l1.length := by have := HI.out.2.2.1; omega
              have y0 := hcs j hjl
              have hx64 := HI.out.2.1 _ (getD_mem hjl)
              obtain ⟨ad, rfl, hbd, hcd⟩ := HI.out.2.2.2.1 (by have := HI.out.2.2.2.2; omega)
              have v0 := hcd j (by have := HI.out.2.2.2.2; omega)
              have hbz := hB.trans ((bx_on wr (.cells #[.int .i64 0, .slice none 0 0, .slice none 0 0] 24)).mono hB.size)
              have vv := (hbz.cell (cell_lt v0)).trans v0
              have yy := (hbz.cell (cell_lt y0)).trans y0
              have hj1 : (j : Int) < (nl : Int) := by omega
              have hj0 : (0 : Int) ≤ (j : Int) := by omega
              have hj2 : (j : Int) < (n2 : Int) := by omega
              obtain ⟨x, hx⟩ : ∃ x, x = l1.getD j 0 := ⟨_, rfl⟩
              rw [← hx] at yy hx64
              obtain ⟨dv, hdv⟩ : ∃ dv, dv = f2 j := ⟨_, rfl⟩
              rw [← hdv] at vv
              have hzz := bx_on wr (.cells #[.int .i64 0, .slice none 0 0, .slice none 0 0] 24)
              have hNz := hR.w.on hzz
              have hBz := hR.b.on hzz
              have hYz := Bs.new wr (.int .i64 0) (.slice none 0 0) (.slice none 0 0)
              have hg11 : w5.heap.size < wr.heap.size := hR.b.h.lt
              have hnT1 : n' + 1 ≤ 261 := by omega
              have HR := Lib.hid (And.intro hR (And.intro hB (And.intro hC (And.intro hzz (And.intro hg11 (And.intro hYz (And.intro hnT hpj)))))))
              have hWz : Below w.heap.size w (wr.alloc (.cells #[.int .i64 0, .slice none 0 0, .slice none 0 0] 24)) := bn hB hzz
              have DD := (hNz.on (below_dn (Below.refl _ _) 1)).decideA (by omega) (by omega) hR.o x hx64
              have DI := (hNz.on (below_dn (Below.refl _ _) 1)).implyA (by omega) (by omega) hR.o x hx64
              have hpe := pE_0 (v := a0) (t := T) (s := S) (x := x)
              have hpy := p_yes (v := a0) (t := T) (s := S) (x := x)
              have hpn := fun d => p_no (v := a0) (t := T) (s := S) (x := x) (d := d)
              have HP := Lib.hid (And.intro hpe (And.intro hpy hpn))
              clear hcs hcd y0 v0 hx hdv hpe hpy hpn hnT hn260 hm260 hn260' hm260'
              have hS0 : (fun W : World => (W.cell? ⟨w5.heap.size, 0, none⟩ = some (.int .i64 a0) ∧ W.cell? ⟨w5.heap.size, 1, none⟩ = some (.slice A n' k) ∧ W.cell? ⟨w5.heap.size, 2, none⟩ = some (.slice B m' q)) ∧ W.cell? ⟨bl, ol + j, none⟩ = some (.int .i64 x)) (wr.alloc (.cells #[.int .i64 0, .slice none 0 0, .slice none 0 0] 24)).drew := ⟨hBz.c, yy⟩
              have HSk := Lib.hid (And.intro hBz yy)
              clear hR hB hC hzz hNz hBz hYz hbz hWz yy
              have hnn : (((n' : Int) + 1) != ((n' : Int) + 1)) = false := by simp
              rcases (show (p = 0) ∨ (0 < p ∧ dv = true) ∨ (0 < p ∧ dv = false) by cases dv <;> simp <;> omega) with hp | ⟨hp, rfl⟩ | ⟨hp, rfl⟩
              · have hp1 : ((p : Int) == 0) = true := by simp; omega
                by_cases hE : pE a0 T S x = 0
                · have hok := HP.out.1.1 hE
                  obtain ⟨p1, p2, p3, p4⟩ := HP.out.2.1 hE
                  rw [p1, p2, p3, hE] at DD
                  have hCo := DD.mono fun e w' h => h.nw (n := n' + 1) (m := m' + 1) (by rw [List.length_append, ← HR.out.1.w.nt]; rfl) (by rw [List.length_append, ← HR.out.1.w.ms]; rfl)
                  have HOK := Lib.hid hok
                  clear DD DI p1 p2 p3 p4 hok hE
                  go_wp2
                  refine wp_slots (fun f => Sz f 120 ∧ Slot f 1 (.slice (some ⟨bl, ol, none⟩) nl k1) ∧ Slot f 8 (.pointer (some ⟨w5.heap.size, 0, none⟩)) ∧ Slot f 10 (.int .i64 (j : Int)) ∧ Slot f 11 (.pointer (some ⟨wr.heap.size, 0, none⟩))) ⟨⟨rfl, rfl⟩, ⟨rfl⟩, ⟨rfl⟩, ⟨rfl⟩, ⟨rfl⟩⟩ fun a0' hA0 hR' => ?_
                  obtain ⟨hZ, hs1, hs8, hs10, hs11⟩ := hR'
                  have HA := Lib.hid hA0
                  clear hA0 vv
                  refine wp_region_T (fun W : World => (W.cell? ⟨w5.heap.size, 0, none⟩ = some (.int .i64 a0) ∧ W.cell? ⟨w5.heap.size, 1, none⟩ = some (.slice A n' k) ∧ W.cell? ⟨w5.heap.size, 2, none⟩ = some (.slice B m' q)) ∧ W.cell? ⟨bl, ol + j, none⟩ = some (.int .i64 x)) 11 (by kernel_rfl) ?_
                  refine WT.h ?_
                  (refine wt_take1 0 8 (v := ?_) rfl rfl (by kernel_rfl) (by kernel_rfl) (by kernel_rfl) (by kernel_rfl) (fun _ _ _ h => h) rfl hS0 (by (repeat (first | (refine slot_hit (N := 120) ?_ (by rfl); (repeat (refine sz_put ?_)); assumption; done) | (apply slot_miss; focus rfl))); all_goals assumption) (fun ev hk hv0 w hS => ?_) ?_; rotate_left; focus (obtain ⟨⟨j0, j1, j2⟩, j3⟩ := hS; go_simp; rfl)); (refine wt_move 1 1 rfl rfl (by kernel_rfl) (by kernel_rfl) (by kernel_rfl) (by kernel_rfl) (fun _ _ _ h => h) rfl hS0 (by (repeat (first | (refine slot_hit (N := 120) ?_ (by rfl); (repeat (refine sz_put ?_)); assumption; done) | (apply slot_miss; focus rfl))); all_goals assumption) rfl ?_); (refine wt_move 2 10 rfl rfl (by kernel_rfl) (by kernel_rfl) (by kernel_rfl) (by kernel_rfl) (fun _ _ _ h => h) rfl hS0 (by (repeat (first | (refine slot_hit (N := 120) ?_ (by rfl); (repeat (refine sz_put ?_)); assumption; done) | (apply slot_miss; focus rfl))); all_goals assumption) rfl ?_); (refine wt_take2 3 57 58 (v := ?_) rfl rfl (by kernel_rfl) (by kernel_rfl) (by kernel_rfl) (by kernel_rfl) (fun _ _ _ h => h) rfl hS0 (by (repeat (first | (refine slot_hit (N := 120) ?_ (by rfl); (repeat (refine sz_put ?_)); assumption; done) | (apply slot_miss; focus rfl))); all_goals assumption) (by (repeat (first | (refine slot_hit (N := 120) ?_ (by rfl); (repeat (refine sz_put ?_)); assumption; done) | (apply slot_miss; focus rfl))); all_goals assumption) (fun ev hk hv0 hv1 w hS => ?_) ?_; rotate_left; focus (obtain ⟨⟨j0, j1, j2⟩, j3⟩ := hS; go_simp; rfl)); (refine wt_take1 4 59 (v := ?_) rfl rfl (by kernel_rfl) (by kernel_rfl) (by kernel_rfl) (by kernel_rfl) (fun _ _ _ h => h) rfl hS0 (by (repeat (first | (refine slot_hit (N := 120) ?_ (by rfl); (repeat (refine sz_put ?_)); assumption; done) | (apply slot_miss; focus rfl))); all_goals assumption) (fun ev hk hv0 w hS => ?_) ?_; rotate_left; focus (obtain ⟨⟨j0, j1, j2⟩, j3⟩ := hS; go_simp; rfl))
                  refine wt_call2 5 56 60 (by kernel_rfl) rfl rfl rfl (by (repeat (first | (refine slot_hit (N := 120) ?_ (by rfl); (repeat (refine sz_put ?_)); assumption; done) | (apply slot_miss; focus rfl))); all_goals assumption) (by (repeat (first | (refine slot_hit (N := 120) ?_ (by rfl); (repeat (refine sz_put ?_)); assumption; done) | (apply slot_miss; focus rfl))); all_goals assumption) (f := ?_) (args := ?_) (fun ev hk hkf hv0 hv1 => ?_) ?_; rotate_left 2; focus (go_simp; first | rfl | (constructor <;> rfl))
                  refine hCo.mono ?_
                  rintro e w6 ⟨A6, k6, B6, q6, rfl, hN6, hb6⟩
                  have hb6' := bn (below_dn (Below.refl _ _) 1) hb6
                  have hB6 := HSk.out.1.on hb6'
                  have hY6 := HR.out.2.2.2.2.2.1.on hb6'
                  obtain ⟨z0, z1, z2⟩ := hY6.c
                  obtain ⟨zf0, zf1, zf2⟩ := hY6.f
                  have hl6 := (hb6'.cell (cell_lt HSk.out.2)).trans HSk.out.2
                  have hS0 : (fun W : World => (W.cell? ⟨w5.heap.size, 0, none⟩ = some (.int .i64 a0) ∧ W.cell? ⟨w5.heap.size, 1, none⟩ = some (.slice A n' k) ∧ W.cell? ⟨w5.heap.size, 2, none⟩ = some (.slice B m' q)) ∧ W.cell? ⟨bl, ol + j, none⟩ = some (.int .i64 x)) w6 := ⟨hB6.c, hl6⟩
                  refine ⟨_, rfl, fun _ => hS0, ?_⟩
                  (refine wt_move 6 61 rfl rfl (by kernel_rfl) (by kernel_rfl) (by kernel_rfl) (by kernel_rfl) (fun _ _ _ h => h) rfl hS0 (by (repeat (first | (refine slot_hit (N := 120) ?_ (by rfl); (repeat (refine sz_put ?_)); assumption; done) | (apply slot_miss; focus rfl))); all_goals assumption) rfl ?_); (refine wt_take1 7 55 (v := ?_) rfl rfl (by kernel_rfl) (by kernel_rfl) (by kernel_rfl) (by kernel_rfl) (fun _ _ _ h => h) rfl hS0 (by (repeat (first | (refine slot_hit (N := 120) ?_ (by rfl); (repeat (refine sz_put ?_)); assumption; done) | (apply slot_miss; focus rfl))); all_goals assumption) (fun ev hk hv0 w hS => ?_) ?_; rotate_left; focus (obtain ⟨⟨j0, j1, j2⟩, j3⟩ := hS; go_simp; rfl)); (refine wt_take1 8 55 (v := ?_) rfl rfl (by kernel_rfl) (by kernel_rfl) (by kernel_rfl) (by kernel_rfl) (fun _ _ _ h => h) rfl hS0 (by (repeat (first | (refine slot_hit (N := 120) ?_ (by rfl); (repeat (refine sz_put ?_)); assumption; done) | (apply slot_miss; focus rfl))); all_goals assumption) (fun ev hk hv0 w hS => ?_) ?_; rotate_left; focus (obtain ⟨⟨j0, j1, j2⟩, j3⟩ := hS; go_simp; rfl))
                  refine wt_act2 9 11 62 (by kernel_rfl) rfl rfl rfl (by (repeat (first | (refine slot_hit (N := 120) ?_ (by rfl); (repeat (refine sz_put ?_)); assumption; done) | (apply slot_miss; focus rfl))); all_goals assumption) (by (repeat (first | (refine slot_hit (N := 120) ?_ (by rfl); (repeat (refine sz_put ?_)); assumption; done) | (apply slot_miss; focus rfl))); all_goals assumption) (w' := ?_) (fun ev hk hv0 hv1 => ?_) ?_; rotate_left; focus (go_simp; rfl)
                  have hbt := st3_below (bn HR.out.2.2.2.1 hb6') (Nat.le_refl _) (.int .i64 a0) (.slice A6 (n' + 1) k6) (.slice B6 (m' + 1) q6)
                  have hN7 := (hN6.low (show wr.heap.size + 1 ≤ _ by simp [World.drewN, World.drew])).st3 (Nat.lt_succ_self wr.heap.size) (.int .i64 a0) (.slice A6 (n' + 1) k6) (.slice B6 (m' + 1) q6)
                  have hY7 := hY6.st (.int .i64 a0) (.slice A6 (n' + 1) k6) (.slice B6 (m' + 1) q6)
                  have hB7 := hB6.far (Nat.ne_of_lt HR.out.2.2.2.2.1) (.int .i64 a0) (.slice A6 (n' + 1) k6) (.slice B6 (m' + 1) q6)
                  have hl7 := (st3_cell (W := w6) (b := wr.heap.size) (g := bl) (j := ol + j) (by have := hb0; have := HR.out.2.1.size; omega) (.int .i64 a0) (.slice A6 (n' + 1) k6) (.slice B6 (m' + 1) q6)).trans hl6
                  unfold st3 at hbt hN7 hY7 hB7 hl7
                  generalize ((w6.setCell ⟨wr.heap.size, 0, none⟩ (.int .i64 a0)).setCell ⟨wr.heap.size, 1, none⟩ (.slice A6 (n' + 1) k6)).setCell ⟨wr.heap.size, 2, none⟩ (.slice B6 (m' + 1) q6) = W7 at hbt hN7 hY7 hB7 hl7 ⊢
                  have hS0 : (fun W : World => (W.cell? ⟨w5.heap.size, 0, none⟩ = some (.int .i64 a0) ∧ W.cell? ⟨w5.heap.size, 1, none⟩ = some (.slice A n' k) ∧ W.cell? ⟨w5.heap.size, 2, none⟩ = some (.slice B m' q)) ∧ W.cell? ⟨bl, ol + j, none⟩ = some (.int .i64 x)) W7 := ⟨hB7.c, hl7⟩
                  refine ⟨fun _ => hS0, ?_⟩
                  clear z0 z1 z2 zf0 zf1 zf2 hb6 hb6' hN6 hB6 hY6 hl6
                  (refine wt_assign 10 63 rfl rfl (by kernel_rfl) (by kernel_rfl) (by kernel_rfl) (by kernel_rfl) (fun _ _ _ h => h) rfl hS0 (by (repeat (first | (refine slot_hit (N := 120) ?_ (by rfl); (repeat (refine sz_put ?_)); assumption; done) | (apply slot_miss; focus rfl))); all_goals assumption) rfl ?_)
                  refine wt_done (by kernel_rfl) (NoPanic.normal ?_) _
                  have ha := HA.out
                  subst ha
                  obtain ⟨y0, y1, y2⟩ := hY7.c
                  obtain ⟨x0, x1, x2⟩ := hB7.c
                  have hOk7 : OkA a0 (T ++ [x]) (S ++ [(T.length : Int)]) := HR.out.1.o.decided HOK.out.2.1 HOK.out.2.2
                  have DC := hN7.check (by omega) (by have := hOk7.2.2.len; have := hN7.ms; have := hN7.nt; omega) hOk7
                  have H7 := Lib.hid (And.intro hbt (And.intro hN7 (And.intro hY7 (And.intro hB7 hOk7))))
                  clear hs1 hs8 hs10 hs11 hZ hS0 hCo hbt hN7 hY7 hB7 hl7 hOk7
                  go_wp2_with (first
                    | (go_at_call 23; (with_reducible refine DC.mono ?_); rintro e w9 ⟨rfl, hb9⟩
                       obtain ⟨q0', q1', q2'⟩ := (H7.out.2.2.1.on hb9).c
                       obtain ⟨r0', r1', r2'⟩ := (H7.out.2.2.2.1.on hb9).c
                       obtain ⟨rf0, rf1, rf2⟩ := (H7.out.2.2.2.1.on hb9).f
                       have H9 := Lib.hid (And.intro (bn H7.out.1 hb9) (And.intro (H7.out.2.1.on hb9) (H7.out.2.2.2.1.on hb9)))
                       clear hb9))
                  go_roundw
                  case rel =>
                    have hW9 : Below w.heap.size w w9 := bn HR.out.2.1 H9.out.1
                    refine ⟨j + 1, p + 1, A6, n' + 1, k6, T ++ [x], B6, m' + 1, q6, S ++ [(T.length : Int)], by omega, by go_num, by go_num, by have := HR.out.2.2.2.2.2.2.2; omega, ?_, ?_, ?_⟩
                    · exact st3_below hW9 H5.out.2.2.2 _ _ _
                    · exact (((HR.out.2.2.1.keep H9.out.1 HR.out.2.2.1.lt).far (q := ⟨w5.heap.size, 0, none⟩) (show w.heap.size ≠ w5.heap.size by have := HX5.out; omega) _).far (q := ⟨w5.heap.size, 1, none⟩) (show w.heap.size ≠ w5.heap.size by have := HX5.out; omega) _).far (q := ⟨w5.heap.size, 2, none⟩) (show w.heap.size ≠ w5.heap.size by have := HX5.out; omega) _
                    · exact ⟨H9.out.2.2.st _ _ _, ((H9.out.2.1.low (show w5.heap.size + 1 ≤ wr.heap.size + 1 by have := HR.out.2.2.2.2.1; omega)).st3 (Nat.lt_succ_self _) _ _ _).low (Nat.zero_le _), H7.out.2.2.2.2, HR.out.1.i.dec HO.out.2.1 x⟩
                  case measure => simp [intOf]; omega
                · obtain ⟨p1, p2, p3⟩ := HP.out.2.2 true hE
                  rw [p1, p2, p3] at DD
                  have hne : (pE a0 T S x != 0) = true := by simpa using hE
                  obtain ⟨u, hu⟩ : ∃ u, u = pE a0 T S x := ⟨_, rfl⟩
                  rw [← hu] at DD hne
                  have hCo := DD.mono fun e w' h => h.nw (n := 0) (m := 0) rfl rfl
                  clear DD DI p1 p2 p3 hE hu
                  go_wp2
                  refine wp_slots (fun f => Sz f 120 ∧ Slot f 1 (.slice (some ⟨bl, ol, none⟩) nl k1) ∧ Slot f 8 (.pointer (some ⟨w5.heap.size, 0, none⟩)) ∧ Slot f 10 (.int .i64 (j : Int)) ∧ Slot f 11 (.pointer (some ⟨wr.heap.size, 0, none⟩))) ⟨⟨rfl, rfl⟩, ⟨rfl⟩, ⟨rfl⟩, ⟨rfl⟩, ⟨rfl⟩⟩ fun a0' hA0 hR' => ?_
                  obtain ⟨hZ, hs1, hs8, hs10, hs11⟩ := hR'
                  have HA := Lib.hid hA0
                  clear hA0 vv
                  refine wp_region_T (fun W : World => (W.cell? ⟨w5.heap.size, 0, none⟩ = some (.int .i64 a0) ∧ W.cell? ⟨w5.heap.size, 1, none⟩ = some (.slice A n' k) ∧ W.cell? ⟨w5.heap.size, 2, none⟩ = some (.slice B m' q)) ∧ W.cell? ⟨bl, ol + j, none⟩ = some (.int .i64 x)) 11 (by kernel_rfl) ?_
                  refine WT.h ?_
                  (refine wt_take1 0 8 (v := ?_) rfl rfl (by kernel_rfl) (by kernel_rfl) (by kernel_rfl) (by kernel_rfl) (fun _ _ _ h => h) rfl hS0 (by (repeat (first | (refine slot_hit (N := 120) ?_ (by rfl); (repeat (refine sz_put ?_)); assumption; done) | (apply slot_miss; focus rfl))); all_goals assumption) (fun ev hk hv0 w hS => ?_) ?_; rotate_left; focus (obtain ⟨⟨j0, j1, j2⟩, j3⟩ := hS; go_simp; rfl)); (refine wt_move 1 1 rfl rfl (by kernel_rfl) (by kernel_rfl) (by kernel_rfl) (by kernel_rfl) (fun _ _ _ h => h) rfl hS0 (by (repeat (first | (refine slot_hit (N := 120) ?_ (by rfl); (repeat (refine sz_put ?_)); assumption; done) | (apply slot_miss; focus rfl))); all_goals assumption) rfl ?_); (refine wt_move 2 10 rfl rfl (by kernel_rfl) (by kernel_rfl) (by kernel_rfl) (by kernel_rfl) (fun _ _ _ h => h) rfl hS0 (by (repeat (first | (refine slot_hit (N := 120) ?_ (by rfl); (repeat (refine sz_put ?_)); assumption; done) | (apply slot_miss; focus rfl))); all_goals assumption) rfl ?_); (refine wt_take2 3 57 58 (v := ?_) rfl rfl (by kernel_rfl) (by kernel_rfl) (by kernel_rfl) (by kernel_rfl) (fun _ _ _ h => h) rfl hS0 (by (repeat (first | (refine slot_hit (N := 120) ?_ (by rfl); (repeat (refine sz_put ?_)); assumption; done) | (apply slot_miss; focus rfl))); all_goals assumption) (by (repeat (first | (refine slot_hit (N := 120) ?_ (by rfl); (repeat (refine sz_put ?_)); assumption; done) | (apply slot_miss; focus rfl))); all_goals assumption) (fun ev hk hv0 hv1 w hS => ?_) ?_; rotate_left; focus (obtain ⟨⟨j0, j1, j2⟩, j3⟩ := hS; go_simp; rfl)); (refine wt_take1 4 59 (v := ?_) rfl rfl (by kernel_rfl) (by kernel_rfl) (by kernel_rfl) (by kernel_rfl) (fun _ _ _ h => h) rfl hS0 (by (repeat (first | (refine slot_hit (N := 120) ?_ (by rfl); (repeat (refine sz_put ?_)); assumption; done) | (apply slot_miss; focus rfl))); all_goals assumption) (fun ev hk hv0 w hS => ?_) ?_; rotate_left; focus (obtain ⟨⟨j0, j1, j2⟩, j3⟩ := hS; go_simp; rfl))
                  refine wt_call2 5 56 60 (by kernel_rfl) rfl rfl rfl (by (repeat (first | (refine slot_hit (N := 120) ?_ (by rfl); (repeat (refine sz_put ?_)); assumption; done) | (apply slot_miss; focus rfl))); all_goals assumption) (by (repeat (first | (refine slot_hit (N := 120) ?_ (by rfl); (repeat (refine sz_put ?_)); assumption; done) | (apply slot_miss; focus rfl))); all_goals assumption) (f := ?_) (args := ?_) (fun ev hk hkf hv0 hv1 => ?_) ?_; rotate_left 2; focus (go_simp; first | rfl | (constructor <;> rfl))
                  refine hCo.mono ?_
                  rintro e w6 ⟨A6, k6, B6, q6, rfl, hN6, hb6⟩
                  have hb6' := bn (below_dn (Below.refl _ _) 1) hb6
                  have hB6 := HSk.out.1.on hb6'
                  have hY6 := HR.out.2.2.2.2.2.1.on hb6'
                  obtain ⟨z0, z1, z2⟩ := hY6.c
                  obtain ⟨zf0, zf1, zf2⟩ := hY6.f
                  have hl6 := (hb6'.cell (cell_lt HSk.out.2)).trans HSk.out.2
                  have hS0 : (fun W : World => (W.cell? ⟨w5.heap.size, 0, none⟩ = some (.int .i64 a0) ∧ W.cell? ⟨w5.heap.size, 1, none⟩ = some (.slice A n' k) ∧ W.cell? ⟨w5.heap.size, 2, none⟩ = some (.slice B m' q)) ∧ W.cell? ⟨bl, ol + j, none⟩ = some (.int .i64 x)) w6 := ⟨hB6.c, hl6⟩
                  refine ⟨_, rfl, fun _ => hS0, ?_⟩
                  (refine wt_move 6 61 rfl rfl (by kernel_rfl) (by kernel_rfl) (by kernel_rfl) (by kernel_rfl) (fun _ _ _ h => h) rfl hS0 (by (repeat (first | (refine slot_hit (N := 120) ?_ (by rfl); (repeat (refine sz_put ?_)); assumption; done) | (apply slot_miss; focus rfl))); all_goals assumption) rfl ?_); (refine wt_take1 7 55 (v := ?_) rfl rfl (by kernel_rfl) (by kernel_rfl) (by kernel_rfl) (by kernel_rfl) (fun _ _ _ h => h) rfl hS0 (by (repeat (first | (refine slot_hit (N := 120) ?_ (by rfl); (repeat (refine sz_put ?_)); assumption; done) | (apply slot_miss; focus rfl))); all_goals assumption) (fun ev hk hv0 w hS => ?_) ?_; rotate_left; focus (obtain ⟨⟨j0, j1, j2⟩, j3⟩ := hS; go_simp; rfl)); (refine wt_take1 8 55 (v := ?_) rfl rfl (by kernel_rfl) (by kernel_rfl) (by kernel_rfl) (by kernel_rfl) (fun _ _ _ h => h) rfl hS0 (by (repeat (first | (refine slot_hit (N := 120) ?_ (by rfl); (repeat (refine sz_put ?_)); assumption; done) | (apply slot_miss; focus rfl))); all_goals assumption) (fun ev hk hv0 w hS => ?_) ?_; rotate_left; focus (obtain ⟨⟨j0, j1, j2⟩, j3⟩ := hS; go_simp; rfl))
                  refine wt_act2 9 11 62 (by kernel_rfl) rfl rfl rfl (by (repeat (first | (refine slot_hit (N := 120) ?_ (by rfl); (repeat (refine sz_put ?_)); assumption; done) | (apply slot_miss; focus rfl))); all_goals assumption) (by (repeat (first | (refine slot_hit (N := 120) ?_ (by rfl); (repeat (refine sz_put ?_)); assumption; done) | (apply slot_miss; focus rfl))); all_goals assumption) (w' := ?_) (fun ev hk hv0 hv1 => ?_) ?_; rotate_left; focus (go_simp; rfl)
                  have hbt := st3_below (bn HR.out.2.2.2.1 hb6') (Nat.le_refl _) (.int .i64 0) (.slice A6 0 k6) (.slice B6 0 q6)
                  have hB7 := hB6.far (Nat.ne_of_lt HR.out.2.2.2.2.1) (.int .i64 0) (.slice A6 0 k6) (.slice B6 0 q6)
                  have hl7 := (st3_cell (W := w6) (b := wr.heap.size) (g := bl) (j := ol + j) (by have := hb0; have := HR.out.2.1.size; omega) (.int .i64 0) (.slice A6 0 k6) (.slice B6 0 q6)).trans hl6
                  unfold st3 at hbt hB7 hl7
                  generalize ((w6.setCell ⟨wr.heap.size, 0, none⟩ (.int .i64 0)).setCell ⟨wr.heap.size, 1, none⟩ (.slice A6 0 k6)).setCell ⟨wr.heap.size, 2, none⟩ (.slice B6 0 q6) = W7 at hbt hB7 hl7 ⊢
                  have hS0 : (fun W : World => (W.cell? ⟨w5.heap.size, 0, none⟩ = some (.int .i64 a0) ∧ W.cell? ⟨w5.heap.size, 1, none⟩ = some (.slice A n' k) ∧ W.cell? ⟨w5.heap.size, 2, none⟩ = some (.slice B m' q)) ∧ W.cell? ⟨bl, ol + j, none⟩ = some (.int .i64 x)) W7 := ⟨hB7.c, hl7⟩
                  refine ⟨fun _ => hS0, ?_⟩
                  clear z0 z1 z2 zf0 zf1 zf2 hb6 hb6' hN6 hB6 hY6 hl6
                  (refine wt_assign 10 63 rfl rfl (by kernel_rfl) (by kernel_rfl) (by kernel_rfl) (by kernel_rfl) (fun _ _ _ h => h) rfl hS0 (by (repeat (first | (refine slot_hit (N := 120) ?_ (by rfl); (repeat (refine sz_put ?_)); assumption; done) | (apply slot_miss; focus rfl))); all_goals assumption) rfl ?_)
                  refine wt_done (by kernel_rfl) (NoPanic.normal ?_) _
                  have ha := HA.out
                  subst ha
                  have H7 := Lib.hid hbt
                  clear hs1 hs8 hs10 hs11 hZ hS0 hCo hbt hB7 hl7
                  go_wp2
                  go_roundw
                  case rel => exact ⟨j + 1, p, A, n', k, T, B, m', q, S, by omega, by go_num, by go_num, by have := HR.out.2.2.2.2.2.2.2; omega, bn HR.out.2.1 H7.out, HR.out.2.2.1.keep H7.out HR.out.2.2.1.lt, ⟨HR.out.1.b.on H7.out, HR.out.1.w.on H7.out, HR.out.1.o, HR.out.1.i⟩⟩
                  case measure => simp [intOf]; omega
              · have hp1 : ((p : Int) == 0) = false := by simp; omega
                by_cases hE : pE a0 T S x = 0
                · have hok := HP.out.1.1 hE
                  obtain ⟨p1, p2, p3, p4⟩ := HP.out.2.1 hE
                  rw [p1, p2, p3, hE] at DD
                  have hCo := DD.mono fun e w' h => h.nw (n := n' + 1) (m := m' + 1) (by rw [List.length_append, ← HR.out.1.w.nt]; rfl) (by rw [List.length_append, ← HR.out.1.w.ms]; rfl)
                  have HOK := Lib.hid hok
                  clear DD DI p1 p2 p3 p4 hok hE
                  go_wp2
                  refine wp_slots (fun f => Sz f 120 ∧ Slot f 1 (.slice (some ⟨bl, ol, none⟩) nl k1) ∧ Slot f 8 (.pointer (some ⟨w5.heap.size, 0, none⟩)) ∧ Slot f 10 (.int .i64 (j : Int)) ∧ Slot f 11 (.pointer (some ⟨wr.heap.size, 0, none⟩))) ⟨⟨rfl, rfl⟩, ⟨rfl⟩, ⟨rfl⟩, ⟨rfl⟩, ⟨rfl⟩⟩ fun a0' hA0 hR' => ?_
                  obtain ⟨hZ, hs1, hs8, hs10, hs11⟩ := hR'
                  have HA := Lib.hid hA0
                  clear hA0 vv
                  refine wp_region_T (fun W : World => (W.cell? ⟨w5.heap.size, 0, none⟩ = some (.int .i64 a0) ∧ W.cell? ⟨w5.heap.size, 1, none⟩ = some (.slice A n' k) ∧ W.cell? ⟨w5.heap.size, 2, none⟩ = some (.slice B m' q)) ∧ W.cell? ⟨bl, ol + j, none⟩ = some (.int .i64 x)) 11 (by kernel_rfl) ?_
                  refine WT.h ?_
                  (refine wt_take1 0 8 (v := ?_) rfl rfl (by kernel_rfl) (by kernel_rfl) (by kernel_rfl) (by kernel_rfl) (fun _ _ _ h => h) rfl hS0 (by (repeat (first | (refine slot_hit (N := 120) ?_ (by rfl); (repeat (refine sz_put ?_)); assumption; done) | (apply slot_miss; focus rfl))); all_goals assumption) (fun ev hk hv0 w hS => ?_) ?_; rotate_left; focus (obtain ⟨⟨j0, j1, j2⟩, j3⟩ := hS; go_simp; rfl)); (refine wt_move 1 1 rfl rfl (by kernel_rfl) (by kernel_rfl) (by kernel_rfl) (by kernel_rfl) (fun _ _ _ h => h) rfl hS0 (by (repeat (first | (refine slot_hit (N := 120) ?_ (by rfl); (repeat (refine sz_put ?_)); assumption; done) | (apply slot_miss; focus rfl))); all_goals assumption) rfl ?_); (refine wt_move 2 10 rfl rfl (by kernel_rfl) (by kernel_rfl) (by kernel_rfl) (by kernel_rfl) (fun _ _ _ h => h) rfl hS0 (by (repeat (first | (refine slot_hit (N := 120) ?_ (by rfl); (repeat (refine sz_put ?_)); assumption; done) | (apply slot_miss; focus rfl))); all_goals assumption) rfl ?_); (refine wt_take2 3 57 58 (v := ?_) rfl rfl (by kernel_rfl) (by kernel_rfl) (by kernel_rfl) (by kernel_rfl) (fun _ _ _ h => h) rfl hS0 (by (repeat (first | (refine slot_hit (N := 120) ?_ (by rfl); (repeat (refine sz_put ?_)); assumption; done) | (apply slot_miss; focus rfl))); all_goals assumption) (by (repeat (first | (refine slot_hit (N := 120) ?_ (by rfl); (repeat (refine sz_put ?_)); assumption; done) | (apply slot_miss; focus rfl))); all_goals assumption) (fun ev hk hv0 hv1 w hS => ?_) ?_; rotate_left; focus (obtain ⟨⟨j0, j1, j2⟩, j3⟩ := hS; go_simp; rfl)); (refine wt_take1 4 59 (v := ?_) rfl rfl (by kernel_rfl) (by kernel_rfl) (by kernel_rfl) (by kernel_rfl) (fun _ _ _ h => h) rfl hS0 (by (repeat (first | (refine slot_hit (N := 120) ?_ (by rfl); (repeat (refine sz_put ?_)); assumption; done) | (apply slot_miss; focus rfl))); all_goals assumption) (fun ev hk hv0 w hS => ?_) ?_; rotate_left; focus (obtain ⟨⟨j0, j1, j2⟩, j3⟩ := hS; go_simp; rfl))
                  refine wt_call2 5 56 60 (by kernel_rfl) rfl rfl rfl (by (repeat (first | (refine slot_hit (N := 120) ?_ (by rfl); (repeat (refine sz_put ?_)); assumption; done) | (apply slot_miss; focus rfl))); all_goals assumption) (by (repeat (first | (refine slot_hit (N := 120) ?_ (by rfl); (repeat (refine sz_put ?_)); assumption; done) | (apply slot_miss; focus rfl))); all_goals assumption) (f := ?_) (args := ?_) (fun ev hk hkf hv0 hv1 => ?_) ?_; rotate_left 2; focus (go_simp; first | rfl | (constructor <;> rfl))
                  refine hCo.mono ?_
                  rintro e w6 ⟨A6, k6, B6, q6, rfl, hN6, hb6⟩
                  have hb6' := bn (below_dn (Below.refl _ _) 1) hb6
                  have hB6 := HSk.out.1.on hb6'
                  have hY6 := HR.out.2.2.2.2.2.1.on hb6'
                  obtain ⟨z0, z1, z2⟩ := hY6.c
                  obtain ⟨zf0, zf1, zf2⟩ := hY6.f
                  have hl6 := (hb6'.cell (cell_lt HSk.out.2)).trans HSk.out.2
                  have hS0 : (fun W : World => (W.cell? ⟨w5.heap.size, 0, none⟩ = some (.int .i64 a0) ∧ W.cell? ⟨w5.heap.size, 1, none⟩ = some (.slice A n' k) ∧ W.cell? ⟨w5.heap.size, 2, none⟩ = some (.slice B m' q)) ∧ W.cell? ⟨bl, ol + j, none⟩ = some (.int .i64 x)) w6 := ⟨hB6.c, hl6⟩
                  refine ⟨_, rfl, fun _ => hS0, ?_⟩
                  (refine wt_move 6 61 rfl rfl (by kernel_rfl) (by kernel_rfl) (by kernel_rfl) (by kernel_rfl) (fun _ _ _ h => h) rfl hS0 (by (repeat (first | (refine slot_hit (N := 120) ?_ (by rfl); (repeat (refine sz_put ?_)); assumption; done) | (apply slot_miss; focus rfl))); all_goals assumption) rfl ?_); (refine wt_take1 7 55 (v := ?_) rfl rfl (by kernel_rfl) (by kernel_rfl) (by kernel_rfl) (by kernel_rfl) (fun _ _ _ h => h) rfl hS0 (by (repeat (first | (refine slot_hit (N := 120) ?_ (by rfl); (repeat (refine sz_put ?_)); assumption; done) | (apply slot_miss; focus rfl))); all_goals assumption) (fun ev hk hv0 w hS => ?_) ?_; rotate_left; focus (obtain ⟨⟨j0, j1, j2⟩, j3⟩ := hS; go_simp; rfl)); (refine wt_take1 8 55 (v := ?_) rfl rfl (by kernel_rfl) (by kernel_rfl) (by kernel_rfl) (by kernel_rfl) (fun _ _ _ h => h) rfl hS0 (by (repeat (first | (refine slot_hit (N := 120) ?_ (by rfl); (repeat (refine sz_put ?_)); assumption; done) | (apply slot_miss; focus rfl))); all_goals assumption) (fun ev hk hv0 w hS => ?_) ?_; rotate_left; focus (obtain ⟨⟨j0, j1, j2⟩, j3⟩ := hS; go_simp; rfl))
                  refine wt_act2 9 11 62 (by kernel_rfl) rfl rfl rfl (by (repeat (first | (refine slot_hit (N := 120) ?_ (by rfl); (repeat (refine sz_put ?_)); assumption; done) | (apply slot_miss; focus rfl))); all_goals assumption) (by (repeat (first | (refine slot_hit (N := 120) ?_ (by rfl); (repeat (refine sz_put ?_)); assumption; done) | (apply slot_miss; focus rfl))); all_goals assumption) (w' := ?_) (fun ev hk hv0 hv1 => ?_) ?_; rotate_left; focus (go_simp; rfl)
                  have hbt := st3_below (bn HR.out.2.2.2.1 hb6') (Nat.le_refl _) (.int .i64 a0) (.slice A6 (n' + 1) k6) (.slice B6 (m' + 1) q6)
                  have hN7 := (hN6.low (show wr.heap.size + 1 ≤ _ by simp [World.drewN, World.drew])).st3 (Nat.lt_succ_self wr.heap.size) (.int .i64 a0) (.slice A6 (n' + 1) k6) (.slice B6 (m' + 1) q6)
                  have hY7 := hY6.st (.int .i64 a0) (.slice A6 (n' + 1) k6) (.slice B6 (m' + 1) q6)
                  have hB7 := hB6.far (Nat.ne_of_lt HR.out.2.2.2.2.1) (.int .i64 a0) (.slice A6 (n' + 1) k6) (.slice B6 (m' + 1) q6)
                  have hl7 := (st3_cell (W := w6) (b := wr.heap.size) (g := bl) (j := ol + j) (by have := hb0; have := HR.out.2.1.size; omega) (.int .i64 a0) (.slice A6 (n' + 1) k6) (.slice B6 (m' + 1) q6)).trans hl6
                  unfold st3 at hbt hN7 hY7 hB7 hl7
                  generalize ((w6.setCell ⟨wr.heap.size, 0, none⟩ (.int .i64 a0)).setCell ⟨wr.heap.size, 1, none⟩ (.slice A6 (n' + 1) k6)).setCell ⟨wr.heap.size, 2, none⟩ (.slice B6 (m' + 1) q6) = W7 at hbt hN7 hY7 hB7 hl7 ⊢
                  have hS0 : (fun W : World => (W.cell? ⟨w5.heap.size, 0, none⟩ = some (.int .i64 a0) ∧ W.cell? ⟨w5.heap.size, 1, none⟩ = some (.slice A n' k) ∧ W.cell? ⟨w5.heap.size, 2, none⟩ = some (.slice B m' q)) ∧ W.cell? ⟨bl, ol + j, none⟩ = some (.int .i64 x)) W7 := ⟨hB7.c, hl7⟩
                  refine ⟨fun _ => hS0, ?_⟩
                  clear z0 z1 z2 zf0 zf1 zf2 hb6 hb6' hN6 hB6 hY6 hl6
                  (refine wt_assign 10 63 rfl rfl (by kernel_rfl) (by kernel_rfl) (by kernel_rfl) (by kernel_rfl) (fun _ _ _ h => h) rfl hS0 (by (repeat (first | (refine slot_hit (N := 120) ?_ (by rfl); (repeat (refine sz_put ?_)); assumption; done) | (apply slot_miss; focus rfl))); all_goals assumption) rfl ?_)
                  refine wt_done (by kernel_rfl) (NoPanic.normal ?_) _
                  have ha := HA.out
                  subst ha
                  obtain ⟨y0, y1, y2⟩ := hY7.c
                  obtain ⟨x0, x1, x2⟩ := hB7.c
                  have hOk7 : OkA a0 (T ++ [x]) (S ++ [(T.length : Int)]) := HR.out.1.o.decided HOK.out.2.1 HOK.out.2.2
                  have DC := hN7.check (by omega) (by have := hOk7.2.2.len; have := hN7.ms; have := hN7.nt; omega) hOk7
                  have H7 := Lib.hid (And.intro hbt (And.intro hN7 (And.intro hY7 (And.intro hB7 hOk7))))
                  clear hs1 hs8 hs10 hs11 hZ hS0 hCo hbt hN7 hY7 hB7 hl7 hOk7
                  go_wp2_with (first
                    | (go_at_call 23; (with_reducible refine DC.mono ?_); rintro e w9 ⟨rfl, hb9⟩
                       obtain ⟨q0', q1', q2'⟩ := (H7.out.2.2.1.on hb9).c
                       obtain ⟨r0', r1', r2'⟩ := (H7.out.2.2.2.1.on hb9).c
                       obtain ⟨rf0, rf1, rf2⟩ := (H7.out.2.2.2.1.on hb9).f
                       have H9 := Lib.hid (And.intro (bn H7.out.1 hb9) (And.intro (H7.out.2.1.on hb9) (H7.out.2.2.2.1.on hb9)))
                       clear hb9))
                  go_roundw
                  case rel =>
                    have hW9 : Below w.heap.size w w9 := bn HR.out.2.1 H9.out.1
                    refine ⟨j + 1, p + 1, A6, n' + 1, k6, T ++ [x], B6, m' + 1, q6, S ++ [(T.length : Int)], by omega, by go_num, by go_num, by have := HR.out.2.2.2.2.2.2.2; omega, ?_, ?_, ?_⟩
                    · exact st3_below hW9 H5.out.2.2.2 _ _ _
                    · exact (((HR.out.2.2.1.keep H9.out.1 HR.out.2.2.1.lt).far (q := ⟨w5.heap.size, 0, none⟩) (show w.heap.size ≠ w5.heap.size by have := HX5.out; omega) _).far (q := ⟨w5.heap.size, 1, none⟩) (show w.heap.size ≠ w5.heap.size by have := HX5.out; omega) _).far (q := ⟨w5.heap.size, 2, none⟩) (show w.heap.size ≠ w5.heap.size by have := HX5.out; omega) _
                    · exact ⟨H9.out.2.2.st _ _ _, ((H9.out.2.1.low (show w5.heap.size + 1 ≤ wr.heap.size + 1 by have := HR.out.2.2.2.2.1; omega)).st3 (Nat.lt_succ_self _) _ _ _).low (Nat.zero_le _), H7.out.2.2.2.2, HR.out.1.i.dec HO.out.2.1 x⟩
                  case measure => simp [intOf]; omega
                · obtain ⟨p1, p2, p3⟩ := HP.out.2.2 true hE
                  rw [p1, p2, p3] at DD
                  have hne : (pE a0 T S x != 0) = true := by simpa using hE
                  obtain ⟨u, hu⟩ : ∃ u, u = pE a0 T S x := ⟨_, rfl⟩
                  rw [← hu] at DD hne
                  have hCo := DD.mono fun e w' h => h.nw (n := 0) (m := 0) rfl rfl
                  clear DD DI p1 p2 p3 hE hu
                  go_wp2
                  refine wp_slots (fun f => Sz f 120 ∧ Slot f 1 (.slice (some ⟨bl, ol, none⟩) nl k1) ∧ Slot f 8 (.pointer (some ⟨w5.heap.size, 0, none⟩)) ∧ Slot f 10 (.int .i64 (j : Int)) ∧ Slot f 11 (.pointer (some ⟨wr.heap.size, 0, none⟩))) ⟨⟨rfl, rfl⟩, ⟨rfl⟩, ⟨rfl⟩, ⟨rfl⟩, ⟨rfl⟩⟩ fun a0' hA0 hR' => ?_
                  obtain ⟨hZ, hs1, hs8, hs10, hs11⟩ := hR'
                  have HA := Lib.hid hA0
                  clear hA0 vv
                  refine wp_region_T (fun W : World => (W.cell? ⟨w5.heap.size, 0, none⟩ = some (.int .i64 a0) ∧ W.cell? ⟨w5.heap.size, 1, none⟩ = some (.slice A n' k) ∧ W.cell? ⟨w5.heap.size, 2, none⟩ = some (.slice B m' q)) ∧ W.cell? ⟨bl, ol + j, none⟩ = some (.int .i64 x)) 11 (by kernel_rfl) ?_
                  refine WT.h ?_
                  (refine wt_take1 0 8 (v := ?_) rfl rfl (by kernel_rfl) (by kernel_rfl) (by kernel_rfl) (by kernel_rfl) (fun _ _ _ h => h) rfl hS0 (by (repeat (first | (refine slot_hit (N := 120) ?_ (by rfl); (repeat (refine sz_put ?_)); assumption; done) | (apply slot_miss; focus rfl))); all_goals assumption) (fun ev hk hv0 w hS => ?_) ?_; rotate_left; focus (obtain ⟨⟨j0, j1, j2⟩, j3⟩ := hS; go_simp; rfl)); (refine wt_move 1 1 rfl rfl (by kernel_rfl) (by kernel_rfl) (by kernel_rfl) (by kernel_rfl) (fun _ _ _ h => h) rfl hS0 (by (repeat (first | (refine slot_hit (N := 120) ?_ (by rfl); (repeat (refine sz_put ?_)); assumption; done) | (apply slot_miss; focus rfl))); all_goals assumption) rfl ?_); (refine wt_move 2 10 rfl rfl (by kernel_rfl) (by kernel_rfl) (by kernel_rfl) (by kernel_rfl) (fun _ _ _ h => h) rfl hS0 (by (repeat (first | (refine slot_hit (N := 120) ?_ (by rfl); (repeat (refine sz_put ?_)); assumption; done) | (apply slot_miss; focus rfl))); all_goals assumption) rfl ?_); (refine wt_take2 3 57 58 (v := ?_) rfl rfl (by kernel_rfl) (by kernel_rfl) (by kernel_rfl) (by kernel_rfl) (fun _ _ _ h => h) rfl hS0 (by (repeat (first | (refine slot_hit (N := 120) ?_ (by rfl); (repeat (refine sz_put ?_)); assumption; done) | (apply slot_miss; focus rfl))); all_goals assumption) (by (repeat (first | (refine slot_hit (N := 120) ?_ (by rfl); (repeat (refine sz_put ?_)); assumption; done) | (apply slot_miss; focus rfl))); all_goals assumption) (fun ev hk hv0 hv1 w hS => ?_) ?_; rotate_left; focus (obtain ⟨⟨j0, j1, j2⟩, j3⟩ := hS; go_simp; rfl)); (refine wt_take1 4 59 (v := ?_) rfl rfl (by kernel_rfl) (by kernel_rfl) (by kernel_rfl) (by kernel_rfl) (fun _ _ _ h => h) rfl hS0 (by (repeat (first | (refine slot_hit (N := 120) ?_ (by rfl); (repeat (refine sz_put ?_)); assumption; done) | (apply slot_miss; focus rfl))); all_goals assumption) (fun ev hk hv0 w hS => ?_) ?_; rotate_left; focus (obtain ⟨⟨j0, j1, j2⟩, j3⟩ := hS; go_simp; rfl))
                  refine wt_call2 5 56 60 (by kernel_rfl) rfl rfl rfl (by (repeat (first | (refine slot_hit (N := 120) ?_ (by rfl); (repeat (refine sz_put ?_)); assumption; done) | (apply slot_miss; focus rfl))); all_goals assumption) (by (repeat (first | (refine slot_hit (N := 120) ?_ (by rfl); (repeat (refine sz_put ?_)); assumption; done) | (apply slot_miss; focus rfl))); all_goals assumption) (f := ?_) (args := ?_) (fun ev hk hkf hv0 hv1 => ?_) ?_; rotate_left 2; focus (go_simp; first | rfl | (constructor <;> rfl))
                  refine hCo.mono ?_
                  rintro e w6 ⟨A6, k6, B6, q6, rfl, hN6, hb6⟩
                  have hb6' := bn (below_dn (Below.refl _ _) 1) hb6
                  have hB6 := HSk.out.1.on hb6'
                  have hY6 := HR.out.2.2.2.2.2.1.on hb6'
                  obtain ⟨z0, z1, z2⟩ := hY6.c
                  obtain ⟨zf0, zf1, zf2⟩ := hY6.f
                  have hl6 := (hb6'.cell (cell_lt HSk.out.2)).trans HSk.out.2
                  have hS0 : (fun W : World => (W.cell? ⟨w5.heap.size, 0, none⟩ = some (.int .i64 a0) ∧ W.cell? ⟨w5.heap.size, 1, none⟩ = some (.slice A n' k) ∧ W.cell? ⟨w5.heap.size, 2, none⟩ = some (.slice B m' q)) ∧ W.cell? ⟨bl, ol + j, none⟩ = some (.int .i64 x)) w6 := ⟨hB6.c, hl6⟩
                  refine ⟨_, rfl, fun _ => hS0, ?_⟩
                  (refine wt_move 6 61 rfl rfl (by kernel_rfl) (by kernel_rfl) (by kernel_rfl) (by kernel_rfl) (fun _ _ _ h => h) rfl hS0 (by (repeat (first | (refine slot_hit (N := 120) ?_ (by rfl); (repeat (refine sz_put ?_)); assumption; done) | (apply slot_miss; focus rfl))); all_goals assumption) rfl ?_); (refine wt_take1 7 55 (v := ?_) rfl rfl (by kernel_rfl) (by kernel_rfl) (by kernel_rfl) (by kernel_rfl) (fun _ _ _ h => h) rfl hS0 (by (repeat (first | (refine slot_hit (N := 120) ?_ (by rfl); (repeat (refine sz_put ?_)); assumption; done) | (apply slot_miss; focus rfl))); all_goals assumption) (fun ev hk hv0 w hS => ?_) ?_; rotate_left; focus (obtain ⟨⟨j0, j1, j2⟩, j3⟩ := hS; go_simp; rfl)); (refine wt_take1 8 55 (v := ?_) rfl rfl (by kernel_rfl) (by kernel_rfl) (by kernel_rfl) (by kernel_rfl) (fun _ _ _ h => h) rfl hS0 (by (repeat (first | (refine slot_hit (N := 120) ?_ (by rfl); (repeat (refine sz_put ?_)); assumption; done) | (apply slot_miss; focus rfl))); all_goals assumption) (fun ev hk hv0 w hS => ?_) ?_; rotate_left; focus (obtain ⟨⟨j0, j1, j2⟩, j3⟩ := hS; go_simp; rfl))
                  refine wt_act2 9 11 62 (by kernel_rfl) rfl rfl rfl (by (repeat (first | (refine slot_hit (N := 120) ?_ (by rfl); (repeat (refine sz_put ?_)); assumption; done) | (apply slot_miss; focus rfl))); all_goals assumption) (by (repeat (first | (refine slot_hit (N := 120) ?_ (by rfl); (repeat (refine sz_put ?_)); assumption; done) | (apply slot_miss; focus rfl))); all_goals assumption) (w' := ?_) (fun ev hk hv0 hv1 => ?_) ?_; rotate_left; focus (go_simp; rfl)
                  have hbt := st3_below (bn HR.out.2.2.2.1 hb6') (Nat.le_refl _) (.int .i64 0) (.slice A6 0 k6) (.slice B6 0 q6)
                  have hB7 := hB6.far (Nat.ne_of_lt HR.out.2.2.2.2.1) (.int .i64 0) (.slice A6 0 k6) (.slice B6 0 q6)
                  have hl7 := (st3_cell (W := w6) (b := wr.heap.size) (g := bl) (j := ol + j) (by have := hb0; have := HR.out.2.1.size; omega) (.int .i64 0) (.slice A6 0 k6) (.slice B6 0 q6)).trans hl6
                  unfold st3 at hbt hB7 hl7
                  generalize ((w6.setCell ⟨wr.heap.size, 0, none⟩ (.int .i64 0)).setCell ⟨wr.heap.size, 1, none⟩ (.slice A6 0 k6)).setCell ⟨wr.heap.size, 2, none⟩ (.slice B6 0 q6) = W7 at hbt hB7 hl7 ⊢
                  have hS0 : (fun W : World => (W.cell? ⟨w5.heap.size, 0, none⟩ = some (.int .i64 a0) ∧ W.cell? ⟨w5.heap.size, 1, none⟩ = some (.slice A n' k) ∧ W.cell? ⟨w5.heap.size, 2, none⟩ = some (.slice B m' q)) ∧ W.cell? ⟨bl, ol + j, none⟩ = some (.int .i64 x)) W7 := ⟨hB7.c, hl7⟩
                  refine ⟨fun _ => hS0, ?_⟩
                  clear z0 z1 z2 zf0 zf1 zf2 hb6 hb6' hN6 hB6 hY6 hl6
                  (refine wt_assign 10 63 rfl rfl (by kernel_rfl) (by kernel_rfl) (by kernel_rfl) (by kernel_rfl) (fun _ _ _ h => h) rfl hS0 (by (repeat (first | (refine slot_hit (N := 120) ?_ (by rfl); (repeat (refine sz_put ?_)); assumption; done) | (apply slot_miss; focus rfl))); all_goals assumption) rfl ?_)
                  refine wt_done (by kernel_rfl) (NoPanic.normal ?_) _
                  have ha := HA.out
                  subst ha
                  have H7 := Lib.hid hbt
                  clear hs1 hs8 hs10 hs11 hZ hS0 hCo hbt hB7 hl7
                  go_wp2
                  go_roundw
                  case rel => exact ⟨j + 1, p, A, n', k, T, B, m', q, S, by omega, by go_num, by go_num, by have := HR.out.2.2.2.2.2.2.2; omega, bn HR.out.2.1 H7.out, HR.out.2.2.1.keep H7.out HR.out.2.2.1.lt, ⟨HR.out.1.b.on H7.out, HR.out.1.w.on H7.out, HR.out.1.o, HR.out.1.i⟩⟩
                  case measure => simp [intOf]; omega
              · have hp1 : ((p : Int) == 0) = false := by simp; omega
                by_cases hE : pE a0 T S x = 0
                · have hok := HP.out.1.1 hE
                  obtain ⟨p1, p2, p3, p4⟩ := HP.out.2.1 hE
                  rw [p1, p2, p4, hE] at DI
                  have hCo := DI.mono fun e w' h => h.nw (n := n' + 1) (m := m') (by rw [List.length_append, ← HR.out.1.w.nt]; rfl) HR.out.1.w.ms
                  have HOK := Lib.hid hok
                  clear DD DI p1 p2 p3 p4 hok hE
                  go_wp2
                  refine wp_slots (fun f => Sz f 120 ∧ Slot f 1 (.slice (some ⟨bl, ol, none⟩) nl k1) ∧ Slot f 8 (.pointer (some ⟨w5.heap.size, 0, none⟩)) ∧ Slot f 10 (.int .i64 (j : Int)) ∧ Slot f 11 (.pointer (some ⟨wr.heap.size, 0, none⟩))) ⟨⟨rfl, rfl⟩, ⟨rfl⟩, ⟨rfl⟩, ⟨rfl⟩, ⟨rfl⟩⟩ fun a0' hA0 hR' => ?_
                  obtain ⟨hZ, hs1, hs8, hs10, hs11⟩ := hR'
                  have HA := Lib.hid hA0
                  clear hA0 vv
                  refine wp_region_T (fun W : World => (W.cell? ⟨w5.heap.size, 0, none⟩ = some (.int .i64 a0) ∧ W.cell? ⟨w5.heap.size, 1, none⟩ = some (.slice A n' k) ∧ W.cell? ⟨w5.heap.size, 2, none⟩ = some (.slice B m' q)) ∧ W.cell? ⟨bl, ol + j, none⟩ = some (.int .i64 x)) 11 (by kernel_rfl) ?_
                  refine WT.h ?_
                  (refine wt_take1 0 8 (v := ?_) rfl rfl (by kernel_rfl) (by kernel_rfl) (by kernel_rfl) (by kernel_rfl) (fun _ _ _ h => h) rfl hS0 (by (repeat (first | (refine slot_hit (N := 120) ?_ (by rfl); (repeat (refine sz_put ?_)); assumption; done) | (apply slot_miss; focus rfl))); all_goals assumption) (fun ev hk hv0 w hS => ?_) ?_; rotate_left; focus (obtain ⟨⟨j0, j1, j2⟩, j3⟩ := hS; go_simp; rfl)); (refine wt_move 1 1 rfl rfl (by kernel_rfl) (by kernel_rfl) (by kernel_rfl) (by kernel_rfl) (fun _ _ _ h => h) rfl hS0 (by (repeat (first | (refine slot_hit (N := 120) ?_ (by rfl); (repeat (refine sz_put ?_)); assumption; done) | (apply slot_miss; focus rfl))); all_goals assumption) rfl ?_); (refine wt_move 2 10 rfl rfl (by kernel_rfl) (by kernel_rfl) (by kernel_rfl) (by kernel_rfl) (fun _ _ _ h => h) rfl hS0 (by (repeat (first | (refine slot_hit (N := 120) ?_ (by rfl); (repeat (refine sz_put ?_)); assumption; done) | (apply slot_miss; focus rfl))); all_goals assumption) rfl ?_); (refine wt_take2 3 66 67 (v := ?_) rfl rfl (by kernel_rfl) (by kernel_rfl) (by kernel_rfl) (by kernel_rfl) (fun _ _ _ h => h) rfl hS0 (by (repeat (first | (refine slot_hit (N := 120) ?_ (by rfl); (repeat (refine sz_put ?_)); assumption; done) | (apply slot_miss; focus rfl))); all_goals assumption) (by (repeat (first | (refine slot_hit (N := 120) ?_ (by rfl); (repeat (refine sz_put ?_)); assumption; done) | (apply slot_miss; focus rfl))); all_goals assumption) (fun ev hk hv0 hv1 w hS => ?_) ?_; rotate_left; focus (obtain ⟨⟨j0, j1, j2⟩, j3⟩ := hS; go_simp; rfl)); (refine wt_take1 4 68 (v := ?_) rfl rfl (by kernel_rfl) (by kernel_rfl) (by kernel_rfl) (by kernel_rfl) (fun _ _ _ h => h) rfl hS0 (by (repeat (first | (refine slot_hit (N := 120) ?_ (by rfl); (repeat (refine sz_put ?_)); assumption; done) | (apply slot_miss; focus rfl))); all_goals assumption) (fun ev hk hv0 w hS => ?_) ?_; rotate_left; focus (obtain ⟨⟨j0, j1, j2⟩, j3⟩ := hS; go_simp; rfl))
                  refine wt_call2 5 65 69 (by kernel_rfl) rfl rfl rfl (by (repeat (first | (refine slot_hit (N := 120) ?_ (by rfl); (repeat (refine sz_put ?_)); assumption; done) | (apply slot_miss; focus rfl))); all_goals assumption) (by (repeat (first | (refine slot_hit (N := 120) ?_ (by rfl); (repeat (refine sz_put ?_)); assumption; done) | (apply slot_miss; focus rfl))); all_goals assumption) (f := ?_) (args := ?_) (fun ev hk hkf hv0 hv1 => ?_) ?_; rotate_left 2; focus (go_simp; first | rfl | (constructor <;> rfl))
                  refine hCo.mono ?_
                  rintro e w6 ⟨A6, k6, B6, q6, rfl, hN6, hb6⟩
                  have hb6' := bn (below_dn (Below.refl _ _) 1) hb6
                  have hB6 := HSk.out.1.on hb6'
                  have hY6 := HR.out.2.2.2.2.2.1.on hb6'
                  obtain ⟨z0, z1, z2⟩ := hY6.c
                  obtain ⟨zf0, zf1, zf2⟩ := hY6.f
                  have hl6 := (hb6'.cell (cell_lt HSk.out.2)).trans HSk.out.2
                  have hS0 : (fun W : World => (W.cell? ⟨w5.heap.size, 0, none⟩ = some (.int .i64 a0) ∧ W.cell? ⟨w5.heap.size, 1, none⟩ = some (.slice A n' k) ∧ W.cell? ⟨w5.heap.size, 2, none⟩ = some (.slice B m' q)) ∧ W.cell? ⟨bl, ol + j, none⟩ = some (.int .i64 x)) w6 := ⟨hB6.c, hl6⟩
                  refine ⟨_, rfl, fun _ => hS0, ?_⟩
                  (refine wt_move 6 70 rfl rfl (by kernel_rfl) (by kernel_rfl) (by kernel_rfl) (by kernel_rfl) (fun _ _ _ h => h) rfl hS0 (by (repeat (first | (refine slot_hit (N := 120) ?_ (by rfl); (repeat (refine sz_put ?_)); assumption; done) | (apply slot_miss; focus rfl))); all_goals assumption) rfl ?_); (refine wt_take1 7 64 (v := ?_) rfl rfl (by kernel_rfl) (by kernel_rfl) (by kernel_rfl) (by kernel_rfl) (fun _ _ _ h => h) rfl hS0 (by (repeat (first | (refine slot_hit (N := 120) ?_ (by rfl); (repeat (refine sz_put ?_)); assumption; done) | (apply slot_miss; focus rfl))); all_goals assumption) (fun ev hk hv0 w hS => ?_) ?_; rotate_left; focus (obtain ⟨⟨j0, j1, j2⟩, j3⟩ := hS; go_simp; rfl)); (refine wt_take1 8 64 (v := ?_) rfl rfl (by kernel_rfl) (by kernel_rfl) (by kernel_rfl) (by kernel_rfl) (fun _ _ _ h => h) rfl hS0 (by (repeat (first | (refine slot_hit (N := 120) ?_ (by rfl); (repeat (refine sz_put ?_)); assumption; done) | (apply slot_miss; focus rfl))); all_goals assumption) (fun ev hk hv0 w hS => ?_) ?_; rotate_left; focus (obtain ⟨⟨j0, j1, j2⟩, j3⟩ := hS; go_simp; rfl))
                  refine wt_act2 9 11 71 (by kernel_rfl) rfl rfl rfl (by (repeat (first | (refine slot_hit (N := 120) ?_ (by rfl); (repeat (refine sz_put ?_)); assumption; done) | (apply slot_miss; focus rfl))); all_goals assumption) (by (repeat (first | (refine slot_hit (N := 120) ?_ (by rfl); (repeat (refine sz_put ?_)); assumption; done) | (apply slot_miss; focus rfl))); all_goals assumption) (w' := ?_) (fun ev hk hv0 hv1 => ?_) ?_; rotate_left; focus (go_simp; rfl)
                  have hbt := st3_below (bn HR.out.2.2.2.1 hb6') (Nat.le_refl _) (.int .i64 a0) (.slice A6 (n' + 1) k6) (.slice B6 (m') q6)
                  have hN7 := (hN6.low (show wr.heap.size + 1 ≤ _ by simp [World.drewN, World.drew])).st3 (Nat.lt_succ_self wr.heap.size) (.int .i64 a0) (.slice A6 (n' + 1) k6) (.slice B6 (m') q6)
                  have hY7 := hY6.st (.int .i64 a0) (.slice A6 (n' + 1) k6) (.slice B6 (m') q6)
                  have hB7 := hB6.far (Nat.ne_of_lt HR.out.2.2.2.2.1) (.int .i64 a0) (.slice A6 (n' + 1) k6) (.slice B6 (m') q6)
                  have hl7 := (st3_cell (W := w6) (b := wr.heap.size) (g := bl) (j := ol + j) (by have := hb0; have := HR.out.2.1.size; omega) (.int .i64 a0) (.slice A6 (n' + 1) k6) (.slice B6 (m') q6)).trans hl6
                  unfold st3 at hbt hN7 hY7 hB7 hl7
                  generalize ((w6.setCell ⟨wr.heap.size, 0, none⟩ (.int .i64 a0)).setCell ⟨wr.heap.size, 1, none⟩ (.slice A6 (n' + 1) k6)).setCell ⟨wr.heap.size, 2, none⟩ (.slice B6 (m') q6) = W7 at hbt hN7 hY7 hB7 hl7 ⊢
                  have hS0 : (fun W : World => (W.cell? ⟨w5.heap.size, 0, none⟩ = some (.int .i64 a0) ∧ W.cell? ⟨w5.heap.size, 1, none⟩ = some (.slice A n' k) ∧ W.cell? ⟨w5.heap.size, 2, none⟩ = some (.slice B m' q)) ∧ W.cell? ⟨bl, ol + j, none⟩ = some (.int .i64 x)) W7 := ⟨hB7.c, hl7⟩
                  refine ⟨fun _ => hS0, ?_⟩
                  clear z0 z1 z2 zf0 zf1 zf2 hb6 hb6' hN6 hB6 hY6 hl6
                  (refine wt_assign 10 72 rfl rfl (by kernel_rfl) (by kernel_rfl) (by kernel_rfl) (by kernel_rfl) (fun _ _ _ h => h) rfl hS0 (by (repeat (first | (refine slot_hit (N := 120) ?_ (by rfl); (repeat (refine sz_put ?_)); assumption; done) | (apply slot_miss; focus rfl))); all_goals assumption) rfl ?_)
                  refine wt_done (by kernel_rfl) (NoPanic.normal ?_) _
                  have ha := HA.out
                  subst ha
                  obtain ⟨y0, y1, y2⟩ := hY7.c
                  obtain ⟨x0, x1, x2⟩ := hB7.c
                  have hOk7 : OkA a0 (T ++ [x]) (S) := HR.out.1.o.implied HOK.out.2.1 HOK.out.2.2
                  have DC := hN7.check (by omega) (by have := hOk7.2.2.len; have := hN7.ms; have := hN7.nt; omega) hOk7
                  have H7 := Lib.hid (And.intro hbt (And.intro hN7 (And.intro hY7 (And.intro hB7 hOk7))))
                  clear hs1 hs8 hs10 hs11 hZ hS0 hCo hbt hN7 hY7 hB7 hl7 hOk7
                  go_wp2_with (first
                    | (go_at_call 23; (with_reducible refine DC.mono ?_); rintro e w9 ⟨rfl, hb9⟩
                       obtain ⟨q0', q1', q2'⟩ := (H7.out.2.2.1.on hb9).c
                       obtain ⟨r0', r1', r2'⟩ := (H7.out.2.2.2.1.on hb9).c
                       obtain ⟨rf0, rf1, rf2⟩ := (H7.out.2.2.2.1.on hb9).f
                       have H9 := Lib.hid (And.intro (bn H7.out.1 hb9) (And.intro (H7.out.2.1.on hb9) (H7.out.2.2.2.1.on hb9)))
                       clear hb9))
                  go_roundw
                  case rel =>
                    have hW9 : Below w.heap.size w w9 := bn HR.out.2.1 H9.out.1
                    refine ⟨j + 1, p + 1, A6, n' + 1, k6, T ++ [x], B6, m', q6, S, by omega, by go_num, by go_num, by have := HR.out.2.2.2.2.2.2.2; omega, ?_, ?_, ?_⟩
                    · exact st3_below hW9 H5.out.2.2.2 _ _ _
                    · exact (((HR.out.2.2.1.keep H9.out.1 HR.out.2.2.1.lt).far (q := ⟨w5.heap.size, 0, none⟩) (show w.heap.size ≠ w5.heap.size by have := HX5.out; omega) _).far (q := ⟨w5.heap.size, 1, none⟩) (show w.heap.size ≠ w5.heap.size by have := HX5.out; omega) _).far (q := ⟨w5.heap.size, 2, none⟩) (show w.heap.size ≠ w5.heap.size by have := HX5.out; omega) _
                    · exact ⟨H9.out.2.2.st _ _ _, ((H9.out.2.1.low (show w5.heap.size + 1 ≤ wr.heap.size + 1 by have := HR.out.2.2.2.2.1; omega)).st3 (Nat.lt_succ_self _) _ _ _).low (Nat.zero_le _), H7.out.2.2.2.2, HR.out.1.i.imp hp x⟩
                  case measure => simp [intOf]; omega
                · obtain ⟨p1, p2, p3⟩ := HP.out.2.2 false hE
                  rw [p1, p2, p3] at DI
                  have hne : (pE a0 T S x != 0) = true := by simpa using hE
                  obtain ⟨u, hu⟩ : ∃ u, u = pE a0 T S x := ⟨_, rfl⟩
                  rw [← hu] at DI hne
                  have hCo := DI.mono fun e w' h => h.nw (n := 0) (m := 0) rfl rfl
                  clear DD DI p1 p2 p3 hE hu
                  go_wp2
                  refine wp_slots (fun f => Sz f 120 ∧ Slot f 1 (.slice (some ⟨bl, ol, none⟩) nl k1) ∧ Slot f 8 (.pointer (some ⟨w5.heap.size, 0, none⟩)) ∧ Slot f 10 (.int .i64 (j : Int)) ∧ Slot f 11 (.pointer (some ⟨wr.heap.size, 0, none⟩))) ⟨⟨rfl, rfl⟩, ⟨rfl⟩, ⟨rfl⟩, ⟨rfl⟩, ⟨rfl⟩⟩ fun a0' hA0 hR' => ?_
                  obtain ⟨hZ, hs1, hs8, hs10, hs11⟩ := hR'
                  have HA := Lib.hid hA0
                  clear hA0 vv
                  refine wp_region_T (fun W : World => (W.cell? ⟨w5.heap.size, 0, none⟩ = some (.int .i64 a0) ∧ W.cell? ⟨w5.heap.size, 1, none⟩ = some (.slice A n' k) ∧ W.cell? ⟨w5.heap.size, 2, none⟩ = some (.slice B m' q)) ∧ W.cell? ⟨bl, ol + j, none⟩ = some (.int .i64 x)) 11 (by kernel_rfl) ?_
                  refine WT.h ?_
                  (refine wt_take1 0 8 (v := ?_) rfl rfl (by kernel_rfl) (by kernel_rfl) (by kernel_rfl) (by kernel_rfl) (fun _ _ _ h => h) rfl hS0 (by (repeat (first | (refine slot_hit (N := 120) ?_ (by rfl); (repeat (refine sz_put ?_)); assumption; done) | (apply slot_miss; focus rfl))); all_goals assumption) (fun ev hk hv0 w hS => ?_) ?_; rotate_left; focus (obtain ⟨⟨j0, j1, j2⟩, j3⟩ := hS; go_simp; rfl)); (refine wt_move 1 1 rfl rfl (by kernel_rfl) (by kernel_rfl) (by kernel_rfl) (by kernel_rfl) (fun _ _ _ h => h) rfl hS0 (by (repeat (first | (refine slot_hit (N := 120) ?_ (by rfl); (repeat (refine sz_put ?_)); assumption; done) | (apply slot_miss; focus rfl))); all_goals assumption) rfl ?_); (refine wt_move 2 10 rfl rfl (by kernel_rfl) (by kernel_rfl) (by kernel_rfl) (by kernel_rfl) (fun _ _ _ h => h) rfl hS0 (by (repeat (first | (refine slot_hit (N := 120) ?_ (by rfl); (repeat (refine sz_put ?_)); assumption; done) | (apply slot_miss; focus rfl))); all_goals assumption) rfl ?_); (refine wt_take2 3 66 67 (v := ?_) rfl rfl (by kernel_rfl) (by kernel_rfl) (by kernel_rfl) (by kernel_rfl) (fun _ _ _ h => h) rfl hS0 (by (repeat (first | (refine slot_hit (N := 120) ?_ (by rfl); (repeat (refine sz_put ?_)); assumption; done) | (apply slot_miss; focus rfl))); all_goals assumption) (by (repeat (first | (refine slot_hit (N := 120) ?_ (by rfl); (repeat (refine sz_put ?_)); assumption; done) | (apply slot_miss; focus rfl))); all_goals assumption) (fun ev hk hv0 hv1 w hS => ?_) ?_; rotate_left; focus (obtain ⟨⟨j0, j1, j2⟩, j3⟩ := hS; go_simp; rfl)); (refine wt_take1 4 68 (v := ?_) rfl rfl (by kernel_rfl) (by kernel_rfl) (by kernel_rfl) (by kernel_rfl) (fun _ _ _ h => h) rfl hS0 (by (repeat (first | (refine slot_hit (N := 120) ?_ (by rfl); (repeat (refine sz_put ?_)); assumption; done) | (apply slot_miss; focus rfl))); all_goals assumption) (fun ev hk hv0 w hS => ?_) ?_; rotate_left; focus (obtain ⟨⟨j0, j1, j2⟩, j3⟩ := hS; go_simp; rfl))
                  refine wt_call2 5 65 69 (by kernel_rfl) rfl rfl rfl (by (repeat (first | (refine slot_hit (N := 120) ?_ (by rfl); (repeat (refine sz_put ?_)); assumption; done) | (apply slot_miss; focus rfl))); all_goals assumption) (by (repeat (first | (refine slot_hit (N := 120) ?_ (by rfl); (repeat (refine sz_put ?_)); assumption; done) | (apply slot_miss; focus rfl))); all_goals assumption) (f := ?_) (args := ?_) (fun ev hk hkf hv0 hv1 => ?_) ?_; rotate_left 2; focus (go_simp; first | rfl | (constructor <;> rfl))
                  refine hCo.mono ?_
                  rintro e w6 ⟨A6, k6, B6, q6, rfl, hN6, hb6⟩
                  have hb6' := bn (below_dn (Below.refl _ _) 1) hb6
                  have hB6 := HSk.out.1.on hb6'
                  have hY6 := HR.out.2.2.2.2.2.1.on hb6'
                  obtain ⟨z0, z1, z2⟩ := hY6.c
                  obtain ⟨zf0, zf1, zf2⟩ := hY6.f
                  have hl6 := (hb6'.cell (cell_lt HSk.out.2)).trans HSk.out.2
                  have hS0 : (fun W : World => (W.cell? ⟨w5.heap.size, 0, none⟩ = some (.int .i64 a0) ∧ W.cell? ⟨w5.heap.size, 1, none⟩ = some (.slice A n' k) ∧ W.cell? ⟨w5.heap.size, 2, none⟩ = some (.slice B m' q)) ∧ W.cell? ⟨bl, ol + j, none⟩ = some (.int .i64 x)) w6 := ⟨hB6.c, hl6⟩
                  refine ⟨_, rfl, fun _ => hS0, ?_⟩
                  (refine wt_move 6 70 rfl rfl (by kernel_rfl) (by kernel_rfl) (by kernel_rfl) (by kernel_rfl) (fun _ _ _ h => h) rfl hS0 (by (repeat (first | (refine slot_hit (N := 120) ?_ (by rfl); (repeat (refine sz_put ?_)); assumption; done) | (apply slot_miss; focus rfl))); all_goals assumption) rfl ?_); (refine wt_take1 7 64 (v := ?_) rfl rfl (by kernel_rfl) (by kernel_rfl) (by kernel_rfl) (by kernel_rfl) (fun _ _ _ h => h) rfl hS0 (by (repeat (first | (refine slot_hit (N := 120) ?_ (by rfl); (repeat (refine sz_put ?_)); assumption; done) | (apply slot_miss; focus rfl))); all_goals assumption) (fun ev hk hv0 w hS => ?_) ?_; rotate_left; focus (obtain ⟨⟨j0, j1, j2⟩, j3⟩ := hS; go_simp; rfl)); (refine wt_take1 8 64 (v := ?_) rfl rfl (by kernel_rfl) (by kernel_rfl) (by kernel_rfl) (by kernel_rfl) (fun _ _ _ h => h) rfl hS0 (by (repeat (first | (refine slot_hit (N := 120) ?_ (by rfl); (repeat (refine sz_put ?_)); assumption; done) | (apply slot_miss; focus rfl))); all_goals assumption) (fun ev hk hv0 w hS => ?_) ?_; rotate_left; focus (obtain ⟨⟨j0, j1, j2⟩, j3⟩ := hS; go_simp; rfl))
                  refine wt_act2 9 11 71 (by kernel_rfl) rfl rfl rfl (by (repeat (first | (refine slot_hit (N := 120) ?_ (by rfl); (repeat (refine sz_put ?_)); assumption; done) | (apply slot_miss; focus rfl))); all_goals assumption) (by (repeat (first | (refine slot_hit (N := 120) ?_ (by rfl); (repeat (refine sz_put ?_)); assumption; done) | (apply slot_miss; focus rfl))); all_goals assumption) (w' := ?_) (fun ev hk hv0 hv1 => ?_) ?_; rotate_left; focus (go_simp; rfl)
                  have hbt := st3_below (bn HR.out.2.2.2.1 hb6') (Nat.le_refl _) (.int .i64 0) (.slice A6 0 k6) (.slice B6 0 q6)
                  have hB7 := hB6.far (Nat.ne_of_lt HR.out.2.2.2.2.1) (.int .i64 0) (.slice A6 0 k6) (.slice B6 0 q6)
                  have hl7 := (st3_cell (W := w6) (b := wr.heap.size) (g := bl) (j := ol + j) (by have := hb0; have := HR.out.2.1.size; omega) (.int .i64 0) (.slice A6 0 k6) (.slice B6 0 q6)).trans hl6
                  unfold st3 at hbt hB7 hl7
                  generalize ((w6.setCell ⟨wr.heap.size, 0, none⟩ (.int .i64 0)).setCell ⟨wr.heap.size, 1, none⟩ (.slice A6 0 k6)).setCell ⟨wr.heap.size, 2, none⟩ (.slice B6 0 q6) = W7 at hbt hB7 hl7 ⊢
                  have hS0 : (fun W : World => (W.cell? ⟨w5.heap.size, 0, none⟩ = some (.int .i64 a0) ∧ W.cell? ⟨w5.heap.size, 1, none⟩ = some (.slice A n' k) ∧ W.cell? ⟨w5.heap.size, 2, none⟩ = some (.slice B m' q)) ∧ W.cell? ⟨bl, ol + j, none⟩ = some (.int .i64 x)) W7 := ⟨hB7.c, hl7⟩
                  refine ⟨fun _ => hS0, ?_⟩
                  clear z0 z1 z2 zf0 zf1 zf2 hb6 hb6' hN6 hB6 hY6 hl6
                  (refine wt_assign 10 72 rfl rfl (by kernel_rfl) (by kernel_rfl) (by kernel_rfl) (by kernel_rfl) (fun _ _ _ h => h) rfl hS0 (by (repeat (first | (refine slot_hit (N := 120) ?_ (by rfl); (repeat (refine sz_put ?_)); assumption; done) | (apply slot_miss; focus rfl))); all_goals assumption) rfl ?_)
                  refine wt_done (by kernel_rfl) (NoPanic.normal ?_) _
                  have ha := HA.out
                  subst ha
                  have H7 := Lib.hid hbt
                  clear hs1 hs8 hs10 hs11 hZ hS0 hCo hbt hB7 hl7
                  go_wp2
                  go_roundw
                  case rel => exact ⟨j + 1, p, A, n', k, T, B, m', q, S, by omega, by go_num, by go_num, by have := HR.out.2.2.2.2.2.2.2; omega, bn HR.out.2.1 H7.out, HR.out.2.2.1.keep H7.out HR.out.2.2.1.lt, ⟨HR.out.1.b.on H7.out, HR.out.1.w.on H7.out, HR.out.1.o, HR.out.1.i⟩⟩
                  case measure => simp [intOf]; omega
            · obtain rfl : j = nl := by omega
              obtain ⟨hu1, hu2, hu3⟩ := hR.i.undo HO.out.2.1 HO.out.2.2.1
              have hml : m ≤ m' := by have := hR.i.len.2; have := hR.w.ms; have := HO.out.2.2.1; omega
              have DU := hR.w.undo hn260' hm260' hR.o (x := m) hml (n' := n) (by rw [hR.w.nt, hu1])
              rw [show usz n' S m = n by rw [hR.w.nt, hu1], hu2, hu3] at DU
              have e9 : ((n' : Int) == (n : Int) + (p : Int)) = true := by simp; omega
              have hnb : n ≤ 200 := HO.out.2.2.2.2.1
              have hpb : p ≤ 60 := by have := HO.out.2.2.2.2.2; omega
              have HN := Lib.hid hnT
              have hjn : ¬ (j : Int) < (j : Int) := by omega
              have HK := Lib.hid (And.intro hB (And.intro hC (And.intro hR.b HO.out.2.2.2.2)))
              obtain ⟨x0, x1, x2⟩ := hR.b.c
              have u0 := hC.cell 0
              have u1 := hC.cell 1
              have u2 := hC.cell 2
              clear hu1 hu2 hu3 hml hB hC hR hpj hnT hn260 hm260 hn260' hm260'
              go_wp2_with (first
                | (go_at_call 21; (with_reducible refine DU.mono ?_); rintro e w7 ⟨A7, k7, B7, q7, rfl, hN7, hb7⟩
                   have hx7 := bn hb7 (bx_on w7 (.cells #[.int .i64 a0, .slice A7 n k7, .slice B7 m q7] 24))
                   have hC7 := HK.out.2.1.keep hx7 HK.out.2.1.lt
                   have z0 := hC7.cell 0
                   have z1 := hC7.cell 1
                   have z2 := hC7.cell 2
                   have hB7 := HK.out.2.2.1.on hx7
                   have hY7 := Bs.new w7 (.int .i64 a0) (.slice A7 n k7) (.slice B7 m q7)
                   have DS := Nw.same (v := a0) (hN7.on (bx_on w7 (.cells #[.int .i64 a0, .slice A7 n k7, .slice B7 m q7] 24))) (by have := HK.out.2.2.2; omega) (by have := HK.out.2.2.2; have := HO.out.1.2.2.len; have := HO.out.2.1; have := HO.out.2.2.1; omega) (HO.out.2.2.2.1.on (bn HK.out.1 hx7))
                   have HK7 := Lib.hid (And.intro (bn HK.out.1 hx7) (And.intro hC7 hB7))
                   clear hN7 hb7 hx7 hC7 hB7 hY7)
                | (go_at_call 16; (with_reducible refine DS.mono ?_); rintro e w8 ⟨rfl, hb8⟩
                   have hC8 := HK7.out.2.1.keep hb8 HK7.out.2.1.lt
                   have v0 := hC8.cell 0
                   have v1 := hC8.cell 1
                   have v2 := hC8.cell 2
                   obtain ⟨q0', q1', q2'⟩ := (HK7.out.2.2.on hb8).c
                   have HK8 := Lib.hid (bn HK7.out.1 hb8)
                   clear hb8 hC8))
              go_ret
              exact ⟨by first | rfl | (simp; have := HN.out; omega) | simp, HK8.out⟩

set_option maxRecDepth 100000 in
theorem lifted (os : Os) (started : os.Started) (H : Type) (enc : TypeId × Value → H) :
    ReturnsInHanded {} Try.checked os 5 .any (Rows.assignBackSpec.pre6 enc Try.prog Try.f5 Rows.assignBackRow.domain false) (Rows.assignBackSpec.post enc Try.prog Try.f5 false true false false) := by
  refine returnsInHanded_of_change (C := Try.checked) own started (by kernel_rfl) Try.func5
    (ChangeSpec.witness6 (enc := enc) (C := Try.checked) false ⟨#[], #[.agg #[.int .i64 0, .slice none 0 0, .slice none 0 0], .slice none 0 0, .slice none 0 0], []⟩ 12 (by kernel_rfl) (by kernel_rfl) (by kernel_rfl) (by kernel_rfl)) ?_
  intro W base args ds gs before hval0 hW hcnd _
  have hval : ∀ (j : Nat) t v, Try.f5.params[j]? = some t → args[j]? = some v → Value.okWide Try.prog W .any base t v := hval0
  have hW' := hW
  have hlt : ∀ x ∈ before, x.block < W.heap.size := fun x hx => by simpa using hW'.lt x hx
  obtain ⟨p, q, hA0, hV, rfl, hfz, hnd⟩ := hW
  have hA : DataW.TrodAll enc Try.prog W 0 (fun _ => true) true Try.f5.params.toList args.toList ds p := hA0
  rw [Try.params5] at hA hval
  obtain ⟨v0, vs0, d0, ds0, b0, q0, hargs, rfl, rfl, h0, r0⟩ := trodAll_cons hA
  obtain ⟨v1, vs1, d1, ds1, b1, q1, rfl, rfl, rfl, h1, r1⟩ := trodAll_cons r0
  obtain ⟨v2, vs2, d2, ds2, b2, q2, rfl, rfl, rfl, h2, r2⟩ := trodAll_cons r1
  obtain ⟨rfl, rfl, rfl⟩ := trodAll_nil r2
  obtain rfl : args = #[v0, v1, v2] := by cases args; simp_all
  obtain ⟨rfl, rfl⟩ := trodVars_none hV
  obtain ⟨a0, A0, t0, k0, B0, s0, q0, rfl, w0, hm0, hK0, hr0, hn0, hQ0, hs0⟩ := open_as (hval 0 24 v0 rfl rfl) h0
  obtain ⟨A1, l1, k1, rfl, hm1, hK1, hr1⟩ := open_is (hval 1 22 v1 rfl rfl) h1
  obtain ⟨A2, n2, k2, f2, rfl, hm2, hN2, hC2⟩ := open_bl (hval 2 50 v2 rfl rfl) h2
  have hlo : laidOutB Try.prog = true := by kernel_rfl
  clear hA0 hval0
  simp only [List.append_nil] at hW' hlt
  refine (walk a0 A0 t0 k0 B0 s0 q0 A1 l1 k1 A2 n2 k2 f2 W w0 hm0 hr0 hK0 hn0 hs0 hQ0 hm1 hr1 hK1 hm2 hN2 hC2).mono fun e W' ⟨he, hb⟩ => ?_
  subst he
  have hback := (trodAll_cons_mk (arg_back (W' := W') hlo (by kernel_rfl) (of_decide_eq_true (by kernel_rfl)) h0 hb (fun x hx => hlt x (by simp [hx]))) (trodAll_cons_mk (arg_back (W' := W') hlo (by kernel_rfl) (of_decide_eq_true (by kernel_rfl)) h1 hb (fun x hx => hlt x (by simp [hx]))) (trodAll_cons_mk (arg_back (W' := W') hlo (by kernel_rfl) (of_decide_eq_true (by kernel_rfl)) h2 hb (fun x hx => hlt x (by simp [hx]))) trodAll_mk0)))
  simp only [List.append_nil, List.nil_append] at hback
  exact ⟨_, rfl, law_post hW' (trodAll_cons_mk (shut_bool Try.underlying4 _) trodAll_mk0) hback rfl hb⟩

theorem over : Rows.assignBackRow.holds Try.pinned (OpenSpec.ofChange Rows.assignBackSpec) :=
  OpenClaim.holds_of_wide 5 Try.f5 rfl rfl rfl rfl rfl rfl rfl ⟨rfl, rfl, rfl, rfl, rfl⟩ rfl rfl rfl rfl rfl (by kernel_rfl) Try.func5 (by kernel_rfl)
    (of_decide_eq_true (by kernel_rfl)) (by unfold Func.isWrapper; first | (rw [if_pos (by decide +kernel)]; kernel_rfl) | (rw [if_neg (by decide +kernel)]; exact ⟨rfl, rfl⟩))
    (fun os started H enc _ => lifted os started H enc)

theorem proved : Rows.AssignBackSaid :=
  over
end Go.Proofs.Ytcefphdabomlpaa.assignBack
