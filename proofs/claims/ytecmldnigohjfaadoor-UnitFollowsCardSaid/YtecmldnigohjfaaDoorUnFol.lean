/- What is implied follows: the law's walk. -/
import Derived.Test.YtecmldnigohjfaaDoorUnEnd
namespace Go.Proofs.YtecmldnigohjfaaDoor
open Go Go.RowKit
set_option linter.unusedVariables false
set_option linter.unusedSimpArgs false

/-- the first literals are true -/
def tA (V : Nat → Bool) (t : List Int) (i : Nat) : Bool := (t.take i).all (tr V)
theorem tA_succ (V : Nat → Bool) (t : List Int) {i : Nat} (h : i < t.length) : tA V t (i + 1) = (tA V t i && tr V (t.getD i 0)) := by
  unfold tA
  rw [List.take_succ_eq_append_getElem h, List.all_append, getD_at h]; simp
theorem tA_all {V : Nat → Bool} {t : List Int} (h : tA V t t.length = true) : ∀ l ∈ t, tr V l = true := by
  unfold tA at h
  rw [List.take_length, List.all_eq_true] at h
  exact h
/-- the first clauses are true -/
def hA (V : Nat → Bool) (L : List (List Int)) (i : Nat) : Bool := (L.take i).all (trs V)
theorem hA_succ (V : Nat → Bool) (L : List (List Int)) {i : Nat} (h : i < L.length) : hA V L (i + 1) = (hA V L i && trs V (L.getD i [])) := by
  unfold hA
  rw [List.take_succ_eq_append_getElem h, List.all_append, gotD h]; simp
theorem hA_all {V : Nat → Bool} {L : List (List Int)} (h : hA V L L.length = true) : ∀ c ∈ L, trs V c = true := by
  unfold hA at h
  rw [List.take_length, List.all_eq_true] at h
  exact h
theorem Fx.follows {v : Int} {t s : List Int} {L : List (List Int)} {x : List Int} {a : Int} {n n1 m nl : Nat} (h : Fx v t s L x a n n1 m nl) {V : Nat → Bool} (h1 : tA V t n = true) (h2 : hA V L nl = true) : a < 0 ∧ ∀ l ∈ x, tr V l = true := by
  rw [h.hn] at h1
  rw [h.hnl] at h2
  have := upR_follows h.okL (by have := h.ok.1; omega) h.ok.2.1 (tA_all h1) (hA_all h2)
  rw [h.up] at this
  exact this

set_option maxRecDepth 100000 in
set_option maxHeartbeats 40000000 in
theorem follows15_any (v : Int) (A : Option Addr) (t : List Int) (k : Nat) (B : Option Addr) (s : List Int) (q : Nat) (C : Option Addr) (L : List (List Int)) (kc : Nat) (w : World) (hm0 : Ia w w.heap.size A t k) (hn0 : Ia w w.heap.size B s q) (hk0 : k ≤ 9223372036854775807 ∧ q ≤ 9223372036854775807)
    (hm1 : Ill w w.heap.size C L kc) (hk1 : kc ≤ 9223372036854775807) (hr1 : ∀ c ∈ L, (∀ x ∈ c, I64 x) ∧ c.length ≤ 9223372036854775807) (htab : Tab w.heap.size w) :
    Calls Tryd.prog 6 #[asv v A t.length k B s.length q, .slice C L.length kc] w fun e w' => e = .returned (.bool true) ∧ Below w.heap.size w w' := by
  have H0 := Bs.new w (.int .i64 v) (.slice A t.length k) (.slice B s.length q)
  have hb0 := bx_on w (.cells #[.int .i64 v, .slice A t.length k, .slice B s.length q] 24)
  obtain ⟨n, hn⟩ : ∃ n, n = t.length := ⟨_, rfl⟩
  obtain ⟨m, hm⟩ : ∃ m, m = s.length := ⟨_, rfl⟩
  obtain ⟨nl, hnl⟩ : ∃ m, m = L.length := ⟨_, rfl⟩
  have DA := fun (W : World) (hb : Below w.heap.size w W) => alive15_any W (htab.next hb)
  have DF := fun (W : World) (hb : Below w.heap.size w W) => fit15_any v A t k B s q C L kc W (hm0.on hb) (hn0.on hb) hk0 (hm1.on hb) hk1 hr1 hn hm hnl
  have HB := Lib.hid (And.intro H0 hb0)
  rw [← hn, ← hm] at HB ⊢
  rw [← hnl]
  by_cases hf : ftB v t s L = true
  case neg =>
    have hf : ftB v t s L = false := by simpa using hf
    rw [hf] at DF
    clear hm0 hn0 hk0 hm1 hk1 hr1 htab hn hm hnl hf H0 hb0
    go_enter Tryd.func6, Tryd.ntmps6
    go_wp2_with (first
      | (go_at_call 17; (with_reducible refine (DA _ HB.out.2).mono ?_); rintro e w1 ⟨rfl, hb1⟩
         have HB1 := Lib.hid (And.intro (HB.out.1.on hb1) (bn HB.out.2 hb1))
         obtain ⟨c0, c1, c2⟩ := HB1.out.1.c
         clear hb1)
      | (go_at_call 18; (with_reducible refine (DF _ HB1.out.2).mono ?_); rintro e w2 ⟨rfl, hb2⟩
         have HB2 := Lib.hid (bn HB1.out.2 hb2)
         clear hb2))
    go_ret
    exact ⟨rfl, HB2.out⟩
  case pos =>
    rw [hf] at DF
    by_cases hv8 : 8 < v
    · have g8 : decide (8 < v) = true := decide_eq_true hv8
      clear hm0 hn0 hk0 hm1 hk1 hr1 htab hn hm hnl hf H0 hb0 hv8
      go_enter Tryd.func6, Tryd.ntmps6
      go_wp2_with (first
        | (go_at_call 17; (with_reducible refine (DA _ HB.out.2).mono ?_); rintro e w1 ⟨rfl, hb1⟩
           have HB1 := Lib.hid (And.intro (HB.out.1.on hb1) (bn HB.out.2 hb1))
           obtain ⟨c0, c1, c2⟩ := HB1.out.1.c
           clear hb1)
        | (go_at_call 18; (with_reducible refine (DF _ HB1.out.2).mono ?_); rintro e w2 ⟨rfl, hb2⟩
           have HB2 := Lib.hid (And.intro (HB1.out.1.on hb2) (bn HB1.out.2 hb2))
           obtain ⟨c20, c21, c22⟩ := HB2.out.1.c
           clear hb2))
      go_ret
      exact ⟨rfl, HB2.out.2⟩
    obtain ⟨x, a, n1, hx⟩ := Fx.mk' hf hn hm hnl
    have hNw := Nw.arg hm0 hn0 hn hm
    have D1 := fun (W : World) (hb : Below w.heap.size w W) => (hNw.on hb).run (v := v) (by have := hx.m2; omega) hx.ok (hm1.on hb) hx.okL (by have := hx.l6; omega) (htab.next hb) (n' := n1) (by rw [hx.up]; exact hx.hn1) hnl
    rw [hx.up] at D1
    obtain ⟨nv, rfl⟩ : ∃ nv : Nat, v = nv := ⟨v.toNat, by have := hx.ok.1; omega⟩
    have hn8 : nv ≤ 8 := by omega
    have g8 : ¬ (8 : Int) < (nv : Int) := by omega
    have g8' : decide (8 < nv) = false := decide_eq_false (by omega)
    have hnn : ¬ (n1 : Int) < (n : Int) := by have := hx.nn1; omega
    have hnn' : decide (n1 < n) = false := decide_eq_false (by have := hx.nn1; omega)
    have hpow : 2 ^ nv ≤ 256 := Nat.le_trans (Nat.pow_le_pow_right (by decide) hn8) (by decide)
    obtain ⟨M, hM⟩ : ∃ M, M = 2 ^ nv := ⟨_, rfl⟩
    rw [← hM] at hpow
    have hsh : (2 : Int) ^ nv = (M : Int) := by rw [hM]; simp
    have hmin : min nv 64 = nv := by omega
    have l6 : nl ≤ 60 := hx.l6
    have n2 : n ≤ 200 := hx.n2
    have n1k : n1 ≤ 4000 := hx.n1k
    have HX := Lib.hid hx
    have HC := Lib.hid (And.intro hm1 (And.intro hm0 hn0))
    clear hm0 hn0 hk0 hm1 hk1 hr1 htab hn hm hnl hf H0 hb0 hNw hx hM hv8
    go_enter Tryd.func6, Tryd.ntmps6
    go_wp2_with (first
      | (go_at_call 17; (with_reducible refine (DA _ HB.out.2).mono ?_); rintro e w1 ⟨rfl, hb1⟩
         have HB1 := Lib.hid (And.intro (HB.out.1.on hb1) (bn HB.out.2 hb1))
         obtain ⟨c0, c1, c2⟩ := HB1.out.1.c
         clear hb1)
      | (go_at_call 18; (with_reducible refine (DF _ HB1.out.2).mono ?_); rintro e w2 ⟨rfl, hb2⟩
         have HB2 := Lib.hid (And.intro (HB1.out.1.on hb2) (bn HB1.out.2 hb2))
         obtain ⟨c20, c21, c22⟩ := HB2.out.1.c
         clear hb2)
      | (go_at_call 14; (with_reducible refine (D1 _ HB2.out.2).mono ?_); rintro e w3 ⟨A3, k3, B3, q3, rfl, hN3, hb3⟩
         have hz := bx_on w3 (.cells #[.int .i64 (nv : Int), .slice A3 n1 k3, .slice B3 m q3] 24)
         have HB3 := Lib.hid (And.intro ((HB2.out.1.on hb3).on hz) (And.intro (bn (bn HB2.out.2 hb3) hz) (And.intro (hN3.on hz) (Bs.new w3 (.int .i64 (nv : Int)) (.slice A3 n1 k3) (.slice B3 m q3)))))
         obtain ⟨c30, c31, c32⟩ := HB3.out.1.c
         obtain ⟨d30, d31, d32⟩ := HB3.out.2.2.2.c
         have D4 := HB3.out.2.2.1.rcheck (by omega) (by have := HX.out.m2; omega) (nv : Int)
         rw [aE_yes HX.out.okx] at D4
         clear hN3 hb3 hz)
      | (go_at_call 21; (with_reducible refine D4.mono ?_); rintro e w4 ⟨rfl, hb4⟩
         have HB4 := Lib.hid (And.intro (HB3.out.1.on hb4) (And.intro (bn HB3.out.2.1 hb4) (And.intro (HB3.out.2.2.1.on hb4) (HB3.out.2.2.2.on hb4))))
         clear hb4 D4))
    clear DA DF D1 c0 c1 c2 c20 c21 c22 c30 c31 c32 d30 d31 d32 HB1 HB2 HB hnn hnn' g8 g8' HB3
    generalize hgx : w3.heap.size = gx at HB4 ⊢
    clear hgx
    go_loopw [9] (fun kk wr => ∃ k : Nat, k ≤ M ∧ kk = .int .i64 (k : Int) ∧ Below w4.heap.size w4 wr) (fun kk _ => M - (intOf kk).toNat)
    case atStart => exact ⟨0, Nat.zero_le _, rfl, Below.refl _ _⟩
    case round =>
      obtain ⟨y, hy, rfl, hB⟩ := hrel
      obtain ⟨r0, r1, r2⟩ := (HB4.out.1.on hB).c
      by_cases hlt : y < M
      case neg =>
        obtain rfl : y = M := by omega
        have hkn : ¬ (y : Int) < (y : Int) := by omega
        have HBr := Lib.hid hB
        clear hB
        go_wp2
        go_ret
        exact ⟨rfl, bn HB4.out.2.1 HBr.out⟩
      case pos =>
        have hk1 : (y : Int) < (M : Int) := by omega
        have hk0 : (0 : Int) ≤ (y : Int) := by omega
        have hV := values_any nv y hn8 (by omega) wr
        have HVT := Lib.hid (fun (i : Nat) (h : i < n) => tA_succ (vals nv y) t (i := i) (by have := HX.out.hn; omega))
        have HVL := Lib.hid (fun (i : Nat) (h : i < nl) => hA_succ (vals nv y) L (i := i) (by have := HX.out.hnl; omega))
        have HV0 := Lib.hid (And.intro (show tA (vals nv y) t 0 = true by simp [tA]) (show hA (vals nv y) L 0 = true by simp [hA]))
        have HVF := Lib.hid (fun (h1 : tA (vals nv y) t n = true) (h2 : hA (vals nv y) L nl = true) => HX.out.follows h1 h2)
        generalize vals nv y = V at hV HVT HVL HV0 HVF
        generalize tA V t = TT at HVT HV0 HVF
        generalize hA V L = HT at HVL HV0 HVF
        have HBr := Lib.hid hB
        clear hB
        go_wp2_with (first
          | (go_at_call 22; (with_reducible refine hV.mono ?_); rintro e w5 ⟨A5, k5, rfl, hm5, hb5⟩
             have HB5 := Lib.hid (And.intro (bn HBr.out hb5) hm5)
             clear hb5 hm5))
        clear r0 r1 r2 hV
        go_loopw [11, 12] (fun mm ii wz => ∃ i : Nat, i ≤ n ∧ ii = .int .i64 (i : Int) ∧ mm = .bool (TT i) ∧ w5 = wz) (fun _ ii _ => n - (intOf ii).toNat)
        case atStart => exact ⟨0, Nat.zero_le _, rfl, by rw [HV0.out.1], rfl⟩
        case round =>
          obtain ⟨i, hi, rfl, rfl, rfl⟩ := hrel
          obtain ⟨r0, r1, r2⟩ := (HB4.out.1.on HB5.out.1).c
          by_cases hin : i < n
          case pos =>
            obtain ⟨b, o, rfl, hb0, hcs⟩ := HC.out.2.1.cells (by have := HX.out.hn; omega)
            have hil : i < t.length := by have := HX.out.hn; omega
            have y0 := hcs i hil
            have yy := ((bn HB4.out.2.1 HB5.out.1).cell (cell_lt y0)).trans y0
            have hj1 : (i : Int) < (n : Int) := by omega
            have hj0 : (0 : Int) ≤ (i : Int) := by omega
            have DT := rTruth_any A5 nv k5 V w5.heap.size w5 (t.getD i 0) (HX.out.ok.2.1.1 _ (getD_mem hil)) (by omega) HB5.out.2
            have HTS := Lib.hid (HVT.out i hin)
            obtain ⟨p, hp⟩ : ∃ p, p = TT i := ⟨_, rfl⟩
            rw [← hp] at HTS ⊢
            generalize t.getD i 0 = u at yy DT HTS
            generalize tr V u = z at DT HTS
            clear hcs y0 hp
            cases p with
            | false =>
              go_wp2
              go_roundw
              case rel => exact ⟨i + 1, by omega, by go_num, by rw [HTS.out]; rfl, by trivial⟩
              case measure => simp [intOf]; omega
            | true =>
              go_wp2_with (first | (go_at_call 23; (with_reducible refine DT.mono ?_); rintro e wz ⟨rfl, rfl⟩))
              go_roundw
              case rel => exact ⟨i + 1, by omega, by go_num, by rw [HTS.out]; rfl, by trivial⟩
              case measure => simp [intOf]; omega
          case neg =>
            obtain rfl : i = n := by omega
            have hjn : ¬ (i : Int) < (i : Int) := by omega
            obtain ⟨p, hp⟩ : ∃ p, p = TT i := ⟨_, rfl⟩
            rw [← hp]
            have HP := Lib.hid hp
            clear hp
            go_wp2
            clear r0 r1 r2
            go_loopw [11, 13] (fun mm ii wz => ∃ j : Nat, j ≤ nl ∧ ii = .int .i64 (j : Int) ∧ mm = .bool (p && HT j) ∧ w5 = wz) (fun _ ii _ => nl - (intOf ii).toNat)
            case atStart => exact ⟨0, Nat.zero_le _, rfl, by rw [HV0.out.2, Bool.and_true], rfl⟩
            case round =>
              obtain ⟨j, hj, rfl, rfl, rfl⟩ := hrel
              by_cases hjl : j < nl
              case pos =>
                have hjL : j < L.length := by have := HX.out.hnl; omega
                obtain ⟨b, o, rfl, hb0, hcs⟩ := HC.out.1.h (by omega)
                obtain ⟨C', kc', y0, hIc⟩ := hcs j hjL
                have hbw := bn HB4.out.2.1 HB5.out.1
                have yy : w5.cell? ⟨b, o + j, none⟩ = some (.slice C' (L.getD j []).length kc') := (hbw.cell (p := ⟨b, o + j, none⟩) hb0).trans y0
                have hOc := HX.out.okL _ (gotD_mem hjL)
                have DH := rHolds_any C' (L.getD j []) kc' A5 nv k5 V w5.heap.size w5 (hIc.on hbw) (hOc.small (by omega) (by omega)).1 hOc.1 HB5.out.2 (by omega)
                have hj1 : (j : Int) < (nl : Int) := by omega
                have hj0 : (0 : Int) ≤ (j : Int) := by omega
                have HTS := Lib.hid (HVL.out j hjl)
                obtain ⟨p', hp'⟩ : ∃ p', p' = (p && HT j) := ⟨_, rfl⟩
                rw [← hp']
                have HPP := Lib.hid hp'
                obtain ⟨lc, hlc⟩ : ∃ lc, lc = (L.getD j []).length := ⟨_, rfl⟩
                rw [← hlc] at yy DH
                generalize trs V (L.getD j []) = z at DH HTS
                clear hcs y0 hp' hIc hbw hOc hlc
                cases p' with
                | false =>
                  go_wp2
                  go_roundw
                  case rel => exact ⟨j + 1, by omega, by go_num, by rw [HTS.out, ← Bool.and_assoc, ← HPP.out]; rfl, by trivial⟩
                  case measure => simp [intOf]; omega
                | true =>
                  go_wp2_with (first | (go_at_call 24; (with_reducible refine DH.mono ?_); rintro e wz ⟨rfl, rfl⟩))
                  go_roundw
                  case rel => exact ⟨j + 1, by omega, by go_num, by rw [HTS.out, ← Bool.and_assoc, ← HPP.out]; rfl, by trivial⟩
                  case measure => simp [intOf]; omega
              case neg =>
                obtain rfl : j = nl := by omega
                have hjn2 : ¬ (j : Int) < (j : Int) := by omega
                obtain ⟨p', hp'⟩ : ∃ p', p' = (p && HT j) := ⟨_, rfl⟩
                rw [← hp']
                have HPP := Lib.hid hp'
                clear hp'
                cases p' with
                | false =>
                  go_wp2
                  go_roundw
                  case rel => exact ⟨y + 1, by omega, by go_num, HB5.out.1⟩
                  case measure => simp [intOf]; omega
                | true =>
                  have hpT : p = true ∧ HT j = true := by
                    have := HPP.out
                    simpa using this.symm
                  obtain ⟨ha, hal⟩ := HVF.out (by rw [← HP.out]; exact hpT.1) hpT.2
                  have ga : ¬ (0 : Int) ≤ a := by omega
                  have HAL := Lib.hid hal
                  clear ha hal hpT
                  go_wp2
                  go_loopw [14] (fun ii wz => ∃ f : Nat, f ≤ n1 ∧ ii = .int .i64 (f : Int) ∧ w5 = wz) (fun ii _ => n1 - (intOf ii).toNat)
                  case atStart => exact ⟨0, Nat.zero_le _, rfl, rfl⟩
                  case round =>
                    obtain ⟨f, hf, rfl, rfl⟩ := hrel
                    obtain ⟨r0, r1, r2⟩ := (HB4.out.2.2.2.on HB5.out.1).c
                    by_cases hfn : f < n1
                    case pos =>
                      have hIx := (HB4.out.2.2.1.on HB5.out.1).ti
                      have hfl : f < x.length := by have := HX.out.hn1; omega
                      obtain ⟨b, o, rfl, hb0, hcs⟩ := hIx.cells (by omega)
                      have yy := hcs f hfl
                      have hj1 : (f : Int) < (n1 : Int) := by omega
                      have hj0 : (0 : Int) ≤ (f : Int) := by omega
                      have DT := rTruth_any A5 nv k5 V w5.heap.size w5 (x.getD f 0) (HX.out.okx.2.1.1 _ (getD_mem hfl)) (by omega) HB5.out.2
                      rw [HAL.out _ (getD_mem hfl)] at DT
                      generalize x.getD f 0 = u at yy DT
                      clear hcs hIx
                      go_wp2_with (first | (go_at_call 23; (with_reducible refine DT.mono ?_); rintro e wz ⟨rfl, rfl⟩))
                      go_roundw
                      case rel => exact ⟨f + 1, by omega, by go_num, by trivial⟩
                      case measure => simp [intOf]; omega
                    case neg =>
                      have hfn' : ¬ (f : Int) < (n1 : Int) := by omega
                      go_wp2
                      go_roundw
                      case rel => exact ⟨y + 1, by omega, by go_num, HB5.out.1⟩
                      case measure => simp [intOf]; omega

end Go.Proofs.YtecmldnigohjfaaDoor
