/- The contracts of deltas.sizeOf, sumOf, Read and the reference's Read. -/
import Derived.Test.YtafhdckcclhjlaaDeltaOf
namespace Go.Proofs.Ytafhdckcclhjlaa
open Go.RowKit
set_option linter.unusedVariables false
set_option linter.unusedSimpArgs false

theorem val_snoc (l : List UInt8) (x : UInt8) : val (l ++ [x]) = val l + x.toNat % 128 * 128 ^ l.length := by
  induction l with
  | nil => simp [val]
  | cons y l ih =>
    rw [List.cons_append, val, val, ih, List.length_cons, Nat.pow_succ, Nat.mul_add]
    have e : 128 * (x.toNat % 128 * 128 ^ l.length) = x.toNat % 128 * (128 ^ l.length * 128) := by
      rw [Nat.mul_comm 128, Nat.mul_assoc]
    omega
theorem val_lt : ∀ (l : List UInt8), val l < 128 ^ l.length
  | [] => by simp [val]
  | x :: l => by
    have := val_lt l
    rw [val, List.length_cons, Nat.pow_succ]
    omega
theorem val_le {l : List UInt8} (h : l.length ≤ 5) : val l < 34359738368 := by
  refine Nat.lt_of_lt_of_le (val_lt l) ?_
  exact Nat.le_trans (Nat.pow_le_pow_right (by decide) h) (by decide)
theorem val_take {l : List UInt8} {q : Nat} {x : UInt8} (h : l[q]? = some x) : val (l.take (q + 1)) = val (l.take q) + x.toNat % 128 * 128 ^ q := by
  obtain ⟨hq, rfl⟩ := List.getElem?_eq_some_iff.1 h
  have e : l.take (q + 1) = l.take q ++ [l[q]] := by simp
  rw [e, val_snoc, List.length_take, Nat.min_eq_left (by omega)]

set_option maxRecDepth 100000 in
set_option maxHeartbeats 4000000 in
theorem dSum_any (A : Option Addr) (l : List UInt8) (k : Nat) (w : World) (h : Bya w w.heap.size A l k) (hl : l.length ≤ 5) : Calls Try.prog 30 #[.slice A l.length k] w fun e w' => e = .returned (.int .i64 (val l : Int)) ∧ w = w' := by
  have H := Lib.hid h
  have HL := Lib.hid (fun q => val_le (l := l.take q) (by rw [List.length_take]; omega))
  obtain ⟨n, hn⟩ : ∃ n, l.length = n := ⟨_, rfl⟩
  rw [hn] at hl ⊢
  have HN := Lib.hid hn
  clear h hn
  go_enter Try.func30, Try.ntmps30
  go_wp2
  go_loopw [3, 8] (fun s i wr => ∃ q : Nat, q ≤ n ∧ i = .int .i64 (q : Int) ∧ s = .int .i64 (val (l.take q) : Int) ∧ w = wr) (fun _ i _ => n - (intOf i).toNat)
  case atStart => exact ⟨0, Nat.zero_le _, rfl, by simp [val], rfl⟩
  case round =>
    obtain ⟨q, hq, rfl, rfl, rfl⟩ := hrel
    have hv := HL.out q
    by_cases hlt : q < n
    · have hq1 : (q : Int) < (n : Int) := by omega
      have hq0 : (0 : Int) ≤ (q : Int) := by omega
      obtain ⟨x, hx⟩ : ∃ x, l[q]? = some x := ⟨l[q]'(by have := HN.out; omega), by simp [HN.out, hlt]⟩
      obtain ⟨a, rfl, hab, hc⟩ := H.out.h (by have := HN.out; omega)
      have y := hc q x hx
      have hx8 := x.toNat_lt
      have HX := Lib.hid (val_take hx)
      have hv2 := HL.out (q + 1)
      rw [HX.out] at hv2
      obtain ⟨v, hvv⟩ : ∃ v, val (l.take q) = v := ⟨_, rfl⟩
      obtain ⟨X, hX⟩ : ∃ X, x.toNat = X := ⟨_, rfl⟩
      rw [hX] at y hx8 hv2
      rw [hvv] at hv hv2 ⊢
      have HV := Lib.hid (And.intro hvv hX)
      clear hvv hX hc hx
      have h5 : q = 0 ∨ q = 1 ∨ q = 2 ∨ q = 3 ∨ q = 4 := by omega
      obtain ⟨D, hD⟩ : ∃ D : Nat, X % 128 * 128 ^ q = D := ⟨_, rfl⟩
      have hw0 : wrap64 ((X : Int) % 128 * 2 ^ (7 * q)) = (D : Int) := by
        rw [← hD]
        unfold wrap64
        rcases h5 with rfl | rfl | rfl | rfl | rfl
        all_goals
          simp
          try omega
      rw [hD] at hv2
      have HD := Lib.hid hD
      clear hD h5
      have hw1 : wrap64 ((v : Int) + (D : Int)) = ((v + D : Nat) : Int) := by unfold wrap64; omega
      have HW := Lib.hid (And.intro hw0 hw1)
      clear hw0 hw1
      go_wp2
      go_roundw
      case rel => exact ⟨q + 1, by omega, by go_num, by rw [HX.out, HV.out.1, HV.out.2, HD.out, HW.out.1, HW.out.2], by first | rfl | trivial⟩
      case measure => simp [intOf]; omega
    · obtain rfl : q = n := by omega
      have hlt' : ¬ (q : Int) < (q : Int) := by omega
      have HE := Lib.hid (show l.take q = l by rw [← HN.out]; exact List.take_length)
      clear hq hlt hv
      go_wp2
      go_ret
      exact ⟨by rw [HE.out]; rfl, rfl⟩

/-- what sizeOf returns -/
def szN (l : List UInt8) : Int := if his 5 l < 5 ∧ his 5 l < l.length then (his 5 l : Int) + 1 else 0
def szE (l : List UInt8) : Int := if his 5 l = 5 then 16 else if his 5 l = l.length then 6 else 0
set_option maxRecDepth 100000 in
set_option maxHeartbeats 4000000 in
theorem dSize_any (A : Option Addr) (l : List UInt8) (k : Nat) (w : World) (h : Bya w w.heap.size A l k) (hl : l.length ≤ 100000) : Calls Try.prog 29 #[.slice A l.length k] w fun e w' => e = .returned (.tuple #[.int .i64 (szN l), .int .i64 (szE l)]) ∧ w = w' := by
  obtain ⟨N, hN⟩ : ∃ N, N = min l.length 5 := ⟨_, rfl⟩
  have hmin : ∀ ts t W, (Builtin.min_ ts t #[.int .i64 (l.length : Int), .int .i64 5]).run Try.prog W = .ok (.int .i64 (N : Int)) W := fun ts t W => by
    rw [run_min_int2]
    congr 2
    rw [hN]
    split <;> omega
  obtain ⟨A', hs, hA⟩ := h.upto N (by omega)
  have hN1 : (l.take N).length = N := by rw [List.length_take]; omega
  rw [hN1] at hs
  obtain ⟨n, hn⟩ : ∃ n, l.length = n := ⟨_, rfl⟩
  rw [hn] at hmin hs hl hN ⊢
  have HP := Lib.hid (his_le 5 l)
  have HE := Lib.hid (his_end 5 l)
  have H := Lib.hid (And.intro hA (And.intro hN1 hn))
  have HNN := Lib.hid hN
  have hN5 : N ≤ 5 := by omega
  have hNn : N ≤ n := by omega
  clear h hA hN1 hn hN
  go_enter Try.func29, Try.ntmps29
  go_wp2
  go_loopw [12] (fun i wr => ∃ q : Nat, q ≤ his 5 l ∧ i = .int .i64 (q : Int) ∧ w = wr) (fun i _ => N - (intOf i).toNat)
  case atStart => exact ⟨0, Nat.zero_le _, rfl, rfl⟩
  case round =>
    obtain ⟨q, hq, rfl, rfl⟩ := hrel
    have hqN : q ≤ N := by have := HP.out; have := HNN.out; have := H.out.2.2; omega
    by_cases hlt : q < N
    · have hq1 : (q : Int) < (N : Int) := by omega
      have hq0 : (0 : Int) ≤ (q : Int) := by omega
      obtain ⟨x, hx⟩ : ∃ x, l[q]? = some x := ⟨l[q]'(by have := H.out.2.2; omega), by have := H.out.2.2; rw [List.getElem?_eq_getElem]⟩
      obtain ⟨a, rfl, hab, hc⟩ := H.out.1.h (by rw [H.out.2.1]; omega)
      have y := hc q x (by rw [List.getElem?_take, if_pos hlt, hx])
      clear hc
      by_cases h8 : x.toNat < 128
      · have h8i : (x.toNat : Int) < 128 := by omega
        have hh : his 5 l = q := by
          rcases Nat.lt_or_ge q (his 5 l) with hg | hg
          · obtain ⟨z, e1, e2⟩ := his_at 5 l q hg
            rw [hx] at e1; cases e1; omega
          · omega
        have hr1 : szN l = (q : Int) + 1 := by unfold szN; rw [hh, if_pos (by have := H.out.2.2; omega)]
        have hr2 : szE l = 0 := by unfold szE; rw [hh, if_neg (by omega), if_neg (by have := H.out.2.2; omega)]
        have HR := Lib.hid (And.intro hr1 hr2)
        clear hh hr1 hr2 h8 hx
        go_wp2
        go_ret2
        exact ⟨by rw [HR.out.1, HR.out.2]; rfl, rfl⟩
      · have h8i : ¬ (x.toNat : Int) < 128 := by omega
        have hh : q + 1 ≤ his 5 l := by
          rcases Nat.lt_or_ge q (his 5 l) with hg | hg
          · omega
          · exfalso
            have e : his 5 l = q := by omega
            obtain ⟨z, e1, e2⟩ := HE.out (by omega) (by have := H.out.2.2; omega)
            rw [e, hx] at e1; cases e1; omega
        clear h8 hx
        go_wp2
        go_roundw
        case rel => exact ⟨q + 1, by omega, by go_num, by first | rfl | trivial⟩
        case measure => simp [intOf]; omega
    · have hlt' : ¬ (q : Int) < (N : Int) := by omega
      have hh : his 5 l = N := by have := HP.out; have := HNN.out; have := H.out.2.2; omega
      by_cases h5 : n < 5
      · have h5i : (n : Int) < 5 := by omega
        have hr1 : szN l = 0 := by unfold szN; rw [if_neg (by have := H.out.2.2; have := HNN.out; omega)]
        have hr2 : szE l = 6 := by unfold szE; rw [hh, if_neg (by have := HNN.out; omega), if_pos (by have := H.out.2.2; have := HNN.out; omega)]
        have HR := Lib.hid (And.intro hr1 hr2)
        clear hh hr1 hr2 h5
        go_wp2
        go_ret2
        exact ⟨by rw [HR.out.1, HR.out.2]; rfl, rfl⟩
      · have h5i : ¬ (n : Int) < 5 := by omega
        have hr1 : szN l = 0 := by unfold szN; rw [if_neg (by have := H.out.2.2; have := HNN.out; omega)]
        have hr2 : szE l = 16 := by unfold szE; rw [hh, if_pos (by have := HNN.out; omega)]
        have HR := Lib.hid (And.intro hr1 hr2)
        clear hh hr1 hr2 h5
        go_wp2
        go_ret2
        exact ⟨by rw [HR.out.1, HR.out.2]; rfl, rfl⟩

/-- what Read returns -/
abbrev rdV (l : List UInt8) : Value := .tuple #[.int .i64 (rdN l : Int), .int .i64 (rdS l : Int), .int .i64 (rdE l)]
theorem rdV_no {l : List UInt8} {e : Int} (h : rdE l = e) (h0 : e ≠ 0) : rdV l = .tuple #[.int .i64 0, .int .i64 0, .int .i64 e] := by
  have h1 := rd_no (l := l) (by rw [h]; exact h0)
  rw [rdV, h1.1, h1.2, h]; rfl
set_option maxRecDepth 100000 in
set_option maxHeartbeats 4000000 in
theorem dRead_any (A : Option Addr) (l : List UInt8) (k : Nat) (w : World) (h : Bya w w.heap.size A l k) (hl : l.length ≤ 100000) : Calls Try.prog 18 #[.slice A l.length k] w fun e w' => e = .returned (rdV l) ∧ w = w' := by
  have D := dSize_any A l k w h hl
  rcases rd_ways l with g | g | g | g | g
  · have hE : szE l = 16 := by unfold szE; rw [if_pos g.1]
    obtain ⟨z, hz⟩ : ∃ z, szN l = z := ⟨_, rfl⟩
    rw [hE, hz] at D
    rw [rdV_no g.2 (by decide)]
    have D1 := Lib.hid D
    clear D g hE hz
    go_enter Try.func18, Try.ntmps18
    go_wp2_with (go_at_call 29; (with_reducible refine D1.out.mono ?_); rintro e w1 ⟨rfl, rfl⟩)
    go_ret3
    exact ⟨rfl, rfl⟩
  · have hE : szE l = 6 := by unfold szE; rw [if_neg (by omega), if_pos g.2.1]
    obtain ⟨z, hz⟩ : ∃ z, szN l = z := ⟨_, rfl⟩
    rw [hE, hz] at D
    rw [rdV_no g.2.2 (by decide)]
    have D1 := Lib.hid D
    clear D g hE hz
    go_enter Try.func18, Try.ntmps18
    go_wp2_with (go_at_call 29; (with_reducible refine D1.out.mono ?_); rintro e w1 ⟨rfl, rfl⟩)
    go_ret3
    exact ⟨rfl, rfl⟩
  all_goals
    have hE : szE l = 0 := by unfold szE; rw [if_neg (by omega), if_neg (by omega)]
    have hZ : szN l = (his 5 l : Int) + 1 := by unfold szN; rw [if_pos (by omega)]
    obtain ⟨A', hs, hA⟩ := h.upto (his 5 l + 1) (by omega)
    have S1 := dSum_any A' (l.take (his 5 l + 1)) k w hA (by rw [List.length_take]; omega)
    have hlen : (l.take (his 5 l + 1)).length = his 5 l + 1 := by rw [List.length_take]; omega
    obtain ⟨a, rfl, hab, hc⟩ := h.h (by omega)
    obtain ⟨x, hx, hx8⟩ := his_end 5 l (by omega) (by omega)
    have y := hc _ x hx
    have hx0 : l[his 5 l]? = some 0 ↔ x.toNat = 0 := by
      rw [hx]
      constructor
      · intro e; injection e with e; rw [e]; rfl
      · intro e; congr 1; exact UInt8.toNat_inj.1 e
    have hvl := val_le (l := l.take (his 5 l + 1)) (by omega)
    rw [hlen] at hs S1
    rw [hE, hZ] at D
    have hN5 : his 5 l < 5 := by omega
    have hNl : his 5 l < l.length := by omega
    rw [show ((his 5 l + 1 : Nat) : Int) = (his 5 l : Int) + 1 by omega] at hs
    obtain ⟨m, hm⟩ : ∃ m, his 5 l = m := ⟨_, rfl⟩
    obtain ⟨v, hv⟩ : ∃ v, val (l.take (m + 1)) = v := ⟨_, rfl⟩
    obtain ⟨X, hX⟩ : ∃ X, x.toNat = X := ⟨_, rfl⟩
    obtain ⟨n, hn⟩ : ∃ n, l.length = n := ⟨_, rfl⟩
    rw [hm] at g hs S1 D hvl hx0 y hN5 hNl
    rw [hv] at g S1 hvl
    rw [hX] at hx0 y hx8
    rw [hn] at g D hs hl hNl ⊢
    have D1 := Lib.hid D
    have D2 := Lib.hid S1
    have HM := Lib.hid (And.intro hm hv)
    clear D S1 h hA hc hx hE hZ hlen hX hn hm hv
  · have hgt : (2147483647 : Int) < (v : Int) := by omega
    have HR := Lib.hid (rdV_no g.2.2.2 (by decide))
    clear g hx0
    go_enter Try.func18, Try.ntmps18
    go_wp2_with (first
      | (go_at_call 29; (with_reducible refine D1.out.mono ?_); rintro e w1 ⟨rfl, rfl⟩)
      | (go_at_call 30; (with_reducible refine D2.out.mono ?_); rintro e w1 ⟨rfl, rfl⟩))
    go_ret3
    exact ⟨by rw [HR.out]; rfl, rfl⟩
  · have hgt : ¬ (2147483647 : Int) < (v : Int) := by omega
    have hm0 : (1 : Int) < (m : Int) + 1 := by omega
    have hX0 : X = 0 := hx0.1 g.2.2.2.2.1
    have HR := Lib.hid (rdV_no g.2.2.2.2.2 (by decide))
    subst hX0
    clear g hx0
    go_enter Try.func18, Try.ntmps18
    go_wp2_with (first
      | (go_at_call 29; (with_reducible refine D1.out.mono ?_); rintro e w1 ⟨rfl, rfl⟩)
      | (go_at_call 30; (with_reducible refine D2.out.mono ?_); rintro e w1 ⟨rfl, rfl⟩))
    go_ret3
    exact ⟨by rw [HR.out]; rfl, rfl⟩
  · have hgt : ¬ (2147483647 : Int) < (v : Int) := by omega
    have HR := Lib.hid (show rdV l = .tuple #[.int .i64 (v : Int), .int .i64 ((m : Int) + 1), .int .i64 0] by
      have h0 : rdE l = 0 := g.2.2.2.2
      obtain ⟨_, _, _, _, h5, h6⟩ := rd_yes h0
      rw [HM.out.1] at h5 h6
      rw [HM.out.2] at h5
      rw [rdV, h0, h5, h6]; rfl)
    by_cases hm0 : 0 < m
    · have hm1 : (1 : Int) < (m : Int) + 1 := by omega
      have hXi : ((X : Int) == 0) = false := by
        have : X ≠ 0 := fun e => g.2.2.2.1 ⟨hm0, hx0.2 e⟩
        simp; omega
      clear g hx0
      go_enter Try.func18, Try.ntmps18
      go_wp2_with (first
        | (go_at_call 29; (with_reducible refine D1.out.mono ?_); rintro e w1 ⟨rfl, rfl⟩)
        | (go_at_call 30; (with_reducible refine D2.out.mono ?_); rintro e w1 ⟨rfl, rfl⟩))
      go_ret3
      exact ⟨by rw [HR.out]; rfl, rfl⟩
    · have hm1 : ¬ (1 : Int) < (m : Int) + 1 := by omega
      clear g hx0
      go_enter Try.func18, Try.ntmps18
      go_wp2_with (first
        | (go_at_call 29; (with_reducible refine D1.out.mono ?_); rintro e w1 ⟨rfl, rfl⟩)
        | (go_at_call 30; (with_reducible refine D2.out.mono ?_); rintro e w1 ⟨rfl, rfl⟩))
      go_ret3
      exact ⟨by rw [HR.out]; rfl, rfl⟩

theorem val_drop {l : List UInt8} {m j : Nat} {x : UInt8} (h : l[j]? = some x) (hj : j ≤ m) : val ((l.take (m + 1)).drop j) = x.toNat % 128 + 128 * val ((l.take (m + 1)).drop (j + 1)) := by
  obtain ⟨hq, rfl⟩ := List.getElem?_eq_some_iff.1 h
  have hl : j < (l.take (m + 1)).length := by rw [List.length_take]; omega
  rw [List.drop_eq_getElem_cons hl, val, List.getElem_take]
set_option maxRecDepth 100000 in
set_option maxHeartbeats 4000000 in
theorem rRead_any (A : Option Addr) (l : List UInt8) (k : Nat) (w : World) (h : Bya w w.heap.size A l k) (hl : l.length ≤ 100000) : Calls Try.prog 19 #[.slice A l.length k] w fun e w' => e = .returned (rdV l) ∧ w = w' := by
  have HP := Lib.hid (his_le 5 l)
  have HE := Lib.hid (his_end 5 l)
  have HA := Lib.hid (his_at 5 l)
  have H := Lib.hid h
  obtain ⟨n, hn⟩ : ∃ n, l.length = n := ⟨_, rfl⟩
  rw [hn] at hl ⊢
  have HN := Lib.hid hn
  clear h hn
  go_enter Try.func19, Try.ntmps19
  go_wp2
  go_loopw [5] (fun i wr => ∃ q : Nat, q ≤ his 5 l ∧ i = .int .i64 (q : Int) ∧ w = wr) (fun i _ => 5 - (intOf i).toNat)
  case atStart => exact ⟨0, Nat.zero_le _, rfl, rfl⟩
  case round =>
    obtain ⟨q, hq, rfl, rfl⟩ := hrel
    have hp := HP.out
    rw [HN.out] at hp
    by_cases hlt : q < his 5 l
    · have hq1 : (q : Int) < (n : Int) := by omega
      have hq5 : (q : Int) < 5 := by omega
      have hq0 : (0 : Int) ≤ (q : Int) := by omega
      obtain ⟨x, hx, hx8⟩ := HA.out q hlt
      obtain ⟨a, rfl, hab, hc⟩ := H.out.h (by have := HN.out; omega)
      have y := hc q x hx
      have h8i : (128 : Int) ≤ (x.toNat : Int) := by omega
      clear hc hx hx8
      go_wp2
      go_roundw
      case rel => exact ⟨q + 1, by omega, by go_num, by first | rfl | trivial⟩
      case measure => simp [intOf]; omega
    · obtain rfl : q = his 5 l := by omega
      obtain ⟨m, hm⟩ : ∃ m, his 5 l = m := ⟨_, rfl⟩
      rw [hm] at hp ⊢
      by_cases h5 : m = 5
      · subst h5
        have HR := Lib.hid (rdV_no (l := l) (e := 16) (by unfold rdE; rw [if_pos hm]) (by decide))
        have hq5 : ¬ (5 : Int) < 5 := by omega
        by_cases hn5 : (5 : Int) < (n : Int)
        · clear hq hlt hp hm
          go_wp2
          go_ret3
          exact ⟨by rw [HR.out]; rfl, rfl⟩
        · have hn5' : ¬ (5 : Int) < (n : Int) := hn5
          clear hq hlt hp hm
          go_wp2
          go_ret3
          exact ⟨by rw [HR.out]; rfl, rfl⟩
      have h5i : ((m : Int) == 5) = false := by simp; omega
      by_cases hmn : m = n
      · subst hmn
        have HR := Lib.hid (rdV_no (l := l) (e := 6) (by unfold rdE; rw [if_neg (by omega), if_pos (by rw [hm, HN.out])]) (by decide))
        clear hq hlt hp hm h5
        go_wp2
        go_ret3
        exact ⟨by rw [HR.out]; rfl, rfl⟩
      have hmi : ((m : Int) == (n : Int)) = false := by simp; omega
      have hm1 : (m : Int) < (n : Int) := by omega
      have hm5 : (m : Int) < 5 := by omega
      have hm0 : (0 : Int) ≤ (m : Int) := by omega
      have hE := HE.out (by omega) (by have := HN.out; omega)
      rw [hm] at hE
      obtain ⟨x, hx, hx8⟩ := hE
      obtain ⟨a, rfl, hab, hc⟩ := H.out.h (by have := HN.out; omega)
      have y := hc m x hx
      have h8i : ¬ (128 : Int) ≤ (x.toNat : Int) := by omega
      have HW := Lib.hid (rd_ways l)
      have HM := Lib.hid hm
      have HC := Lib.hid hc
      have HX := Lib.hid hx
      clear hc hx hq hlt hp hm h5 hmn hx8
      go_wp2
      go_loopw [6, 7] (fun s i wr => ∃ j : Nat, j ≤ m + 1 ∧ i = .int .i64 ((j : Int) - 1) ∧ s = .int .i64 (val ((l.take (m + 1)).drop j) : Int) ∧ w = wr) (fun _ i _ => (intOf i + 1).toNat)
      case atStart => exact ⟨m + 1, Nat.le_refl _, by go_num, by rw [List.drop_eq_nil_of_le (by rw [List.length_take]; omega)]; rfl, rfl⟩
      case round =>
        obtain ⟨j, hj, rfl, rfl, rfl⟩ := hrel
        cases j with
        | zero =>
          have hji : ¬ (0 : Int) ≤ ((0 : Nat) : Int) - 1 := by omega
          obtain ⟨v, hv⟩ : ∃ v, val ((l.take (m + 1)).drop 0) = v := ⟨_, rfl⟩
          obtain ⟨X, hX⟩ : ∃ X, x.toNat = X := ⟨_, rfl⟩
          have hx0 : l[m]? = some 0 ↔ X = 0 := by
            rw [HX.out, ← hX]
            constructor
            · intro e; injection e with e; rw [e]; rfl
            · intro e; congr 1; exact UInt8.toNat_inj.1 e
          rw [hX] at y h8i
          rw [hv]
          rw [List.drop_zero] at hv
          have hvl := val_le (l := l.take (m + 1)) (by rw [List.length_take]; omega)
          rw [hv] at hvl
          have g := HW.out
          rw [HM.out, HN.out, hv] at g
          have HRV : Hid (rdE l = 0 → rdV l = .tuple #[.int .i64 (v : Int), .int .i64 ((m : Int) + 1), .int .i64 0]) := Lib.hid fun h0 => by
            obtain ⟨_, _, _, _, h5, h6⟩ := rd_yes h0
            rw [HM.out] at h5 h6
            rw [hv] at h5
            rw [rdV, h0, h5, h6]; rfl
          clear hv hX
          by_cases hgt : 2147483647 < v
          · have hgi : (2147483647 : Int) < (v : Int) := by omega
            have HR := Lib.hid (rdV_no (l := l) (e := 16) (by omega) (by decide))
            clear g hx0 hgt
            go_wp2
            go_ret3
            exact ⟨by rw [HR.out]; rfl, rfl⟩
          · have hgi : ¬ (2147483647 : Int) < (v : Int) := by omega
            by_cases hm0 : 0 < m
            · have hmi0 : (0 : Int) < (m : Int) := by omega
              by_cases hX0 : X = 0
              · subst hX0
                have HR := Lib.hid (rdV_no (l := l) (e := 12) (by
                  rcases g with g | g | g | g | g
                  · omega
                  · omega
                  · omega
                  · exact g.2.2.2.2.2
                  · exact absurd ⟨hm0, hx0.2 rfl⟩ g.2.2.2.1) (by decide))
                clear g hx0 hgt hm0
                go_wp2
                go_ret3
                exact ⟨by rw [HR.out]; rfl, rfl⟩
              · have hXi : ((X : Int) == 0) = false := by simp; omega
                have h0 : rdE l = 0 := by
                  rcases g with g | g | g | g | g
                  · omega
                  · omega
                  · omega
                  · exact absurd (hx0.1 g.2.2.2.2.1) hX0
                  · exact g.2.2.2.2
                have HR := Lib.hid (HRV.out h0)
                clear g hx0 hgt hm0 h0 hX0
                go_wp2
                go_ret3
                exact ⟨by rw [HR.out]; rfl, rfl⟩
            · have hmi0 : ¬ (0 : Int) < (m : Int) := by omega
              have h0 : rdE l = 0 := by
                rcases g with g | g | g | g | g
                · omega
                · omega
                · omega
                · omega
                · exact g.2.2.2.2
              have HR := Lib.hid (HRV.out h0)
              clear g hx0 hgt hm0 h0
              go_wp2
              go_ret3
              exact ⟨by rw [HR.out]; rfl, rfl⟩
        | succ j =>
          obtain ⟨z, hz⟩ : ∃ z, l[j]? = some z := ⟨l[j]'(by have := HN.out; omega), by have := HN.out; rw [List.getElem?_eq_getElem]⟩
          have yj := HC.out j z hz
          have HS := Lib.hid (val_drop (m := m) hz (by omega))
          have hvl : val ((l.take (m + 1)).drop (j + 1)) < 34359738368 := val_le (by rw [List.length_drop, List.length_take]; omega)
          obtain ⟨v, hv⟩ : ∃ v, val ((l.take (m + 1)).drop (j + 1)) = v := ⟨_, rfl⟩
          obtain ⟨Z, hZ⟩ : ∃ Z, z.toNat = Z := ⟨_, rfl⟩
          have hz8 := z.toNat_lt
          rw [hZ] at yj hz8
          rw [hv] at hvl ⊢
          have HV := Lib.hid (And.intro hv hZ)
          have hji : (0 : Int) ≤ ((j + 1 : Nat) : Int) - 1 := by omega
          have hjj : ((j + 1 : Nat) : Int) - 1 = (j : Int) := by omega
          have hjn : (j : Int) < (n : Int) := by omega
          clear hz hv hZ
          rw [hjj]
          clear hjj hji
          go_wp2
          go_roundw
          case rel => exact ⟨j, by omega, by go_num, by rw [HS.out, HV.out.1, HV.out.2]; congr 1; omega, by first | rfl | trivial⟩
          case measure => simp [intOf]

end Go.Proofs.Ytafhdckcclhjlaa
