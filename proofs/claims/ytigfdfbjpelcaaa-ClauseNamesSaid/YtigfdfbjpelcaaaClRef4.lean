/- The reference's contracts: Without, Make, Implies, Resolve. -/
import Derived.Test.YtigfdfbjpelcaaaClRef3
import Derived.Test.YtigfdfbjpelcaaaClProg5
namespace Go.Proofs.Ytigfdfbjpelcaaa
open Go Go.RowKit
set_option linter.unusedVariables false
set_option linter.unusedSimpArgs false

theorem wo_succ {l : List Int} {j : Nat} (hj : j < l.length) (p : Int → Bool) : (l.take (j + 1)).filter p = (l.take j).filter p ++ (if p (l.getD j 0) = true then [l.getD j 0] else []) := by
  rw [List.take_succ_eq_append_getElem hj, List.filter_append, getD_at hj]
  congr 1
  by_cases h : p l[j] = true <;> simp [h]

set_option maxRecDepth 100000 in
set_option maxHeartbeats 2000000 in
theorem rWithout_any (A : Option Addr) (l : List Int) (k : Nat) (x : Int) (B : Nat) (w : World) (h : Ia w B A l k) (hBw : B ≤ w.heap.size) (hl : l.length ≤ 100000) :
    Calls Try.prog 46 #[.slice A l.length k, .int .i64 x] w fun e w' => ∃ v, e = .returned v ∧ Io w.heap.size w' v (l.filter fun z => !decide (z = x)) ∧ Below w.heap.size w w' := by
  obtain ⟨n, hn⟩ : ∃ n, n = l.length := ⟨_, rfl⟩
  rw [← hn]
  have hl1 : n ≤ 100000 := by rw [hn]; exact hl
  have HH := Lib.hid (And.intro (h.more hBw) hn)
  clear h hl hn
  go_enter Try.func46, Try.ntmps46
  go_wp2
  go_loopw [5, 6] (fun v i wr => ∃ j : Nat, j ≤ n ∧ i = .int .i64 (j : Int) ∧ Io w.heap.size wr v ((l.take j).filter fun z => !decide (z = x)) ∧ Below w.heap.size w wr) (fun _ i _ => n - (intOf i).toNat)
  case atStart => exact ⟨0, Nat.zero_le _, rfl, Io.nil _ _, Below.refl _ _⟩
  case round =>
    obtain ⟨j, hj, rfl, hown, hB⟩ := hrel
    by_cases hlt : j < n
    · obtain ⟨b, o, rfl, hb0, hcs⟩ := HH.out.1.cells (by have := HH.out.2; omega)
      have hjl : j < l.length := by have := HH.out.2; omega
      have y0 := hcs j hjl
      have y : _ = _ := (hB.cell (cell_lt y0)).trans y0
      have hj1 : (j : Int) < (n : Int) := by omega
      have hj0 : (0 : Int) ≤ (j : Int) := by omega
      have hfl : ((l.take j).filter fun z => !decide (z = x)).length ≤ 100000 := Nat.le_trans (List.length_filter_le _ _) (by rw [List.length_take]; omega)
      have hws := wo_succ hjl fun z => !decide (z = x)
      obtain ⟨u, hu⟩ : ∃ u, u = l.getD j 0 := ⟨_, rfl⟩
      rw [← hu] at y hws
      by_cases he : u = x
      · have e1 : (u != x) = false := by simpa using he
        rw [if_neg (by simpa using he), List.append_nil] at hws
        rw [← hws] at hown
        have HK := Lib.hid (And.intro hown hB)
        clear hown hB hcs y0 hu he hfl hws
        go_wp2
        go_roundw
        case rel => exact ⟨j + 1, by omega, by go_num, HK.out.1, HK.out.2⟩
        case measure => simp [intOf]; omega
      · have e1 : (u != x) = true := by simpa using he
        rw [if_pos (by simpa using he)] at hws
        have HW := Lib.hid (And.intro hws (And.intro hown (And.intro hB hfl)))
        clear hown hB hcs y0 hu he hfl hws
        go_wp2_with (first
          | (at_builtin
             (refine io_append rfl (.tmp 19) (.tmp 24) rfl w.heap.size _ _ rfl ((HW.out.2.1).keep ((Below.refl _ _).alloc (Nat.le_refl _) _)) _ 1 1 [u] rfl rfl (src_int _ _) (by have := HW.out.2.2.2; simp only [List.length_singleton]; omega) (by have := HW.out.2.2.1.size; simp; omega) ?_)
             intro v1 w1 ho1 hb1
             have HI := Lib.hid (And.intro ho1 ((HW.out.2.2.1.alloc HW.out.2.2.1.size _).trans hb1))
             clear ho1 hb1))
        go_roundw
        case rel => exact ⟨j + 1, by omega, by go_num, by rw [HW.out.1]; exact HI.out.1, HI.out.2⟩
        case measure => simp [intOf]; omega
    · obtain rfl : j = n := by omega
      rw [HH.out.2, List.take_length] at hown
      have HK := Lib.hid (And.intro hown hB)
      have hjn : ¬ (j : Int) < (j : Int) := by omega
      clear hown hB
      go_wp2
      go_ret
      exact ⟨_, rfl, HK.out.1, HK.out.2⟩

set_option maxRecDepth 100000 in
set_option maxHeartbeats 2000000 in
theorem rMake_any (v : Int) (A : Option Addr) (l : List Int) (k : Nat) (w : World) (h : Ia w w.heap.size A l k) (hl : l.length ≤ 100000) :
    Calls Try.prog 11 #[.int .i64 v, .slice A l.length k] w (LsIs3 (mkL v l) (mkA v l) (mkE v l) w) := by
  by_cases hv : v < 0 ∨ 4000 < v
  · have hm := mkE_lo (l := l) hv
    obtain ⟨m1, m2⟩ := mk_err (v := v) (l := l) (by omega)
    rw [m1, m2, hm]
    have ev : (!decide (v < 0 ∨ 4000 < v)) = false := by simp [hv]
    clear m1 m2 hm h hl
    go_enter Try.func11, Try.ntmps11
    go_wp2_with (first | (go_at_call 33; (with_reducible refine (rVars_any v _).mono ?_); rintro e w1 ⟨rfl, hw1⟩; obtain rfl := hw1; rw [ev]))
    go_ret3
    exact ⟨none, 0, rfl, Ia.nil _ _, Below.refl _ _⟩
  · have ev : (!decide (v < 0 ∨ 4000 < v)) = true := by simp [hv]
    have DA := fun (hr : ∀ x ∈ l, isL v x = true) => rAlways_any A l k w.heap.size w h (by omega) fun x hx => by have := isL_iff.1 (hr x hx); omega
    have DS := rSorted_any A l k w h hl
    obtain ⟨n, hn⟩ : ∃ n, n = l.length := ⟨_, rfl⟩
    rw [← hn] at DA DS ⊢
    have hl1 : n ≤ 100000 := by rw [hn]; exact hl
    have HH := Lib.hid (And.intro h (And.intro hn hv))
    have HL := Lib.hid fun (x : Int) (W : World) => rLit_any v x (by omega) W
    have HD := Lib.hid (And.intro DA DS)
    clear h hl hn hv DA DS
    go_enter Try.func11, Try.ntmps11
    go_wp2_with (first | (go_at_call 33; (with_reducible refine (rVars_any v _).mono ?_); rintro e w1 ⟨rfl, hw1⟩; obtain rfl := hw1; rw [ev]))
    go_loopw [7] (fun i wr => ∃ j : Nat, j ≤ n ∧ i = .int .i64 (j : Int) ∧ (∀ q, q < j → isL v (l.getD q 0) = true) ∧ w = wr) (fun i _ => n - (intOf i).toNat)
    case atStart => exact ⟨0, Nat.zero_le _, rfl, fun q hq => absurd hq (Nat.not_lt_zero _), rfl⟩
    case round =>
      obtain ⟨j, hj, rfl, hok, rfl⟩ := hrel
      by_cases hlt : j < n
      · obtain ⟨b, o, rfl, hb0, hcs⟩ := HH.out.1.cells (by have := HH.out.2.1; omega)
        have hjl : j < l.length := by have := HH.out.2.1; omega
        have y := hcs j hjl
        have hj1 : (j : Int) < (n : Int) := by omega
        have hj0 : (0 : Int) ≤ (j : Int) := by omega
        have D := HL.out (l.getD j 0) w
        obtain ⟨u, hu⟩ : ∃ u, u = l.getD j 0 := ⟨_, rfl⟩
        rw [← hu] at y D
        cases eL : isL v u with
        | false =>
          rw [eL] at D
          have hal : allL v l = false := by rw [← Bool.not_eq_true, allL_iff]; exact fun h => by have := h _ (getD_mem hjl); rw [← hu, eL] at this; cases this
          have hm := mkE_no HH.out.2.2 hal
          obtain ⟨m1, m2⟩ := mk_err (v := v) (l := l) (by omega)
          have HR := Lib.hid (And.intro hm (And.intro m1 m2))
          clear hcs hu hok eL hal hm m1 m2
          go_wp2_with (first | (go_at_call 24; (with_reducible refine D.mono ?_); rintro e w1 ⟨rfl, rfl⟩))
          go_ret3
          rw [HR.out.1, HR.out.2.1, HR.out.2.2]
          exact ⟨none, 0, rfl, Ia.nil _ _, Below.refl _ _⟩
        | true =>
          rw [eL] at D
          have HK := Lib.hid (And.intro hok (show isL v (l.getD j 0) = true by rw [← hu]; exact eL))
          clear hcs hu hok eL
          go_wp2_with (first | (go_at_call 24; (with_reducible refine D.mono ?_); rintro e w1 ⟨rfl, rfl⟩))
          go_roundw
          case rel => exact ⟨j + 1, by omega, by go_num, fun q hq => by
            rcases Nat.lt_succ_iff_lt_or_eq.1 hq with h' | h'
            · exact HK.out.1 q h'
            · subst h'; exact HK.out.2, by trivial⟩
          case measure => simp [intOf]; omega
      · have hal : ∀ x ∈ l, isL v x = true := fun x hx => by
          obtain ⟨q, hq, rfl⟩ := mem_getD hx
          exact hok q (by have := HH.out.2.1; omega)
        have hm := mkE_yes HH.out.2.2 (allL_iff.2 hal)
        have D := HD.out.1 hal
        have D2 := HD.out.2
        have hjn : ¬ (j : Int) < (n : Int) := by omega
        cases ha : alw l with
        | true =>
          rw [ha] at D
          obtain ⟨m1, m2⟩ := mk_alw hm ha
          have HR := Lib.hid (And.intro hm (And.intro m1 m2))
          clear hok ha hal hm m1 m2
          go_wp2_with (first | (go_at_call 34; (with_reducible refine D.mono ?_); rintro e w1 ⟨rfl, rfl⟩))
          go_ret3
          rw [HR.out.1, HR.out.2.1, HR.out.2.2]
          exact ⟨none, 0, rfl, Ia.nil _ _, Below.refl _ _⟩
        | false =>
          rw [ha] at D
          obtain ⟨m1, m2⟩ := mk_yes hm ha
          have HR := Lib.hid (And.intro hm (And.intro m1 m2))
          clear hok ha hal hm m1 m2
          go_wp2_with (first
            | (go_at_call 34; (with_reducible refine D.mono ?_); rintro e w1 ⟨rfl, rfl⟩)
            | (go_at_call 35; (with_reducible refine D2.mono ?_); rintro e w1 ⟨v1, rfl, ho1, hb1⟩))
          go_ret3
          rw [HR.out.1, HR.out.2.1, HR.out.2.2]
          obtain ⟨A1, k1, rfl, hI1⟩ := ho1.at
          exact ⟨A1, k1, rfl, hI1, hb1⟩

set_option maxHeartbeats 2000000 in
theorem rImplies_any (v : Int) (A : Option Addr) (l : List Int) (k : Nat) (A' : Option Addr) (l' : List Int) (k' : Nat) (w : World) (h : Ia w w.heap.size A l k) (hl : l.length ≤ 100000) (hr : ∀ x ∈ l, I64 x) (h' : Ia w w.heap.size A' l' k') (hl' : l'.length ≤ 100000) (hr' : ∀ x ∈ l', I64 x) :
    Calls Try.prog 18 #[.int .i64 v, .slice A l.length k, .slice A' l'.length k'] w fun e w' => e = .returned (.tuple #[.bool (imB v l l'), .int .i64 (imE v l l')]) ∧ Below w.heap.size w w' := by
  by_cases hv : v < 0 ∨ 4000 < v
  · have ev : (!decide (v < 0 ∨ 4000 < v)) = false := by simp [hv]
    have e1 : imE v l l' = 2 := by unfold imE; rw [if_pos hv]
    rw [show imB v l l' = false by unfold imB; simp [e1], e1]
    clear h hl hr h' hl' hr' e1
    go_enter Try.func18, Try.ntmps18
    go_wp2_with (first | (go_at_call 33; (with_reducible refine (rVars_any v _).mono ?_); rintro e w1 ⟨rfl, hw1⟩; obtain rfl := hw1; rw [ev]))
    go_ret2
    exact ⟨rfl, Below.refl _ _⟩
  · have ev : (!decide (v < 0 ∨ 4000 < v)) = true := by simp [hv]
    have D1 := rValid_any v (by omega) A l k w h (by omega) hr
    have D2 := fun d => rValid_any v (by omega) A' l' k' (w.drewN d) (h'.on (below_dn (Below.refl _ _) d)) (by omega) hr'
    have D3 := fun d => rPart_any A l k A' l' k' w.heap.size (w.drewN d) (h.keep (below_dn (Below.refl _ _) d)) hl (h'.keep (below_dn (Below.refl _ _) d)) hl'
    cases h1 : okC v l with
    | false =>
      have e1 : imE v l l' = 8 := by unfold imE; rw [if_neg hv, if_neg (by rw [h1]; simp)]
      rw [show imB v l l' = false by unfold imB; simp [e1], e1]
      rw [h1] at D1
      obtain ⟨n, hn⟩ : ∃ n, n = l.length := ⟨_, rfl⟩
      obtain ⟨n', hn'⟩ : ∃ n, n = l'.length := ⟨_, rfl⟩
      rw [← hn] at D1 ⊢
      rw [← hn']
      clear h hl hr h' hl' hr' e1 h1 D2 D3 hn hn'
      go_enter Try.func18, Try.ntmps18
      go_wp2_with (first
        | (go_at_call 33; (with_reducible refine (rVars_any v _).mono ?_); rintro e w1 ⟨rfl, hw1⟩; obtain rfl := hw1; rw [ev])
        | (go_at_call 37; (with_reducible refine D1.mono ?_); rintro e w1 ⟨rfl, d, rfl⟩))
      go_ret2
      exact ⟨rfl, below_dn (Below.refl _ _) _⟩
    | true =>
      cases h2 : okC v l' with
      | false =>
        have e1 : imE v l l' = 8 := by unfold imE; rw [if_neg hv, if_neg (by rw [h2]; simp)]
        rw [show imB v l l' = false by unfold imB; simp [e1], e1]
        rw [h1] at D1
        rw [h2] at D2
        obtain ⟨n, hn⟩ : ∃ n, n = l.length := ⟨_, rfl⟩
        obtain ⟨n', hn'⟩ : ∃ n, n = l'.length := ⟨_, rfl⟩
        rw [← hn] at D1 ⊢
        rw [← hn'] at D2 ⊢
        clear h hl hr h' hl' hr' e1 h1 h2 D3 hn hn'
        go_enter Try.func18, Try.ntmps18
        go_wp2_with (first
          | (go_at_call 33; (with_reducible refine (rVars_any v _).mono ?_); rintro e w1 ⟨rfl, hw1⟩; obtain rfl := hw1; rw [ev])
          | (go_at_call 37; (with_reducible refine D1.mono ?_); rintro e w1 ⟨rfl, d, rfl⟩)
          | (go_at_call 37; (with_reducible refine (D2 d).mono ?_); rintro e w2 ⟨rfl, d2, rfl⟩))
        go_ret2
        exact ⟨rfl, by first | exact below_dn (Below.refl _ _) _ | exact below_dn (below_dn (Below.refl _ _) _) _⟩
      | true =>
        have e1 : imE v l l' = 0 := by unfold imE; rw [if_neg hv, if_pos ⟨h1, h2⟩]
        rw [show imB v l l' = prt l l' by unfold imB; simp [e1], e1]
        rw [h1] at D1
        rw [h2] at D2
        obtain ⟨n, hn⟩ : ∃ n, n = l.length := ⟨_, rfl⟩
        obtain ⟨n', hn'⟩ : ∃ n, n = l'.length := ⟨_, rfl⟩
        rw [← hn] at D1 D3 ⊢
        rw [← hn'] at D2 D3 ⊢
        obtain ⟨u, hu⟩ : ∃ u, u = prt l l' := ⟨_, rfl⟩
        rw [← hu] at D3 ⊢
        clear h hl hr h' hl' hr' e1 h1 h2 hn hn' hu
        go_enter Try.func18, Try.ntmps18
        go_wp2_with (first
          | (go_at_call 33; (with_reducible refine (rVars_any v _).mono ?_); rintro e w1 ⟨rfl, hw1⟩; obtain rfl := hw1; rw [ev])
          | (go_at_call 37; (with_reducible refine D1.mono ?_); rintro e w1 ⟨rfl, d, rfl⟩)
          | (go_at_call 37; (with_reducible refine (D2 d).mono ?_); rintro e w2 ⟨rfl, d2, rfl⟩)
          | (go_at_call 40; (with_reducible refine (D3 _).mono ?_); rintro e w3 ⟨rfl, rfl⟩))
        go_ret2
        exact ⟨rfl, by first | exact below_dn (Below.refl _ _) _ | exact below_dn (below_dn (Below.refl _ _) _) _⟩

end Go.Proofs.Ytigfdfbjpelcaaa
