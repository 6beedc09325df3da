/- The reference's contracts: Check, Part, Truth, Holds, True, Same, Always. -/
import Derived.Test.YtigfdfbjpelcaaaClRef
namespace Go.Proofs.Ytigfdfbjpelcaaa
open Go Go.RowKit
set_option linter.unusedVariables false
set_option linter.unusedSimpArgs false

set_option maxHeartbeats 1000000 in
theorem rCheck_any (v : Int) (A : Option Addr) (l : List Int) (k : Nat) (w : World) (h : Ia w w.heap.size A l k) (hl : l.length ≤ 9223372036854775807) (hr : ∀ x ∈ l, I64 x) :
    Calls Try.prog 16 #[.int .i64 v, .slice A l.length k] w fun e w' => e = .returned (.int .i64 (ckE v l)) ∧ ∃ d, w' = w.drewN d := by
  by_cases hv : v < 0 ∨ 4000 < v
  · have ev : (!decide (v < 0 ∨ 4000 < v)) = false := by simp [hv]
    rw [ckE_lo hv]
    clear h hl hr
    go_enter Try.func16, Try.ntmps16
    go_wp2_with (first | (go_at_call 33; (with_reducible refine (rVars_any v w).mono ?_); rintro e w' ⟨rfl, rfl⟩; rw [ev]))
    go_ret
    exact ⟨rfl, 0, rfl⟩
  · have ev : (!decide (v < 0 ∨ 4000 < v)) = true := by simp [hv]
    have hV := rValid_any v (by omega) A l k w h hl hr
    cases ho : okC v l with
    | true =>
      rw [show ckE v l = 0 by unfold ckE; rw [if_neg hv, if_pos ho]]
      rw [ho] at hV
      clear h hl hr ho
      go_enter Try.func16, Try.ntmps16
      go_wp2_with (first
        | (go_at_call 33; (with_reducible refine (rVars_any v w).mono ?_); rintro e w' ⟨rfl, rfl⟩; rw [ev])
        | (go_at_call 37; (with_reducible refine hV.mono ?_); rintro e w1 ⟨rfl, d, rfl⟩))
      go_ret
      exact ⟨rfl, _, rfl⟩
    | false =>
      rw [show ckE v l = 8 by unfold ckE; rw [if_neg hv, if_neg (by rw [ho]; decide)]]
      rw [ho] at hV
      clear h hl hr ho
      go_enter Try.func16, Try.ntmps16
      go_wp2_with (first
        | (go_at_call 33; (with_reducible refine (rVars_any v w).mono ?_); rintro e w' ⟨rfl, rfl⟩; rw [ev])
        | (go_at_call 37; (with_reducible refine hV.mono ?_); rintro e w1 ⟨rfl, d, rfl⟩))
      go_ret
      exact ⟨rfl, _, rfl⟩

set_option maxRecDepth 100000 in
set_option maxHeartbeats 1000000 in
theorem rPart_any (A : Option Addr) (l : List Int) (k : Nat) (A' : Option Addr) (l' : List Int) (k' : Nat) (B : Nat) (w : World) (h : Ia w B A l k) (hl : l.length ≤ 100000) (h' : Ia w B A' l' k') (hl' : l'.length ≤ 100000) :
    Calls Try.prog 40 #[.slice A l.length k, .slice A' l'.length k'] w fun e w' => e = .returned (.bool (prt l l')) ∧ w = w' := by
  obtain ⟨n, hn⟩ : ∃ n, n = l.length := ⟨_, rfl⟩
  rw [← hn]
  have hl1 : n ≤ 100000 := by rw [hn]; exact hl
  have HH := Lib.hid (And.intro h hn)
  have HS := Lib.hid fun x => rHas_any A' l' k' x B w h' (by omega)
  obtain ⟨n', hn'⟩ : ∃ n, n = l'.length := ⟨_, rfl⟩
  rw [← hn'] at HS ⊢
  clear h hl hn h' hl' hn'
  go_enter Try.func40, Try.ntmps40
  go_wp2
  go_loopw [5] (fun i wr => ∃ j : Nat, j ≤ n ∧ i = .int .i64 (j : Int) ∧ (∀ q, q < j → l.getD q 0 ∈ l') ∧ w = wr) (fun i _ => n - (intOf i).toNat)
  case atStart => exact ⟨0, Nat.zero_le _, rfl, fun q hq => absurd hq (Nat.not_lt_zero _), rfl⟩
  case round =>
    obtain ⟨j, hj, rfl, hok, rfl⟩ := hrel
    by_cases hlt : j < n
    · obtain ⟨b, o, rfl, hb0, hcs⟩ := HH.out.1.cells (by have := HH.out.2; omega)
      have hjl : j < l.length := by have := HH.out.2; omega
      have y := hcs j hjl
      have hj1 : (j : Int) < (n : Int) := by omega
      have hj0 : (0 : Int) ≤ (j : Int) := by omega
      obtain ⟨u, hu⟩ : ∃ u, u = l.getD j 0 := ⟨_, rfl⟩
      rw [← hu] at y
      have D := HS.out u
      cases he : hs l' u with
      | true =>
        rw [he] at D
        have HK := Lib.hid (And.intro hok (show l.getD j 0 ∈ l' by rw [← hu]; exact hs_iff.1 he))
        clear hcs hu hok he
        go_wp2_with (first | (go_at_call 23; (with_reducible refine D.mono ?_); rintro e w' ⟨rfl, rfl⟩))
        go_roundw
        case rel => exact ⟨j + 1, by omega, by go_num, fun q hq => by
          rcases Nat.lt_succ_iff_lt_or_eq.1 hq with h' | h'
          · exact HK.out.1 q h'
          · subst h'; exact HK.out.2, by trivial⟩
        case measure => simp [intOf]; omega
      | false =>
        rw [he] at D
        have HR := Lib.hid (show prt l l' = false from prt_no (getD_mem hjl) (by rw [← hu]; exact hs_no.1 he))
        clear hcs hu hok he
        go_wp2_with (first | (go_at_call 23; (with_reducible refine D.mono ?_); rintro e w' ⟨rfl, rfl⟩))
        go_ret
        exact ⟨by first | (rw [HR.out]; rfl) | rfl, rfl⟩
    · have HR := Lib.hid (show prt l l' = true from prt_iff.2 fun x hx => by
        obtain ⟨q, hq, rfl⟩ := mem_getD hx
        exact hok q (by have := HH.out.2; omega))
      have hjn : ¬ (j : Int) < (n : Int) := by omega
      clear hok
      go_wp2
      go_ret
      exact ⟨by first | (rw [HR.out]; rfl) | rfl, rfl⟩

set_option maxHeartbeats 1000000 in
theorem rTruth_any (A : Option Addr) (n k : Nat) (V : Nat → Bool) (B : Nat) (w : World) (x : Int) (hx : isL n x = true) (hn : n ≤ 100000) (hm : BlsAt w B A n V) :
    Calls Try.prog 47 #[.int .i64 x, .slice A n k] w fun e w' => e = .returned (.bool (tr V x)) ∧ w = w' := by
  obtain ⟨x1, x2⟩ := isL_iff.1 hx
  obtain ⟨a, rfl, hb, hcs⟩ := hm (by omega)
  have ex : (x / 2 - 1).toNat = (x / 2).toNat - 1 := by omega
  have y := hcs ((x / 2).toNat - 1) (by omega)
  have hq : x.tdiv 2 = x / 2 := Int.tdiv_eq_ediv_of_nonneg (by omega)
  have hr : x.tmod 2 = x % 2 := Int.tmod_eq_emod_of_nonneg (by omega)
  have m0 : 0 ≤ x / 2 - 1 := by omega
  have m1 : x / 2 - 1 < (n : Int) := by omega
  clear hm hcs hx
  unfold tr
  rw [ex]
  obtain ⟨u, hu⟩ : ∃ u, u = V ((x / 2).toNat - 1) := ⟨_, rfl⟩
  rw [← hu] at y ⊢
  clear hu ex
  by_cases he : x % 2 = 0
  · have e1 : (x % 2 == 1) = false := by simp only [beq_eq_false_iff_ne]; omega
    rw [show decide (x % 2 = 0) = true by simpa using he]
    clear he
    cases u
    · go_enter Try.func47, Try.ntmps47
      go_wp2
      go_ret
      exact ⟨rfl, rfl⟩
    · go_enter Try.func47, Try.ntmps47
      go_wp2
      go_ret
      exact ⟨rfl, rfl⟩
  · have e1 : (x % 2 == 1) = true := by simp only [beq_iff_eq]; omega
    rw [show decide (x % 2 = 0) = false by simpa using he]
    clear he
    cases u
    · go_enter Try.func47, Try.ntmps47
      go_wp2
      go_ret
      exact ⟨rfl, rfl⟩
    · go_enter Try.func47, Try.ntmps47
      go_wp2
      go_ret
      exact ⟨rfl, rfl⟩

set_option maxRecDepth 100000 in
set_option maxHeartbeats 1000000 in
theorem rHolds_any (A : Option Addr) (l : List Int) (k : Nat) (A' : Option Addr) (m k' : Nat) (V : Nat → Bool) (B : Nat) (w : World) (h : Ia w B A l k) (hl : l.length ≤ 100000) (hr : ∀ x ∈ l, isL m x = true) (hm : BlsAt w B A' m V) (hmm : m ≤ 100000) :
    Calls Try.prog 25 #[.slice A l.length k, .slice A' m k'] w fun e w' => e = .returned (.bool (trs V l)) ∧ w = w' := by
  obtain ⟨n, hn⟩ : ∃ n, n = l.length := ⟨_, rfl⟩
  rw [← hn]
  have hl1 : n ≤ 100000 := by rw [hn]; exact hl
  have HH := Lib.hid (And.intro h (And.intro hr hn))
  have HT := Lib.hid fun x hx => rTruth_any A' m k' V B w x hx hmm hm
  clear h hl hn hr hm
  go_enter Try.func25, Try.ntmps25
  go_wp2
  go_loopw [5] (fun i wr => ∃ j : Nat, j ≤ n ∧ i = .int .i64 (j : Int) ∧ (∀ q, q < j → tr V (l.getD q 0) = false) ∧ w = wr) (fun i _ => n - (intOf i).toNat)
  case atStart => exact ⟨0, Nat.zero_le _, rfl, fun q hq => absurd hq (Nat.not_lt_zero _), rfl⟩
  case round =>
    obtain ⟨j, hj, rfl, hok, rfl⟩ := hrel
    by_cases hlt : j < n
    · obtain ⟨b, o, rfl, hb0, hcs⟩ := HH.out.1.cells (by have := HH.out.2.2; omega)
      have hjl : j < l.length := by have := HH.out.2.2; omega
      have y := hcs j hjl
      have hj1 : (j : Int) < (n : Int) := by omega
      have hj0 : (0 : Int) ≤ (j : Int) := by omega
      have D := HT.out _ (HH.out.2.1 _ (getD_mem hjl))
      obtain ⟨u, hu⟩ : ∃ u, u = l.getD j 0 := ⟨_, rfl⟩
      rw [← hu] at y D
      cases he : tr V u with
      | false =>
        rw [he] at D
        have HK := Lib.hid (And.intro hok (show tr V (l.getD j 0) = false by rw [← hu]; exact he))
        clear hcs hu hok he
        go_wp2_with (first | (go_at_call 47; (with_reducible refine D.mono ?_); rintro e w' ⟨rfl, rfl⟩))
        go_roundw
        case rel => exact ⟨j + 1, by omega, by go_num, fun q hq => by
          rcases Nat.lt_succ_iff_lt_or_eq.1 hq with h' | h'
          · exact HK.out.1 q h'
          · subst h'; exact HK.out.2, by trivial⟩
        case measure => simp [intOf]; omega
      | true =>
        rw [he] at D
        have HR := Lib.hid (show trs V l = true from trs_iff.2 ⟨_, getD_mem hjl, by rw [← hu]; exact he⟩)
        clear hcs hu hok he
        go_wp2_with (first | (go_at_call 47; (with_reducible refine D.mono ?_); rintro e w' ⟨rfl, rfl⟩))
        go_ret
        exact ⟨by first | (rw [HR.out]; rfl) | rfl, rfl⟩
    · have HR := Lib.hid (show trs V l = false from trs_no.2 fun x hx => by
        obtain ⟨q, hq, rfl⟩ := mem_getD hx
        exact hok q (by have := HH.out.2.2; omega))
      have hjn : ¬ (j : Int) < (n : Int) := by omega
      clear hok
      go_wp2
      go_ret
      exact ⟨by first | (rw [HR.out]; rfl) | rfl, rfl⟩

set_option maxHeartbeats 1000000 in
theorem rTrue_any (A : Option Addr) (l : List Int) (k : Nat) (A' : Option Addr) (n k' : Nat) (V : Nat → Bool) (w : World) (h : Ia w w.heap.size A l k) (hl : l.length ≤ 100000) (hr : ∀ x ∈ l, I64 x) (hm : BlsAt w w.heap.size A' n V) (hn : n ≤ 100000) :
    Calls Try.prog 13 #[.slice A l.length k, .slice A' n k'] w fun e w' => e = .returned (.tuple #[.bool (trB n V l), .int .i64 (ckE n l)]) ∧ Below w.heap.size w w' := by
  obtain ⟨m, hmm⟩ : ∃ m, m = l.length := ⟨_, rfl⟩
  have hck := rCheck_any (n : Int) A l k w h (by omega) hr
  rw [← hmm] at hck ⊢
  by_cases he : ckE n l = 0
  · obtain ⟨_, _, ho⟩ := ckE_0 he
    have hH := fun d => rHolds_any A l k A' n k' V w.heap.size (w.drewN d) (h.keep (below_dn (Below.refl _ _) d)) hl ho.1 (hm.keep (below_dn (Below.refl _ _) d)) hn
    rw [← hmm] at hH
    rw [show trB n V l = trs V l by unfold trB; simp [he]]
    rw [he] at hck ⊢
    obtain ⟨u, hu⟩ : ∃ u, u = trs V l := ⟨_, rfl⟩
    rw [← hu] at hH ⊢
    clear h hl hr hm ho he hu hmm
    go_enter Try.func13, Try.ntmps13
    go_wp2_with (first
      | (go_at_call 16; (with_reducible refine hck.mono ?_); rintro e w1 ⟨rfl, d, rfl⟩)
      | (go_at_call 25; (with_reducible refine (hH d).mono ?_); rintro e w2 ⟨rfl, rfl⟩))
    go_ret2
    exact ⟨rfl, below_dn (Below.refl _ _) _⟩
  · have e1 : trB n V l = false := by unfold trB; simp [he]
    have e2 : (ckE n l != 0) = true := by simpa using he
    rw [e1]
    obtain ⟨u, hu⟩ : ∃ u, u = ckE n l := ⟨_, rfl⟩
    rw [← hu] at hck e2 ⊢
    clear h hl hr hm e1 hmm he hu
    go_enter Try.func13, Try.ntmps13
    go_wp2_with (first
      | (go_at_call 16; (with_reducible refine hck.mono ?_); rintro e w1 ⟨rfl, d, rfl⟩))
    go_ret2
    exact ⟨rfl, below_dn (Below.refl _ _) d⟩

/-- two lists are the same -/
def sm (l l' : List Int) : Bool := decide (l = l')
theorem sm_iff {l l' : List Int} : sm l l' = true ↔ l = l' := decide_eq_true_iff
theorem sm_self (l : List Int) : sm l l = true := sm_iff.2 rfl
theorem sm_no {l l' : List Int} (h : l ≠ l') : sm l l' = false := decide_eq_false h

set_option maxRecDepth 100000 in
set_option maxHeartbeats 2000000 in
theorem rSame_any (A : Option Addr) (l : List Int) (k : Nat) (A' : Option Addr) (l' : List Int) (k' : Nat) (w : World) (h : Ia w w.heap.size A l k) (hl : l.length ≤ 100000) (h' : Ia w w.heap.size A' l' k') (hl' : l'.length ≤ 100000) :
    Calls Try.prog 14 #[.slice A l.length k, .slice A' l'.length k'] w fun e w' => e = .returned (.bool (sm l l')) ∧ Below w.heap.size w w' := by
  obtain ⟨n, hn⟩ : ∃ n, n = l.length := ⟨_, rfl⟩
  obtain ⟨n', hn'⟩ : ∃ n, n = l'.length := ⟨_, rfl⟩
  rw [← hn, ← hn']
  by_cases hne : n = n'
  · subst hne
    have hl1 : n ≤ 100000 := by rw [hn]; exact hl
    have HH := Lib.hid (And.intro h (And.intro h' (And.intro hn hn')))
    clear h hl hn h' hl' hn'
    go_enter Try.func14, Try.ntmps14
    go_wp2
    go_loopw [5] (fun i wr => ∃ j : Nat, j ≤ n ∧ i = .int .i64 (j : Int) ∧ (∀ q, q < j → l.getD q 0 = l'.getD q 0) ∧ ∃ d, wr = w.drewN d) (fun i _ => n - (intOf i).toNat)
    case atStart => exact ⟨0, Nat.zero_le _, rfl, fun q hq => absurd hq (Nat.not_lt_zero _), 0, rfl⟩
    case round =>
      obtain ⟨j, hj, rfl, hok, d, rfl⟩ := hrel
      by_cases hlt : j < n
      · obtain ⟨b, o, rfl, hb0, hcs⟩ := HH.out.1.cells (by have := HH.out.2.2; omega)
        obtain ⟨b', o', rfl, hb0', hcs'⟩ := HH.out.2.1.cells (by have := HH.out.2.2; omega)
        have hjl : j < l.length := by have := HH.out.2.2; omega
        have hjl' : j < l'.length := by have := HH.out.2.2; omega
        have y := hcs j hjl
        have y' := hcs' j hjl'
        have hj1 : (j : Int) < (n : Int) := by omega
        have hj0 : (0 : Int) ≤ (j : Int) := by omega
        obtain ⟨u, hu⟩ : ∃ u, u = l.getD j 0 := ⟨_, rfl⟩
        obtain ⟨u', hu'⟩ : ∃ u, u = l'.getD j 0 := ⟨_, rfl⟩
        rw [← hu] at y
        rw [← hu'] at y'
        by_cases he : u = u'
        · have e1 : (u != u') = false := by simpa using he
          have HK := Lib.hid (And.intro hok (show l.getD j 0 = l'.getD j 0 by rw [← hu, ← hu']; exact he))
          clear hcs hcs' hu hu' hok he
          go_wp2
          go_quiet (fail)
          go_wp2
          go_roundw
          case rel => exact ⟨j + 1, by omega, by go_num, fun q hq => by
            rcases Nat.lt_succ_iff_lt_or_eq.1 hq with h' | h'
            · exact HK.out.1 q h'
            · subst h'; exact HK.out.2, by first | exact ⟨_, rfl⟩ | exact ⟨_, dn_dn _ _ _⟩⟩
          case measure => simp [intOf]; omega
        · have e1 : (u != u') = true := by simpa using he
          have HR := Lib.hid (show sm l l' = false from sm_no fun e => he (by rw [hu, hu', e]))
          clear hcs hcs' hu hu' hok he
          go_wp2
          go_quiet (fail)
          go_wp2
          go_ret
          exact ⟨by first | (rw [HR.out]; rfl) | rfl, by first | exact below_dn (Below.refl _ _) _ | exact below_dn (below_dn (Below.refl _ _) _) _⟩
      · have HR := Lib.hid (show sm l l' = true from sm_iff.2 (by
          refine List.ext_getElem (by have := HH.out.2.2; omega) fun q h1 h2 => ?_
          have := hok q (by have := HH.out.2.2; omega)
          rwa [getD_at h1, getD_at h2] at this))
        have hjn : ¬ (j : Int) < (n : Int) := by omega
        clear hok
        go_wp2
        go_ret
        exact ⟨by first | (rw [HR.out]; rfl) | rfl, below_dn (Below.refl _ _) _⟩
  · have e1 : ((n : Int) != (n' : Int)) = true := by simp; omega
    rw [sm_no (fun e => hne (by rw [hn, hn', e]))]
    clear h hl hn h' hl' hn' hne
    go_enter Try.func14, Try.ntmps14
    go_wp2
    go_ret
    exact ⟨rfl, Below.refl _ _⟩

set_option maxRecDepth 100000 in
set_option maxHeartbeats 1000000 in
theorem rAlways_any (A : Option Addr) (l : List Int) (k : Nat) (B : Nat) (w : World) (h : Ia w B A l k) (hl : l.length ≤ 200000) (hr : ∀ x ∈ l, 0 ≤ x ∧ x ≤ 1000000) :
    Calls Try.prog 34 #[.slice A l.length k] w fun e w' => e = .returned (.bool (alw l)) ∧ w = w' := by
  have HS := Lib.hid fun x => rHas_any A l k x B w h hl
  obtain ⟨n, hn⟩ : ∃ n, n = l.length := ⟨_, rfl⟩
  rw [← hn] at HS ⊢
  have hl1 : n ≤ 200000 := by rw [hn]; exact hl
  have HH := Lib.hid (And.intro h (And.intro hr hn))
  clear h hl hn hr
  go_enter Try.func34, Try.ntmps34
  go_wp2
  go_loopw [3] (fun i wr => ∃ j : Nat, j ≤ n ∧ i = .int .i64 (j : Int) ∧ (∀ q, q < j → ng (l.getD q 0) ∉ l) ∧ w = wr) (fun i _ => n - (intOf i).toNat)
  case atStart => exact ⟨0, Nat.zero_le _, rfl, fun q hq => absurd hq (Nat.not_lt_zero _), rfl⟩
  case round =>
    obtain ⟨j, hj, rfl, hok, rfl⟩ := hrel
    by_cases hlt : j < n
    · obtain ⟨b, o, rfl, hb0, hcs⟩ := HH.out.1.cells (by have := HH.out.2.2; omega)
      have hjl : j < l.length := by have := HH.out.2.2; omega
      have y := hcs j hjl
      have hj1 : (j : Int) < (n : Int) := by omega
      have hj0 : (0 : Int) ≤ (j : Int) := by omega
      have DN := rNot_any (l.getD j 0) (HH.out.2.1 _ (getD_mem hjl)) w
      obtain ⟨u, hu⟩ : ∃ u, u = l.getD j 0 := ⟨_, rfl⟩
      rw [← hu] at y DN
      have D := HS.out (ng u)
      obtain ⟨z, hz⟩ : ∃ z, z = ng u := ⟨_, rfl⟩
      rw [← hz] at D DN
      cases he : hs l z with
      | false =>
        rw [he] at D
        have HK := Lib.hid (And.intro hok (show ng (l.getD j 0) ∉ l by rw [← hu, ← hz]; exact hs_no.1 he))
        clear hcs hu hok he hz
        go_wp2_with (first | (go_at_call 45; (with_reducible refine DN.mono ?_); rintro e w' ⟨rfl, rfl⟩) | (go_at_call 23; (with_reducible refine D.mono ?_); rintro e w' ⟨rfl, rfl⟩))
        go_roundw
        case rel => exact ⟨j + 1, by omega, by go_num, fun q hq => by
          rcases Nat.lt_succ_iff_lt_or_eq.1 hq with h' | h'
          · exact HK.out.1 q h'
          · subst h'; exact HK.out.2, by trivial⟩
        case measure => simp [intOf]; omega
      | true =>
        rw [he] at D
        have HR := Lib.hid (show alw l = true from alw_iff.2 ⟨_, getD_mem hjl, by rw [← hu, ← hz]; exact hs_iff.1 he⟩)
        clear hcs hu hok he hz
        go_wp2_with (first | (go_at_call 45; (with_reducible refine DN.mono ?_); rintro e w' ⟨rfl, rfl⟩) | (go_at_call 23; (with_reducible refine D.mono ?_); rintro e w' ⟨rfl, rfl⟩))
        go_ret
        exact ⟨by first | (rw [HR.out]; rfl) | rfl, rfl⟩
    · have HR := Lib.hid (show alw l = false from alw_no.2 fun x hx => by
        obtain ⟨q, hq, rfl⟩ := mem_getD hx
        exact hok q (by have := HH.out.2.2; omega))
      have hjn : ¬ (j : Int) < (n : Int) := by omega
      clear hok
      go_wp2
      go_ret
      exact ⟨by first | (rw [HR.out]; rfl) | rfl, rfl⟩

end Go.Proofs.Ytigfdfbjpelcaaa
