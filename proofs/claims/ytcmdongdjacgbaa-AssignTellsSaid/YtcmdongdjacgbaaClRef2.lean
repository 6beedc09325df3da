/- The reference's contracts: Check, Part, Truth, Holds, True, Same, Always. -/
import Derived.Test.YtcmdongdjacgbaaClRef
namespace Go.Proofs.Ytcmdongdjacgbaa
open Go Go.RowKit
set_option linter.unusedVariables false
set_option linter.unusedSimpArgs false

/-- two lists are the same -/
def sm (l l' : List Int) : Bool := decide (l = l')
theorem sm_iff {l l' : List Int} : sm l l' = true ↔ l = l' := decide_eq_true_iff
theorem sm_self (l : List Int) : sm l l = true := sm_iff.2 rfl
theorem sm_no {l l' : List Int} (h : l ≠ l') : sm l l' = false := decide_eq_false h

set_option maxRecDepth 100000 in
set_option maxHeartbeats 2000000 in
theorem rSame_any (A : Option Addr) (l : List Int) (k : Nat) (A' : Option Addr) (l' : List Int) (k' : Nat) (w : World) (h : Ia w w.heap.size A l k) (hl : l.length ≤ 100000) (h' : Ia w w.heap.size A' l' k') (hl' : l'.length ≤ 100000) :
    Calls Try.prog 28 #[.slice A l.length k, .slice A' l'.length k'] w fun e w' => e = .returned (.bool (sm l l')) ∧ Below w.heap.size w w' := by
  obtain ⟨n, hn⟩ : ∃ n, n = l.length := ⟨_, rfl⟩
  obtain ⟨n', hn'⟩ : ∃ n, n = l'.length := ⟨_, rfl⟩
  rw [← hn, ← hn']
  by_cases hne : n = n'
  · subst hne
    have hl1 : n ≤ 100000 := by rw [hn]; exact hl
    have HH := Lib.hid (And.intro h (And.intro h' (And.intro hn hn')))
    clear h hl hn h' hl' hn'
    go_enter Try.func28, Try.ntmps28
    go_wp2
    go_loopw [5] (fun i wr => ∃ j : Nat, j ≤ n ∧ i = .int .i64 (j : Int) ∧ (∀ q, q < j → l.getD q 0 = l'.getD q 0) ∧ ∃ d, wr = w.drewN d) (fun i _ => n - (intOf i).toNat)
    case atStart => exact ⟨0, Nat.zero_le _, rfl, fun q hq => absurd hq (Nat.not_lt_zero _), 0, rfl⟩
    case round =>
      obtain ⟨j, hj, rfl, hok, d, rfl⟩ := hrel
      by_cases hlt : j < n
      · obtain ⟨b, o, rfl, hb0, hcs⟩ := HH.out.1.cells (by have := HH.out.2.2; omega)
        obtain ⟨b', o', rfl, hb0', hcs'⟩ := HH.out.2.1.cells (by have := HH.out.2.2; omega)
        have hjl : j < l.length := by have := HH.out.2.2; omega
        have hjl' : j < l'.length := by have := HH.out.2.2; omega
        have y := hcs j hjl
        have y' := hcs' j hjl'
        have hj1 : (j : Int) < (n : Int) := by omega
        have hj0 : (0 : Int) ≤ (j : Int) := by omega
        obtain ⟨u, hu⟩ : ∃ u, u = l.getD j 0 := ⟨_, rfl⟩
        obtain ⟨u', hu'⟩ : ∃ u, u = l'.getD j 0 := ⟨_, rfl⟩
        rw [← hu] at y
        rw [← hu'] at y'
        by_cases he : u = u'
        · have e1 : (u != u') = false := by simpa using he
          have HK := Lib.hid (And.intro hok (show l.getD j 0 = l'.getD j 0 by rw [← hu, ← hu']; exact he))
          clear hcs hcs' hu hu' hok he
          go_wp2
          go_quiet (fail)
          go_wp2
          go_roundw
          case rel => exact ⟨j + 1, by omega, by go_num, fun q hq => by
            rcases Nat.lt_succ_iff_lt_or_eq.1 hq with h' | h'
            · exact HK.out.1 q h'
            · subst h'; exact HK.out.2, by first | exact ⟨_, rfl⟩ | exact ⟨_, dn_dn _ _ _⟩⟩
          case measure => simp [intOf]; omega
        · have e1 : (u != u') = true := by simpa using he
          have HR := Lib.hid (show sm l l' = false from sm_no fun e => he (by rw [hu, hu', e]))
          clear hcs hcs' hu hu' hok he
          go_wp2
          go_quiet (fail)
          go_wp2
          go_ret
          exact ⟨by first | (rw [HR.out]; rfl) | rfl, by first | exact below_dn (Below.refl _ _) _ | exact below_dn (below_dn (Below.refl _ _) _) _⟩
      · have HR := Lib.hid (show sm l l' = true from sm_iff.2 (by
          refine List.ext_getElem (by have := HH.out.2.2; omega) fun q h1 h2 => ?_
          have := hok q (by have := HH.out.2.2; omega)
          rwa [getD_at h1, getD_at h2] at this))
        have hjn : ¬ (j : Int) < (n : Int) := by omega
        clear hok
        go_wp2
        go_ret
        exact ⟨by first | (rw [HR.out]; rfl) | rfl, below_dn (Below.refl _ _) _⟩
  · have e1 : ((n : Int) != (n' : Int)) = true := by simp; omega
    rw [sm_no (fun e => hne (by rw [hn, hn', e]))]
    clear h hl hn h' hl' hn' hne
    go_enter Try.func28, Try.ntmps28
    go_wp2
    go_ret
    exact ⟨rfl, Below.refl _ _⟩

end Go.Proofs.Ytcmdongdjacgbaa
