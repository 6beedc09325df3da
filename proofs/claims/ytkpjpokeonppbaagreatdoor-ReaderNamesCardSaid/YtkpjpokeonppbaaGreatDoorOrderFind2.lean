/- Searches of package order: a wrong reset, a literal of a variable that is not defined. -/
import Derived.Test.YtkpjpokeonppbaaGreatDoorOrderFind
namespace Go.Proofs.YtkpjpokeonppbaaGreatDoor
open Go.RowKit
set_option linter.unusedVariables false
set_option linter.unusedSimpArgs false

theorem anyB_lst {P Q : Int → Bool} (f : Nat → Int) (n : Nat) (hPQ : ∀ x, P x = !Q x) : anyB P f n = !(lst f n).all Q := by
  have h := anyB_list (xs := lst f n) hPQ
  rw [← h, lst_len]
  unfold anyB
  refine decide_eq_decide.2 ⟨fun ⟨j, hj, h⟩ => ⟨j, hj, ?_⟩, fun ⟨j, hj, h⟩ => ⟨j, hj, ?_⟩⟩
  · show P ((lst f n).getD j 0) = true
    rwa [List.getD_eq_getElem?_getD, lst_at f n j hj]
  · have h : P ((lst f n).getD j 0) = true := h
    rwa [List.getD_eq_getElem?_getD, lst_at f n j hj] at h
def nR (x : Int) : Bool := !Rw.reOk x
abbrev resetV : Value := .func (.func 66) #[] #[]

set_option maxRecDepth 100000 in
set_option maxHeartbeats 2000000 in
theorem idxReset (A : Option Addr) (n k : Nat) (f g h : Nat → Int) (w : World) (hn : n ≤ 100000) (hA : TripsAt w w.heap.size A n f g h) :
    Calls Tryz.prog 93 #[.slice A n k, resetV] w (IdxIs (anyB nR h n) w) := by
  go_enter Tryz.func93, Tryz.ntmps93
  go_wp2
  go_loopw [8] (fun i wr => ∃ q : Nat, q ≤ n ∧ i = .int .i64 q ∧ Hid (∀ j, j < q → nR (h j) = false) ∧ Below w.heap.size w wr) (fun i _ => n - (intOf i).toNat)
  case atStart => exact ⟨0, Nat.zero_le _, rfl, Lib.hid (fun j hj => absurd hj (Nat.not_lt_zero _)), Below.refl _ _⟩
  case round =>
    obtain ⟨q, hq, rfl, hL, hBr⟩ := hrel
    by_cases hlt : q < n
    · obtain ⟨a, rfl, hab, hcs⟩ := (hA.keep hBr) (by omega)
      obtain ⟨y0, y1, y2⟩ := hcs q hlt
      clear hcs
      have C : Calls Tryz.prog 66 #[.agg #[.int .i64 (f q), .int .i64 (g q), .int .i64 (h q)]] wr fun e w' => e = .returned (.bool (nR (h q))) ∧ Below wr.heap.size wr w' := wrongReset_any (f q) (g q) (h q) wr
      cases hv : nR (h q)
      · rw [hv] at C
        have HW := Lib.hid hv
        have D := Lib.hid C
        clear C hv
        go_wp2_with (go_at_call 66; (with_reducible refine D.out.mono ?_); rintro e w1 ⟨rfl, hb1⟩)
        go_roundw
        case rel => exact ⟨q + 1, by omega, by go_num, Lib.hid (fun j hj => by
          rcases Nat.lt_succ_iff_lt_or_eq.1 hj with h' | h'
          · exact hL.out j h'
          · subst h'; exact HW.out), Below.step hBr hBr.size hb1⟩
        case measure => simp [intOf]; omega
      · rw [hv] at C
        have HV := Lib.hid (show anyB nR h n = true from anyB_yes hlt hv)
        have D := Lib.hid C
        clear C hv
        go_wp2_with (go_at_call 66; (with_reducible refine D.out.mono ?_); rintro e w1 ⟨rfl, hb1⟩)
        go_ret
        exact ⟨_, rfl, by rw [HV.out]; simp, Below.step hBr hBr.size hb1⟩
    · obtain rfl : q = n := by omega
      have HV := Lib.hid (show anyB nR h q = false from anyB_no hL.out)
      clear hq hlt
      go_wp2
      go_ret
      exact ⟨_, rfl, by rw [HV.out]; rfl, hBr⟩

set_option maxRecDepth 100000 in
set_option maxHeartbeats 1000000 in
theorem conReset (A : Option Addr) (n k : Nat) (f g h : Nat → Int) (w : World) (hn : n ≤ 100000) (hA : TripsAt w w.heap.size A n f g h) :
    Calls Tryz.prog 65 #[.slice A n k, resetV] w fun e w' => e = .returned (.bool (!(lst h n).all Rw.reOk)) ∧ Below w.heap.size w w' := by
  have C := idxReset A n k f g h w hn hA
  rw [anyB_lst (P := nR) (Q := Rw.reOk) h n (fun x => rfl)] at C
  go_enter Tryz.func65, Tryz.ntmps65
  go_wp2_with (go_at_call 93; (with_reducible refine C.mono ?_); rintro e w1 ⟨x, rfl, hx, hb1⟩)
  go_ret
  exact ⟨rfl, hb1⟩

set_option maxRecDepth 100000 in
set_option maxHeartbeats 2000000 in
theorem openC_any (I : Nat → Bool) (g b N : Nat) (x : Int) (w : World) (hR : w.rowIs g 4 N (fun v => .bool (I v))) (hb : Has w b 121 #[.slice (some ⟨g, 0, none⟩) N N]) (h0 : 0 ≤ x) (h1 : x ≤ 2001) (h2 : x / 2 < (N : Int)) :
    Calls Tryz.prog 94 #[.int .i64 x, .pointer (some ⟨b, 0, none⟩)] w fun e w' => e = .returned (.bool (nI I x)) ∧ Below w.heap.size w w' := by
  have y0 : w.cell? ⟨b, 0, none⟩ = some (.slice (some ⟨g, 0, none⟩) N N) := hb.cell 0
  have z := hR.cell (show (x / 2).toNat < N by omega)
  have c4 : 0 ≤ x / 2 := by omega
  have D := Lib.hid (fun d => varOf_any h0 h1 (w.drewN d))
  obtain ⟨u, hu⟩ : ∃ u, I (x / 2).toNat = u := ⟨_, rfl⟩
  have HU := Lib.hid (show nI I x = !u by unfold nI; rw [hu])
  rw [hu] at z
  clear hu hR hb
  go_enter Tryz.func94, Tryz.ntmps94
  go_wp2
  go_quiet ((go_at_call 76; with_reducible exact qs (D.out _)))
  go_wp2
  go_ret
  exact ⟨by rw [HU.out]; rfl, below_dn (Below.refl _ _) _⟩

set_option maxRecDepth 100000 in
set_option maxHeartbeats 2000000 in
theorem idxOpen (I : Nat → Bool) (g b N : Nat)  (A : Option Addr) (n k : Nat) (f : Nat → Int) (w : World) (hn : n ≤ 100000) (hA : IntsAt w w.heap.size A n f) (hI : w.rowIs g 4 N (fun v => .bool (I v))) (hb : Has w b 121 #[.slice (some ⟨g, 0, none⟩) N N]) (hr : ∀ j, j < n → 0 ≤ f j ∧ f j ≤ 2001 ∧ f j / 2 < (N : Int)) :
    Calls Tryz.prog 110 #[.slice A n k, openV b] w (IdxIs (anyB (nI I) f n) w) := by
  go_enter Tryz.func110, Tryz.ntmps110
  go_wp2
  go_loopw [8] (fun i wr => ∃ q : Nat, q ≤ n ∧ i = .int .i64 q ∧ Hid (∀ j, j < q → (nI I) (f j) = false) ∧ Below w.heap.size w wr) (fun i _ => n - (intOf i).toNat)
  case atStart => exact ⟨0, Nat.zero_le _, rfl, Lib.hid (fun j hj => absurd hj (Nat.not_lt_zero _)), Below.refl _ _⟩
  case round =>
    obtain ⟨q, hq, rfl, hL, hBr⟩ := hrel
    by_cases hlt : q < n
    · obtain ⟨a, rfl, hab, hcs⟩ := (hA.keep hBr) (by omega)
      have y0 := hcs q hlt
      clear hcs
      have C := openC_any I g b N (f q) wr (hI.of_block (hBr.block _ hI.lt)) (hb.keep hBr hb.lt) (hr q hlt).1 (hr q hlt).2.1 (hr q hlt).2.2
      cases hv : (nI I) (f q)
      · rw [hv] at C
        have HW := Lib.hid hv
        have D := Lib.hid C
        clear C hv
        go_wp2_with (go_at_call 94; (with_reducible refine D.out.mono ?_); rintro e w1 ⟨rfl, hb1⟩)
        go_roundw
        case rel => exact ⟨q + 1, by omega, by go_num, Lib.hid (fun j hj => by
          rcases Nat.lt_succ_iff_lt_or_eq.1 hj with h' | h'
          · exact hL.out j h'
          · subst h'; exact HW.out), Below.step hBr hBr.size hb1⟩
        case measure => simp [intOf]; omega
      · rw [hv] at C
        have HV := Lib.hid (show anyB (nI I) f n = true from anyB_yes hlt hv)
        have D := Lib.hid C
        clear C hv
        go_wp2_with (go_at_call 94; (with_reducible refine D.out.mono ?_); rintro e w1 ⟨rfl, hb1⟩)
        go_ret
        exact ⟨_, rfl, by rw [HV.out]; simp, Below.step hBr hBr.size hb1⟩
    · obtain rfl : q = n := by omega
      have HV := Lib.hid (show anyB (nI I) f q = false from anyB_no hL.out)
      clear hq hlt
      go_wp2
      go_ret
      exact ⟨_, rfl, by rw [HV.out]; rfl, hBr⟩

set_option maxRecDepth 100000 in
set_option maxHeartbeats 1000000 in
theorem conOpen (I : Nat → Bool) (g b N : Nat)  (A : Option Addr) (n k : Nat) (f : Nat → Int) (w : World) (hn : n ≤ 100000) (hA : IntsAt w w.heap.size A n f) (hI : w.rowIs g 4 N (fun v => .bool (I v))) (hb : Has w b 121 #[.slice (some ⟨g, 0, none⟩) N N]) (hr : ∀ j, j < n → 0 ≤ f j ∧ f j ≤ 2001 ∧ f j / 2 < (N : Int)) :
    Calls Tryz.prog 90 #[.slice A n k, openV b] w fun e w' => e = .returned (.bool (anyB (nI I) f n)) ∧ Below w.heap.size w w' := by
  have C := idxOpen I g b N A n k f w hn hA hI hb hr
  go_enter Tryz.func90, Tryz.ntmps90
  go_wp2_with (go_at_call 110; (with_reducible refine C.mono ?_); rintro e w1 ⟨x, rfl, hx, hb1⟩)
  go_ret
  exact ⟨rfl, hb1⟩
end Go.Proofs.YtkpjpokeonppbaaGreatDoor
