/- The reference's contracts: Great, Is, At, New. -/
import Derived.Test.YtecmldnigohjfabDoorAsProg
namespace Go.Proofs.YtecmldnigohjfabDoor
open Go Go.RowKit
set_option linter.unusedVariables false
set_option linter.unusedSimpArgs false

theorem rGreat14_any (v : Int) (A : Option Addr) (n k : Nat) (B : Option Addr) (m q : Nat) (w : World) (hn : n ≤ 9223372036854775807) (hm : m ≤ 9223372036854775807) :
    Calls Tryd.prog 5 #[asv v A n k B m q] w fun e w' => e = .returned (.bool (decide (200 < n ∨ 200 < m))) ∧ Below w.heap.size w w' := by
  by_cases h1 : 200 < n
  · rw [show decide (200 < n ∨ 200 < m) = true from decide_eq_true (Or.inl h1)]
    have e1 : (200 : Int) < (n : Int) := by omega
    clear h1
    go_enter Tryd.func5, Tryd.ntmps5
    go_wp2
    go_ret
    exact ⟨rfl, bx_on _ _⟩
  · by_cases h2 : 200 < m
    · rw [show decide (200 < n ∨ 200 < m) = true from decide_eq_true (Or.inr h2)]
      have e1 : ¬ (200 : Int) < (n : Int) := by omega
      have e2 : (200 : Int) < (m : Int) := by omega
      clear h1 h2
      go_enter Tryd.func5, Tryd.ntmps5
      go_wp2
      go_ret
      exact ⟨rfl, bx_on _ _⟩
    · rw [show decide (200 < n ∨ 200 < m) = false from decide_eq_false (by omega)]
      have e1 : ¬ (200 : Int) < (n : Int) := by omega
      have e2 : ¬ (200 : Int) < (m : Int) := by omega
      clear h1 h2
      go_enter Tryd.func5, Tryd.ntmps5
      go_wp2
      go_ret
      exact ⟨rfl, bx_on _ _⟩

theorem box_c {w : World} {cs : Array Value} {ty : TypeId} (d i : Nat) : ((w.alloc (.cells cs ty)).drewN d).cell? ⟨w.heap.size, i, none⟩ = cs[i]? := (Has.new w ty cs).cell i
theorem isv_at {v : Int} {t : List Int} (ho : OkT v t) {x : Int} {j : Nat} (hj : j < t.length) (e : t.getD j 0 = ng x) : isv t x = 0 := by
  have hm := getD_mem hj
  rw [e] at hm
  unfold isv
  rw [if_neg (fun hx => ng_ne x (ho.eq hm hx (ng_half x))), if_pos hm]
theorem isv_end {t : List Int} {x : Int} (h : ∀ q, q < t.length → t.getD q 0 ≠ x ∧ t.getD q 0 ≠ ng x) : isv t x = 2 := by
  unfold isv
  rw [if_neg (fun hx => ?_), if_neg (fun hx => ?_)]
  · obtain ⟨q, hq, e⟩ := mem_getD hx
    exact (h q hq).2 e
  · obtain ⟨q, hq, e⟩ := mem_getD hx
    exact (h q hq).1 e

set_option maxRecDepth 100000 in
set_option maxHeartbeats 4000000 in
theorem rIs_any (u v : Int) (hv : v ≤ 4000) (A : Option Addr) (t : List Int) (k : Nat) (Y : Option Addr) (my qy : Nat) (x : Int) (w : World) (h : Ia w w.heap.size A t k) (hl : t.length ≤ 100000) (ho : OkT v t) (hx : isL v x = true) :
    Calls Tryd.prog 9 #[.agg #[.int .i64 u, .slice A t.length k, .slice Y my qy], .int .i64 x] w fun e w' => e = .returned (.int .u8 (isv t x)) ∧ Below w.heap.size w w' := by
  obtain ⟨n, hn⟩ : ∃ n, n = t.length := ⟨_, rfl⟩
  rw [← hn]
  have hl' : n ≤ 100000 := by rw [hn]; exact hl
  have HN := Lib.hid fun (W : World) => rNot_any x (by have := isL_iff.1 hx; omega) W
  have HH := Lib.hid (And.intro h (And.intro ho hn))
  obtain ⟨z, hz⟩ : ∃ z, z = ng x := ⟨_, rfl⟩
  rw [← hz] at HN
  have HZ := Lib.hid hz
  clear h hl ho hx hn hv hz
  go_enter Tryd.func9, Tryd.ntmps9
  go_wp2
  go_loopw [5] (fun i wr => ∃ j : Nat, j ≤ n ∧ i = .int .i64 (j : Int) ∧ (∀ q, q < j → t.getD q 0 ≠ x ∧ t.getD q 0 ≠ z) ∧ ∃ d, wr = (w.alloc (.cells #[.int .i64 u, .slice A n k, .slice Y my qy] 24)).drewN d) (fun i _ => n - (intOf i).toNat)
  case atStart => exact ⟨0, Nat.zero_le _, rfl, fun q hq => absurd hq (Nat.not_lt_zero _), 0, rfl⟩
  case round =>
    obtain ⟨j, hj, rfl, hok, d, rfl⟩ := hrel
    have c1 : ((w.alloc (.cells #[.int .i64 u, .slice A n k, .slice Y my qy] 24)).drewN d).cell? ⟨w.heap.size, 1, none⟩ = some (.slice A n k) := box_c d 1
    by_cases hlt : j < n
    · obtain ⟨b, o, rfl, hb0, hcs⟩ := HH.out.1.cells (by have := HH.out.2.2; omega)
      have hjl : j < t.length := by have := HH.out.2.2; omega
      have y0 := hcs j hjl
      have yy := ((below_dn (bx_on w (.cells #[.int .i64 u, .slice (some ⟨b, o, none⟩) n k, .slice Y my qy] 24)) d).cell (cell_lt y0)).trans y0
      have yv := ((bx_on w (.cells #[.int .i64 u, .slice (some ⟨b, o, none⟩) n k, .slice Y my qy] 24)).cell (cell_lt y0)).trans y0
      have hj1 : (j : Int) < (n : Int) := by omega
      have hj0 : (0 : Int) ≤ (j : Int) := by omega
      have HX := Lib.hid (show t.getD j 0 = z → isv t x = 0 from fun e => isv_at HH.out.2.1 hjl (by rw [e, HZ.out]))
      have HX1 := Lib.hid (show t.getD j 0 = x → isv t x = 1 from fun e => by unfold isv; rw [if_pos (e ▸ getD_mem hjl)])
      obtain ⟨p, hp⟩ : ∃ p, p = t.getD j 0 := ⟨_, rfl⟩
      rw [← hp] at yy yv HX HX1 y0
      have HP := Lib.hid hp
      clear hcs hp
      by_cases e1 : p = x
      · have f1 : (p == x) = true := by simpa using e1
        have HR := Lib.hid (HX1.out e1)
        clear hok e1
        go_wp2
        go_ret
        exact ⟨by rw [HR.out]; rfl, below_dn (bx_on _ _) d⟩
      · have f1 : (p == x) = false := by simpa using e1
        by_cases e2 : p = z
        · have f2 : (p == z) = true := by simpa using e2
          have HR := Lib.hid (HX.out e2)
          clear hok e1 e2
          go_wp2
          go_quiet ((go_at_call 19; with_reducible first | exact qs (HN.out _) | exact qs2 (HN.out _)))
          go_wp2
          go_ret
          exact ⟨by rw [HR.out]; rfl, by first | exact below_dn (bx_on _ _) _ | exact below_dn (below_dn (bx_on _ _) _) _⟩
        · have f2 : (p == z) = false := by simpa using e2
          have HK := Lib.hid (And.intro hok (show t.getD j 0 ≠ x ∧ t.getD j 0 ≠ z from ⟨by rw [← HP.out]; exact e1, by rw [← HP.out]; exact e2⟩))
          clear hok e1 e2
          go_wp2
          go_quiet ((go_at_call 19; with_reducible first | exact qs (HN.out _) | exact qs2 (HN.out _)))
          go_wp2
          go_roundw
          case rel => exact ⟨j + 1, by omega, by go_num, fun q hq => by
            rcases Nat.lt_succ_iff_lt_or_eq.1 hq with h' | h'
            · exact HK.out.1 q h'
            · subst h'; exact HK.out.2, by first | exact ⟨_, rfl⟩ | exact ⟨_, dn_dn _ _ _⟩⟩
          case measure => simp [intOf]; omega
    · have HR := Lib.hid (isv_end (t := t) (x := x) fun q hq => by have := hok q (by have := HH.out.2.2; omega); rw [HZ.out] at this; exact this)
      have hjn : ¬ (j : Int) < (n : Int) := by omega
      clear hok
      go_wp2
      go_ret
      exact ⟨by rw [HR.out]; rfl, below_dn (bx_on _ _) d⟩

end Go.Proofs.YtecmldnigohjfabDoor

namespace Go.Proofs.YtecmldnigohjfabDoor
open Go Go.RowKit
set_option linter.unusedVariables false
set_option linter.unusedSimpArgs false

theorem tJ_is {v : Int} {t : List Int} {j : Nat} (hj : j < t.length) (hl : isL v (t.getD j 0) = true) : isv (t.take j) (t.getD j 0) = 2 ↔ tJ v t j := by
  rw [isv_none, vin_no]
  constructor
  · intro h
    refine ⟨hl, fun q hq => ?_⟩
    have := h _ (getD_mem (show q < (t.take j).length by rw [List.length_take]; omega))
    rwa [getD_take hq] at this
  · rintro ⟨_, h⟩ y hy
    obtain ⟨q, hq, rfl⟩ := mem_getD hy
    rw [List.length_take] at hq
    rw [getD_take (by omega)]
    exact h q (by omega)

set_option maxRecDepth 100000 in
set_option maxHeartbeats 10000000 in
theorem rCheck14_any (v : Int) (A : Option Addr) (t : List Int) (k : Nat) (B : Option Addr) (s : List Int) (q : Nat) (w : World) (h : Ia w w.heap.size A t k) (hl : t.length ≤ 100000) (h' : Ia w w.heap.size B s q) (hl' : s.length ≤ 100000) :
    Calls Tryd.prog 6 #[asv v A t.length k B s.length q] w fun e w' => e = .returned (.int .i64 (aE v t s)) ∧ Below w.heap.size w w' := by
  by_cases hv : v < 0 ∨ 4000 < v
  · have ev : (!decide (v < 0 ∨ 4000 < v)) = false := by simp [hv]
    rw [aE_no (fun h => h.1 hv)]
    clear h hl h' hl'
    go_enter Tryd.func6, Tryd.ntmps6
    go_wp2_with (first | (go_at_call 12; (with_reducible refine (rVars_any v _).mono ?_); rintro e w1 ⟨rfl, hw1⟩; obtain rfl := hw1; rw [ev]))
    go_ret
    exact ⟨rfl, bx_on _ _⟩
  · have ev : (!decide (v < 0 ∨ 4000 < v)) = true := by simp [hv]
    obtain ⟨n, hn⟩ : ∃ n, n = t.length := ⟨_, rfl⟩
    obtain ⟨m, hm⟩ : ∃ m, m = s.length := ⟨_, rfl⟩
    by_cases hg1 : v < (n : Int)
    · rw [aE_no (fun h => by have := h.2.1.len (by omega); omega)]
      rw [← hn, ← hm]
      clear h hl h' hl' hn hm hv
      go_enter Tryd.func6, Tryd.ntmps6
      go_wp2_with (first | (go_at_call 12; (with_reducible refine (rVars_any v _).mono ?_); rintro e w1 ⟨rfl, hw1⟩; obtain rfl := hw1; rw [ev]))
      go_ret
      exact ⟨rfl, bx_on _ _⟩
    · by_cases hg2 : (n : Int) < (m : Int)
      · rw [aE_no (fun h => by have := h.2.2.len; omega)]
        rw [← hn, ← hm]
        clear h hl h' hl' hn hm hv
        go_enter Tryd.func6, Tryd.ntmps6
        go_wp2_with (first | (go_at_call 12; (with_reducible refine (rVars_any v _).mono ?_); rintro e w1 ⟨rfl, hw1⟩; obtain rfl := hw1; rw [ev]))
        go_ret
        exact ⟨rfl, bx_on _ _⟩
      · have hnl : n ≤ 4000 := by omega
        have hml : m ≤ 4000 := by omega
        have hC0 := Has.new w 24 #[.int .i64 v, .slice A n k, .slice B m q]
        have HH := Lib.hid (And.intro h (And.intro h' (And.intro hn (And.intro hm (And.intro hv hC0)))))
        have HL := Lib.hid fun (x : Int) (W : World) => rLit_any v x (by omega) W
        have hv4 : v ≤ 4000 := by omega
        rw [← hn, ← hm]
        clear h hl h' hl' hn hm hv hC0
        go_enter Tryd.func6, Tryd.ntmps6
        go_wp2_with (first | (go_at_call 12; (with_reducible refine (rVars_any v _).mono ?_); rintro e w1 ⟨rfl, hw1⟩; obtain rfl := hw1; rw [ev]))
        go_loopw [3] (fun i wr => ∃ j : Nat, j ≤ n ∧ i = .int .i64 (j : Int) ∧ (∀ q, q < j → tJ v t q) ∧ Below w.heap.size w wr ∧ Has wr w.heap.size 24 #[.int .i64 v, .slice A n k, .slice B m q]) (fun i _ => n - (intOf i).toNat)
        case atStart => exact ⟨0, Nat.zero_le _, rfl, fun q hq => absurd hq (Nat.not_lt_zero _), bx_on _ _, HH.out.2.2.2.2.2⟩
        case round =>
          obtain ⟨j, hj, rfl, hok, hB, hC⟩ := hrel
          have c0 : wr.cell? ⟨w.heap.size, 0, none⟩ = some (.int .i64 v) := hC.cell 0
          have c1 : wr.cell? ⟨w.heap.size, 1, none⟩ = some (.slice A n k) := hC.cell 1
          have c2 : wr.cell? ⟨w.heap.size, 2, none⟩ = some (.slice B m q) := hC.cell 2
          by_cases hlt : j < n
          · obtain ⟨b, o, rfl, hb0, hcs⟩ := HH.out.1.cells (by have := HH.out.2.2; omega)
            have hjl : j < t.length := by have := HH.out.2.2; omega
            have y0 := hcs j hjl
            have yy := (hB.cell (cell_lt y0)).trans y0
            have hj1 : (j : Int) < (n : Int) := by omega
            have hj0 : (0 : Int) ≤ (j : Int) := by omega
            obtain ⟨A', hcut, hI'⟩ := HH.out.1.upto j (by omega)
            rw [← HH.out.2.2.1] at hcut
            have elen : (t.take j).length = j := by rw [List.length_take]; omega
            have D := HL.out (t.getD j 0)
            have hoj : OkT v (t.take j) := OkT_take hok
            have hIs := fun (hL : isL v (t.getD j 0) = true) => (fun (W : World) (hb : Below w.heap.size w W) => rIs_any 0 v hv4 A' (t.take j) k none 0 0 (t.getD j 0) W (hI'.on hb) (by omega) hoj hL)
            have hTJ := fun hL => tJ_is (v := v) hjl hL
            rw [elen] at hcut hIs
            obtain ⟨x, hx⟩ : ∃ x, x = t.getD j 0 := ⟨_, rfl⟩
            rw [← hx] at yy D hIs hTJ
            have hSk : Hid (∀ W, Below wr.heap.size wr W → W.cell? ⟨w.heap.size, 0, none⟩ = some (.int .i64 v) ∧ W.cell? ⟨w.heap.size, 1, none⟩ = some (.slice (some ⟨b, o, none⟩) n k) ∧ W.cell? ⟨b, o + j, none⟩ = some (.int .i64 x)) :=
              Lib.hid fun W hb => ⟨(hb.cell (cell_lt c0)).trans c0, (hb.cell (cell_lt c1)).trans c1, (hb.cell (cell_lt yy)).trans yy⟩
            have hS0 : (fun W : World => W.cell? ⟨w.heap.size, 0, none⟩ = some (.int .i64 v) ∧ W.cell? ⟨w.heap.size, 1, none⟩ = some (.slice (some ⟨b, o, none⟩) n k) ∧ W.cell? ⟨b, o + j, none⟩ = some (.int .i64 x)) wr.drew := ⟨c0, c1, yy⟩
            have HK := Lib.hid (And.intro hB (And.intro hC (And.intro hok (And.intro hx hjl))))
            cases eL : isL v x with
            | false =>
              rw [eL] at D
              have HR := Lib.hid (show aE v t s = 8 from aE_no fun h => okT_no hjl (fun h => by have := h.1; rw [← hx, eL] at this; cases this) h.2.1)
              clear hB hC hok hcs y0 hx hIs hTJ hcut hI' hoj elen
              go_wp2
              refine wp_slots (fun f => Sz f 87 ∧ Slot f 0 (asv v (some ⟨b, o, none⟩) n k B m q) ∧ Slot f 1 (.pointer (some ⟨w.heap.size, 0, none⟩)) ∧ Slot f 3 (.int .i64 (j : Int)) ∧ Slot f 4 (undef) ∧ Slot f 5 (undef) ∧ Slot f 6 (.pointer (some ⟨w.heap.size, 0, none⟩)) ∧ Slot f 7 (.int .i64 v) ∧ Slot f 8 (.bool true) ∧ Slot f 9 (.bool false) ∧ Slot f 10 (.bool false) ∧ Slot f 11 (.pointer (some ⟨w.heap.size, 1, none⟩)) ∧ Slot f 12 (.slice (some ⟨b, o, none⟩) n k) ∧ Slot f 13 (.int .i64 (n : Int)) ∧ Slot f 14 (.pointer (some ⟨w.heap.size, 0, none⟩)) ∧ Slot f 15 (.int .i64 v) ∧ Slot f 16 (.bool (decide (v < (n : Int)))) ∧ Slot f 17 (.bool (decide (v < (n : Int)))) ∧ Slot f 18 (.bool (decide (v < (n : Int)))) ∧ Slot f 19 (.pointer (some ⟨w.heap.size, 2, none⟩)) ∧ Slot f 20 (.slice B m q) ∧ Slot f 21 (.int .i64 (m : Int)) ∧ Slot f 22 (.pointer (some ⟨w.heap.size, 1, none⟩)) ∧ Slot f 23 (.slice (some ⟨b, o, none⟩) n k) ∧ Slot f 24 (.int .i64 (n : Int)) ∧ Slot f 25 (.bool (decide (n < m))) ∧ Slot f 26 (.bool (decide (v < (n : Int)) || decide (n < m))) ∧ Slot f 57 undef ∧ Slot f 58 undef ∧ Slot f 59 undef ∧ Slot f 60 undef ∧ Slot f 61 undef ∧ Slot f 62 undef ∧ Slot f 63 undef ∧ Slot f 64 undef ∧ Slot f 65 undef ∧ Slot f 66 undef ∧ Slot f 67 undef ∧ Slot f 68 undef ∧ Slot f 69 undef ∧ Slot f 70 undef ∧ Slot f 71 undef ∧ Slot f 72 undef ∧ Slot f 73 undef ∧ Slot f 74 undef ∧ Slot f 75 undef ∧ Slot f 76 undef ∧ Slot f 77 undef ∧ Slot f 78 undef ∧ Slot f 79 undef ∧ Slot f 80 undef ∧ Slot f 81 undef ∧ Slot f 82 undef ∧ Slot f 83 undef ∧ Slot f 84 undef ∧ Slot f 85 undef ∧ Slot f 86 undef) ⟨⟨rfl, rfl⟩, ⟨rfl⟩, ⟨rfl⟩, ⟨rfl⟩, ⟨rfl⟩, ⟨rfl⟩, ⟨rfl⟩, ⟨rfl⟩, ⟨rfl⟩, ⟨rfl⟩, ⟨rfl⟩, ⟨rfl⟩, ⟨rfl⟩, ⟨rfl⟩, ⟨rfl⟩, ⟨rfl⟩, ⟨rfl⟩, ⟨rfl⟩, ⟨rfl⟩, ⟨rfl⟩, ⟨rfl⟩, ⟨rfl⟩, ⟨rfl⟩, ⟨rfl⟩, ⟨rfl⟩, ⟨rfl⟩, ⟨rfl⟩, ⟨rfl⟩, ⟨rfl⟩, ⟨rfl⟩, ⟨rfl⟩, ⟨rfl⟩, ⟨rfl⟩, ⟨rfl⟩, ⟨rfl⟩, ⟨rfl⟩, ⟨rfl⟩, ⟨rfl⟩, ⟨rfl⟩, ⟨rfl⟩, ⟨rfl⟩, ⟨rfl⟩, ⟨rfl⟩, ⟨rfl⟩, ⟨rfl⟩, ⟨rfl⟩, ⟨rfl⟩, ⟨rfl⟩, ⟨rfl⟩, ⟨rfl⟩, ⟨rfl⟩, ⟨rfl⟩, ⟨rfl⟩, ⟨rfl⟩, ⟨rfl⟩, ⟨rfl⟩, ⟨rfl⟩⟩ fun a0 hA0 hR => ?_
              obtain ⟨hZ, hs0, hs1, hs3, hs4, hs5, hs6, hs7, hs8, hs9, hs10, hs11, hs12, hs13, hs14, hs15, hs16, hs17, hs18, hs19, hs20, hs21, hs22, hs23, hs24, hs25, hs26, hs57, hs58, hs59, hs60, hs61, hs62, hs63, hs64, hs65, hs66, hs67, hs68, hs69, hs70, hs71, hs72, hs73, hs74, hs75, hs76, hs77, hs78, hs79, hs80, hs81, hs82, hs83, hs84, hs85, hs86⟩ := hR
              clear hA0 c0 c1 c2 yy
              refine wp_region_T (fun W : World => W.cell? ⟨w.heap.size, 0, none⟩ = some (.int .i64 v) ∧ W.cell? ⟨w.heap.size, 1, none⟩ = some (.slice (some ⟨b, o, none⟩) n k) ∧ W.cell? ⟨b, o + j, none⟩ = some (.int .i64 x)) 23 (by kernel_rfl) ?_
              refine WT.h ?_
              (refine wt_take1 0 1 (v := ?_) rfl rfl (by kernel_rfl) (by kernel_rfl) (by kernel_rfl) (by kernel_rfl) (fun _ _ _ h => h) rfl hS0 (by (repeat (first | (refine slot_hit (N := 87) ?_ (by rfl); (repeat (refine sz_put ?_)); assumption; done) | (apply slot_miss; focus rfl))); all_goals assumption) (fun ev hk hv0 w hS => ?_) ?_; rotate_left; focus (obtain ⟨j0, j1, j2⟩ := hS; go_simp; rfl)); (refine wt_take1 1 34 (v := ?_) rfl rfl (by kernel_rfl) (by kernel_rfl) (by kernel_rfl) (by kernel_rfl) (fun _ _ _ h => h) rfl hS0 (by (repeat (first | (refine slot_hit (N := 87) ?_ (by rfl); (repeat (refine sz_put ?_)); assumption; done) | (apply slot_miss; focus rfl))); all_goals assumption) (fun ev hk hv0 w hS => ?_) ?_; rotate_left; focus (obtain ⟨j0, j1, j2⟩ := hS; go_simp; rfl)); (refine wt_take1 2 1 (v := ?_) rfl rfl (by kernel_rfl) (by kernel_rfl) (by kernel_rfl) (by kernel_rfl) (fun _ _ _ h => h) rfl hS0 (by (repeat (first | (refine slot_hit (N := 87) ?_ (by rfl); (repeat (refine sz_put ?_)); assumption; done) | (apply slot_miss; focus rfl))); all_goals assumption) (fun ev hk hv0 w hS => ?_) ?_; rotate_left; focus (obtain ⟨j0, j1, j2⟩ := hS; go_simp; rfl)); (refine wt_take1 3 36 (v := ?_) rfl rfl (by kernel_rfl) (by kernel_rfl) (by kernel_rfl) (by kernel_rfl) (fun _ _ _ h => h) rfl hS0 (by (repeat (first | (refine slot_hit (N := 87) ?_ (by rfl); (repeat (refine sz_put ?_)); assumption; done) | (apply slot_miss; focus rfl))); all_goals assumption) (fun ev hk hv0 w hS => ?_) ?_; rotate_left; focus (obtain ⟨j0, j1, j2⟩ := hS; go_simp; rfl)); (refine wt_move 4 3 rfl rfl (by kernel_rfl) (by kernel_rfl) (by kernel_rfl) (by kernel_rfl) (fun _ _ _ h => h) rfl hS0 (by (repeat (first | (refine slot_hit (N := 87) ?_ (by rfl); (repeat (refine sz_put ?_)); assumption; done) | (apply slot_miss; focus rfl))); all_goals assumption) rfl ?_); (refine wt_take2 5 37 38 (v := ?_) rfl rfl (by kernel_rfl) (by kernel_rfl) (by kernel_rfl) (by kernel_rfl) (fun _ _ _ h => h) rfl hS0 (by (repeat (first | (refine slot_hit (N := 87) ?_ (by rfl); (repeat (refine sz_put ?_)); assumption; done) | (apply slot_miss; focus rfl))); all_goals assumption) (by (repeat (first | (refine slot_hit (N := 87) ?_ (by rfl); (repeat (refine sz_put ?_)); assumption; done) | (apply slot_miss; focus rfl))); all_goals assumption) (fun ev hk hv0 hv1 w hS => ?_) ?_; rotate_left; focus (obtain ⟨j0, j1, j2⟩ := hS; go_simp; rfl)); (refine wt_take1 6 39 (v := ?_) rfl rfl (by kernel_rfl) (by kernel_rfl) (by kernel_rfl) (by kernel_rfl) (fun _ _ _ h => h) rfl hS0 (by (repeat (first | (refine slot_hit (N := 87) ?_ (by rfl); (repeat (refine sz_put ?_)); assumption; done) | (apply slot_miss; focus rfl))); all_goals assumption) (fun ev hk hv0 w hS => ?_) ?_; rotate_left; focus (obtain ⟨j0, j1, j2⟩ := hS; go_simp; rfl))
              refine wt_call2 7 35 40 (by kernel_rfl) rfl rfl rfl (by (repeat (first | (refine slot_hit (N := 87) ?_ (by rfl); (repeat (refine sz_put ?_)); assumption; done) | (apply slot_miss; focus rfl))); all_goals assumption) (by (repeat (first | (refine slot_hit (N := 87) ?_ (by rfl); (repeat (refine sz_put ?_)); assumption; done) | (apply slot_miss; focus rfl))); all_goals assumption) (f := ?_) (args := ?_) (fun ev hk hkf hv0 hv1 => ?_) ?_; rotate_left 2; focus (go_simp; first | rfl | (constructor <;> rfl))
              refine (D _).mono ?_
              rintro e w3 ⟨rfl, rfl⟩
              refine ⟨_, rfl, fun _ => hS0, ?_⟩
              (refine wt_take1 8 41 (v := ?_) rfl rfl (by kernel_rfl) (by kernel_rfl) (by kernel_rfl) (by kernel_rfl) (fun _ _ _ h => h) rfl hS0 (by (repeat (first | (refine slot_hit (N := 87) ?_ (by rfl); (repeat (refine sz_put ?_)); assumption; done) | (apply slot_miss; focus rfl))); all_goals assumption) (fun ev hk hv0 w hS => ?_) ?_; rotate_left; focus (obtain ⟨j0, j1, j2⟩ := hS; go_simp; rfl)); (refine wt_move 9 42 rfl rfl (by kernel_rfl) (by kernel_rfl) (by kernel_rfl) (by kernel_rfl) (fun _ _ _ h => h) rfl hS0 (by (repeat (first | (refine slot_hit (N := 87) ?_ (by rfl); (repeat (refine sz_put ?_)); assumption; done) | (apply slot_miss; focus rfl))); all_goals assumption) rfl ?_); (refine wt_skipD 10 rfl rfl (by kernel_rfl) (by kernel_rfl) (by kernel_rfl) (by kernel_rfl) (fun _ _ _ h => h) (wanted_of rfl rfl (by (repeat (first | (refine slot_hit (N := 87) ?_ (by rfl); (repeat (refine sz_put ?_)); assumption; done) | (apply slot_miss; focus rfl))); all_goals assumption) rfl) hS0 ?_); (refine wt_skipD 11 rfl rfl (by kernel_rfl) (by kernel_rfl) (by kernel_rfl) (by kernel_rfl) (fun _ _ _ h => h) (wanted_of rfl rfl (by (repeat (first | (refine slot_hit (N := 87) ?_ (by rfl); (repeat (refine sz_put ?_)); assumption; done) | (apply slot_miss; focus rfl))); all_goals assumption) rfl) hS0 ?_); (refine wt_skipD 12 rfl rfl (by kernel_rfl) (by kernel_rfl) (by kernel_rfl) (by kernel_rfl) (fun _ _ _ h => h) (wanted_of rfl rfl (by (repeat (first | (refine slot_hit (N := 87) ?_ (by rfl); (repeat (refine sz_put ?_)); assumption; done) | (apply slot_miss; focus rfl))); all_goals assumption) rfl) hS0 ?_); (refine wt_skipD 13 rfl rfl (by kernel_rfl) (by kernel_rfl) (by kernel_rfl) (by kernel_rfl) (fun _ _ _ h => h) (wanted_of rfl rfl (by (repeat (first | (refine slot_hit (N := 87) ?_ (by rfl); (repeat (refine sz_put ?_)); assumption; done) | (apply slot_miss; focus rfl))); all_goals assumption) rfl) hS0 ?_); (refine wt_skipD 14 rfl rfl (by kernel_rfl) (by kernel_rfl) (by kernel_rfl) (by kernel_rfl) (fun _ _ _ h => h) (wanted_of rfl rfl (by (repeat (first | (refine slot_hit (N := 87) ?_ (by rfl); (repeat (refine sz_put ?_)); assumption; done) | (apply slot_miss; focus rfl))); all_goals assumption) rfl) hS0 ?_); (refine wt_skipD 15 rfl rfl (by kernel_rfl) (by kernel_rfl) (by kernel_rfl) (by kernel_rfl) (fun _ _ _ h => h) (wanted_of rfl rfl (by (repeat (first | (refine slot_hit (N := 87) ?_ (by rfl); (repeat (refine sz_put ?_)); assumption; done) | (apply slot_miss; focus rfl))); all_goals assumption) rfl) hS0 ?_); (refine wt_skipD 16 rfl rfl (by kernel_rfl) (by kernel_rfl) (by kernel_rfl) (by kernel_rfl) (fun _ _ _ h => h) (wanted_of rfl rfl (by (repeat (first | (refine slot_hit (N := 87) ?_ (by rfl); (repeat (refine sz_put ?_)); assumption; done) | (apply slot_miss; focus rfl))); all_goals assumption) rfl) hS0 ?_); (refine wt_skipD 17 rfl rfl (by kernel_rfl) (by kernel_rfl) (by kernel_rfl) (by kernel_rfl) (fun _ _ _ h => h) (wanted_of rfl rfl (by (repeat (first | (refine slot_hit (N := 87) ?_ (by rfl); (repeat (refine sz_put ?_)); assumption; done) | (apply slot_miss; focus rfl))); all_goals assumption) rfl) hS0 ?_); (refine wt_skipD 18 rfl rfl (by kernel_rfl) (by kernel_rfl) (by kernel_rfl) (by kernel_rfl) (fun _ _ _ h => h) (wanted_of rfl rfl (by (repeat (first | (refine slot_hit (N := 87) ?_ (by rfl); (repeat (refine sz_put ?_)); assumption; done) | (apply slot_miss; focus rfl))); all_goals assumption) rfl) hS0 ?_); (refine wt_skipD 19 rfl rfl (by kernel_rfl) (by kernel_rfl) (by kernel_rfl) (by kernel_rfl) (fun _ _ _ h => h) (wanted_of rfl rfl (by (repeat (first | (refine slot_hit (N := 87) ?_ (by rfl); (repeat (refine sz_put ?_)); assumption; done) | (apply slot_miss; focus rfl))); all_goals assumption) rfl) hS0 ?_); (refine wt_skipD 20 rfl rfl (by kernel_rfl) (by kernel_rfl) (by kernel_rfl) (by kernel_rfl) (fun _ _ _ h => h) (wanted_of rfl rfl (by (repeat (first | (refine slot_hit (N := 87) ?_ (by rfl); (repeat (refine sz_put ?_)); assumption; done) | (apply slot_miss; focus rfl))); all_goals assumption) rfl) hS0 ?_); (refine wt_skipD 21 rfl rfl (by kernel_rfl) (by kernel_rfl) (by kernel_rfl) (by kernel_rfl) (fun _ _ _ h => h) (wanted_of rfl rfl (by (repeat (first | (refine slot_hit (N := 87) ?_ (by rfl); (repeat (refine sz_put ?_)); assumption; done) | (apply slot_miss; focus rfl))); all_goals assumption) rfl) hS0 ?_); (refine wt_take2 22 43 55 (v := ?_) rfl rfl (by kernel_rfl) (by kernel_rfl) (by kernel_rfl) (by kernel_rfl) (fun _ _ _ h => h) rfl hS0 (by (repeat (first | (refine slot_hit (N := 87) ?_ (by rfl); (repeat (refine sz_put ?_)); assumption; done) | (apply slot_miss; focus rfl))); all_goals assumption) (by (repeat (first | (refine slot_hit (N := 87) ?_ (by rfl); (repeat (refine sz_put ?_)); assumption; done) | (apply slot_miss; focus rfl))); all_goals assumption) (fun ev hk hv0 hv1 w hS => ?_) ?_; rotate_left; focus (obtain ⟨j0, j1, j2⟩ := hS; go_simp; rfl))
              refine wt_known (N := 87) (by kernel_rfl) (by (repeat (refine sz_put ?_)); assumption) [(0, asv v (some ⟨b, o, none⟩) n k B m q), (1, .pointer (some ⟨w.heap.size, 0, none⟩)), (3, .int .i64 (j : Int)), (4, undef), (5, undef), (6, .pointer (some ⟨w.heap.size, 0, none⟩)), (7, .int .i64 v), (8, .bool true), (9, .bool false), (10, .bool false), (11, .pointer (some ⟨w.heap.size, 1, none⟩)), (12, .slice (some ⟨b, o, none⟩) n k), (13, .int .i64 (n : Int)), (14, .pointer (some ⟨w.heap.size, 0, none⟩)), (15, .int .i64 v), (16, .bool (decide (v < (n : Int)))), (17, .bool (decide (v < (n : Int)))), (18, .bool (decide (v < (n : Int)))), (19, .pointer (some ⟨w.heap.size, 2, none⟩)), (20, .slice B m q), (21, .int .i64 (m : Int)), (22, .pointer (some ⟨w.heap.size, 1, none⟩)), (23, .slice (some ⟨b, o, none⟩) n k), (24, .int .i64 (n : Int)), (25, .bool (decide (n < m))), (26, .bool (decide (v < (n : Int)) || decide (n < m))), (56, .bool true)] ⟨(by (repeat (first | (refine slot_hit (N := 87) ?_ (by rfl); (repeat (refine sz_put ?_)); assumption; done) | (apply slot_miss; focus rfl))); all_goals assumption), (by (repeat (first | (refine slot_hit (N := 87) ?_ (by rfl); (repeat (refine sz_put ?_)); assumption; done) | (apply slot_miss; focus rfl))); all_goals assumption), (by (repeat (first | (refine slot_hit (N := 87) ?_ (by rfl); (repeat (refine sz_put ?_)); assumption; done) | (apply slot_miss; focus rfl))); all_goals assumption), (by (repeat (first | (refine slot_hit (N := 87) ?_ (by rfl); (repeat (refine sz_put ?_)); assumption; done) | (apply slot_miss; focus rfl))); all_goals assumption), (by (repeat (first | (refine slot_hit (N := 87) ?_ (by rfl); (repeat (refine sz_put ?_)); assumption; done) | (apply slot_miss; focus rfl))); all_goals assumption), (by (repeat (first | (refine slot_hit (N := 87) ?_ (by rfl); (repeat (refine sz_put ?_)); assumption; done) | (apply slot_miss; focus rfl))); all_goals assumption), (by (repeat (first | (refine slot_hit (N := 87) ?_ (by rfl); (repeat (refine sz_put ?_)); assumption; done) | (apply slot_miss; focus rfl))); all_goals assumption), (by (repeat (first | (refine slot_hit (N := 87) ?_ (by rfl); (repeat (refine sz_put ?_)); assumption; done) | (apply slot_miss; focus rfl))); all_goals assumption), (by (repeat (first | (refine slot_hit (N := 87) ?_ (by rfl); (repeat (refine sz_put ?_)); assumption; done) | (apply slot_miss; focus rfl))); all_goals assumption), (by (repeat (first | (refine slot_hit (N := 87) ?_ (by rfl); (repeat (refine sz_put ?_)); assumption; done) | (apply slot_miss; focus rfl))); all_goals assumption), (by (repeat (first | (refine slot_hit (N := 87) ?_ (by rfl); (repeat (refine sz_put ?_)); assumption; done) | (apply slot_miss; focus rfl))); all_goals assumption), (by (repeat (first | (refine slot_hit (N := 87) ?_ (by rfl); (repeat (refine sz_put ?_)); assumption; done) | (apply slot_miss; focus rfl))); all_goals assumption), (by (repeat (first | (refine slot_hit (N := 87) ?_ (by rfl); (repeat (refine sz_put ?_)); assumption; done) | (apply slot_miss; focus rfl))); all_goals assumption), (by (repeat (first | (refine slot_hit (N := 87) ?_ (by rfl); (repeat (refine sz_put ?_)); assumption; done) | (apply slot_miss; focus rfl))); all_goals assumption), (by (repeat (first | (refine slot_hit (N := 87) ?_ (by rfl); (repeat (refine sz_put ?_)); assumption; done) | (apply slot_miss; focus rfl))); all_goals assumption), (by (repeat (first | (refine slot_hit (N := 87) ?_ (by rfl); (repeat (refine sz_put ?_)); assumption; done) | (apply slot_miss; focus rfl))); all_goals assumption), (by (repeat (first | (refine slot_hit (N := 87) ?_ (by rfl); (repeat (refine sz_put ?_)); assumption; done) | (apply slot_miss; focus rfl))); all_goals assumption), (by (repeat (first | (refine slot_hit (N := 87) ?_ (by rfl); (repeat (refine sz_put ?_)); assumption; done) | (apply slot_miss; focus rfl))); all_goals assumption), (by (repeat (first | (refine slot_hit (N := 87) ?_ (by rfl); (repeat (refine sz_put ?_)); assumption; done) | (apply slot_miss; focus rfl))); all_goals assumption), (by (repeat (first | (refine slot_hit (N := 87) ?_ (by rfl); (repeat (refine sz_put ?_)); assumption; done) | (apply slot_miss; focus rfl))); all_goals assumption), (by (repeat (first | (refine slot_hit (N := 87) ?_ (by rfl); (repeat (refine sz_put ?_)); assumption; done) | (apply slot_miss; focus rfl))); all_goals assumption), (by (repeat (first | (refine slot_hit (N := 87) ?_ (by rfl); (repeat (refine sz_put ?_)); assumption; done) | (apply slot_miss; focus rfl))); all_goals assumption), (by (repeat (first | (refine slot_hit (N := 87) ?_ (by rfl); (repeat (refine sz_put ?_)); assumption; done) | (apply slot_miss; focus rfl))); all_goals assumption), (by (repeat (first | (refine slot_hit (N := 87) ?_ (by rfl); (repeat (refine sz_put ?_)); assumption; done) | (apply slot_miss; focus rfl))); all_goals assumption), (by (repeat (first | (refine slot_hit (N := 87) ?_ (by rfl); (repeat (refine sz_put ?_)); assumption; done) | (apply slot_miss; focus rfl))); all_goals assumption), (by (repeat (first | (refine slot_hit (N := 87) ?_ (by rfl); (repeat (refine sz_put ?_)); assumption; done) | (apply slot_miss; focus rfl))); all_goals assumption), (by (repeat (first | (refine slot_hit (N := 87) ?_ (by rfl); (repeat (refine sz_put ?_)); assumption; done) | (apply slot_miss; focus rfl))); all_goals assumption), trivial⟩ fun fv fl hfl => ?_; obtain rfl : fl = [(asv v (some ⟨b, o, none⟩) n k B m q : Value), (.pointer (some ⟨w.heap.size, 0, none⟩) : Value), fv 2, (.int .i64 (j : Int) : Value), (undef : Value), (undef : Value), (.pointer (some ⟨w.heap.size, 0, none⟩) : Value), (.int .i64 v : Value), (.bool true : Value), (.bool false : Value), (.bool false : Value), (.pointer (some ⟨w.heap.size, 1, none⟩) : Value), (.slice (some ⟨b, o, none⟩) n k : Value), (.int .i64 (n : Int) : Value), (.pointer (some ⟨w.heap.size, 0, none⟩) : Value), (.int .i64 v : Value), (.bool (decide (v < (n : Int))) : Value), (.bool (decide (v < (n : Int))) : Value), (.bool (decide (v < (n : Int))) : Value), (.pointer (some ⟨w.heap.size, 2, none⟩) : Value), (.slice B m q : Value), (.int .i64 (m : Int) : Value), (.pointer (some ⟨w.heap.size, 1, none⟩) : Value), (.slice (some ⟨b, o, none⟩) n k : Value), (.int .i64 (n : Int) : Value), (.bool (decide (n < m)) : Value), (.bool (decide (v < (n : Int)) || decide (n < m)) : Value), fv 27, fv 28, fv 29, fv 30, fv 31, fv 32, fv 33, fv 34, fv 35, fv 36, fv 37, fv 38, fv 39, fv 40, fv 41, fv 42, fv 43, fv 44, fv 45, fv 46, fv 47, fv 48, fv 49, fv 50, fv 51, fv 52, fv 53, fv 54, fv 55, (.bool true : Value), fv 57, fv 58, fv 59, fv 60, fv 61, fv 62, fv 63, fv 64, fv 65, fv 66, fv 67, fv 68, fv 69, fv 70, fv 71, fv 72, fv 73, fv 74, fv 75, fv 76, fv 77, fv 78, fv 79, fv 80, fv 81, fv 82, fv 83, fv 84, fv 85, fv 86] := hfl.symm.trans (by kernel_rfl); clear hfl
              clear hS0
              go_wp2
              go_ret
              exact ⟨by rw [HR.out]; rfl, below_dn HK.out.1 1⟩
            | true =>
              rw [eL] at D
              have DI := hIs eL wr.drew (below_dn hB 1)
              have hJ := hTJ eL
              obtain ⟨z, hz⟩ : ∃ z, z = isv (t.take j) x := ⟨_, rfl⟩
              rw [← hz] at DI hJ
              have HJ := Lib.hid hJ
              clear hB hC hok hcs y0 hx hIs hTJ hI' hoj elen hJ hz
              go_wp2
              refine wp_slots (fun f => Sz f 87 ∧ Slot f 0 (asv v (some ⟨b, o, none⟩) n k B m q) ∧ Slot f 1 (.pointer (some ⟨w.heap.size, 0, none⟩)) ∧ Slot f 3 (.int .i64 (j : Int)) ∧ Slot f 4 (undef) ∧ Slot f 5 (undef) ∧ Slot f 6 (.pointer (some ⟨w.heap.size, 0, none⟩)) ∧ Slot f 7 (.int .i64 v) ∧ Slot f 8 (.bool true) ∧ Slot f 9 (.bool false) ∧ Slot f 10 (.bool false) ∧ Slot f 11 (.pointer (some ⟨w.heap.size, 1, none⟩)) ∧ Slot f 12 (.slice (some ⟨b, o, none⟩) n k) ∧ Slot f 13 (.int .i64 (n : Int)) ∧ Slot f 14 (.pointer (some ⟨w.heap.size, 0, none⟩)) ∧ Slot f 15 (.int .i64 v) ∧ Slot f 16 (.bool (decide (v < (n : Int)))) ∧ Slot f 17 (.bool (decide (v < (n : Int)))) ∧ Slot f 18 (.bool (decide (v < (n : Int)))) ∧ Slot f 19 (.pointer (some ⟨w.heap.size, 2, none⟩)) ∧ Slot f 20 (.slice B m q) ∧ Slot f 21 (.int .i64 (m : Int)) ∧ Slot f 22 (.pointer (some ⟨w.heap.size, 1, none⟩)) ∧ Slot f 23 (.slice (some ⟨b, o, none⟩) n k) ∧ Slot f 24 (.int .i64 (n : Int)) ∧ Slot f 25 (.bool (decide (n < m))) ∧ Slot f 26 (.bool (decide (v < (n : Int)) || decide (n < m))) ∧ Slot f 57 undef ∧ Slot f 58 undef ∧ Slot f 59 undef ∧ Slot f 60 undef ∧ Slot f 61 undef ∧ Slot f 62 undef ∧ Slot f 63 undef ∧ Slot f 64 undef ∧ Slot f 65 undef ∧ Slot f 66 undef ∧ Slot f 67 undef ∧ Slot f 68 undef ∧ Slot f 69 undef ∧ Slot f 70 undef ∧ Slot f 71 undef ∧ Slot f 72 undef ∧ Slot f 73 undef ∧ Slot f 74 undef ∧ Slot f 75 undef ∧ Slot f 76 undef ∧ Slot f 77 undef ∧ Slot f 78 undef ∧ Slot f 79 undef ∧ Slot f 80 undef ∧ Slot f 81 undef ∧ Slot f 82 undef ∧ Slot f 83 undef ∧ Slot f 84 undef ∧ Slot f 85 undef ∧ Slot f 86 undef) ⟨⟨rfl, rfl⟩, ⟨rfl⟩, ⟨rfl⟩, ⟨rfl⟩, ⟨rfl⟩, ⟨rfl⟩, ⟨rfl⟩, ⟨rfl⟩, ⟨rfl⟩, ⟨rfl⟩, ⟨rfl⟩, ⟨rfl⟩, ⟨rfl⟩, ⟨rfl⟩, ⟨rfl⟩, ⟨rfl⟩, ⟨rfl⟩, ⟨rfl⟩, ⟨rfl⟩, ⟨rfl⟩, ⟨rfl⟩, ⟨rfl⟩, ⟨rfl⟩, ⟨rfl⟩, ⟨rfl⟩, ⟨rfl⟩, ⟨rfl⟩, ⟨rfl⟩, ⟨rfl⟩, ⟨rfl⟩, ⟨rfl⟩, ⟨rfl⟩, ⟨rfl⟩, ⟨rfl⟩, ⟨rfl⟩, ⟨rfl⟩, ⟨rfl⟩, ⟨rfl⟩, ⟨rfl⟩, ⟨rfl⟩, ⟨rfl⟩, ⟨rfl⟩, ⟨rfl⟩, ⟨rfl⟩, ⟨rfl⟩, ⟨rfl⟩, ⟨rfl⟩, ⟨rfl⟩, ⟨rfl⟩, ⟨rfl⟩, ⟨rfl⟩, ⟨rfl⟩, ⟨rfl⟩, ⟨rfl⟩, ⟨rfl⟩, ⟨rfl⟩, ⟨rfl⟩⟩ fun a0 hA0 hR => ?_
              obtain ⟨hZ, hs0, hs1, hs3, hs4, hs5, hs6, hs7, hs8, hs9, hs10, hs11, hs12, hs13, hs14, hs15, hs16, hs17, hs18, hs19, hs20, hs21, hs22, hs23, hs24, hs25, hs26, hs57, hs58, hs59, hs60, hs61, hs62, hs63, hs64, hs65, hs66, hs67, hs68, hs69, hs70, hs71, hs72, hs73, hs74, hs75, hs76, hs77, hs78, hs79, hs80, hs81, hs82, hs83, hs84, hs85, hs86⟩ := hR
              clear hA0 c0 c1 c2 yy
              refine wp_region_T (fun W : World => W.cell? ⟨w.heap.size, 0, none⟩ = some (.int .i64 v) ∧ W.cell? ⟨w.heap.size, 1, none⟩ = some (.slice (some ⟨b, o, none⟩) n k) ∧ W.cell? ⟨b, o + j, none⟩ = some (.int .i64 x)) 23 (by kernel_rfl) ?_
              refine WT.h ?_
              (refine wt_take1 0 1 (v := ?_) rfl rfl (by kernel_rfl) (by kernel_rfl) (by kernel_rfl) (by kernel_rfl) (fun _ _ _ h => h) rfl hS0 (by (repeat (first | (refine slot_hit (N := 87) ?_ (by rfl); (repeat (refine sz_put ?_)); assumption; done) | (apply slot_miss; focus rfl))); all_goals assumption) (fun ev hk hv0 w hS => ?_) ?_; rotate_left; focus (obtain ⟨j0, j1, j2⟩ := hS; go_simp; rfl)); (refine wt_take1 1 34 (v := ?_) rfl rfl (by kernel_rfl) (by kernel_rfl) (by kernel_rfl) (by kernel_rfl) (fun _ _ _ h => h) rfl hS0 (by (repeat (first | (refine slot_hit (N := 87) ?_ (by rfl); (repeat (refine sz_put ?_)); assumption; done) | (apply slot_miss; focus rfl))); all_goals assumption) (fun ev hk hv0 w hS => ?_) ?_; rotate_left; focus (obtain ⟨j0, j1, j2⟩ := hS; go_simp; rfl)); (refine wt_take1 2 1 (v := ?_) rfl rfl (by kernel_rfl) (by kernel_rfl) (by kernel_rfl) (by kernel_rfl) (fun _ _ _ h => h) rfl hS0 (by (repeat (first | (refine slot_hit (N := 87) ?_ (by rfl); (repeat (refine sz_put ?_)); assumption; done) | (apply slot_miss; focus rfl))); all_goals assumption) (fun ev hk hv0 w hS => ?_) ?_; rotate_left; focus (obtain ⟨j0, j1, j2⟩ := hS; go_simp; rfl)); (refine wt_take1 3 36 (v := ?_) rfl rfl (by kernel_rfl) (by kernel_rfl) (by kernel_rfl) (by kernel_rfl) (fun _ _ _ h => h) rfl hS0 (by (repeat (first | (refine slot_hit (N := 87) ?_ (by rfl); (repeat (refine sz_put ?_)); assumption; done) | (apply slot_miss; focus rfl))); all_goals assumption) (fun ev hk hv0 w hS => ?_) ?_; rotate_left; focus (obtain ⟨j0, j1, j2⟩ := hS; go_simp; rfl)); (refine wt_move 4 3 rfl rfl (by kernel_rfl) (by kernel_rfl) (by kernel_rfl) (by kernel_rfl) (fun _ _ _ h => h) rfl hS0 (by (repeat (first | (refine slot_hit (N := 87) ?_ (by rfl); (repeat (refine sz_put ?_)); assumption; done) | (apply slot_miss; focus rfl))); all_goals assumption) rfl ?_); (refine wt_take2 5 37 38 (v := ?_) rfl rfl (by kernel_rfl) (by kernel_rfl) (by kernel_rfl) (by kernel_rfl) (fun _ _ _ h => h) rfl hS0 (by (repeat (first | (refine slot_hit (N := 87) ?_ (by rfl); (repeat (refine sz_put ?_)); assumption; done) | (apply slot_miss; focus rfl))); all_goals assumption) (by (repeat (first | (refine slot_hit (N := 87) ?_ (by rfl); (repeat (refine sz_put ?_)); assumption; done) | (apply slot_miss; focus rfl))); all_goals assumption) (fun ev hk hv0 hv1 w hS => ?_) ?_; rotate_left; focus (obtain ⟨j0, j1, j2⟩ := hS; go_simp; rfl)); (refine wt_take1 6 39 (v := ?_) rfl rfl (by kernel_rfl) (by kernel_rfl) (by kernel_rfl) (by kernel_rfl) (fun _ _ _ h => h) rfl hS0 (by (repeat (first | (refine slot_hit (N := 87) ?_ (by rfl); (repeat (refine sz_put ?_)); assumption; done) | (apply slot_miss; focus rfl))); all_goals assumption) (fun ev hk hv0 w hS => ?_) ?_; rotate_left; focus (obtain ⟨j0, j1, j2⟩ := hS; go_simp; rfl))
              refine wt_call2 7 35 40 (by kernel_rfl) rfl rfl rfl (by (repeat (first | (refine slot_hit (N := 87) ?_ (by rfl); (repeat (refine sz_put ?_)); assumption; done) | (apply slot_miss; focus rfl))); all_goals assumption) (by (repeat (first | (refine slot_hit (N := 87) ?_ (by rfl); (repeat (refine sz_put ?_)); assumption; done) | (apply slot_miss; focus rfl))); all_goals assumption) (f := ?_) (args := ?_) (fun ev hk hkf hv0 hv1 => ?_) ?_; rotate_left 2; focus (go_simp; first | rfl | (constructor <;> rfl))
              refine (D _).mono ?_
              rintro e w3 ⟨rfl, rfl⟩
              refine ⟨_, rfl, fun _ => hS0, ?_⟩
              (refine wt_take1 8 41 (v := ?_) rfl rfl (by kernel_rfl) (by kernel_rfl) (by kernel_rfl) (by kernel_rfl) (fun _ _ _ h => h) rfl hS0 (by (repeat (first | (refine slot_hit (N := 87) ?_ (by rfl); (repeat (refine sz_put ?_)); assumption; done) | (apply slot_miss; focus rfl))); all_goals assumption) (fun ev hk hv0 w hS => ?_) ?_; rotate_left; focus (obtain ⟨j0, j1, j2⟩ := hS; go_simp; rfl)); (refine wt_move 9 42 rfl rfl (by kernel_rfl) (by kernel_rfl) (by kernel_rfl) (by kernel_rfl) (fun _ _ _ h => h) rfl hS0 (by (repeat (first | (refine slot_hit (N := 87) ?_ (by rfl); (repeat (refine sz_put ?_)); assumption; done) | (apply slot_miss; focus rfl))); all_goals assumption) rfl ?_); (refine wt_take1 10 1 (v := ?_) rfl rfl (by kernel_rfl) (by kernel_rfl) (by kernel_rfl) (by kernel_rfl) (fun _ _ _ h => h) (wanted_of rfl rfl (by (repeat (first | (refine slot_hit (N := 87) ?_ (by rfl); (repeat (refine sz_put ?_)); assumption; done) | (apply slot_miss; focus rfl))); all_goals assumption) rfl) hS0 (by (repeat (first | (refine slot_hit (N := 87) ?_ (by rfl); (repeat (refine sz_put ?_)); assumption; done) | (apply slot_miss; focus rfl))); all_goals assumption) (fun ev hk hv0 w hS => ?_) ?_; rotate_left; focus (obtain ⟨j0, j1, j2⟩ := hS; go_simp; rfl)); (refine wt_take1 11 44 (v := ?_) rfl rfl (by kernel_rfl) (by kernel_rfl) (by kernel_rfl) (by kernel_rfl) (fun _ _ _ h => h) (wanted_of rfl rfl (by (repeat (first | (refine slot_hit (N := 87) ?_ (by rfl); (repeat (refine sz_put ?_)); assumption; done) | (apply slot_miss; focus rfl))); all_goals assumption) rfl) hS0 (by (repeat (first | (refine slot_hit (N := 87) ?_ (by rfl); (repeat (refine sz_put ?_)); assumption; done) | (apply slot_miss; focus rfl))); all_goals assumption) (fun ev hk hv0 w hS => ?_) ?_; rotate_left; focus (obtain ⟨j0, j1, j2⟩ := hS; go_simp; rfl)); (refine wt_move 12 3 rfl rfl (by kernel_rfl) (by kernel_rfl) (by kernel_rfl) (by kernel_rfl) (fun _ _ _ h => h) (wanted_of rfl rfl (by (repeat (first | (refine slot_hit (N := 87) ?_ (by rfl); (repeat (refine sz_put ?_)); assumption; done) | (apply slot_miss; focus rfl))); all_goals assumption) rfl) hS0 (by (repeat (first | (refine slot_hit (N := 87) ?_ (by rfl); (repeat (refine sz_put ?_)); assumption; done) | (apply slot_miss; focus rfl))); all_goals assumption) rfl ?_)
              (refine wt_take2 13 45 46 (v := ?_) rfl rfl (by kernel_rfl) (by kernel_rfl) (by kernel_rfl) (by kernel_rfl) (fun _ _ _ h => h) (wanted_of rfl rfl (by (repeat (first | (refine slot_hit (N := 87) ?_ (by rfl); (repeat (refine sz_put ?_)); assumption; done) | (apply slot_miss; focus rfl))); all_goals assumption) rfl) hS0 (by (repeat (first | (refine slot_hit (N := 87) ?_ (by rfl); (repeat (refine sz_put ?_)); assumption; done) | (apply slot_miss; focus rfl))); all_goals assumption) (by (repeat (first | (refine slot_hit (N := 87) ?_ (by rfl); (repeat (refine sz_put ?_)); assumption; done) | (apply slot_miss; focus rfl))); all_goals assumption) (fun ev hk hv0 hv1 w hS => ?_) ?_; rotate_left; focus (go_simp; first | exact hcut _ | (rw [hcut]; done) | (simp only [hcut]; done) | rfl))
              (refine wt_take1 14 47 (v := ?_) rfl rfl (by kernel_rfl) (by kernel_rfl) (by kernel_rfl) (by kernel_rfl) (fun _ _ _ h => h) (wanted_of rfl rfl (by (repeat (first | (refine slot_hit (N := 87) ?_ (by rfl); (repeat (refine sz_put ?_)); assumption; done) | (apply slot_miss; focus rfl))); all_goals assumption) rfl) hS0 (by (repeat (first | (refine slot_hit (N := 87) ?_ (by rfl); (repeat (refine sz_put ?_)); assumption; done) | (apply slot_miss; focus rfl))); all_goals assumption) (fun ev hk hv0 w hS => ?_) ?_; rotate_left; focus (obtain ⟨j0, j1, j2⟩ := hS; go_simp; rfl)); (refine wt_take1 15 1 (v := ?_) rfl rfl (by kernel_rfl) (by kernel_rfl) (by kernel_rfl) (by kernel_rfl) (fun _ _ _ h => h) (wanted_of rfl rfl (by (repeat (first | (refine slot_hit (N := 87) ?_ (by rfl); (repeat (refine sz_put ?_)); assumption; done) | (apply slot_miss; focus rfl))); all_goals assumption) rfl) hS0 (by (repeat (first | (refine slot_hit (N := 87) ?_ (by rfl); (repeat (refine sz_put ?_)); assumption; done) | (apply slot_miss; focus rfl))); all_goals assumption) (fun ev hk hv0 w hS => ?_) ?_; rotate_left; focus (obtain ⟨j0, j1, j2⟩ := hS; go_simp; rfl)); (refine wt_take1 16 49 (v := ?_) rfl rfl (by kernel_rfl) (by kernel_rfl) (by kernel_rfl) (by kernel_rfl) (fun _ _ _ h => h) (wanted_of rfl rfl (by (repeat (first | (refine slot_hit (N := 87) ?_ (by rfl); (repeat (refine sz_put ?_)); assumption; done) | (apply slot_miss; focus rfl))); all_goals assumption) rfl) hS0 (by (repeat (first | (refine slot_hit (N := 87) ?_ (by rfl); (repeat (refine sz_put ?_)); assumption; done) | (apply slot_miss; focus rfl))); all_goals assumption) (fun ev hk hv0 w hS => ?_) ?_; rotate_left; focus (obtain ⟨j0, j1, j2⟩ := hS; go_simp; rfl)); (refine wt_move 17 3 rfl rfl (by kernel_rfl) (by kernel_rfl) (by kernel_rfl) (by kernel_rfl) (fun _ _ _ h => h) (wanted_of rfl rfl (by (repeat (first | (refine slot_hit (N := 87) ?_ (by rfl); (repeat (refine sz_put ?_)); assumption; done) | (apply slot_miss; focus rfl))); all_goals assumption) rfl) hS0 (by (repeat (first | (refine slot_hit (N := 87) ?_ (by rfl); (repeat (refine sz_put ?_)); assumption; done) | (apply slot_miss; focus rfl))); all_goals assumption) rfl ?_); (refine wt_take2 18 50 51 (v := ?_) rfl rfl (by kernel_rfl) (by kernel_rfl) (by kernel_rfl) (by kernel_rfl) (fun _ _ _ h => h) (wanted_of rfl rfl (by (repeat (first | (refine slot_hit (N := 87) ?_ (by rfl); (repeat (refine sz_put ?_)); assumption; done) | (apply slot_miss; focus rfl))); all_goals assumption) rfl) hS0 (by (repeat (first | (refine slot_hit (N := 87) ?_ (by rfl); (repeat (refine sz_put ?_)); assumption; done) | (apply slot_miss; focus rfl))); all_goals assumption) (by (repeat (first | (refine slot_hit (N := 87) ?_ (by rfl); (repeat (refine sz_put ?_)); assumption; done) | (apply slot_miss; focus rfl))); all_goals assumption) (fun ev hk hv0 hv1 w hS => ?_) ?_; rotate_left; focus (obtain ⟨j0, j1, j2⟩ := hS; go_simp; rfl)); (refine wt_take1 19 52 (v := ?_) rfl rfl (by kernel_rfl) (by kernel_rfl) (by kernel_rfl) (by kernel_rfl) (fun _ _ _ h => h) (wanted_of rfl rfl (by (repeat (first | (refine slot_hit (N := 87) ?_ (by rfl); (repeat (refine sz_put ?_)); assumption; done) | (apply slot_miss; focus rfl))); all_goals assumption) rfl) hS0 (by (repeat (first | (refine slot_hit (N := 87) ?_ (by rfl); (repeat (refine sz_put ?_)); assumption; done) | (apply slot_miss; focus rfl))); all_goals assumption) (fun ev hk hv0 w hS => ?_) ?_; rotate_left; focus (obtain ⟨j0, j1, j2⟩ := hS; go_simp; rfl))
              refine wt_call2 20 48 53 (by kernel_rfl) rfl rfl (wanted_of rfl rfl (by (repeat (first | (refine slot_hit (N := 87) ?_ (by rfl); (repeat (refine sz_put ?_)); assumption; done) | (apply slot_miss; focus rfl))); all_goals assumption) rfl) (by (repeat (first | (refine slot_hit (N := 87) ?_ (by rfl); (repeat (refine sz_put ?_)); assumption; done) | (apply slot_miss; focus rfl))); all_goals assumption) (by (repeat (first | (refine slot_hit (N := 87) ?_ (by rfl); (repeat (refine sz_put ?_)); assumption; done) | (apply slot_miss; focus rfl))); all_goals assumption) (f := ?_) (args := ?_) (fun ev hk hkf hv0 hv1 => ?_) ?_; rotate_left 2; focus (go_simp; first | rfl | (constructor <;> rfl))
              refine DI.mono ?_
              rintro e w4 ⟨rfl, hb4⟩
              have hb4' : Below wr.heap.size wr w4 := bn (below_dn (Below.refl _ _) 1) hb4
              have hS0 := hSk.out w4 hb4'
              have HW := Lib.hid (And.intro (bn HK.out.1 hb4') (HK.out.2.1.keep hb4' HK.out.2.1.lt))
              refine ⟨_, rfl, fun _ => hS0, ?_⟩
              clear hb4 hb4' DI
              (refine wt_take1 21 54 (v := ?_) rfl rfl (by kernel_rfl) (by kernel_rfl) (by kernel_rfl) (by kernel_rfl) (fun _ _ _ h => h) (wanted_of rfl rfl (by (repeat (first | (refine slot_hit (N := 87) ?_ (by rfl); (repeat (refine sz_put ?_)); assumption; done) | (apply slot_miss; focus rfl))); all_goals assumption) rfl) hS0 (by (repeat (first | (refine slot_hit (N := 87) ?_ (by rfl); (repeat (refine sz_put ?_)); assumption; done) | (apply slot_miss; focus rfl))); all_goals assumption) (fun ev hk hv0 w hS => ?_) ?_; rotate_left; focus (obtain ⟨j0, j1, j2⟩ := hS; go_simp; rfl)); (refine wt_take2 22 43 55 (v := ?_) rfl rfl (by kernel_rfl) (by kernel_rfl) (by kernel_rfl) (by kernel_rfl) (fun _ _ _ h => h) rfl hS0 (by (repeat (first | (refine slot_hit (N := 87) ?_ (by rfl); (repeat (refine sz_put ?_)); assumption; done) | (apply slot_miss; focus rfl))); all_goals assumption) (by (repeat (first | (refine slot_hit (N := 87) ?_ (by rfl); (repeat (refine sz_put ?_)); assumption; done) | (apply slot_miss; focus rfl))); all_goals assumption) (fun ev hk hv0 hv1 w hS => ?_) ?_; rotate_left; focus (obtain ⟨j0, j1, j2⟩ := hS; go_simp; rfl))
              refine wt_known (N := 87) (by kernel_rfl) (by (repeat (refine sz_put ?_)); assumption) [(0, asv v (some ⟨b, o, none⟩) n k B m q), (1, .pointer (some ⟨w.heap.size, 0, none⟩)), (3, .int .i64 (j : Int)), (4, undef), (5, undef), (6, .pointer (some ⟨w.heap.size, 0, none⟩)), (7, .int .i64 v), (8, .bool true), (9, .bool false), (10, .bool false), (11, .pointer (some ⟨w.heap.size, 1, none⟩)), (12, .slice (some ⟨b, o, none⟩) n k), (13, .int .i64 (n : Int)), (14, .pointer (some ⟨w.heap.size, 0, none⟩)), (15, .int .i64 v), (16, .bool (decide (v < (n : Int)))), (17, .bool (decide (v < (n : Int)))), (18, .bool (decide (v < (n : Int)))), (19, .pointer (some ⟨w.heap.size, 2, none⟩)), (20, .slice B m q), (21, .int .i64 (m : Int)), (22, .pointer (some ⟨w.heap.size, 1, none⟩)), (23, .slice (some ⟨b, o, none⟩) n k), (24, .int .i64 (n : Int)), (25, .bool (decide (n < m))), (26, .bool (decide (v < (n : Int)) || decide (n < m))), (56, .bool (z != 2)), (57, undef), (58, undef), (59, undef), (60, undef), (61, undef), (62, undef), (63, undef), (64, undef), (65, undef), (66, undef), (67, undef), (68, undef), (69, undef), (70, undef), (71, undef), (72, undef), (73, undef), (74, undef), (75, undef), (76, undef), (77, undef), (78, undef), (79, undef), (80, undef), (81, undef), (82, undef), (83, undef), (84, undef), (85, undef), (86, undef)] ⟨(by (repeat (first | (refine slot_hit (N := 87) ?_ (by rfl); (repeat (refine sz_put ?_)); assumption; done) | (apply slot_miss; focus rfl))); all_goals assumption), (by (repeat (first | (refine slot_hit (N := 87) ?_ (by rfl); (repeat (refine sz_put ?_)); assumption; done) | (apply slot_miss; focus rfl))); all_goals assumption), (by (repeat (first | (refine slot_hit (N := 87) ?_ (by rfl); (repeat (refine sz_put ?_)); assumption; done) | (apply slot_miss; focus rfl))); all_goals assumption), (by (repeat (first | (refine slot_hit (N := 87) ?_ (by rfl); (repeat (refine sz_put ?_)); assumption; done) | (apply slot_miss; focus rfl))); all_goals assumption), (by (repeat (first | (refine slot_hit (N := 87) ?_ (by rfl); (repeat (refine sz_put ?_)); assumption; done) | (apply slot_miss; focus rfl))); all_goals assumption), (by (repeat (first | (refine slot_hit (N := 87) ?_ (by rfl); (repeat (refine sz_put ?_)); assumption; done) | (apply slot_miss; focus rfl))); all_goals assumption), (by (repeat (first | (refine slot_hit (N := 87) ?_ (by rfl); (repeat (refine sz_put ?_)); assumption; done) | (apply slot_miss; focus rfl))); all_goals assumption), (by (repeat (first | (refine slot_hit (N := 87) ?_ (by rfl); (repeat (refine sz_put ?_)); assumption; done) | (apply slot_miss; focus rfl))); all_goals assumption), (by (repeat (first | (refine slot_hit (N := 87) ?_ (by rfl); (repeat (refine sz_put ?_)); assumption; done) | (apply slot_miss; focus rfl))); all_goals assumption), (by (repeat (first | (refine slot_hit (N := 87) ?_ (by rfl); (repeat (refine sz_put ?_)); assumption; done) | (apply slot_miss; focus rfl))); all_goals assumption), (by (repeat (first | (refine slot_hit (N := 87) ?_ (by rfl); (repeat (refine sz_put ?_)); assumption; done) | (apply slot_miss; focus rfl))); all_goals assumption), (by (repeat (first | (refine slot_hit (N := 87) ?_ (by rfl); (repeat (refine sz_put ?_)); assumption; done) | (apply slot_miss; focus rfl))); all_goals assumption), (by (repeat (first | (refine slot_hit (N := 87) ?_ (by rfl); (repeat (refine sz_put ?_)); assumption; done) | (apply slot_miss; focus rfl))); all_goals assumption), (by (repeat (first | (refine slot_hit (N := 87) ?_ (by rfl); (repeat (refine sz_put ?_)); assumption; done) | (apply slot_miss; focus rfl))); all_goals assumption), (by (repeat (first | (refine slot_hit (N := 87) ?_ (by rfl); (repeat (refine sz_put ?_)); assumption; done) | (apply slot_miss; focus rfl))); all_goals assumption), (by (repeat (first | (refine slot_hit (N := 87) ?_ (by rfl); (repeat (refine sz_put ?_)); assumption; done) | (apply slot_miss; focus rfl))); all_goals assumption), (by (repeat (first | (refine slot_hit (N := 87) ?_ (by rfl); (repeat (refine sz_put ?_)); assumption; done) | (apply slot_miss; focus rfl))); all_goals assumption), (by (repeat (first | (refine slot_hit (N := 87) ?_ (by rfl); (repeat (refine sz_put ?_)); assumption; done) | (apply slot_miss; focus rfl))); all_goals assumption), (by (repeat (first | (refine slot_hit (N := 87) ?_ (by rfl); (repeat (refine sz_put ?_)); assumption; done) | (apply slot_miss; focus rfl))); all_goals assumption), (by (repeat (first | (refine slot_hit (N := 87) ?_ (by rfl); (repeat (refine sz_put ?_)); assumption; done) | (apply slot_miss; focus rfl))); all_goals assumption), (by (repeat (first | (refine slot_hit (N := 87) ?_ (by rfl); (repeat (refine sz_put ?_)); assumption; done) | (apply slot_miss; focus rfl))); all_goals assumption), (by (repeat (first | (refine slot_hit (N := 87) ?_ (by rfl); (repeat (refine sz_put ?_)); assumption; done) | (apply slot_miss; focus rfl))); all_goals assumption), (by (repeat (first | (refine slot_hit (N := 87) ?_ (by rfl); (repeat (refine sz_put ?_)); assumption; done) | (apply slot_miss; focus rfl))); all_goals assumption), (by (repeat (first | (refine slot_hit (N := 87) ?_ (by rfl); (repeat (refine sz_put ?_)); assumption; done) | (apply slot_miss; focus rfl))); all_goals assumption), (by (repeat (first | (refine slot_hit (N := 87) ?_ (by rfl); (repeat (refine sz_put ?_)); assumption; done) | (apply slot_miss; focus rfl))); all_goals assumption), (by (repeat (first | (refine slot_hit (N := 87) ?_ (by rfl); (repeat (refine sz_put ?_)); assumption; done) | (apply slot_miss; focus rfl))); all_goals assumption), (by (repeat (first | (refine slot_hit (N := 87) ?_ (by rfl); (repeat (refine sz_put ?_)); assumption; done) | (apply slot_miss; focus rfl))); all_goals assumption), (by (repeat (first | (refine slot_hit (N := 87) ?_ (by rfl); (repeat (refine sz_put ?_)); assumption; done) | (apply slot_miss; focus rfl))); all_goals assumption), (by (repeat (first | (refine slot_hit (N := 87) ?_ (by rfl); (repeat (refine sz_put ?_)); assumption; done) | (apply slot_miss; focus rfl))); all_goals assumption), (by (repeat (first | (refine slot_hit (N := 87) ?_ (by rfl); (repeat (refine sz_put ?_)); assumption; done) | (apply slot_miss; focus rfl))); all_goals assumption), (by (repeat (first | (refine slot_hit (N := 87) ?_ (by rfl); (repeat (refine sz_put ?_)); assumption; done) | (apply slot_miss; focus rfl))); all_goals assumption), (by (repeat (first | (refine slot_hit (N := 87) ?_ (by rfl); (repeat (refine sz_put ?_)); assumption; done) | (apply slot_miss; focus rfl))); all_goals assumption), (by (repeat (first | (refine slot_hit (N := 87) ?_ (by rfl); (repeat (refine sz_put ?_)); assumption; done) | (apply slot_miss; focus rfl))); all_goals assumption), (by (repeat (first | (refine slot_hit (N := 87) ?_ (by rfl); (repeat (refine sz_put ?_)); assumption; done) | (apply slot_miss; focus rfl))); all_goals assumption), (by (repeat (first | (refine slot_hit (N := 87) ?_ (by rfl); (repeat (refine sz_put ?_)); assumption; done) | (apply slot_miss; focus rfl))); all_goals assumption), (by (repeat (first | (refine slot_hit (N := 87) ?_ (by rfl); (repeat (refine sz_put ?_)); assumption; done) | (apply slot_miss; focus rfl))); all_goals assumption), (by (repeat (first | (refine slot_hit (N := 87) ?_ (by rfl); (repeat (refine sz_put ?_)); assumption; done) | (apply slot_miss; focus rfl))); all_goals assumption), (by (repeat (first | (refine slot_hit (N := 87) ?_ (by rfl); (repeat (refine sz_put ?_)); assumption; done) | (apply slot_miss; focus rfl))); all_goals assumption), (by (repeat (first | (refine slot_hit (N := 87) ?_ (by rfl); (repeat (refine sz_put ?_)); assumption; done) | (apply slot_miss; focus rfl))); all_goals assumption), (by (repeat (first | (refine slot_hit (N := 87) ?_ (by rfl); (repeat (refine sz_put ?_)); assumption; done) | (apply slot_miss; focus rfl))); all_goals assumption), (by (repeat (first | (refine slot_hit (N := 87) ?_ (by rfl); (repeat (refine sz_put ?_)); assumption; done) | (apply slot_miss; focus rfl))); all_goals assumption), (by (repeat (first | (refine slot_hit (N := 87) ?_ (by rfl); (repeat (refine sz_put ?_)); assumption; done) | (apply slot_miss; focus rfl))); all_goals assumption), (by (repeat (first | (refine slot_hit (N := 87) ?_ (by rfl); (repeat (refine sz_put ?_)); assumption; done) | (apply slot_miss; focus rfl))); all_goals assumption), (by (repeat (first | (refine slot_hit (N := 87) ?_ (by rfl); (repeat (refine sz_put ?_)); assumption; done) | (apply slot_miss; focus rfl))); all_goals assumption), (by (repeat (first | (refine slot_hit (N := 87) ?_ (by rfl); (repeat (refine sz_put ?_)); assumption; done) | (apply slot_miss; focus rfl))); all_goals assumption), (by (repeat (first | (refine slot_hit (N := 87) ?_ (by rfl); (repeat (refine sz_put ?_)); assumption; done) | (apply slot_miss; focus rfl))); all_goals assumption), (by (repeat (first | (refine slot_hit (N := 87) ?_ (by rfl); (repeat (refine sz_put ?_)); assumption; done) | (apply slot_miss; focus rfl))); all_goals assumption), (by (repeat (first | (refine slot_hit (N := 87) ?_ (by rfl); (repeat (refine sz_put ?_)); assumption; done) | (apply slot_miss; focus rfl))); all_goals assumption), (by (repeat (first | (refine slot_hit (N := 87) ?_ (by rfl); (repeat (refine sz_put ?_)); assumption; done) | (apply slot_miss; focus rfl))); all_goals assumption), (by (repeat (first | (refine slot_hit (N := 87) ?_ (by rfl); (repeat (refine sz_put ?_)); assumption; done) | (apply slot_miss; focus rfl))); all_goals assumption), (by (repeat (first | (refine slot_hit (N := 87) ?_ (by rfl); (repeat (refine sz_put ?_)); assumption; done) | (apply slot_miss; focus rfl))); all_goals assumption), (by (repeat (first | (refine slot_hit (N := 87) ?_ (by rfl); (repeat (refine sz_put ?_)); assumption; done) | (apply slot_miss; focus rfl))); all_goals assumption), (by (repeat (first | (refine slot_hit (N := 87) ?_ (by rfl); (repeat (refine sz_put ?_)); assumption; done) | (apply slot_miss; focus rfl))); all_goals assumption), (by (repeat (first | (refine slot_hit (N := 87) ?_ (by rfl); (repeat (refine sz_put ?_)); assumption; done) | (apply slot_miss; focus rfl))); all_goals assumption), (by (repeat (first | (refine slot_hit (N := 87) ?_ (by rfl); (repeat (refine sz_put ?_)); assumption; done) | (apply slot_miss; focus rfl))); all_goals assumption), (by (repeat (first | (refine slot_hit (N := 87) ?_ (by rfl); (repeat (refine sz_put ?_)); assumption; done) | (apply slot_miss; focus rfl))); all_goals assumption), (by (repeat (first | (refine slot_hit (N := 87) ?_ (by rfl); (repeat (refine sz_put ?_)); assumption; done) | (apply slot_miss; focus rfl))); all_goals assumption), trivial⟩ fun fv fl hfl => ?_; obtain rfl : fl = [(asv v (some ⟨b, o, none⟩) n k B m q : Value), (.pointer (some ⟨w.heap.size, 0, none⟩) : Value), fv 2, (.int .i64 (j : Int) : Value), (undef : Value), (undef : Value), (.pointer (some ⟨w.heap.size, 0, none⟩) : Value), (.int .i64 v : Value), (.bool true : Value), (.bool false : Value), (.bool false : Value), (.pointer (some ⟨w.heap.size, 1, none⟩) : Value), (.slice (some ⟨b, o, none⟩) n k : Value), (.int .i64 (n : Int) : Value), (.pointer (some ⟨w.heap.size, 0, none⟩) : Value), (.int .i64 v : Value), (.bool (decide (v < (n : Int))) : Value), (.bool (decide (v < (n : Int))) : Value), (.bool (decide (v < (n : Int))) : Value), (.pointer (some ⟨w.heap.size, 2, none⟩) : Value), (.slice B m q : Value), (.int .i64 (m : Int) : Value), (.pointer (some ⟨w.heap.size, 1, none⟩) : Value), (.slice (some ⟨b, o, none⟩) n k : Value), (.int .i64 (n : Int) : Value), (.bool (decide (n < m)) : Value), (.bool (decide (v < (n : Int)) || decide (n < m)) : Value), fv 27, fv 28, fv 29, fv 30, fv 31, fv 32, fv 33, fv 34, fv 35, fv 36, fv 37, fv 38, fv 39, fv 40, fv 41, fv 42, fv 43, fv 44, fv 45, fv 46, fv 47, fv 48, fv 49, fv 50, fv 51, fv 52, fv 53, fv 54, fv 55, (.bool (z != 2) : Value), (undef : Value), (undef : Value), (undef : Value), (undef : Value), (undef : Value), (undef : Value), (undef : Value), (undef : Value), (undef : Value), (undef : Value), (undef : Value), (undef : Value), (undef : Value), (undef : Value), (undef : Value), (undef : Value), (undef : Value), (undef : Value), (undef : Value), (undef : Value), (undef : Value), (undef : Value), (undef : Value), (undef : Value), (undef : Value), (undef : Value), (undef : Value), (undef : Value), (undef : Value), (undef : Value)] := hfl.symm.trans (by kernel_rfl); clear hfl
              clear hS0 hSk hcut
              by_cases hz2 : z = 2
              · have f2 : (z != 2) = false := by simpa using hz2
                have HTJ := Lib.hid (HJ.out.1 hz2)
                clear hz2
                go_wp2
                go_roundw
                case rel => exact ⟨j + 1, by omega, by go_num, fun q hq => by
                  rcases Nat.lt_succ_iff_lt_or_eq.1 hq with h' | h'
                  · exact HK.out.2.2.1 q h'
                  · subst h'; exact HTJ.out, HW.out.1, HW.out.2⟩
                case measure => simp [intOf]; omega
              · have f2 : (z != 2) = true := by simpa using hz2
                have HR := Lib.hid (show aE v t s = 8 from aE_no fun h => okT_no HK.out.2.2.2.2 (fun h => hz2 (HJ.out.2 h)) h.2.1)
                clear hz2
                go_wp2
                go_ret
                exact ⟨by rw [HR.out]; rfl, HW.out.1⟩
          · have hOT : OkT v t := OkT_iff.2 fun q hq => hok q (by have := HH.out.2.2.1; omega)
            have hE : ∀ e : Bool, decide (OkS n s) = e → aE v t s = if e = true then 0 else 8 := fun e he => by
              subst he
              by_cases hS : OkS n s
              · rw [aE_yes ⟨HH.out.2.2.2.2.1, hOT, by rw [← HH.out.2.2.1]; exact hS⟩, if_pos (decide_eq_true hS)]
              · rw [aE_no (fun h => hS (by have := h.2.2; rwa [← HH.out.2.2.1] at this)), if_neg (by simpa using hS)]
            have HK := Lib.hid (And.intro hB (And.intro hC hE))
            have hjn : ¬ (j : Int) < (n : Int) := by omega
            clear hok hB hC hE hOT
            go_wp2
            go_loopw [4, 5] (fun b i wz => ∃ l : Nat, l ≤ m ∧ i = .int .i64 (l : Int) ∧ b = .int .i64 (sb s l) ∧ (∀ q, q < l → sJ n s q) ∧ ∃ d, wz = wr.drewN d) (fun _ i _ => m - (intOf i).toNat)
            case atStart => exact ⟨0, Nat.zero_le _, rfl, rfl, fun q hq => absurd hq (Nat.not_lt_zero _), 0, rfl⟩
            case round =>
              obtain ⟨l, hl, rfl, rfl, hok, d, rfl⟩ := hrel
              by_cases hlt2 : l < m
              · obtain ⟨b, o, rfl, hb0, hcs⟩ := HH.out.2.1.cells (by have := HH.out.2.2.2.1; omega)
                have hjl : l < s.length := by have := HH.out.2.2.2.1; omega
                have y0 := hcs l hjl
                have yy := (HK.out.1.cell (cell_lt y0)).trans y0
                have hj1 : (l : Int) < (m : Int) := by omega
                have hj0 : (0 : Int) ≤ (l : Int) := by omega
                have HS := Lib.hid (sb_succ s l)
                obtain ⟨x, hx0⟩ : ∃ x, x = s.getD l 0 := ⟨_, rfl⟩
                obtain ⟨p, hp0⟩ : ∃ p, p = sb s l := ⟨_, rfl⟩
                rw [← hx0] at yy
                rw [← hp0]
                have HX := Lib.hid (And.intro hx0 (And.intro hp0 hjl))
                clear hcs hx0 hp0 y0
                by_cases h1 : x ≤ p
                · have g1 : decide (x ≤ p) = true := decide_eq_true h1
                  have HR := Lib.hid (HK.out.2.2 false (decide_eq_false (okS_no HX.out.2.2 fun h => by have := h.1; rw [← HX.out.1, ← HX.out.2.1] at this; omega)))
                  clear hok h1
                  go_wp2
                  go_quiet (fail)
                  go_wp2
                  go_ret
                  exact ⟨by rw [HR.out]; rfl, by first | exact below_dn HK.out.1 _ | exact below_dn (below_dn HK.out.1 _) _⟩
                · have g1 : decide (x ≤ p) = false := decide_eq_false h1
                  by_cases h2 : (n : Int) ≤ x
                  · have g2 : decide ((n : Int) ≤ x) = true := decide_eq_true h2
                    have HR := Lib.hid (HK.out.2.2 false (decide_eq_false (okS_no HX.out.2.2 fun h => by have := h.2; rw [← HX.out.1] at this; omega)))
                    clear hok h1 h2
                    go_wp2
                    go_quiet (fail)
                    go_wp2
                    go_ret
                    exact ⟨by rw [HR.out]; rfl, by first | exact below_dn HK.out.1 _ | exact below_dn (below_dn HK.out.1 _) _⟩
                  · have g2 : decide ((n : Int) ≤ x) = false := decide_eq_false h2
                    have HQ := Lib.hid (And.intro hok (show sJ n s l from ⟨by rw [← HX.out.1, ← HX.out.2.1]; omega, by rw [← HX.out.1]; omega⟩))
                    clear hok h1 h2
                    go_wp2
                    go_quiet (fail)
                    go_wp2
                    go_roundw
                    case rel => exact ⟨l + 1, by omega, by go_num, by rw [HS.out, HX.out.1], fun q hq' => by
                      rcases Nat.lt_succ_iff_lt_or_eq.1 hq' with h' | h'
                      · exact HQ.out.1 q h'
                      · subst h'; exact HQ.out.2, by first | exact ⟨_, rfl⟩ | exact ⟨_, dn_dn _ _ _⟩⟩
                    case measure => simp [intOf]; omega
              · have HR := Lib.hid (HK.out.2.2 true (decide_eq_true (OkS_iff.2 fun q hq => hok q (by have := HH.out.2.2.2.1; omega))))
                have hjn2 : ¬ (l : Int) < (m : Int) := by omega
                clear hok
                go_wp2
                go_ret
                exact ⟨by rw [HR.out]; rfl, below_dn HK.out.1 d⟩

end Go.Proofs.YtecmldnigohjfabDoor

namespace Go.Proofs.YtecmldnigohjfabDoor
open Go Go.RowKit
set_option linter.unusedVariables false
set_option linter.unusedSimpArgs false

end Go.Proofs.YtecmldnigohjfabDoor

namespace Go.Proofs.YtecmldnigohjfabDoor
open Go Go.RowKit
set_option linter.unusedVariables false
set_option linter.unusedSimpArgs false

theorem OkA.i64 {v : Int} {t s : List Int} (h : OkA v t s) : ∀ x ∈ t, I64 x := fun x hx => by
  have := isL_iff.1 (h.2.1.1 x hx)
  have := h.1
  unfold I64; omega
/-- the lists of an assignment in memory, from a block on -/
structure Nw (b : Nat) (W : World) (A : Option Addr) (n k : Nat) (t : List Int) (B : Option Addr) (m q : Nat) (s : List Int) : Prop where
  ti : Ia W W.heap.size A t k
  si : Ia W W.heap.size B s q
  nt : n = t.length
  ms : m = s.length
  ta : ∀ a, A = some a → b ≤ a.block
  sa : ∀ a, B = some a → b ≤ a.block
section
variable {b b' : Nat} {W W' : World} {A B : Option Addr} {n k m q : Nat} {t s : List Int} {v : Int}
theorem Nw.on (h : Nw b W A n k t B m q s) (hb : Below W.heap.size W W') : Nw b W' A n k t B m q s := ⟨h.ti.on hb, h.si.on hb, h.nt, h.ms, h.ta, h.sa⟩
theorem Nw.low (h : Nw b W A n k t B m q s) (hb : b' ≤ b) : Nw b' W A n k t B m q s := ⟨h.ti, h.si, h.nt, h.ms, fun a e => Nat.le_trans hb (h.ta a e), fun a e => Nat.le_trans hb (h.sa a e)⟩
theorem Nw.st3 (h : Nw b W A n k t B m q s) {g : Nat} (hg : g < b) (v0 v1 v2 : Value) : Nw b (st3 W g v0 v1 v2) A n k t B m q s :=
  ⟨(h.ti.st3 (fun a e => by have := h.ta a e; omega) v0 v1 v2).more (by rw [st3_size]; exact Nat.le_refl _), (h.si.st3 (fun a e => by have := h.sa a e; omega) v0 v1 v2).more (by rw [st3_size]; exact Nat.le_refl _), h.nt, h.ms, h.ta, h.sa⟩
theorem AsIs.nw {e : Int} {w : World} {en : Ending} {w' : World} (h : AsIs v t s e w en w') (hn : n = t.length) (hm : m = s.length) : ∃ A k B q, en = .returned (.tuple #[asv v A n k B m q, .int .i64 e]) ∧ Nw w.heap.size w' A n k t B m q s ∧ Below w.heap.size w w' := by
  subst hn hm
  obtain ⟨A, k, B, q, h1, h2, h3, h4, h5, h6⟩ := h
  exact ⟨A, k, B, q, h1, ⟨h2, h3, rfl, rfl, h5, h6⟩, h4⟩

theorem Nw.check (h : Nw b W A n k t B m q s) (hn : n ≤ 100000) (hm : m ≤ 100000) (ho : OkA v t s) :
    Calls Tryd.prog 15 #[asv v A n k B m q] W fun e w' => e = .returned (.int .i64 0) ∧ Below W.heap.size W w' := by
  have := h.nt
  have := h.ms
  have h1 := aCheck_any v A t k B s q W h.ti (by omega) ho.i64 h.si (by omega)
  rw [aE_yes ho, ← h.nt, ← h.ms] at h1
  exact h1

theorem Nw.lit (W : World) {n m : Nat} {t s : List Int} {cs cs2 : Array Value} (hcs : cs = (iC t).toArray) (hcs2 : cs2 = (iC s).toArray) (hn : n = t.length) (hm : m = s.length) :
    Nw W.heap.size ((W.alloc (.cells cs 3)).alloc (.cells cs2 3)) (some ⟨W.heap.size, 0, none⟩) n n t (some ⟨W.heap.size + 1, 0, none⟩) m m s := by
  subst hn hm
  have h2 := Ia.lit (W.alloc (.cells cs 3)) hcs2
  rw [show (W.alloc (.cells cs 3)).heap.size = W.heap.size + 1 from World.size_alloc _ _] at h2
  refine ⟨(Ia.lit W hcs).on (bx_on _ _), h2, rfl, rfl, fun a e => by cases e; exact Nat.le_refl _, fun a e => by cases e; exact Nat.le_succ _⟩

end
/-- the box of a variable -/
structure Bs (g : Nat) (W : World) (v0 v1 v2 : Value) : Prop where
  h : Has W g 24 #[v0, v1, v2]
theorem Bs.on {g : Nat} {W W' : World} {v0 v1 v2 : Value} (h : Bs g W v0 v1 v2) (hb : Below W.heap.size W W') : Bs g W' v0 v1 v2 := ⟨h.h.keep hb h.h.lt⟩
theorem Bs.new (W : World) (v0 v1 v2 : Value) : Bs W.heap.size (W.alloc (.cells #[v0, v1, v2] 24)) v0 v1 v2 := ⟨Has.new _ _ _⟩
theorem Bs.st {g : Nat} {W : World} {v0 v1 v2 : Value} (h : Bs g W v0 v1 v2) (u0 u1 u2 : Value) : Bs g (st3 W g u0 u1 u2) u0 u1 u2 := ⟨st3_has h.h u0 u1 u2⟩
theorem Bs.far {g g' : Nat} {W : World} {v0 v1 v2 : Value} (h : Bs g W v0 v1 v2) (hne : g ≠ g') (u0 u1 u2 : Value) : Bs g (st3 W g' u0 u1 u2) v0 v1 v2 :=
  ⟨((h.h.far (q := ⟨g', 0, none⟩) hne u0).far (q := ⟨g', 1, none⟩) hne u1).far (q := ⟨g', 2, none⟩) hne u2⟩
theorem Bs.c {g : Nat} {W : World} {v0 v1 v2 : Value} (h : Bs g W v0 v1 v2) : W.cell? ⟨g, 0, none⟩ = some v0 ∧ W.cell? ⟨g, 1, none⟩ = some v1 ∧ W.cell? ⟨g, 2, none⟩ = some v2 := ⟨h.h.cell 0, h.h.cell 1, h.h.cell 2⟩
theorem Bs.f {g : Nat} {W : World} {v0 v1 v2 : Value} (h : Bs g W v0 v1 v2) : W.frozen? ⟨g, 0, none⟩ = false ∧ W.frozen? ⟨g, 1, none⟩ = false ∧ W.frozen? ⟨g, 2, none⟩ = false := ⟨h.h.fz 0, h.h.fz 1, h.h.fz 2⟩

end Go.Proofs.YtecmldnigohjfabDoor

namespace Go.Proofs.YtecmldnigohjfabDoor
open Go Go.RowKit
set_option linter.unusedVariables false
set_option linter.unusedSimpArgs false

section
variable {P : Program} {ops : Array Oper} {Q : Exit → Act → World → Prop} {md : Region.Mode} {S : World → Prop} {n : Nat}
theorem ways2 (i j : Nat) {fuel : Nat} {listed : Array Bool} {a : Act} {w : World} (hr : Region.ready md ops listed = [i, j])
    (hi : wpOp P ops Q i (fun a' w' => (i < n → S w') ∧ WT P md ops Q S n fuel (listed.setIfInBounds i true) a' w') a w)
    (hj : wpOp P ops Q j (fun a' w' => (j < n → S w') ∧ WT P md ops Q S n fuel (listed.setIfInBounds j true) a' w') a w) : WT P md ops Q S n (fuel + 1) listed a w :=
  ⟨fun h0 => (by rw [hr] at h0; cases h0), fun x hx => by
    rw [hr] at hx
    rcases List.mem_cons.1 hx with rfl | hx
    · exact wpOp_mono (fun a' w' h' => ⟨h'.1, h'.2.h⟩) hi
    obtain rfl : x = j := by simpa using hx
    exact wpOp_mono (fun a' w' h' => ⟨h'.1, h'.2.h⟩) hj⟩
/-- one of several, that makes memory -/
theorem ways_val (i : Nat) {oi : Oper} {d : Nat} {v : Value} {fuel : Nat} {listed : Array Bool} {a : Act} {w w' : World} (hi : opAt ops.toList i = some oi) (hd : oi.dst = some d)
    (hw : Region.wanted oi (yielded ops a.tmps) = true) (he : ∀ ev : Operand → Value, (∀ x, ev (.const x) = x) → (execOp ev oi).run P w = .ok (.value v) w')
    (h : (i < n → S w') ∧ WT P md ops Q S n fuel (listed.setIfInBounds i true) (a.put (some d) v) w') : wpOp P ops Q i (fun a' w' => (i < n → S w') ∧ WT P md ops Q S n fuel (listed.setIfInBounds i true) a' w') a w := by
  refine wpOp_go (opAt_spec hi) hw fun K hK => ?_
  show oi.upon P a K Q _
  rw [he _ (fun _ => rfl), Oper.upon_value, hd]
  exact hK _ _ h
/-- one of several: append -/
theorem ways_append (i s x : Nat) {oi : Oper} {d : Nat} {t : TypeId} {u y : Value} {R : Value → World → Prop} {fuel : Nat} {listed : Array Bool} {a : Act} {w : World} (hi : opAt ops.toList i = some oi) (hd : oi.dst = some d)
    (hw : Region.wanted oi (yielded ops a.tmps) = true) (h1 : Slot a s u) (h2 : Slot a x y) (ho : oi.op = .call { callee := .builtin .append, args := #[.tmp s, .tmp x], argTypes := #[t, t] })
    (hrun : ∀ ty, ∃ v' w', (Builtin.append_ #[t, t] ty #[u, y]).run P w = .ok v' w' ∧ R v' w')
    (h : ∀ v' w', R v' w' → (i < n → S w') ∧ WT P md ops Q S n fuel (listed.setIfInBounds i true) (a.put (some d) v') w') : wpOp P ops Q i (fun a' w' => (i < n → S w') ∧ WT P md ops Q S n fuel (listed.setIfInBounds i true) a' w') a w := by
  refine wpOp_go (opAt_spec hi) hw fun K hK => ?_
  obtain ⟨v', w', hrn, hR⟩ := hrun oi.type
  have h3 := hK (a.put (some d) v') w' (h v' w' hR)
  show oi.upon P a K Q _
  unfold execOp
  simp only [ho, resolve, invoke, builtin, Sem.run_bind, Sem.run_pure, Result.andThen_ok, List.map_toArray, List.map_cons, List.map_nil, h1.eval, h2.eval, hrn, Oper.upon_value, hd]
  exact h3
/-- two that may come up, both make memory -/
theorem ways_vv (i j : Nat) {oi oj : Oper} {d e : Nat} {v u : Value} {fuel : Nat} {listed : Array Bool} {a : Act} {w wi wj : World} (hr : Region.ready md ops listed = [i, j]) (hi : opAt ops.toList i = some oi) (hd : oi.dst = some d) (hj : opAt ops.toList j = some oj) (he : oj.dst = some e)
    (hwi : Region.wanted oi (yielded ops a.tmps) = true) (hwj : Region.wanted oj (yielded ops a.tmps) = true)
    (hei : ∀ ev : Operand → Value, (∀ x, ev (.const x) = x) → (execOp ev oi).run P w = .ok (.value v) wi) (hej : ∀ ev : Operand → Value, (∀ x, ev (.const x) = x) → (execOp ev oj).run P w = .ok (.value u) wj)
    (hSi : i < n → S wi) (hSj : j < n → S wj)
    (h1 : WT P md ops Q S n fuel (listed.setIfInBounds i true) (a.put (some d) v) wi)
    (h2 : WT P md ops Q S n fuel (listed.setIfInBounds j true) (a.put (some e) u) wj) : WT P md ops Q S n (fuel + 1) listed a w :=
  ways2 i j hr (ways_val i hi hd hwi hei ⟨hSi, h1⟩) (ways_val j hj he hwj hej ⟨hSj, h2⟩)
/-- two that may come up: append, and one that makes memory -/
theorem ways_av (i s x j : Nat) {oi oj : Oper} {d e : Nat} {ty : TypeId} {y z u : Value} {R : Value → World → Prop} {fuel : Nat} {listed : Array Bool} {a : Act} {w wj : World} (hr : Region.ready md ops listed = [i, j]) (hi : opAt ops.toList i = some oi) (hd : oi.dst = some d) (hj : opAt ops.toList j = some oj) (he : oj.dst = some e)
    (hwi : Region.wanted oi (yielded ops a.tmps) = true) (hwj : Region.wanted oj (yielded ops a.tmps) = true)
    (h3 : Slot a s y) (h4 : Slot a x z) (ho : oi.op = .call { callee := .builtin .append, args := #[.tmp s, .tmp x], argTypes := #[ty, ty] })
    (hrun : ∀ t, ∃ v' w', (Builtin.append_ #[ty, ty] t #[y, z]).run P w = .ok v' w' ∧ R v' w')
    (hej : ∀ ev : Operand → Value, (∀ x, ev (.const x) = x) → (execOp ev oj).run P w = .ok (.value u) wj)
    (hSi : ∀ v' w', R v' w' → i < n → S w') (hSj : j < n → S wj)
    (h1 : ∀ v' w', R v' w' → WT P md ops Q S n fuel (listed.setIfInBounds i true) (a.put (some d) v') w')
    (h2 : WT P md ops Q S n fuel (listed.setIfInBounds j true) (a.put (some e) u) wj) : WT P md ops Q S n (fuel + 1) listed a w :=
  ways2 i j hr (ways_append i s x hi hd hwi h3 h4 ho hrun fun v' w' hR => ⟨hSi v' w' hR, h1 v' w' hR⟩) (ways_val j hj he hwj hej ⟨hSj, h2⟩)
end

end Go.Proofs.YtecmldnigohjfabDoor
