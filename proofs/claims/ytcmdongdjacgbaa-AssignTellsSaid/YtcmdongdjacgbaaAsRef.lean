/- The reference's contracts: Great, Is, At, New. -/
import Derived.Test.YtcmdongdjacgbaaAsProg5
namespace Go.Proofs.Ytcmdongdjacgbaa
open Go Go.RowKit
set_option linter.unusedVariables false
set_option linter.unusedSimpArgs false

theorem rGreat14_any (v : Int) (A : Option Addr) (n k : Nat) (B : Option Addr) (m q : Nat) (w : World) (hn : n ≤ 9223372036854775807) (hm : m ≤ 9223372036854775807) :
    Calls Try.prog 4 #[asv v A n k B m q] w fun e w' => e = .returned (.bool (decide (200 < n ∨ 200 < m))) ∧ Below w.heap.size w w' := by
  by_cases h1 : 200 < n
  · rw [show decide (200 < n ∨ 200 < m) = true from decide_eq_true (Or.inl h1)]
    have e1 : (200 : Int) < (n : Int) := by omega
    clear h1
    go_enter Try.func4, Try.ntmps4
    go_wp2
    go_ret
    exact ⟨rfl, bx_on _ _⟩
  · by_cases h2 : 200 < m
    · rw [show decide (200 < n ∨ 200 < m) = true from decide_eq_true (Or.inr h2)]
      have e1 : ¬ (200 : Int) < (n : Int) := by omega
      have e2 : (200 : Int) < (m : Int) := by omega
      clear h1 h2
      go_enter Try.func4, Try.ntmps4
      go_wp2
      go_ret
      exact ⟨rfl, bx_on _ _⟩
    · rw [show decide (200 < n ∨ 200 < m) = false from decide_eq_false (by omega)]
      have e1 : ¬ (200 : Int) < (n : Int) := by omega
      have e2 : ¬ (200 : Int) < (m : Int) := by omega
      clear h1 h2
      go_enter Try.func4, Try.ntmps4
      go_wp2
      go_ret
      exact ⟨rfl, bx_on _ _⟩

theorem new14r_any (v : Int) (w : World) : Calls Try.prog 7 #[.int .i64 v] w (AsIs (nV v) [] [] (nE v) w) := by
  by_cases hv : v < 0 ∨ 4000 < v
  · have ev : (!decide (v < 0 ∨ 4000 < v)) = false := by simp [hv]
    rw [show nV v = 0 from if_pos hv, show nE v = 2 from if_pos hv]
    clear hv
    go_enter Try.func7, Try.ntmps7
    go_wp2_with (first | (go_at_call 21; (with_reducible refine (rVars_any v _).mono ?_); rintro e w1 ⟨rfl, hw1⟩; obtain rfl := hw1; rw [ev]))
    refine bodyPost_ret (v := .tuple #[.agg #[.int .i64 0, .slice none 0 0, .slice none 0 0], .int .i64 2]) (by simp [results, Try.results7, go_sem]) rfl ?_
    exact (OwIs.none rfl (bx_on _ _)).as
  · have ev : (!decide (v < 0 ∨ 4000 < v)) = true := by simp [hv]
    rw [show nV v = v from if_neg hv, show nE v = 0 from if_neg hv]
    clear hv
    go_enter Try.func7, Try.ntmps7
    go_wp2_with (first | (go_at_call 21; (with_reducible refine (rVars_any v _).mono ?_); rintro e w1 ⟨rfl, hw1⟩; obtain rfl := hw1; rw [ev]))
    refine bodyPost_ret (v := .tuple #[.agg #[.int .i64 v, .slice none 0 0, .slice none 0 0], .int .i64 0]) (by simp [results, Try.results7, go_sem]) rfl ?_
    exact ⟨none, 0, none, 0, rfl, Ia.nil _ _, Ia.nil _ _, bx_on _ _, fun a h => (by cases h), fun a h => by cases h⟩

theorem box_c {w : World} {cs : Array Value} {ty : TypeId} (d i : Nat) : ((w.alloc (.cells cs ty)).drewN d).cell? ⟨w.heap.size, i, none⟩ = cs[i]? := (Has.new w ty cs).cell i
theorem isv_at {v : Int} {t : List Int} (ho : OkT v t) {x : Int} {j : Nat} (hj : j < t.length) (e : t.getD j 0 = ng x) : isv t x = 0 := by
  have hm := getD_mem hj
  rw [e] at hm
  unfold isv
  rw [if_neg (fun hx => ng_ne x (ho.eq hm hx (ng_half x))), if_pos hm]
theorem isv_end {t : List Int} {x : Int} (h : ∀ q, q < t.length → t.getD q 0 ≠ x ∧ t.getD q 0 ≠ ng x) : isv t x = 2 := by
  unfold isv
  rw [if_neg (fun hx => ?_), if_neg (fun hx => ?_)]
  · obtain ⟨q, hq, e⟩ := mem_getD hx
    exact (h q hq).2 e
  · obtain ⟨q, hq, e⟩ := mem_getD hx
    exact (h q hq).1 e

set_option maxRecDepth 100000 in
set_option maxHeartbeats 4000000 in
theorem rIs_any (u v : Int) (hv : v ≤ 4000) (A : Option Addr) (t : List Int) (k : Nat) (Y : Option Addr) (my qy : Nat) (x : Int) (w : World) (h : Ia w w.heap.size A t k) (hl : t.length ≤ 100000) (ho : OkT v t) (hx : isL v x = true) :
    Calls Try.prog 23 #[.agg #[.int .i64 u, .slice A t.length k, .slice Y my qy], .int .i64 x] w fun e w' => e = .returned (.int .u8 (isv t x)) ∧ Below w.heap.size w w' := by
  obtain ⟨n, hn⟩ : ∃ n, n = t.length := ⟨_, rfl⟩
  rw [← hn]
  have hl' : n ≤ 100000 := by rw [hn]; exact hl
  have HN := Lib.hid fun (W : World) => rNot_any x (by have := isL_iff.1 hx; omega) W
  have HH := Lib.hid (And.intro h (And.intro ho hn))
  obtain ⟨z, hz⟩ : ∃ z, z = ng x := ⟨_, rfl⟩
  rw [← hz] at HN
  have HZ := Lib.hid hz
  clear h hl ho hx hn hv hz
  go_enter Try.func23, Try.ntmps23
  go_wp2
  go_loopw [5] (fun i wr => ∃ j : Nat, j ≤ n ∧ i = .int .i64 (j : Int) ∧ (∀ q, q < j → t.getD q 0 ≠ x ∧ t.getD q 0 ≠ z) ∧ ∃ d, wr = (w.alloc (.cells #[.int .i64 u, .slice A n k, .slice Y my qy] 24)).drewN d) (fun i _ => n - (intOf i).toNat)
  case atStart => exact ⟨0, Nat.zero_le _, rfl, fun q hq => absurd hq (Nat.not_lt_zero _), 0, rfl⟩
  case round =>
    obtain ⟨j, hj, rfl, hok, d, rfl⟩ := hrel
    have c1 : ((w.alloc (.cells #[.int .i64 u, .slice A n k, .slice Y my qy] 24)).drewN d).cell? ⟨w.heap.size, 1, none⟩ = some (.slice A n k) := box_c d 1
    by_cases hlt : j < n
    · obtain ⟨b, o, rfl, hb0, hcs⟩ := HH.out.1.cells (by have := HH.out.2.2; omega)
      have hjl : j < t.length := by have := HH.out.2.2; omega
      have y0 := hcs j hjl
      have yy := ((below_dn (bx_on w (.cells #[.int .i64 u, .slice (some ⟨b, o, none⟩) n k, .slice Y my qy] 24)) d).cell (cell_lt y0)).trans y0
      have yv := ((bx_on w (.cells #[.int .i64 u, .slice (some ⟨b, o, none⟩) n k, .slice Y my qy] 24)).cell (cell_lt y0)).trans y0
      have hj1 : (j : Int) < (n : Int) := by omega
      have hj0 : (0 : Int) ≤ (j : Int) := by omega
      have HX := Lib.hid (show t.getD j 0 = z → isv t x = 0 from fun e => isv_at HH.out.2.1 hjl (by rw [e, HZ.out]))
      have HX1 := Lib.hid (show t.getD j 0 = x → isv t x = 1 from fun e => by unfold isv; rw [if_pos (e ▸ getD_mem hjl)])
      obtain ⟨p, hp⟩ : ∃ p, p = t.getD j 0 := ⟨_, rfl⟩
      rw [← hp] at yy yv HX HX1 y0
      have HP := Lib.hid hp
      clear hcs hp
      by_cases e1 : p = x
      · have f1 : (p == x) = true := by simpa using e1
        have HR := Lib.hid (HX1.out e1)
        clear hok e1
        go_wp2
        go_ret
        exact ⟨by rw [HR.out]; rfl, below_dn (bx_on _ _) d⟩
      · have f1 : (p == x) = false := by simpa using e1
        by_cases e2 : p = z
        · have f2 : (p == z) = true := by simpa using e2
          have HR := Lib.hid (HX.out e2)
          clear hok e1 e2
          go_wp2
          go_quiet ((go_at_call 34; with_reducible first | exact qs (HN.out _) | exact qs2 (HN.out _)))
          go_wp2
          go_ret
          exact ⟨by rw [HR.out]; rfl, by first | exact below_dn (bx_on _ _) _ | exact below_dn (below_dn (bx_on _ _) _) _⟩
        · have f2 : (p == z) = false := by simpa using e2
          have HK := Lib.hid (And.intro hok (show t.getD j 0 ≠ x ∧ t.getD j 0 ≠ z from ⟨by rw [← HP.out]; exact e1, by rw [← HP.out]; exact e2⟩))
          clear hok e1 e2
          go_wp2
          go_quiet ((go_at_call 34; with_reducible first | exact qs (HN.out _) | exact qs2 (HN.out _)))
          go_wp2
          go_roundw
          case rel => exact ⟨j + 1, by omega, by go_num, fun q hq => by
            rcases Nat.lt_succ_iff_lt_or_eq.1 hq with h' | h'
            · exact HK.out.1 q h'
            · subst h'; exact HK.out.2, by first | exact ⟨_, rfl⟩ | exact ⟨_, dn_dn _ _ _⟩⟩
          case measure => simp [intOf]; omega
    · have HR := Lib.hid (isv_end (t := t) (x := x) fun q hq => by have := hok q (by have := HH.out.2.2; omega); rw [HZ.out] at this; exact this)
      have hjn : ¬ (j : Int) < (n : Int) := by omega
      clear hok
      go_wp2
      go_ret
      exact ⟨by rw [HR.out]; rfl, below_dn (bx_on _ _) d⟩

set_option maxRecDepth 100000 in
set_option maxHeartbeats 4000000 in
theorem rAt_any (v : Int) (A : Option Addr) (n k : Nat) (B : Option Addr) (s : List Int) (q : Nat) (i : Int) (w : World) (h : Ia w w.heap.size B s q) (hl : s.length ≤ 100000) :
    Calls Try.prog 40 #[asv v A n k B s.length q, .int .i64 i] w fun e w' => e = .returned (.int .i64 (atL s i : Nat)) ∧ Below w.heap.size w w' := by
  obtain ⟨m, hm⟩ : ∃ m, m = s.length := ⟨_, rfl⟩
  rw [← hm]
  have hl' : m ≤ 100000 := by rw [hm]; exact hl
  have HH := Lib.hid (And.intro h hm)
  clear h hl hm
  go_enter Try.func40, Try.ntmps40
  go_wp2
  go_loopw [5, 6] (fun c i' wr => ∃ j : Nat, j ≤ m ∧ i' = .int .i64 (j : Int) ∧ c = .int .i64 (atL (s.take j) i : Nat) ∧ ∃ d, wr = (w.alloc (.cells #[.int .i64 v, .slice A n k, .slice B m q] 24)).drewN d) (fun _ i _ => m - (intOf i).toNat)
  case atStart => exact ⟨0, Nat.zero_le _, rfl, rfl, 0, rfl⟩
  case round =>
    obtain ⟨j, hj, rfl, rfl, d, rfl⟩ := hrel
    have c1 : ((w.alloc (.cells #[.int .i64 v, .slice A n k, .slice B m q] 24)).drewN d).cell? ⟨w.heap.size, 2, none⟩ = some (.slice B m q) := box_c d 2
    by_cases hlt : j < m
    · obtain ⟨b, o, rfl, hb0, hcs⟩ := HH.out.1.cells (by have := HH.out.2; omega)
      have hjl : j < s.length := by have := HH.out.2; omega
      have y0 := hcs j hjl
      have yy := ((below_dn (bx_on w (.cells #[.int .i64 v, .slice A n k, .slice (some ⟨b, o, none⟩) m q] 24)) d).cell (cell_lt y0)).trans y0
      have hj1 : (j : Int) < (m : Int) := by omega
      have hj0 : (0 : Int) ≤ (j : Int) := by omega
      have hsu : atL (s.take (j + 1)) i = atL (s.take j) i + if s.getD j 0 ≤ i then 1 else 0 := by
        unfold atL
        rw [List.take_succ_eq_append_getElem hjl, List.countP_append, getD_at hjl, List.countP_singleton]
        simp
      have hca : atL (s.take j) i ≤ 100000 := Nat.le_trans (atL_le _ _) (by rw [List.length_take]; omega)
      obtain ⟨p, hp⟩ : ∃ p, p = s.getD j 0 := ⟨_, rfl⟩
      obtain ⟨c, hc⟩ : ∃ c, c = atL (s.take j) i := ⟨_, rfl⟩
      rw [← hp] at yy hsu
      rw [← hc] at hsu hca ⊢
      clear hcs y0 hp hc
      by_cases e1 : p ≤ i
      · rw [if_pos e1] at hsu
        have HS := Lib.hid hsu
        clear hsu
        go_wp2
        go_roundw
        case rel => exact ⟨j + 1, by omega, by go_num, by rw [HS.out]; go_num, _, rfl⟩
        case measure => simp [intOf]; omega
      · rw [if_neg e1] at hsu
        have HS := Lib.hid hsu
        clear hsu
        go_wp2
        go_roundw
        case rel => exact ⟨j + 1, by omega, by go_num, by rw [HS.out, Nat.add_zero], _, rfl⟩
        case measure => simp [intOf]; omega
    · obtain rfl : j = m := by omega
      have HR := Lib.hid (show atL (s.take j) i = atL s i by rw [HH.out.2, List.take_length])
      have hjn : ¬ (j : Int) < (j : Int) := by omega
      go_wp2
      go_ret
      exact ⟨by rw [← HR.out]; rfl, below_dn (bx_on _ _) d⟩

end Go.Proofs.Ytcmdongdjacgbaa
