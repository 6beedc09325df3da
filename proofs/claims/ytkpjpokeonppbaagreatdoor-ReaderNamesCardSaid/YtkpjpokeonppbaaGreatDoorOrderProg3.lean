/- The contracts of the package order: used, hasRightLiterals, hasWrongReset over a list. -/
import Derived.Test.YtkpjpokeonppbaaGreatDoorOrderFind
namespace Go.Proofs.YtkpjpokeonppbaaGreatDoor
open Go.RowKit
set_option linter.unusedVariables false
set_option linter.unusedSimpArgs false

theorem twos_succ (f g : Nat → Int) (q : Nat) : il (twos f g (q + 1)) = il (twos f g q) ++ [.int .i64 (f q), .int .i64 (g q)] := by
  rw [twos, il_app]; rfl

set_option maxRecDepth 100000 in
set_option maxHeartbeats 8000000 in
theorem pUsed_any (r : Rw) (p : Rp) (w : World) (hs : RSm r) (hm : RMem w w.heap.size r p) (hN : RNils r p) :
    Calls Tryz.prog 92 #[rv r p] w (ListIs r.uL w) := by
  have g2 := hs.nl
  have g3 := hs.na
  have g4 := hs.nb
  have g5 := hs.nc
  obtain ⟨i0, hi0, hzz0, hs0, hy0⟩ := info_parts info_int
  have hA0 : Has (w.alloc (.cells (rcL r p) 26)) w.heap.size 26 (rc r p) := Has.new _ _ _
  have hB0 : Below w.heap.size w (w.alloc (.cells (rcL r p) 26)) := by go_grown
  have hA1 := hA0.al (.cells #[.slice p.A4 r.nb p.k4, .slice p.A5 r.nc p.k5] 23)
  have hB1 : Below w.heap.size w ((w.alloc (.cells (rcL r p) 26)).alloc (.cells #[.slice p.A4 r.nb p.k4, .slice p.A5 r.nc p.k5] 23)) := hB0.alloc hB0.size _
  have HL := Lib.hid (uL_len r)
  have HE := Lib.hid (show intL r.bd r.nb ++ intL r.cn r.nc = il (lst r.bd r.nb ++ lst r.cn r.nc) by rw [il_app, ← il_lst, ← il_lst])
  go_enter Tryz.func92, Tryz.ntmps92
  go_wp2_with (first
    | (go_at_call 74; (with_reducible refine (concat2 (w.heap.size + 1) ((w.alloc (.cells (rcL r p) 26)).alloc (.cells #[.slice p.A4 r.nb p.k4, .slice p.A5 r.nc p.k5] 23)) (Has.new' _ _ (by simp)) ((hm.bd.keep hB1).more hB1.size) ((hm.cn.keep hB1).more hB1.size) hN.bd hN.cn (by omega)).mono ?_); rintro e w1 ⟨v1, rfl, ho1, hb1⟩
       have hA2 : Has w1 w.heap.size 26 (rc r p) := hA1.keep hb1 hA1.lt
       have hB2 : Below w.heap.size w w1 := Below.step hB1 hB1.size hb1
       obtain ⟨o0, o1, o2, o3, o4, o5⟩ := hA2.rbox))
  rw [HE.out] at ho1
  have ho2 := own_base (base' := w.heap.size + 1) ho1 (by simp)
  clear ho1 o0 o1 o3 o4 o5
  go_loopw [3, 17] (fun v i wr => ∃ q : Nat, q ≤ r.nl ∧ i = .int .i64 q ∧ wr.ownsRow (w.heap.size + 1) 3 1 v (r.nb + r.nc + q) (il (lst r.bd r.nb ++ lst r.cn r.nc ++ lst r.la q)) ∧ Has wr w.heap.size 26 (rc r p) ∧ Below w.heap.size w wr) (fun _ i _ => r.nl - (intOf i).toNat)
  case atStart => exact ⟨0, Nat.zero_le _, rfl, by simpa [lst] using ho2, hA2, hB2⟩
  case round =>
    clear ho2 o2
    obtain ⟨q, hq, rfl, hown, hH, hBr⟩ := hrel
    have hsz := hH.lt
    by_cases hlt : q < r.nl
    · obtain ⟨a, hA, hab, hcs⟩ := (hm.la.keep hBr) (by omega)
      obtain ⟨y0, y1, y2⟩ := hcs q hlt
      rw [hA]
      have HX := Lib.hid (show il (lst r.bd r.nb ++ lst r.cn r.nc ++ lst r.la (q + 1)) = il (lst r.bd r.nb ++ lst r.cn r.nc ++ lst r.la q) ++ [.int .i64 (r.la q)] by rw [lst_succ, ← List.append_assoc, il_app]; rfl)
      have hq0 : (0 : Int) ≤ (q : Int) := by omega
      have hq1 : (q : Int) < r.nl := by omega
      clear hcs hA
      go_wp2_with (first
        | (at_builtin; refine wpList_append_own _ rfl _ _ 23 rfl (w.heap.size + 1) 3 i0 (.int .i64 0) 1 8 Tryz.underlying23 hi0 hzz0 hs0 hy0 rfl (by decide) _ _ _ rfl ((hown.alloc _).alloc _) ⟨wr.heap.size + 1, 0, none⟩ 1 1 [.int .i64 (r.la q)] rfl (by simp) (fun j u hu => by have := cell_one_new (wr.alloc (.cells #[.int .i64 (r.ll q), .int .i64 (r.la q), .int .i64 (r.lb q)] 32)) (.int .i64 (r.la q)) 3 j u hu; rwa [World.size_alloc] at this) (by simp [Value.oneCell']) (by simp only [maxLen]; omega) (by omega) (by simp; omega) ?_; intro v' w8 hown' hgrow _))
      go_roundw
      case rel => exact ⟨q + 1, by omega, by go_num, by rw [HX.out]; exact hown', app_has (hH.al _) (hown.alloc _) hgrow (by omega), app_below (hBr.alloc hBr.size _) (by simp; omega) (by omega) (hown.alloc _) hgrow⟩
      case measure => simp [intOf]; omega
    · obtain rfl : q = r.nl := by omega
      clear hq hlt
      obtain ⟨o0, o1, o2, o3, o4, o5⟩ := hH.rbox
      go_wp2
      clear o0 o1 o2 o3 o4 o5
      go_loopw [3, 30] (fun v i wr => ∃ q : Nat, q ≤ r.na ∧ i = .int .i64 q ∧ wr.ownsRow (w.heap.size + 1) 3 1 v (r.nb + r.nc + r.nl + 2 * q) (il (lst r.bd r.nb ++ lst r.cn r.nc ++ lst r.la r.nl ++ twos r.ga r.gb q)) ∧ Has wr w.heap.size 26 (rc r p) ∧ Below w.heap.size w wr) (fun _ i _ => r.na - (intOf i).toNat)
      case atStart => exact ⟨0, Nat.zero_le _, rfl, by simpa [twos] using hown, hH, hBr⟩
      case round =>
        clear hown hH hBr
        obtain ⟨q, hq, rfl, hown, hH, hBr⟩ := hrel
        have hsz := hH.lt
        by_cases hlt : q < r.na
        · obtain ⟨a, hA, hab, hcs⟩ := (hm.an.keep hBr) (by omega)
          obtain ⟨y0, y1, y2⟩ := hcs q hlt
          rw [hA]
          have HX := Lib.hid (show il (lst r.bd r.nb ++ lst r.cn r.nc ++ lst r.la r.nl ++ twos r.ga r.gb (q + 1)) = il (lst r.bd r.nb ++ lst r.cn r.nc ++ lst r.la r.nl ++ twos r.ga r.gb q) ++ [.int .i64 (r.ga q), .int .i64 (r.gb q)] by rw [twos, ← List.append_assoc, il_app]; rfl)
          have HN := Lib.hid (show r.nb + r.nc + r.nl + 2 * (q + 1) = r.nb + r.nc + r.nl + 2 * q + 2 by omega)
          have hq0 : (0 : Int) ≤ (q : Int) := by omega
          have hq1 : (q : Int) < r.na := by omega
          clear hcs hA
          go_wp2_with (first
            | (at_builtin; refine wpList_append_own _ rfl _ _ 23 rfl (w.heap.size + 1) 3 i0 (.int .i64 0) 1 8 Tryz.underlying23 hi0 hzz0 hs0 hy0 rfl (by decide) _ _ _ rfl ((hown.alloc _).alloc _) ⟨wr.heap.size + 1, 0, none⟩ 2 2 [.int .i64 (r.ga q), .int .i64 (r.gb q)] rfl (by simp) (World.news_of_block (cs := #[.int .i64 (r.ga q), .int .i64 (r.gb q)]) (t := 3) (fr := (0, 0)) (Has.new' _ _ (by simp))) (by simp [Value.oneCell']) (by simp only [maxLen]; omega) (by omega) (by simp; omega) ?_; intro v' w8 hown' hgrow _))
          go_roundw
          case rel => exact ⟨q + 1, by omega, by go_num, by rw [HX.out, HN.out]; exact hown', app_has (hH.al _) (hown.alloc _) hgrow (by omega), app_below (hBr.alloc hBr.size _) (by simp; omega) (by omega) (hown.alloc _) hgrow⟩
          case measure => simp [intOf]; omega
        · obtain rfl : q = r.na := by omega
          clear hq hlt
          go_wp2
          go_ret
          refine ⟨_, rfl, ?_, hBr⟩
          rw [HL.out]
          exact own_base hown (by omega)
end Go.Proofs.YtkpjpokeonppbaaGreatDoor
