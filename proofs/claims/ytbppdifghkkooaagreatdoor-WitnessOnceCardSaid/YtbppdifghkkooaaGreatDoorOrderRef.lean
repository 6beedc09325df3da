/- The reference of layer 3: the lists of literals. -/
import Derived.Test.YtbppdifghkkooaaGreatDoorOrderMath
import Derived.Test.YtbppdifghkkooaaGreatDoorGatesMore
import Derived.Test.YtbppdifghkkooaaGreatDoorAppKit
namespace Go.Proofs.YtbppdifghkkooaaGreatDoor
open Go.RowKit
set_option linter.unusedVariables false
set_option linter.unusedSimpArgs false

/-- a list in memory of the call's own -/
def ListIs (xs : List Int) (w : World) (e : Ending) (w' : World) : Prop :=
  ∃ v, e = .returned v ∧ w'.ownsRow w.heap.size 3 1 v xs.length (il xs) ∧ Below w.heap.size w w'
/-- a list somewhere -/
def ListAt (xs : List Int) (w : World) (e : Ending) (w' : World) : Prop :=
  ∃ A k, e = .returned (.slice A xs.length k) ∧ IntsAt w' w'.heap.size A xs.length (fun j => xs.getD j 0) ∧ Below w.heap.size w w'
theorem ListIs.at {xs : List Int} {w w' : World} {e : Ending} (h : ListIs xs w e w') : ListAt xs w e w' := by
  obtain ⟨v, rfl, ho, hb⟩ := h
  obtain ⟨A, k, rfl, hi, _⟩ := own_list ho
  exact ⟨A, k, rfl, hi, hb⟩
theorem il_lst (f : Nat → Int) : ∀ n, intL f n = il (lst f n)
  | 0 => rfl
  | n + 1 => by rw [intL, il_lst f n, lst_succ]; simp [il]
theorem il_app (xs ys : List Int) : il (xs ++ ys) = il xs ++ il ys := by simp [il]

/-- the cells of a box that holds a raw circuit -/
theorem Has.rbox {w : World} {b : Nat} {r : Rw} {p : Rp} (h : Has w b 25 (rc r p)) :
    w.cell? ⟨b, 0, none⟩ = some (.int .i64 r.m) ∧ w.cell? ⟨b, 1, none⟩ = some (.slice p.A1 r.ni p.k1) ∧ w.cell? ⟨b, 2, none⟩ = some (.slice p.A2 r.nl p.k2) ∧ w.cell? ⟨b, 3, none⟩ = some (.slice p.A3 r.na p.k3) ∧ w.cell? ⟨b, 4, none⟩ = some (.slice p.A4 r.nb p.k4) ∧ w.cell? ⟨b, 5, none⟩ = some (.slice p.A5 r.nc p.k5) :=
  ⟨h.cell 0, h.cell 1, h.cell 2, h.cell 3, h.cell 4, h.cell 5⟩

set_option maxRecDepth 100000 in
set_option maxHeartbeats 2000000 in
theorem oDefined_any (r : Rw) (p : Rp) (w : World) (hs : RSm r) (hm : RMem w w.heap.size r p) (hN : RNils r p) :
    Calls Tryz.prog 120 #[rv r p] w (ListIs r.dL w) := by
  have g1 := hs.ni
  have g2 := hs.nl
  have g3 := hs.na
  obtain ⟨i0, hi0, hzz0, hs0, hy0⟩ := info_parts info_int
  have hB0 : Below w.heap.size w w := Below.refl _ _
  have hbox : Has (w.alloc (.cells (rc r p) 25)) w.heap.size 25 (rc r p) := Has.new _ _ _
  have hbox2 := hbox.al (.cells #[] 3)
  have hBox2 : Below w.heap.size w ((w.alloc (.cells (rc r p) 25)).alloc (.cells #[] 3)) := by go_grown
  obtain ⟨x0, x1, x2, x3, x4, x5⟩ := hbox2.rbox
  go_enter Tryz.func120, Tryz.ntmps120
  go_wp2_with (first
    | (at_builtin
       (refine append_to_new rfl (.tmp 6) (.tmp 8) _ rfl (w.heap.size + 1) 3 i0 _ 1 8 Tryz.underlying22 hi0 hzz0 hs0 hy0 rfl (by decide) (w.heap.size + 1) rfl (by go_size) (Has.new' _ _ (by simp)) p.A1 r.ni p.k1 (intL r.ip r.ni) rfl (intL_len _ _) ((hm.ip.keep hBox2).src hN.ip) (intL_one _ _) (by simp only [maxLen]; omega) (by omega) (by go_size) ?_)
       intro g1 k1 w1 ho1 hg1 hat1
       have hH1 : Has w1 w.heap.size 25 (rc r p) := hbox2.grow hg1 (by omega)
       have hB1 : Below w.heap.size w w1 := hBox2.grown hg1 (by simp; omega) (fun k hk => by cases hk; omega)))
  clear hg1 hat1 x0 x1 x2 x3 x4 x5 hbox hbox2 hBox2
  rw [il_lst] at ho1
  have hsz1 : w.heap.size < w1.heap.size := hH1.lt
  go_loopw [3, 4] (fun v i wr => ∃ q : Nat, q ≤ r.nl ∧ i = .int .i64 q ∧ wr.ownsRow (w.heap.size + 1) 3 1 v (lst r.ip r.ni ++ lst r.ll q).length (il (lst r.ip r.ni ++ lst r.ll q)) ∧ Has wr w.heap.size 25 (rc r p) ∧ Below w.heap.size w wr) (fun _ i _ => r.nl - (intOf i).toNat)
  case atStart => exact ⟨0, Nat.zero_le _, rfl, by simpa [lst] using ho1, hH1, hB1⟩
  case round =>
    obtain ⟨q, hq, rfl, hown, hHr, hBr⟩ := hrel
    have hlen : (lst r.ip r.ni ++ lst r.ll q).length = r.ni + q := by simp [lst_len]
    obtain ⟨x0, x1, x2, x3, x4, x5⟩ := hHr.rbox
    by_cases hlt : q < r.nl
    · obtain ⟨a, hA, hab, hcs⟩ := (hm.la.keep hBr) (by omega)
      obtain ⟨y0, y1, y2⟩ := hcs q hlt
      rw [hA] at x2
      clear hcs
      have hX : lst r.ip r.ni ++ lst r.ll (q + 1) = (lst r.ip r.ni ++ lst r.ll q) ++ [r.ll q] := by rw [lst_succ, List.append_assoc]
      have HX := Lib.hid hX
      clear hX
      go_wp2_with (at_builtin; refine wpList_append_own _ rfl _ _ 22 rfl (w.heap.size + 1) 3 i0 (.int .i64 0) 1 8 Tryz.underlying22 hi0 hzz0 hs0 hy0 rfl (by decide) _ _ _ rfl (hown.alloc _) ⟨wr.heap.size, 0, none⟩ 1 1 [.int .i64 (r.ll q)] rfl rfl (cell_one_new _ _ _) (by simp [Value.oneCell']) (by simp only [maxLen]; omega) (by omega) (by have := hHr.lt; simp; omega) ?_; intro v' w8 hown' hgrow _)
      go_roundw
      case rel => exact ⟨q + 1, by omega, by go_num, by rw [HX.out, List.length_append, il_app]; exact hown', app_has hHr hown hgrow (by omega), app_below hBr hBr.size (by omega) hown hgrow⟩
      case measure => simp [intOf]; omega
    · obtain rfl : q = r.nl := by omega
      clear hq hlt
      go_wp2
      clear x0 x1 x2 x3 x4 x5
      go_loopw [3, 5] (fun v i wr => ∃ q : Nat, q ≤ r.na ∧ i = .int .i64 q ∧ wr.ownsRow (w.heap.size + 1) 3 1 v (lst r.ip r.ni ++ lst r.ll r.nl ++ lst r.gl q).length (il (lst r.ip r.ni ++ lst r.ll r.nl ++ lst r.gl q)) ∧ Has wr w.heap.size 25 (rc r p) ∧ Below w.heap.size w wr) (fun _ i _ => r.na - (intOf i).toNat)
      case atStart => exact ⟨0, Nat.zero_le _, rfl, by simpa [lst] using hown, hHr, hBr⟩
      case round =>
        clear hown hHr hBr hlen
        obtain ⟨q, hq, rfl, hown, hHr, hBr⟩ := hrel
        have hlen : (lst r.ip r.ni ++ lst r.ll r.nl ++ lst r.gl q).length = r.ni + r.nl + q := by simp [lst_len]; omega
        obtain ⟨x0, x1, x2, x3, x4, x5⟩ := hHr.rbox
        by_cases hlt : q < r.na
        · obtain ⟨a, hA, hab, hcs⟩ := (hm.an.keep hBr) (by omega)
          obtain ⟨y0, y1, y2⟩ := hcs q hlt
          rw [hA] at x3
          clear hcs
          have hX : lst r.ip r.ni ++ lst r.ll r.nl ++ lst r.gl (q + 1) = (lst r.ip r.ni ++ lst r.ll r.nl ++ lst r.gl q) ++ [r.gl q] := by simp [lst_succ]
          have HX := Lib.hid hX
          clear hX
          go_wp2_with (at_builtin; refine wpList_append_own _ rfl _ _ 22 rfl (w.heap.size + 1) 3 i0 (.int .i64 0) 1 8 Tryz.underlying22 hi0 hzz0 hs0 hy0 rfl (by decide) _ _ _ rfl (hown.alloc _) ⟨wr.heap.size, 0, none⟩ 1 1 [.int .i64 (r.gl q)] rfl rfl (cell_one_new _ _ _) (by simp [Value.oneCell']) (by simp only [maxLen]; omega) (by omega) (by have := hHr.lt; simp; omega) ?_; intro v' w8 hown' hgrow _)
          go_roundw
          case rel => exact ⟨q + 1, by omega, by go_num, by rw [HX.out, List.length_append, il_app]; exact hown', app_has hHr hown hgrow (by omega), app_below hBr hBr.size (by omega) hown hgrow⟩
          case measure => simp [intOf]; omega
        · obtain rfl : q = r.na := by omega
          clear hq hlt
          have hown2 := hown
          obtain ⟨A, k, hv, _⟩ := own_list hown
          subst hv
          go_wp2
          go_ret
          exact ⟨_, rfl, own_base hown2 (by omega), hBr⟩
end Go.Proofs.YtbppdifghkkooaaGreatDoor
