/- The reference of layer 3: numbers. -/
import Derived.Test.YtkpjpokeonppbaaGreatDoorOrderRef2
import Derived.Deep.RegionHeld3
import Derived.Deep.DeepCutAuto
namespace Go.Proofs.YtkpjpokeonppbaaGreatDoor
open Go.RowKit
set_option linter.unusedVariables false
set_option linter.unusedSimpArgs false

theorem rbox_at {W w' : World} {b : Nat} {r : Rw} {p : Rp} (h : Has W b 26 (rc r p)) (hb : Below W.heap.size W w') : Below W.heap.size W w' ∧ w'.cell? ⟨b, 0, none⟩ = some (.int .i64 r.m) ∧ w'.cell? ⟨b, 1, none⟩ = some (.slice p.A1 r.ni p.k1) ∧ w'.cell? ⟨b, 2, none⟩ = some (.slice p.A2 r.nl p.k2) ∧ w'.cell? ⟨b, 3, none⟩ = some (.slice p.A3 r.na p.k3) ∧ w'.cell? ⟨b, 4, none⟩ = some (.slice p.A4 r.nb p.k4) ∧ w'.cell? ⟨b, 5, none⟩ = some (.slice p.A5 r.nc p.k5) :=
  ⟨hb, (h.keep hb h.lt).rbox⟩
theorem RMem.to1 {w W : World} {r : Rw} {p : Rp} (h : RMem w w.heap.size r p) (hb : Below w.heap.size w W) : RMem W W.heap.size r p := h.to hb hb.size
theorem ListAt.len {xs : List Int} (h : xs.length ≤ 100000) : (xs.length : Int) ≤ 100000 := by omega
theorem dL_len (r : Rw) : r.dL.length = r.ni + r.nl + r.na := by simp [Rw.dL, lst_len]; omega
theorem uL_len (r : Rw) : r.uL.length = r.nb + r.nc + r.nl + 2 * r.na := by simp [Rw.uL, lst_len, twos_len]; omega
theorem all_no {xs : List Int} {f : Int → Bool} {q : Nat} (hq : q < xs.length) (h : f (xs.getD q 0) = false) : xs.all f = false := by
  rw [Bool.eq_false_iff]
  intro ha
  have := List.all_eq_true.1 ha (xs.getD q 0) (by rw [List.getD_eq_getElem?_getD, List.getElem?_eq_getElem hq]; exact List.getElem_mem hq)
  rw [this] at h
  cases h
theorem all_yes {xs : List Int} {f : Int → Bool} (h : ∀ j, j < xs.length → f (xs.getD j 0) = true) : xs.all f = true := by
  rw [List.all_eq_true]
  intro x hx
  obtain ⟨j, hj, rfl⟩ := List.getElem_of_mem hx
  have := h j hj
  rwa [List.getD_eq_getElem?_getD, List.getElem?_eq_getElem hj] at this

set_option maxRecDepth 100000 in
set_option maxHeartbeats 2000000 in
theorem oNumbers_any (r : Rw) (p : Rp) (w : World) (hs : RSm r) (hm : RMem w w.heap.size r p) (hN : RNils r p) (h0 : 0 ≤ r.m) (h1 : r.m ≤ 1000) :
    Calls Tryz.prog 44 #[rv r p] w fun e w' => e = .returned (.bool r.num) ∧ Below w.heap.size w w' := by
  have g0 := hs.ni
  have g1 := hs.nl
  have g2 := hs.na
  have g3 := hs.nb
  have g4 := hs.nc
  obtain ⟨X, hXe⟩ : ∃ X, X = (w.alloc (.cells (rc r p) 26)) := ⟨_, rfl⟩
  have hB1 : Below w.heap.size w X := by rw [hXe]; go_grown
  have hA1 : Has X w.heap.size 26 (rc r p) := by rw [hXe]; exact Has.new _ _ _
  have hXl := hA1.lt
  have hM1 := hm.to1 hB1
  have HA := Lib.hid hA1
  have hXf : w.alloc (.cells #[.int .i64 r.m, .slice p.A1 r.ni p.k1, .slice p.A2 r.nl p.k2, .slice p.A3 r.na p.k3, .slice p.A4 r.nb p.k4, .slice p.A5 r.nc p.k5] 26) = X := hXe.symm
  go_enter Tryz.func44, Tryz.ntmps44
  go_wp2_with fail
  rw [← hXe]
  clear hXf hXe
  go_region_held3 (fun w' => Below X.heap.size X w' ∧ w'.cell? ⟨w.heap.size, 0, none⟩ = some (.int .i64 r.m) ∧ w'.cell? ⟨w.heap.size, 1, none⟩ = some (.slice p.A1 r.ni p.k1) ∧ w'.cell? ⟨w.heap.size, 2, none⟩ = some (.slice p.A2 r.nl p.k2) ∧ w'.cell? ⟨w.heap.size, 3, none⟩ = some (.slice p.A3 r.na p.k3) ∧ w'.cell? ⟨w.heap.size, 4, none⟩ = some (.slice p.A4 r.nb p.k4) ∧ w'.cell? ⟨w.heap.size, 5, none⟩ = some (.slice p.A5 r.nc p.k5))
    (exact rbox_at HA.out (by first | assumption | go_grown))
    (first
      | (go_at_call 79; refine (oDefined_any r p _ hs (hM1.to1 (by first | assumption | go_grown)) hN).mono ?_; rintro e w2 hd2; obtain ⟨D, kd, rfl, hi2, hb2⟩ := ListIs.at hd2; clear hd2; have hC2 : Below X.heap.size X w2 := Below.next (by first | assumption | go_grown) hb2; have hs2 := hC2.size)
      | (go_at_call 46; refine (oUsed_any r p _ hs (hM1.to1 (by first | assumption | go_grown)) hN).mono ?_; rintro e w3 hd3; obtain ⟨U, ku, rfl, hi3, hb3⟩ := ListIs.at hd3; clear hd3; have hC3 : Below X.heap.size X w3 := Below.next (by first | assumption | go_grown) hb3; have hs3 := hC3.size; have hi2 := (hi2.keep hb3).more hb3.size))
  have hld : r.dL.length ≤ 4000 := by rw [dL_len]; omega
  have hlu : r.uL.length ≤ 5000 := by rw [uL_len]; omega
  have hw1 : IntKind.i64.wrap (2 * r.m) = 2 * r.m := IntWalk.i64_in _ (by omega)
  have hw2 : IntKind.i64.wrap (2 * r.m + 1) = 2 * r.m + 1 := IntWalk.i64_in _ (by omega)
  have hA3 := HA.out.keep hC3 HA.out.lt
  have hB3 := Below.step hB1 hB1.size hC3
  clear hb2 hb3 hC2 hs2
  go_wp2
  go_loopw [5] (fun i wr => ∃ q : Nat, q ≤ r.dL.length ∧ i = .int .i64 q ∧ Hid (∀ j, j < q → r.dOk (r.dL.getD j 0) = true) ∧ Below w3.heap.size w3 wr) (fun i _ => r.dL.length - (intOf i).toNat)
  case atStart => exact ⟨0, Nat.zero_le _, rfl, Lib.hid (fun j hj => absurd hj (Nat.not_lt_zero _)), Below.refl _ _⟩
  case round =>
    obtain ⟨q, hq, rfl, hL, hBr⟩ := hrel
    obtain ⟨x0, x1, x2, x3, x4, x5⟩ := (hA3.keep hBr hA3.lt).rbox
    by_cases hlt : q < r.dL.length
    · obtain ⟨a, hA, hab, hcs⟩ := (IntsAt.keep hi2 hBr) (by omega)
      have y0 : wr.cell? (a.add q) = some (.int .i64 (r.dL.getD q 0)) := hcs q hlt
      subst hA
      clear hcs
      obtain ⟨x, hx⟩ : ∃ x, Hid (x = r.dL.getD q 0) := ⟨_, Lib.hid rfl⟩
      rw [← hx.out] at y0
      have hi1 : (0 : Int) ≤ (q : Int) := by omega
      have hi2' : (q : Int) < (r.dL.length : Int) := by omega
      have hcase : (x < 2) ∨ (¬ x < 2 ∧ x % 2 = 1) ∨ (¬ x < 2 ∧ ¬ x % 2 = 1 ∧ 2 * r.m + 1 < x) ∨ (¬ x < 2 ∧ ¬ x % 2 = 1 ∧ ¬ 2 * r.m + 1 < x) := by omega
      rcases hcase with c1 | ⟨c1, c2⟩ | ⟨c1, c2, c3⟩ | ⟨c1, c2, c3⟩
      case inr.inr.inr =>
        have hok : r.dOk x = true := decide_eq_true (by omega)
        have d1 : decide (x < 2) = false := decide_eq_false c1
        have d2 : (x.tmod 2 == 1) = false := by rw [Int.tmod_eq_emod_of_nonneg (by omega)]; exact bq c2
        have d3 : decide (2 * r.m + 1 < x) = false := decide_eq_false c3
        go_wp2
        go_quiet (fail)
        go_wp2
        go_roundw
        case rel => exact ⟨q + 1, by omega, by go_num, Lib.hid (fun j hj => by
          rcases Nat.lt_succ_iff_lt_or_eq.1 hj with h' | h'
          · exact hL.out j h'
          · subst h'; rw [← hx.out]; exact hok), below_dn hBr _⟩
        case measure => simp [intOf]; omega
      all_goals
        have hno : r.dOk x = false := decide_eq_false (by omega)
        have hR : Hid (r.num = false) := by
          show r.num = false
          unfold Rw.num
          rw [all_no (xs := r.dL) (f := r.dOk) hlt (by rw [← hx.out]; exact hno)]
          rfl
      · have d1 : decide (x < 2) = true := decide_eq_true c1
        go_wp2
        go_quiet (fail)
        go_wp2
        go_ret
        exact ⟨Li.ret_bool hR.out.symm, below_dn (Below.step hB3 hB3.size hBr) _⟩
      · have d1 : decide (x < 2) = false := decide_eq_false c1
        have d2 : (x.tmod 2 == 1) = true := by rw [Int.tmod_eq_emod_of_nonneg (by omega)]; exact bt c2
        go_wp2
        go_quiet (fail)
        go_wp2
        go_ret
        exact ⟨Li.ret_bool hR.out.symm, below_dn (Below.step hB3 hB3.size hBr) _⟩
      · have d1 : decide (x < 2) = false := decide_eq_false c1
        have d2 : (x.tmod 2 == 1) = false := by rw [Int.tmod_eq_emod_of_nonneg (by omega)]; exact bq c2
        have d3 : decide (2 * r.m + 1 < x) = true := decide_eq_true c3
        go_wp2
        go_quiet (fail)
        go_wp2
        go_ret
        exact ⟨Li.ret_bool hR.out.symm, below_dn (Below.step hB3 hB3.size hBr) _⟩
    · have hL1 := Lib.hid (all_yes (xs := r.dL) (f := r.dOk) (fun j hj => hL.out j (by omega)))
      obtain ⟨m0, hme⟩ : ∃ m0, m0 = q := ⟨_, rfl⟩
      subst hme
      have hend : ¬ (m0 : Int) < (r.dL.length : Int) := by omega
      have hA4 := hA3.keep hBr hA3.lt
      have hB4 := Below.step hB3 hB3.size hBr
      have hi4 := (IntsAt.keep hi3 hBr).more hBr.size
      have hM4 := ((hM1.to1 hC3).to1 hBr)
      clear hq hlt hL
      obtain ⟨W4, hW4⟩ : ∃ W4, W4 = wr := ⟨_, rfl⟩
      subst hW4
      go_wp2
      go_loopw [6] (fun i wr => ∃ q : Nat, q ≤ r.uL.length ∧ i = .int .i64 q ∧ Hid (∀ j, j < q → r.uOk (r.uL.getD j 0) = true) ∧ Below W4.heap.size W4 wr) (fun i _ => r.uL.length - (intOf i).toNat)
      case atStart => exact ⟨0, Nat.zero_le _, rfl, Lib.hid (fun j hj => absurd hj (Nat.not_lt_zero _)), Below.refl _ _⟩
      case round =>
        clear hBr
        obtain ⟨q, hq, rfl, hL, hBr⟩ := hrel
        obtain ⟨x0, x1, x2, x3, x4, x5⟩ := (hA4.keep hBr hA4.lt).rbox
        by_cases hlt : q < r.uL.length
        · obtain ⟨a, hA, hab, hcs⟩ := (IntsAt.keep hi4 hBr) (by omega)
          have y0 : wr.cell? (a.add q) = some (.int .i64 (r.uL.getD q 0)) := hcs q hlt
          subst hA
          clear hcs
          obtain ⟨x, hx⟩ : ∃ x, Hid (x = r.uL.getD q 0) := ⟨_, Lib.hid rfl⟩
          rw [← hx.out] at y0
          have hi1 : (0 : Int) ≤ (q : Int) := by omega
          have hi2' : (q : Int) < (r.uL.length : Int) := by omega
          have hcase : (x < 0) ∨ (¬ x < 0 ∧ 2 * r.m + 1 < x) ∨ (¬ x < 0 ∧ ¬ 2 * r.m + 1 < x) := by omega
          rcases hcase with c1 | ⟨c1, c3⟩ | ⟨c1, c3⟩
          case inr.inr =>
            have hok : r.uOk x = true := decide_eq_true (by omega)
            have d1 : decide (x < 0) = false := decide_eq_false c1
            have d3 : decide (2 * r.m + 1 < x) = false := decide_eq_false c3
            go_wp2
            go_quiet (fail)
            go_wp2
            go_roundw
            case rel => exact ⟨q + 1, by omega, by go_num, Lib.hid (fun j hj => by
              rcases Nat.lt_succ_iff_lt_or_eq.1 hj with h' | h'
              · exact hL.out j h'
              · subst h'; rw [← hx.out]; exact hok), below_dn hBr _⟩
            case measure => simp [intOf]; omega
          all_goals
            have hno : r.uOk x = false := decide_eq_false (by omega)
            have hR : Hid (r.num = false) := by
              show r.num = false
              unfold Rw.num
              rw [all_no (xs := r.uL) (f := r.uOk) hlt (by rw [← hx.out]; exact hno), Bool.and_false]
              rfl
          · have d1 : decide (x < 0) = true := decide_eq_true c1
            go_wp2
            go_quiet (fail)
            go_wp2
            go_ret
            exact ⟨Li.ret_bool hR.out.symm, below_dn (Below.step hB4 hB4.size hBr) _⟩
          · have d1 : decide (x < 0) = false := decide_eq_false c1
            have d3 : decide (2 * r.m + 1 < x) = true := decide_eq_true c3
            go_wp2
            go_quiet (fail)
            go_wp2
            go_ret
            exact ⟨Li.ret_bool hR.out.symm, below_dn (Below.step hB4 hB4.size hBr) _⟩
        · have hL2 := Lib.hid (all_yes (xs := r.uL) (f := r.uOk) (fun j hj => hL.out j (by omega)))
          obtain ⟨m1, hme⟩ : ∃ m1, m1 = q := ⟨_, rfl⟩
          subst hme
          have hend1 : ¬ (m1 : Int) < (r.uL.length : Int) := by omega
          have hA5 := hA4.keep hBr hA4.lt
          have hB5 := Below.step hB4 hB4.size hBr
          have hM5 := hM4.to1 hBr
          clear hq hlt hL
          obtain ⟨W5, hW5⟩ : ∃ W5, W5 = wr := ⟨_, rfl⟩
          subst hW5
          go_wp2
          go_loopw [7] (fun i wr => ∃ q : Nat, q ≤ r.nl ∧ i = .int .i64 q ∧ Hid (∀ j, j < q → Rw.reOk (r.lb j) = true) ∧ Below W5.heap.size W5 wr) (fun i _ => r.nl - (intOf i).toNat)
          case atStart => exact ⟨0, Nat.zero_le _, rfl, Lib.hid (fun j hj => absurd hj (Nat.not_lt_zero _)), Below.refl _ _⟩
          case round =>
            clear hBr
            obtain ⟨q, hq, rfl, hL, hBr⟩ := hrel
            obtain ⟨x0, x1, x2, x3, x4, x5⟩ := (hA5.keep hBr hA5.lt).rbox
            by_cases hlt : q < r.nl
            · obtain ⟨a, hA, hab, hcs⟩ := (hM5.la.keep hBr) (by omega)
              obtain ⟨y0, y1, y2⟩ := hcs q hlt
              rw [hA] at x2
              clear hcs hA
              have hi1 : (0 : Int) ≤ (q : Int) := by omega
              have hi2' : (q : Int) < (r.nl : Int) := by omega
              have hcase : (r.lb q < 0) ∨ (¬ r.lb q < 0 ∧ 2 < r.lb q) ∨ (¬ r.lb q < 0 ∧ ¬ 2 < r.lb q) := by omega
              rcases hcase with c1 | ⟨c1, c3⟩ | ⟨c1, c3⟩
              case inr.inr =>
                have hok : Rw.reOk (r.lb q) = true := decide_eq_true (by omega)
                go_wp2
                go_roundw
                case rel => exact ⟨q + 1, by omega, by go_num, Lib.hid (fun j hj => by
                  rcases Nat.lt_succ_iff_lt_or_eq.1 hj with h' | h'
                  · exact hL.out j h'
                  · subst h'; exact hok), hBr⟩
                case measure => simp [intOf]; omega
              all_goals
                have hno : Rw.reOk (r.lb q) = false := decide_eq_false (by omega)
                have hR : Hid (r.num = false) := by
                  show r.num = false
                  unfold Rw.num
                  rw [all_no (xs := lst r.lb r.nl) (f := Rw.reOk) (q := q) (by rw [lst_len]; exact hlt) (by rw [List.getD_eq_getElem?_getD, lst_at _ _ _ hlt]; exact hno), Bool.and_false]
                go_wp2
                go_ret
                exact ⟨Li.ret_bool hR.out.symm, Below.step hB5 hB5.size hBr⟩
            · have hL3 := all_yes (xs := lst r.lb r.nl) (f := Rw.reOk) (fun j hj => by rw [lst_len] at hj; rw [List.getD_eq_getElem?_getD, lst_at _ _ _ hj]; exact hL.out j (by omega))
              have hR : Hid (r.num = true) := by
                show r.num = true
                unfold Rw.num
                rw [hL1.out, hL2.out, hL3]; rfl
              obtain ⟨m2, hme⟩ : ∃ m2, m2 = q := ⟨_, rfl⟩
              subst hme
              have hend2 : ¬ (m2 : Int) < (r.nl : Int) := by omega
              clear hq hlt hL hL3
              go_wp2
              go_ret
              exact ⟨Li.ret_bool hR.out.symm, Below.step hB5 hB5.size hBr⟩

end Go.Proofs.YtkpjpokeonppbaaGreatDoor

namespace Go.Proofs.YtkpjpokeonppbaaGreatDoor
open Go.RowKit
set_option linter.unusedVariables false
set_option linter.unusedSimpArgs false

namespace Rw
/-- how often a variable is among the first q defined ones (0 is, once) -/
def tmk (r : Rw) : Nat → Nat → Int
  | 0 => fun v => if v = 0 then 1 else 0
  | q + 1 => fun v => if v = (r.dL.getD q 0 / 2).toNat then tmk r q v + 1 else tmk r q v
theorem tmk_bd (r : Rw) (q v : Nat) : 0 ≤ r.tmk q v ∧ r.tmk q v ≤ q + 1 := by
  induction q with
  | zero => unfold tmk; split <;> omega
  | succ q ih => unfold tmk; split <;> omega
theorem num_d {r : Rw} (h : r.num = true) : ∀ j, j < r.dL.length → 2 ≤ r.dL.getD j 0 ∧ r.dL.getD j 0 % 2 = 0 ∧ r.dL.getD j 0 ≤ 2 * r.m + 1 := by
  intro j hj
  unfold num at h
  simp only [Bool.and_eq_true] at h
  have := List.all_eq_true.1 h.1.1 (r.dL.getD j 0) (by rw [List.getD_eq_getElem?_getD, List.getElem?_eq_getElem hj]; exact List.getElem_mem hj)
  exact of_decide_eq_true this
theorem num_u {r : Rw} (h : r.num = true) : ∀ j, j < r.uL.length → 0 ≤ r.uL.getD j 0 ∧ r.uL.getD j 0 ≤ 2 * r.m + 1 := by
  intro j hj
  unfold num at h
  simp only [Bool.and_eq_true] at h
  have := List.all_eq_true.1 h.1.2 (r.uL.getD j 0) (by rw [List.getD_eq_getElem?_getD, List.getElem?_eq_getElem hj]; exact List.getElem_mem hj)
  exact of_decide_eq_true this
end Rw

theorem setB {w : World} {B : Nat} {A : Option Addr} {n b j : Nat} {f : Nat → Int} (h : IntsAt w B A n f) (hd : ∀ a, A = some a → a.block ≠ b) (v : Value) : IntsAt (w.setCell ⟨b, j, none⟩ v) B A n f := fun hn => by
  obtain ⟨a, e, hl, hc⟩ := h hn
  refine ⟨a, e, hl, fun i hi => ?_⟩
  rw [World.cell?_setCell_other _ _ _ _ (fun e' => hd a e (by have := congrArg Addr.block e'; simpa [add_block] using this.symm))]
  exact hc i hi
/-- the counts, in a row of the call's own -/
def TimesIs (r : Rw) (mn : Nat) (w : World) (e : Ending) (w' : World) : Prop :=
  ∃ g, e = .returned (.slice (some ⟨g, 0, none⟩) (mn + 1) (mn + 1)) ∧ w'.rowIs g 3 (mn + 1) (fun v => .int .i64 (r.tmk r.dL.length v)) ∧ w.heap.size ≤ g ∧ Below w.heap.size w w'

theorem row_set0 (w : World) (n : Nat) (t : TypeId) (g : Nat) (hg : w.heap.size = g) : (w.alloc (.cells ((madeCells #[.int .i64 0] n).setIfInBounds 0 (.int .i64 1)) t)).rowIs g t n (fun v => .int .i64 (if v = 0 then 1 else 0)) := by
  subst hg
  exact ⟨_, heap_alloc_new w _, by rw [Array.size_setIfInBounds]; simp [size_madeCells], fun j hj => by
    rw [Array.getElem?_setIfInBounds]
    by_cases e : 0 = j
    · subst e; simp [size_madeCells, hj]
    · have e' : ¬ j = 0 := fun h => e h.symm
      rw [if_neg e]; simp [madeCells, hj, Nat.mod_one, e']⟩
set_option maxRecDepth 100000 in
set_option maxHeartbeats 2000000 in
theorem oTimes_any (r : Rw) (p : Rp) (w : World) (mn : Nat) (hmn : r.m = mn) (hs : RSm r) (hm : RMem w w.heap.size r p) (hN : RNils r p) (h1 : r.m ≤ 1000) (hnum : r.num = true) :
    Calls Tryz.prog 45 #[rv r p] w (TimesIs r mn w) := by
  have g0 := hs.ni
  have g1 := hs.nl
  have g2 := hs.na
  have hld : r.dL.length ≤ 4000 := by rw [dL_len]; omega
  have hmn1 : mn ≤ 1000 := by omega
  have h0 : 0 ≤ r.m := by omega
  have hw1 : IntKind.i64.wrap (r.m + 1) = r.m + 1 := IntWalk.i64_in _ (by omega)
  have hmk : ∀ w : World, (Instr.makeSlice 23 (.int .i64 (r.m + 1)) (.int .i64 (r.m + 1))).run Tryz.prog w = .ok (.slice (some ⟨w.heap.size, 0, none⟩) (mn + 1) (mn + 1)) (w.alloc (.cells (madeCells #[.int .i64 0] (mn + 1)) 3)) := fun w => by
    have := run_make_row' 23 3 (.int .i64 0) 8 Tryz.underlying23 info_int rfl .i64 .i64 (mn + 1) (by omega) (by omega) w
    rw [hmn]; exact this
  have hd := Lib.hid (Rw.num_d hnum)
  have HM := Lib.hid hmn
  have hR1 : ((w.alloc (.cells #[.int .i64 r.m, .slice p.A1 r.ni p.k1, .slice p.A2 r.nl p.k2, .slice p.A3 r.na p.k3, .slice p.A4 r.nb p.k4, .slice p.A5 r.nc p.k5] 26)).alloc (.cells (madeCells #[.int .i64 0] (mn + 1)) 3)).rowIs (w.heap.size + 1) 3 (mn + 1) (fun v => .int .i64 ((fun _ => 0) v)) := by
    have := World.rowIs_made (w.alloc (.cells #[.int .i64 r.m, .slice p.A1 r.ni p.k1, .slice p.A2 r.nl p.k2, .slice p.A3 r.na p.k3, .slice p.A4 r.nb p.k4, .slice p.A5 r.nc p.k5] 26)) (.int .i64 0) (mn + 1) 3
    simpa using this
  have z1 := hR1.cell (by omega : 0 < mn + 1)
  have z2 := hR1.frozen 0
  have i1 : (0 : Int) < (mn : Int) + 1 := by omega
  clear hmn hnum
  go_enter Tryz.func45, Tryz.ntmps45
  go_wp2_with (first
    | (go_at_call 79; refine (oDefined_any r p _ hs (hm.to (by go_grown) (by go_size)) hN).mono ?_; rintro e w2 ⟨v2, rfl, ho2, hb2⟩; obtain ⟨D, kd, rfl, hi2, hg2⟩ := own_list ho2; have hD : ∀ a, D = some a → w.heap.size + 2 ≤ a.block := (fun a e => by have := hg2 a.block (by rw [e]; rfl); simp at this; omega); clear ho2 hg2; have hz2 : w.heap.size + 1 < w2.heap.size := (by have := hb2.size; simp at this; omega); have hB2 : Below w.heap.size w w2 := Below.step (by go_grown) (by go_size) hb2; have hR2 := (row_set0 (w.alloc (.cells #[.int .i64 r.m, .slice p.A1 r.ni p.k1, .slice p.A2 r.nl p.k2, .slice p.A3 r.na p.k3, .slice p.A4 r.nb p.k4, .slice p.A5 r.nc p.k5] 26)) (mn + 1) 3 (w.heap.size + 1) (by simp)).of_block (hb2.block _ (by simp)))
    | fail)
  clear z1 z2 hR1 hb2
  go_loopw [5] (fun i wr => ∃ q : Nat, q ≤ r.dL.length ∧ i = .int .i64 q ∧ Below w.heap.size w wr ∧ IntsAt wr w2.heap.size D r.dL.length (fun j => r.dL.getD j 0) ∧ wr.rowIs (w.heap.size + 1) 3 (mn + 1) (fun v => .int .i64 (r.tmk q v)) ∧ w2.heap.size ≤ wr.heap.size) (fun i _ => r.dL.length - (intOf i).toNat)
  case atStart => exact ⟨0, Nat.zero_le _, rfl, hB2, hi2, hR2, Nat.le_refl _⟩
  case round =>
    obtain ⟨q, hq, rfl, hBr, hI, hR, hsz⟩ := hrel
    by_cases hlt : q < r.dL.length
    · obtain ⟨a, hA, hab, hcs⟩ := hI (by omega)
      have y0 : wr.cell? (a.add q) = some (.int .i64 (r.dL.getD q 0)) := hcs q hlt
      have hb := hd.out q hlt
      have hne : D = some a := hA
      subst hA
      obtain ⟨x, hx⟩ : ∃ x, Hid (x = r.dL.getD q 0) := ⟨_, Lib.hid rfl⟩
      rw [← hx.out] at y0 hb
      have hm1 := HM.out
      have n1 : (x / 2).toNat < mn + 1 := by omega
      have m1 : 0 ≤ x / 2 := by omega
      have m2 : x / 2 < (mn : Int) + 1 := by omega
      have hx0 : 0 ≤ x := by omega
      have hi1 : (0 : Int) ≤ (q : Int) := by omega
      have hi2' : (q : Int) < (r.dL.length : Int) := by omega
      have z1 := hR.cell n1
      have z2 := hR.frozen (x / 2).toNat
      have tb := r.tmk_bd q (x / 2).toNat
      have w3 : IntKind.i64.wrap (r.tmk q (x / 2).toNat + 1) = r.tmk q (x / 2).toNat + 1 := IntWalk.i64_in _ (by omega)
      have hst : Hid ((fun v => if v = (x / 2).toNat then r.tmk q (x / 2).toNat + 1 else r.tmk q v) = r.tmk (q + 1)) := by
        show _ = _
        funext v
        show _ = if v = (r.dL.getD q 0 / 2).toNat then r.tmk q v + 1 else r.tmk q v
        rw [← hx.out]
        by_cases e : v = (x / 2).toNat
        · rw [if_pos e, if_pos e, e]
        · rw [if_neg e, if_neg e]
      clear hcs hm1 hb
      go_wp2
      go_roundw
      case rel => exact ⟨q + 1, by omega, by go_num, hBr.setCell (by simp) _, setB hI (fun a e => by have := hD a e; omega) _, (hR.set _ _).congr (fun j hj => by have := congrFun hst.out j; (try dsimp only at this); rw [← this]; split <;> rfl), by simp [World.setCell]; omega⟩
      case measure => simp [intOf]; omega
    · obtain ⟨m0, hme⟩ : ∃ m0, Hid (m0 = q) := ⟨_, Lib.hid rfl⟩
      have hqe : Hid (q = r.dL.length) := by show q = _; omega
      have hend : ¬ (q : Int) < (r.dL.length : Int) := by omega
      clear hq hlt
      go_wp2
      go_ret
      exact ⟨_, rfl, by rw [← hqe.out]; exact hR, by omega, hBr⟩

end Go.Proofs.YtkpjpokeonppbaaGreatDoor
