/- The reference of layer 3: numbers. -/
import Derived.Test.YtnkpmcpinicciaaDoorOrderRef2
import Derived.Deep.RegionHeld3
import Derived.Deep.DeepCutAuto
namespace Go.Proofs.YtnkpmcpinicciaaDoor
open Go.RowKit
set_option linter.unusedVariables false
set_option linter.unusedSimpArgs false

theorem rbox_at {W w' : World} {b : Nat} {r : Rw} {p : Rp} (h : Has W b 27 (rc r p)) (hb : Below W.heap.size W w') : Below W.heap.size W w' ∧ w'.cell? ⟨b, 0, none⟩ = some (.int .i64 r.m) ∧ w'.cell? ⟨b, 1, none⟩ = some (.slice p.A1 r.ni p.k1) ∧ w'.cell? ⟨b, 2, none⟩ = some (.slice p.A2 r.nl p.k2) ∧ w'.cell? ⟨b, 3, none⟩ = some (.slice p.A3 r.na p.k3) ∧ w'.cell? ⟨b, 4, none⟩ = some (.slice p.A4 r.nb p.k4) ∧ w'.cell? ⟨b, 5, none⟩ = some (.slice p.A5 r.nc p.k5) :=
  ⟨hb, (h.keep hb h.lt).rbox⟩
theorem RMem.to1 {w W : World} {r : Rw} {p : Rp} (h : RMem w w.heap.size r p) (hb : Below w.heap.size w W) : RMem W W.heap.size r p := h.to hb hb.size
theorem ListAt.len {xs : List Int} (h : xs.length ≤ 100000) : (xs.length : Int) ≤ 100000 := by omega
theorem dL_len (r : Rw) : r.dL.length = r.ni + r.nl + r.na := by simp [Rw.dL, lst_len]; omega
theorem uL_len (r : Rw) : r.uL.length = r.nb + r.nc + r.nl + 2 * r.na := by simp [Rw.uL, lst_len, twos_len]; omega
theorem all_no {xs : List Int} {f : Int → Bool} {q : Nat} (hq : q < xs.length) (h : f (xs.getD q 0) = false) : xs.all f = false := by
  rw [Bool.eq_false_iff]
  intro ha
  have := List.all_eq_true.1 ha (xs.getD q 0) (by rw [List.getD_eq_getElem?_getD, List.getElem?_eq_getElem hq]; exact List.getElem_mem hq)
  rw [this] at h
  cases h
theorem all_yes {xs : List Int} {f : Int → Bool} (h : ∀ j, j < xs.length → f (xs.getD j 0) = true) : xs.all f = true := by
  rw [List.all_eq_true]
  intro x hx
  obtain ⟨j, hj, rfl⟩ := List.getElem_of_mem hx
  have := h j hj
  rwa [List.getD_eq_getElem?_getD, List.getElem?_eq_getElem hj] at this

set_option maxRecDepth 100000 in
set_option maxHeartbeats 2000000 in
theorem oNumbers_any (r : Rw) (p : Rp) (w : World) (hs : RSm r) (hm : RMem w w.heap.size r p) (hN : RNils r p) (h0 : 0 ≤ r.m) (h1 : r.m ≤ 1000) :
    Calls Tryd.prog 34 #[rv r p] w fun e w' => e = .returned (.bool r.num) ∧ Below w.heap.size w w' := by
  have g0 := hs.ni
  have g1 := hs.nl
  have g2 := hs.na
  have g3 := hs.nb
  have g4 := hs.nc
  obtain ⟨X, hXe⟩ : ∃ X, X = (w.alloc (.cells (rc r p) 27)) := ⟨_, rfl⟩
  have hB1 : Below w.heap.size w X := by rw [hXe]; go_grown
  have hA1 : Has X w.heap.size 27 (rc r p) := by rw [hXe]; exact Has.new _ _ _
  have hXl := hA1.lt
  have hM1 := hm.to1 hB1
  have HA := Lib.hid hA1
  have hXf : w.alloc (.cells #[.int .i64 r.m, .slice p.A1 r.ni p.k1, .slice p.A2 r.nl p.k2, .slice p.A3 r.na p.k3, .slice p.A4 r.nb p.k4, .slice p.A5 r.nc p.k5] 27) = X := hXe.symm
  go_enter Tryd.func34, Tryd.ntmps34
  go_wp2_with fail
  rw [← hXe]
  clear hXf hXe
  go_region_held3 (fun w' => Below X.heap.size X w' ∧ w'.cell? ⟨w.heap.size, 0, none⟩ = some (.int .i64 r.m) ∧ w'.cell? ⟨w.heap.size, 1, none⟩ = some (.slice p.A1 r.ni p.k1) ∧ w'.cell? ⟨w.heap.size, 2, none⟩ = some (.slice p.A2 r.nl p.k2) ∧ w'.cell? ⟨w.heap.size, 3, none⟩ = some (.slice p.A3 r.na p.k3) ∧ w'.cell? ⟨w.heap.size, 4, none⟩ = some (.slice p.A4 r.nb p.k4) ∧ w'.cell? ⟨w.heap.size, 5, none⟩ = some (.slice p.A5 r.nc p.k5))
    (exact rbox_at HA.out (by first | assumption | go_grown))
    (first
      | (go_at_call 46; refine (oDefined_any r p _ hs (hM1.to1 (by first | assumption | go_grown)) hN).mono ?_; rintro e w2 hd2; obtain ⟨D, kd, rfl, hi2, hb2⟩ := ListIs.at hd2; clear hd2; have hC2 : Below X.heap.size X w2 := Below.next (by first | assumption | go_grown) hb2; have hs2 := hC2.size)
      | (go_at_call 36; refine (oUsed_any r p _ hs (hM1.to1 (by first | assumption | go_grown)) hN).mono ?_; rintro e w3 hd3; obtain ⟨U, ku, rfl, hi3, hb3⟩ := ListIs.at hd3; clear hd3; have hC3 : Below X.heap.size X w3 := Below.next (by first | assumption | go_grown) hb3; have hs3 := hC3.size; have hi2 := (hi2.keep hb3).more hb3.size))
  have hld : r.dL.length ≤ 4000 := by rw [dL_len]; omega
  have hlu : r.uL.length ≤ 5000 := by rw [uL_len]; omega
  have hw1 : IntKind.i64.wrap (2 * r.m) = 2 * r.m := IntWalk.i64_in _ (by omega)
  have hw2 : IntKind.i64.wrap (2 * r.m + 1) = 2 * r.m + 1 := IntWalk.i64_in _ (by omega)
  have hA3 := HA.out.keep hC3 HA.out.lt
  have hB3 := Below.step hB1 hB1.size hC3
  clear hb2 hb3 hC2 hs2
  go_wp2
  go_loopw [5] (fun i wr => ∃ q : Nat, q ≤ r.dL.length ∧ i = .int .i64 q ∧ Hid (∀ j, j < q → r.dOk (r.dL.getD j 0) = true) ∧ Below w3.heap.size w3 wr) (fun i _ => r.dL.length - (intOf i).toNat)
  case atStart => exact ⟨0, Nat.zero_le _, rfl, Lib.hid (fun j hj => absurd hj (Nat.not_lt_zero _)), Below.refl _ _⟩
  case round =>
    obtain ⟨q, hq, rfl, hL, hBr⟩ := hrel
    obtain ⟨x0, x1, x2, x3, x4, x5⟩ := (hA3.keep hBr hA3.lt).rbox
    by_cases hlt : q < r.dL.length
    · obtain ⟨a, hA, hab, hcs⟩ := (IntsAt.keep hi2 hBr) (by omega)
      have y0 : wr.cell? (a.add q) = some (.int .i64 (r.dL.getD q 0)) := hcs q hlt
      subst hA
      clear hcs
      obtain ⟨x, hx⟩ : ∃ x, Hid (x = r.dL.getD q 0) := ⟨_, Lib.hid rfl⟩
      rw [← hx.out] at y0
      have hi1 : (0 : Int) ≤ (q : Int) := by omega
      have hi2' : (q : Int) < (r.dL.length : Int) := by omega
      have hcase : (x < 2) ∨ (¬ x < 2 ∧ x % 2 = 1) ∨ (¬ x < 2 ∧ ¬ x % 2 = 1 ∧ 2 * r.m + 1 < x) ∨ (¬ x < 2 ∧ ¬ x % 2 = 1 ∧ ¬ 2 * r.m + 1 < x) := by omega
      rcases hcase with c1 | ⟨c1, c2⟩ | ⟨c1, c2, c3⟩ | ⟨c1, c2, c3⟩
      case inr.inr.inr =>
        have hok : r.dOk x = true := decide_eq_true (by omega)
        have d1 : decide (x < 2) = false := decide_eq_false c1
        have d2 : (x.tmod 2 == 1) = false := by rw [Int.tmod_eq_emod_of_nonneg (by omega)]; exact bq c2
        have d3 : decide (2 * r.m + 1 < x) = false := decide_eq_false c3
        go_wp2
        go_quiet (fail)
        go_wp2
        go_roundw
        case rel => exact ⟨q + 1, by omega, by go_num, Lib.hid (fun j hj => by
          rcases Nat.lt_succ_iff_lt_or_eq.1 hj with h' | h'
          · exact hL.out j h'
          · subst h'; rw [← hx.out]; exact hok), below_dn hBr _⟩
        case measure => simp [intOf]; omega
      all_goals
        have hno : r.dOk x = false := decide_eq_false (by omega)
        have hR : Hid (r.num = false) := by
          show r.num = false
          unfold Rw.num
          rw [all_no (xs := r.dL) (f := r.dOk) hlt (by rw [← hx.out]; exact hno)]
          rfl
      · have d1 : decide (x < 2) = true := decide_eq_true c1
        go_wp2
        go_quiet (fail)
        go_wp2
        go_ret
        exact ⟨Li.ret_bool hR.out.symm, below_dn (Below.step hB3 hB3.size hBr) _⟩
      · have d1 : decide (x < 2) = false := decide_eq_false c1
        have d2 : (x.tmod 2 == 1) = true := by rw [Int.tmod_eq_emod_of_nonneg (by omega)]; exact bt c2
        go_wp2
        go_quiet (fail)
        go_wp2
        go_ret
        exact ⟨Li.ret_bool hR.out.symm, below_dn (Below.step hB3 hB3.size hBr) _⟩
      · have d1 : decide (x < 2) = false := decide_eq_false c1
        have d2 : (x.tmod 2 == 1) = false := by rw [Int.tmod_eq_emod_of_nonneg (by omega)]; exact bq c2
        have d3 : decide (2 * r.m + 1 < x) = true := decide_eq_true c3
        go_wp2
        go_quiet (fail)
        go_wp2
        go_ret
        exact ⟨Li.ret_bool hR.out.symm, below_dn (Below.step hB3 hB3.size hBr) _⟩
    · have hL1 := Lib.hid (all_yes (xs := r.dL) (f := r.dOk) (fun j hj => hL.out j (by omega)))
      obtain ⟨m0, hme⟩ : ∃ m0, m0 = q := ⟨_, rfl⟩
      subst hme
      have hend : ¬ (m0 : Int) < (r.dL.length : Int) := by omega
      have hA4 := hA3.keep hBr hA3.lt
      have hB4 := Below.step hB3 hB3.size hBr
      have hi4 := (IntsAt.keep hi3 hBr).more hBr.size
      have hM4 := ((hM1.to1 hC3).to1 hBr)
      clear hq hlt hL
      obtain ⟨W4, hW4⟩ : ∃ W4, W4 = wr := ⟨_, rfl⟩
      subst hW4
      go_wp2
      go_loopw [6] (fun i wr => ∃ q : Nat, q ≤ r.uL.length ∧ i = .int .i64 q ∧ Hid (∀ j, j < q → r.uOk (r.uL.getD j 0) = true) ∧ Below W4.heap.size W4 wr) (fun i _ => r.uL.length - (intOf i).toNat)
      case atStart => exact ⟨0, Nat.zero_le _, rfl, Lib.hid (fun j hj => absurd hj (Nat.not_lt_zero _)), Below.refl _ _⟩
      case round =>
        clear hBr
        obtain ⟨q, hq, rfl, hL, hBr⟩ := hrel
        obtain ⟨x0, x1, x2, x3, x4, x5⟩ := (hA4.keep hBr hA4.lt).rbox
        by_cases hlt : q < r.uL.length
        · obtain ⟨a, hA, hab, hcs⟩ := (IntsAt.keep hi4 hBr) (by omega)
          have y0 : wr.cell? (a.add q) = some (.int .i64 (r.uL.getD q 0)) := hcs q hlt
          subst hA
          clear hcs
          obtain ⟨x, hx⟩ : ∃ x, Hid (x = r.uL.getD q 0) := ⟨_, Lib.hid rfl⟩
          rw [← hx.out] at y0
          have hi1 : (0 : Int) ≤ (q : Int) := by omega
          have hi2' : (q : Int) < (r.uL.length : Int) := by omega
          have hcase : (x < 0) ∨ (¬ x < 0 ∧ 2 * r.m + 1 < x) ∨ (¬ x < 0 ∧ ¬ 2 * r.m + 1 < x) := by omega
          rcases hcase with c1 | ⟨c1, c3⟩ | ⟨c1, c3⟩
          case inr.inr =>
            have hok : r.uOk x = true := decide_eq_true (by omega)
            have d1 : decide (x < 0) = false := decide_eq_false c1
            have d3 : decide (2 * r.m + 1 < x) = false := decide_eq_false c3
            go_wp2
            go_quiet (fail)
            go_wp2
            go_roundw
            case rel => exact ⟨q + 1, by omega, by go_num, Lib.hid (fun j hj => by
              rcases Nat.lt_succ_iff_lt_or_eq.1 hj with h' | h'
              · exact hL.out j h'
              · subst h'; rw [← hx.out]; exact hok), below_dn hBr _⟩
            case measure => simp [intOf]; omega
          all_goals
            have hno : r.uOk x = false := decide_eq_false (by omega)
            have hR : Hid (r.num = false) := by
              show r.num = false
              unfold Rw.num
              rw [all_no (xs := r.uL) (f := r.uOk) hlt (by rw [← hx.out]; exact hno), Bool.and_false]
              rfl
          · have d1 : decide (x < 0) = true := decide_eq_true c1
            go_wp2
            go_quiet (fail)
            go_wp2
            go_ret
            exact ⟨Li.ret_bool hR.out.symm, below_dn (Below.step hB4 hB4.size hBr) _⟩
          · have d1 : decide (x < 0) = false := decide_eq_false c1
            have d3 : decide (2 * r.m + 1 < x) = true := decide_eq_true c3
            go_wp2
            go_quiet (fail)
            go_wp2
            go_ret
            exact ⟨Li.ret_bool hR.out.symm, below_dn (Below.step hB4 hB4.size hBr) _⟩
        · have hL2 := Lib.hid (all_yes (xs := r.uL) (f := r.uOk) (fun j hj => hL.out j (by omega)))
          obtain ⟨m1, hme⟩ : ∃ m1, m1 = q := ⟨_, rfl⟩
          subst hme
          have hend1 : ¬ (m1 : Int) < (r.uL.length : Int) := by omega
          have hA5 := hA4.keep hBr hA4.lt
          have hB5 := Below.step hB4 hB4.size hBr
          have hM5 := hM4.to1 hBr
          clear hq hlt hL
          obtain ⟨W5, hW5⟩ : ∃ W5, W5 = wr := ⟨_, rfl⟩
          subst hW5
          go_wp2
          go_loopw [7] (fun i wr => ∃ q : Nat, q ≤ r.nl ∧ i = .int .i64 q ∧ Hid (∀ j, j < q → Rw.reOk (r.lb j) = true) ∧ Below W5.heap.size W5 wr) (fun i _ => r.nl - (intOf i).toNat)
          case atStart => exact ⟨0, Nat.zero_le _, rfl, Lib.hid (fun j hj => absurd hj (Nat.not_lt_zero _)), Below.refl _ _⟩
          case round =>
            clear hBr
            obtain ⟨q, hq, rfl, hL, hBr⟩ := hrel
            obtain ⟨x0, x1, x2, x3, x4, x5⟩ := (hA5.keep hBr hA5.lt).rbox
            by_cases hlt : q < r.nl
            · obtain ⟨a, hA, hab, hcs⟩ := (hM5.la.keep hBr) (by omega)
              obtain ⟨y0, y1, y2⟩ := hcs q hlt
              rw [hA] at x2
              clear hcs hA
              have hi1 : (0 : Int) ≤ (q : Int) := by omega
              have hi2' : (q : Int) < (r.nl : Int) := by omega
              have hcase : (r.lb q < 0) ∨ (¬ r.lb q < 0 ∧ 2 < r.lb q) ∨ (¬ r.lb q < 0 ∧ ¬ 2 < r.lb q) := by omega
              rcases hcase with c1 | ⟨c1, c3⟩ | ⟨c1, c3⟩
              case inr.inr =>
                have hok : Rw.reOk (r.lb q) = true := decide_eq_true (by omega)
                go_wp2
                go_roundw
                case rel => exact ⟨q + 1, by omega, by go_num, Lib.hid (fun j hj => by
                  rcases Nat.lt_succ_iff_lt_or_eq.1 hj with h' | h'
                  · exact hL.out j h'
                  · subst h'; exact hok), hBr⟩
                case measure => simp [intOf]; omega
              all_goals
                have hno : Rw.reOk (r.lb q) = false := decide_eq_false (by omega)
                have hR : Hid (r.num = false) := by
                  show r.num = false
                  unfold Rw.num
                  rw [all_no (xs := lst r.lb r.nl) (f := Rw.reOk) (q := q) (by rw [lst_len]; exact hlt) (by rw [List.getD_eq_getElem?_getD, lst_at _ _ _ hlt]; exact hno), Bool.and_false]
                go_wp2
                go_ret
                exact ⟨Li.ret_bool hR.out.symm, Below.step hB5 hB5.size hBr⟩
            · have hL3 := all_yes (xs := lst r.lb r.nl) (f := Rw.reOk) (fun j hj => by rw [lst_len] at hj; rw [List.getD_eq_getElem?_getD, lst_at _ _ _ hj]; exact hL.out j (by omega))
              have hR : Hid (r.num = true) := by
                show r.num = true
                unfold Rw.num
                rw [hL1.out, hL2.out, hL3]; rfl
              obtain ⟨m2, hme⟩ : ∃ m2, m2 = q := ⟨_, rfl⟩
              subst hme
              have hend2 : ¬ (m2 : Int) < (r.nl : Int) := by omega
              clear hq hlt hL hL3
              go_wp2
              go_ret
              exact ⟨Li.ret_bool hR.out.symm, Below.step hB5 hB5.size hBr⟩
end Go.Proofs.YtnkpmcpinicciaaDoor
