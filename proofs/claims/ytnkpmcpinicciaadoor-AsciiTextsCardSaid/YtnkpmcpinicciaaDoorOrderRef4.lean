/- The reference of layer 3: how often each variable is defined. -/
import Derived.Test.YtnkpmcpinicciaaDoorOrderRef3
namespace Go.Proofs.YtnkpmcpinicciaaDoor
open Go.RowKit
set_option linter.unusedVariables false
set_option linter.unusedSimpArgs false

namespace Rw
/-- how often a variable is among the first q defined ones (0 is, once) -/
def tmk (r : Rw) : Nat → Nat → Int
  | 0 => fun v => if v = 0 then 1 else 0
  | q + 1 => fun v => if v = (r.dL.getD q 0 / 2).toNat then tmk r q v + 1 else tmk r q v
theorem tmk_bd (r : Rw) (q v : Nat) : 0 ≤ r.tmk q v ∧ r.tmk q v ≤ q + 1 := by
  induction q with
  | zero => unfold tmk; split <;> omega
  | succ q ih => unfold tmk; split <;> omega
theorem num_d {r : Rw} (h : r.num = true) : ∀ j, j < r.dL.length → 2 ≤ r.dL.getD j 0 ∧ r.dL.getD j 0 % 2 = 0 ∧ r.dL.getD j 0 ≤ 2 * r.m + 1 := by
  intro j hj
  unfold num at h
  simp only [Bool.and_eq_true] at h
  have := List.all_eq_true.1 h.1.1 (r.dL.getD j 0) (by rw [List.getD_eq_getElem?_getD, List.getElem?_eq_getElem hj]; exact List.getElem_mem hj)
  exact of_decide_eq_true this
theorem num_u {r : Rw} (h : r.num = true) : ∀ j, j < r.uL.length → 0 ≤ r.uL.getD j 0 ∧ r.uL.getD j 0 ≤ 2 * r.m + 1 := by
  intro j hj
  unfold num at h
  simp only [Bool.and_eq_true] at h
  have := List.all_eq_true.1 h.1.2 (r.uL.getD j 0) (by rw [List.getD_eq_getElem?_getD, List.getElem?_eq_getElem hj]; exact List.getElem_mem hj)
  exact of_decide_eq_true this
end Rw

theorem setB {w : World} {B : Nat} {A : Option Addr} {n b j : Nat} {f : Nat → Int} (h : IntsAt w B A n f) (hd : ∀ a, A = some a → a.block ≠ b) (v : Value) : IntsAt (w.setCell ⟨b, j, none⟩ v) B A n f := fun hn => by
  obtain ⟨a, e, hl, hc⟩ := h hn
  refine ⟨a, e, hl, fun i hi => ?_⟩
  rw [World.cell?_setCell_other _ _ _ _ (fun e' => hd a e (by have := congrArg Addr.block e'; simpa [add_block] using this.symm))]
  exact hc i hi
/-- the counts, in a row of the call's own -/
def TimesIs (r : Rw) (mn : Nat) (w : World) (e : Ending) (w' : World) : Prop :=
  ∃ g, e = .returned (.slice (some ⟨g, 0, none⟩) (mn + 1) (mn + 1)) ∧ w'.rowIs g 3 (mn + 1) (fun v => .int .i64 (r.tmk r.dL.length v)) ∧ w.heap.size ≤ g ∧ Below w.heap.size w w'

theorem row_set0 (w : World) (n : Nat) (t : TypeId) (g : Nat) (hg : w.heap.size = g) : (w.alloc (.cells ((madeCells #[.int .i64 0] n).setIfInBounds 0 (.int .i64 1)) t)).rowIs g t n (fun v => .int .i64 (if v = 0 then 1 else 0)) := by
  subst hg
  exact ⟨_, heap_alloc_new w _, by rw [Array.size_setIfInBounds]; simp [size_madeCells], fun j hj => by
    rw [Array.getElem?_setIfInBounds]
    by_cases e : 0 = j
    · subst e; simp [size_madeCells, hj]
    · have e' : ¬ j = 0 := fun h => e h.symm
      rw [if_neg e]; simp [madeCells, hj, Nat.mod_one, e']⟩
set_option maxRecDepth 100000 in
set_option maxHeartbeats 2000000 in
theorem oTimes_any (r : Rw) (p : Rp) (w : World) (mn : Nat) (hmn : r.m = mn) (hs : RSm r) (hm : RMem w w.heap.size r p) (hN : RNils r p) (h1 : r.m ≤ 1000) (hnum : r.num = true) :
    Calls Tryd.prog 35 #[rv r p] w (TimesIs r mn w) := by
  have g0 := hs.ni
  have g1 := hs.nl
  have g2 := hs.na
  have hld : r.dL.length ≤ 4000 := by rw [dL_len]; omega
  have hmn1 : mn ≤ 1000 := by omega
  have h0 : 0 ≤ r.m := by omega
  have hw1 : IntKind.i64.wrap (r.m + 1) = r.m + 1 := IntWalk.i64_in _ (by omega)
  have hmk : ∀ w : World, (Instr.makeSlice 22 (.int .i64 (r.m + 1)) (.int .i64 (r.m + 1))).run Tryd.prog w = .ok (.slice (some ⟨w.heap.size, 0, none⟩) (mn + 1) (mn + 1)) (w.alloc (.cells (madeCells #[.int .i64 0] (mn + 1)) 3)) := fun w => by
    have := run_make_row' 22 3 (.int .i64 0) 8 Tryd.underlying22 info_int rfl .i64 .i64 (mn + 1) (by omega) (by omega) w
    rw [hmn]; exact this
  have hd := Lib.hid (Rw.num_d hnum)
  have HM := Lib.hid hmn
  have hR1 : ((w.alloc (.cells #[.int .i64 r.m, .slice p.A1 r.ni p.k1, .slice p.A2 r.nl p.k2, .slice p.A3 r.na p.k3, .slice p.A4 r.nb p.k4, .slice p.A5 r.nc p.k5] 27)).alloc (.cells (madeCells #[.int .i64 0] (mn + 1)) 3)).rowIs (w.heap.size + 1) 3 (mn + 1) (fun v => .int .i64 ((fun _ => 0) v)) := by
    have := World.rowIs_made (w.alloc (.cells #[.int .i64 r.m, .slice p.A1 r.ni p.k1, .slice p.A2 r.nl p.k2, .slice p.A3 r.na p.k3, .slice p.A4 r.nb p.k4, .slice p.A5 r.nc p.k5] 27)) (.int .i64 0) (mn + 1) 3
    simpa using this
  have z1 := hR1.cell (by omega : 0 < mn + 1)
  have z2 := hR1.frozen 0
  have i1 : (0 : Int) < (mn : Int) + 1 := by omega
  clear hmn hnum
  go_enter Tryd.func35, Tryd.ntmps35
  go_wp2_with (first
    | (go_at_call 46; refine (oDefined_any r p _ hs (hm.to (by go_grown) (by go_size)) hN).mono ?_; rintro e w2 ⟨v2, rfl, ho2, hb2⟩; obtain ⟨D, kd, rfl, hi2, hg2⟩ := own_list ho2; have hD : ∀ a, D = some a → w.heap.size + 2 ≤ a.block := (fun a e => by have := hg2 a.block (by rw [e]; rfl); simp at this; omega); clear ho2 hg2; have hz2 : w.heap.size + 1 < w2.heap.size := (by have := hb2.size; simp at this; omega); have hB2 : Below w.heap.size w w2 := Below.step (by go_grown) (by go_size) hb2; have hR2 := (row_set0 (w.alloc (.cells #[.int .i64 r.m, .slice p.A1 r.ni p.k1, .slice p.A2 r.nl p.k2, .slice p.A3 r.na p.k3, .slice p.A4 r.nb p.k4, .slice p.A5 r.nc p.k5] 27)) (mn + 1) 3 (w.heap.size + 1) (by simp)).of_block (hb2.block _ (by simp)))
    | fail)
  clear z1 z2 hR1 hb2
  go_loopw [5] (fun i wr => ∃ q : Nat, q ≤ r.dL.length ∧ i = .int .i64 q ∧ Below w.heap.size w wr ∧ IntsAt wr w2.heap.size D r.dL.length (fun j => r.dL.getD j 0) ∧ wr.rowIs (w.heap.size + 1) 3 (mn + 1) (fun v => .int .i64 (r.tmk q v)) ∧ w2.heap.size ≤ wr.heap.size) (fun i _ => r.dL.length - (intOf i).toNat)
  case atStart => exact ⟨0, Nat.zero_le _, rfl, hB2, hi2, hR2, Nat.le_refl _⟩
  case round =>
    obtain ⟨q, hq, rfl, hBr, hI, hR, hsz⟩ := hrel
    by_cases hlt : q < r.dL.length
    · obtain ⟨a, hA, hab, hcs⟩ := hI (by omega)
      have y0 : wr.cell? (a.add q) = some (.int .i64 (r.dL.getD q 0)) := hcs q hlt
      have hb := hd.out q hlt
      have hne : D = some a := hA
      subst hA
      obtain ⟨x, hx⟩ : ∃ x, Hid (x = r.dL.getD q 0) := ⟨_, Lib.hid rfl⟩
      rw [← hx.out] at y0 hb
      have hm1 := HM.out
      have n1 : (x / 2).toNat < mn + 1 := by omega
      have m1 : 0 ≤ x / 2 := by omega
      have m2 : x / 2 < (mn : Int) + 1 := by omega
      have hx0 : 0 ≤ x := by omega
      have hi1 : (0 : Int) ≤ (q : Int) := by omega
      have hi2' : (q : Int) < (r.dL.length : Int) := by omega
      have z1 := hR.cell n1
      have z2 := hR.frozen (x / 2).toNat
      have tb := r.tmk_bd q (x / 2).toNat
      have w3 : IntKind.i64.wrap (r.tmk q (x / 2).toNat + 1) = r.tmk q (x / 2).toNat + 1 := IntWalk.i64_in _ (by omega)
      have hst : Hid ((fun v => if v = (x / 2).toNat then r.tmk q (x / 2).toNat + 1 else r.tmk q v) = r.tmk (q + 1)) := by
        show _ = _
        funext v
        show _ = if v = (r.dL.getD q 0 / 2).toNat then r.tmk q v + 1 else r.tmk q v
        rw [← hx.out]
        by_cases e : v = (x / 2).toNat
        · rw [if_pos e, if_pos e, e]
        · rw [if_neg e, if_neg e]
      clear hcs hm1 hb
      go_wp2
      go_roundw
      case rel => exact ⟨q + 1, by omega, by go_num, hBr.setCell (by simp) _, setB hI (fun a e => by have := hD a e; omega) _, (hR.set _ _).congr (fun j hj => by have := congrFun hst.out j; (try dsimp only at this); rw [← this]; split <;> rfl), by simp [World.setCell]; omega⟩
      case measure => simp [intOf]; omega
    · obtain ⟨m0, hme⟩ : ∃ m0, Hid (m0 = q) := ⟨_, Lib.hid rfl⟩
      have hqe : Hid (q = r.dL.length) := by show q = _; omega
      have hend : ¬ (q : Int) < (r.dL.length : Int) := by omega
      clear hq hlt
      go_wp2
      go_ret
      exact ⟨_, rfl, by rw [← hqe.out]; exact hR, by omega, hBr⟩
end Go.Proofs.YtnkpmcpinicciaaDoor
