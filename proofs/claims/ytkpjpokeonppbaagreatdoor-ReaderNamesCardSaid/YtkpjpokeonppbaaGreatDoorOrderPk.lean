/- The reference of layer 3: a literal by its new variable. -/
import Derived.Test.YtkpjpokeonppbaaGreatDoorOrderRef6
import Derived.Test.YtkpjpokeonppbaaGreatDoorHeadTail
import Derived.Test.YtkpjpokeonppbaaGreatDoorGatesTwin
import Derived.Test.YtkpjpokeonppbaaGreatDoorGatesAlive
import Derived.Test.YtkpjpokeonppbaaGreatDoorOrderProg9
import Derived.Test.YtkpjpokeonppbaaGreatDoorShelf
import Derived.Laws.CopyRow
import Derived.Lib.SlBuf
import Derived.Test.YtkpjpokeonppbaaGreatDoorOrderRaw
import Derived.Test.YtkpjpokeonppbaaGreatDoorOrderOf
import Derived.Test.YtkpjpokeonppbaaGreatDoorOrderTm
import Derived.Test.YtkpjpokeonppbaaGreatDoorGatesChk
namespace Go.Proofs.YtkpjpokeonppbaaGreatDoor
open Go.RowKit
set_option linter.unusedVariables false
set_option linter.unusedSimpArgs false

set_option maxRecDepth 100000 in
set_option maxHeartbeats 1000000 in
theorem oTold_any (A : Option Addr) (n k : Nat) (f : Nat → Int) (x : Int) (B : Nat) (w : World) (hA0 : IntsAt w B A n f) (h0 : 0 ≤ x) (h1 : x / 2 < n) (hn : n ≤ 2000) (hb : ∀ j, j < n → -1 ≤ f j ∧ f j ≤ 2000) :
    Calls Tryz.prog 61 #[.slice A n k, .int .i64 x] w fun e w' => e = .returned (.int .i64 (2 * f (x / 2).toNat + x % 2)) ∧ Below w.heap.size w w' := by
  obtain ⟨a, hA, hab, hcs⟩ := hA0 (by omega)
  subst hA
  have y0 := hcs (x / 2).toNat (by omega)
  have hb0 := hb (x / 2).toNat (by omega)
  have m1 : 0 ≤ x / 2 := by omega
  have w1 : IntKind.i64.wrap (2 * f (x / 2).toNat) = 2 * f (x / 2).toNat := IntWalk.i64_in _ (by omega)
  have w2 : IntKind.i64.wrap (2 * f (x / 2).toNat + x % 2) = 2 * f (x / 2).toNat + x % 2 := IntWalk.i64_in _ (by omega)
  clear hcs
  go_enter Tryz.func61, Tryz.ntmps61
  go_wp2
  go_ret
  exact ⟨rfl, Below.refl _ _⟩
end Go.Proofs.YtkpjpokeonppbaaGreatDoor

namespace Go.Proofs.YtkpjpokeonppbaaGreatDoor
open Go.RowKit
set_option linter.unusedVariables false
set_option linter.unusedSimpArgs false

namespace Rw
theorem num_i {r : Rw} (h : r.num = true) {j : Nat} (hj : j < r.ni) : 2 ≤ r.ip j ∧ r.ip j ≤ 2 * r.m + 1 := by
  unfold num at h
  simp only [Bool.and_eq_true] at h
  have e := of_decide_eq_true (List.all_eq_true.1 h.1.1 (r.ip j) (by unfold dL; exact List.mem_append_left _ (List.mem_append_left _ (mem_lst.2 ⟨j, hj, rfl⟩))))
  exact ⟨e.1, e.2.2⟩
theorem num_l {r : Rw} (h : r.num = true) {j : Nat} (hj : j < r.nl) : 2 ≤ r.ll j ∧ r.ll j ≤ 2 * r.m + 1 := by
  unfold num at h
  simp only [Bool.and_eq_true] at h
  have e := of_decide_eq_true (List.all_eq_true.1 h.1.1 (r.ll j) (by unfold dL; exact List.mem_append_left _ (List.mem_append_right _ (mem_lst.2 ⟨j, hj, rfl⟩))))
  exact ⟨e.1, e.2.2⟩
theorem oL_i (r : Rw) {k : Nat} (h : k < r.ni) : r.oL.getD k 0 = r.ip k := by
  unfold oL
  rw [List.getD_eq_getElem?_getD, List.append_assoc, List.getElem?_append_left (by rw [lst_len]; exact h), lst_at _ _ _ h]; rfl
theorem oL_l (r : Rw) {k : Nat} (h : k < r.nl) : r.oL.getD (r.ni + k) 0 = r.ll k := by
  unfold oL
  rw [List.getD_eq_getElem?_getD, List.getElem?_append_left (by simp [lst_len]; omega), List.getElem?_append_right (by rw [lst_len]; omega), lst_len, Nat.add_sub_cancel_left, lst_at _ _ _ h]; rfl
theorem oL_g (r : Rw) {k : Nat} (h : k < r.ord.length) : r.oL.getD (r.ni + r.nl + k) 0 = r.gl (r.ord.getD k 0) := by
  unfold oL
  rw [List.getD_eq_getElem?_getD, List.getElem?_append_right (by simp [lst_len]), show r.ni + r.nl + k - (lst r.ip r.ni ++ lst r.ll r.nl).length = k from by simp [lst_len], List.getElem?_map, List.getD_eq_getElem?_getD, List.getElem?_eq_getElem h]
  rfl
theorem oL_len (r : Rw) : r.oL.length = r.ni + r.nl + r.ord.length := by simp [oL, lst_len]; omega
theorem nwk_step (r : Rw) (k : Nat) (x : Int) (hx : r.oL.getD k 0 = x) (h0 : 0 ≤ x) (j : Nat) : (if j = (x / 2).toNat then Value.int .i64 ((k : Int) + 1) else .int .i64 (r.nwk k (j : Int))) = .int .i64 (r.nwk (k + 1) (j : Int)) := by
  show _ = Value.int .i64 (if (j : Int) = r.oL.getD k 0 / 2 then ((k : Int) + 1) else r.nwk k (j : Int))
  rw [hx]
  by_cases e : j = (x / 2).toNat
  · rw [if_pos e, if_pos (by omega)]
  · rw [if_neg e, if_neg (by omega)]
end Rw

/-- the new variables, in a row of the call's own -/
def NumsIs (r : Rw) (mn : Nat) (w : World) (e : Ending) (w' : World) : Prop :=
  ∃ g, e = .returned (.slice (some ⟨g, 0, none⟩) (mn + 1) (mn + 1)) ∧ w'.rowIs g 3 (mn + 1) (fun v => .int .i64 (r.nw v)) ∧ w.heap.size ≤ g ∧ Below w.heap.size w w'

set_option maxRecDepth 100000 in
set_option maxHeartbeats 4000000 in
theorem oNums_any (r : Rw) (p : Rp) (w : World) (mn : Nat) (hmn : r.m = mn) (hs : RSm r) (hm : RMem w w.heap.size r p) (h1 : r.m ≤ 1000) (hnum : r.num = true) :
    Calls Tryz.prog 60 #[rv r p] w (NumsIs r mn w) := by
  have g0 := hs.ni
  have g1 := hs.nl
  have g2 := hs.na
  have hmn1 : mn ≤ 1000 := by omega
  have h0 : 0 ≤ r.m := by omega
  have hw1 : IntKind.i64.wrap (r.m + 1) = r.m + 1 := IntWalk.i64_in _ (by omega)
  have hmk : ∀ w : World, (Instr.makeSlice 23 (.int .i64 (r.m + 1)) (.int .i64 (r.m + 1))).run Tryz.prog w = .ok (.slice (some ⟨w.heap.size, 0, none⟩) (mn + 1) (mn + 1)) (w.alloc (.cells (madeCells #[.int .i64 0] (mn + 1)) 3)) := fun w => by
    have := run_make_row' 23 3 (.int .i64 0) 8 Tryz.underlying23 info_int rfl .i64 .i64 (mn + 1) (by omega) (by omega) w
    rw [hmn]; exact this
  have hgi := Lib.hid (fun j (hj : j < r.ni) => Rw.num_i hnum hj)
  have hgl := Lib.hid (fun j (hj : j < r.nl) => Rw.num_l hnum hj)
  have hgg := Lib.hid (fun j (hj : j < r.na) => Rw.num_g hnum hj)
  have HM := Lib.hid hmn
  have HN := Lib.hid hnum
  have hH1 : Has ((w.alloc (.cells (rc r p) 26)).alloc (.cells (madeCells #[.int .i64 0] (mn + 1)) 3)) w.heap.size 26 (rc r p) := (Has.new _ _ _).al _
  have hR1 : ((w.alloc (.cells (rc r p) 26)).alloc (.cells (madeCells #[.int .i64 0] (mn + 1)) 3)).rowIs (w.heap.size + 1) 3 (mn + 1) (fun v => .int .i64 (if v = 0 then 0 else if v < 1 then -1 else 0)) := by
    have := World.rowIs_made (w.alloc (.cells (rc r p) 26)) (.int .i64 0) (mn + 1) 3
    have h2 : ((w.alloc (.cells (rc r p) 26)).alloc (.cells (madeCells #[.int .i64 0] (mn + 1)) 3)).rowIs (w.heap.size + 1) 3 (mn + 1) (fun v => .int .i64 0) := by simpa using this
    exact h2.congr (fun j hj => by by_cases e : j = 0 <;> simp [e])
  have hB1 : Below w.heap.size w ((w.alloc (.cells (rc r p) 26)).alloc (.cells (madeCells #[.int .i64 0] (mn + 1)) 3)) := by go_grown
  clear hmn hnum
  go_enter Tryz.func60, Tryz.ntmps60
  go_wp2
  go_loopw [4] (fun i wr => ∃ q : Nat, 1 ≤ q ∧ q ≤ mn + 1 ∧ i = .int .i64 q ∧ Has wr w.heap.size 26 (rc r p) ∧ wr.rowIs (w.heap.size + 1) 3 (mn + 1) (fun v => .int .i64 (if v = 0 then 0 else if v < q then -1 else 0)) ∧ Below w.heap.size w wr) (fun i _ => mn + 1 - (intOf i).toNat)
  case atStart => exact ⟨1, Nat.le_refl _, by omega, rfl, hH1, hR1, hB1⟩
  case round =>
    clear hH1 hR1 hB1
    obtain ⟨q, hq1, hq, rfl, hH, hR, hBr⟩ := hrel
    obtain ⟨x0, x1, x2, x3, x4, x5⟩ := hH.rbox
    have hHl := hH.lt
    by_cases hlt : q < mn + 1
    · have c1 : (q : Int) ≤ r.m := by have := HM.out; omega
      have c2 : (q : Int) < (mn : Int) + 1 := by omega
      have z1 := hR.cell hlt
      have z2 := hR.frozen q
      go_wp2
      go_roundw
      case rel => exact ⟨q + 1, by omega, by omega, by go_num, hH.far (by simp) _, (hR.set _ _).congr (fun j hj => by
        by_cases e : j = q
        · subst e; rw [if_pos rfl, if_neg (by omega), if_pos (by omega)]
        · rw [if_neg e]
          by_cases e0 : j = 0
          · rw [if_pos e0, if_pos e0]
          · rw [if_neg e0, if_neg e0]
            by_cases e1 : j < q
            · rw [if_pos e1, if_pos (by omega)]
            · rw [if_neg e1, if_neg (by omega)]), hBr.setCell (by simp) _⟩
      case measure => simp [intOf]; omega
    · have c1 : ¬ (q : Int) ≤ r.m := by have := HM.out; omega
      have hR0 : wr.rowIs (w.heap.size + 1) 3 (mn + 1) (fun v => .int .i64 (r.nwk 0 (v : Int))) := hR.congr (fun j hj => by
        show _ = Value.int .i64 (if (j : Int) = 0 then 0 else -1)
        by_cases e0 : j = 0
        · rw [if_pos e0, if_pos (by omega)]
        · rw [if_neg e0, if_pos (show j < q by omega), if_neg (by omega)])
      clear hq hlt hR hq1
      go_wp2
      go_loopw [5, 6] (fun u i wr => ∃ q : Nat, q ≤ r.ni ∧ i = .int .i64 q ∧ u = .int .i64 ((q : Int) + 1) ∧ Has wr w.heap.size 26 (rc r p) ∧ wr.rowIs (w.heap.size + 1) 3 (mn + 1) (fun v => .int .i64 (r.nwk q (v : Int))) ∧ Below w.heap.size w wr) (fun _ i _ => r.ni - (intOf i).toNat)
      case atStart => exact ⟨0, Nat.zero_le _, rfl, by simp, hH, hR0, hBr⟩
      case round =>
        clear hH hR0 hBr
        obtain ⟨q, hq, rfl, rfl, hH, hR, hBr⟩ := hrel
        obtain ⟨x0, x1, x2, x3, x4, x5⟩ := hH.rbox
        have hHl := hH.lt
        by_cases hlt : q < r.ni
        · obtain ⟨a, hA, hab, hcs⟩ := (hm.ip.keep hBr) (by omega)
          have y0 := hcs q hlt
          obtain ⟨e1, e2⟩ := hgi.out q hlt
          have hm1 := HM.out
          have n1 : (r.ip q / 2).toNat < mn + 1 := by omega
          have m1 : 0 ≤ r.ip q / 2 := by omega
          have m2 : r.ip q / 2 < (mn : Int) + 1 := by omega
          have m3 : 0 ≤ r.ip q := by omega
          have z1 := hR.cell n1
          have z2 := hR.frozen (r.ip q / 2).toNat
          have hst := Lib.hid (r.nwk_step q (r.ip q) (r.oL_i hlt) m3)
          rw [hA] at x1
          clear hcs hA hm1
          go_wp2
          go_roundw
          case rel => exact ⟨q + 1, by omega, by go_num, by go_num, hH.far (by simp) _, (hR.set _ _).congr (fun j hj => hst.out j), hBr.setCell (by simp) _⟩
          case measure => simp [intOf]; omega
        · have c2 : ¬ (q : Int) < (r.ni : Int) := by omega
          obtain ⟨m0, hme⟩ : ∃ m0, m0 = q := ⟨_, rfl⟩
          subst hme
          have hq0 : Hid (m0 = r.ni) := by show m0 = _; omega
          have hR0 : wr.rowIs (w.heap.size + 1) 3 (mn + 1) (fun v => .int .i64 (r.nwk (r.ni + 0) (v : Int))) := by rw [Nat.add_zero, ← hq0.out]; exact hR
          clear hq hlt hR
          go_wp2
          go_loopw [5, 7] (fun u i wr => ∃ q : Nat, q ≤ r.nl ∧ i = .int .i64 q ∧ u = .int .i64 ((m0 : Int) + q + 1) ∧ Has wr w.heap.size 26 (rc r p) ∧ wr.rowIs (w.heap.size + 1) 3 (mn + 1) (fun v => .int .i64 (r.nwk (r.ni + q) (v : Int))) ∧ Below w.heap.size w wr) (fun _ i _ => r.nl - (intOf i).toNat)
          case atStart => exact ⟨0, Nat.zero_le _, rfl, by simp, hH, hR0, hBr⟩
          case round =>
            clear hH hR0 hBr
            obtain ⟨q, hq, rfl, rfl, hH, hR, hBr⟩ := hrel
            obtain ⟨x0, x1, x2, x3, x4, x5⟩ := hH.rbox
            have hHl := hH.lt
            by_cases hlt : q < r.nl
            · obtain ⟨a, hA, hab, hcs⟩ := (hm.la.keep hBr) (by omega)
              obtain ⟨y0, y1, y2⟩ := hcs q hlt
              obtain ⟨e1, e2⟩ := hgl.out q hlt
              have hm1 := HM.out
              have n1 : (r.ll q / 2).toNat < mn + 1 := by omega
              have m1 : 0 ≤ r.ll q / 2 := by omega
              have m2 : r.ll q / 2 < (mn : Int) + 1 := by omega
              have m3 : 0 ≤ r.ll q := by omega
              have z1 := hR.cell n1
              have z2 := hR.frozen (r.ll q / 2).toNat
              have hst := Lib.hid (r.nwk_step (r.ni + q) (r.ll q) (r.oL_l hlt) m3)
              have hcast := Lib.hid (show ((r.ni + q : Nat) : Int) = (m0 : Int) + q from by have := hq0.out; omega)
              have hw5 : IntKind.i64.wrap ((m0 : Int) + q + 1 + 1) = (m0 : Int) + q + 1 + 1 := IntWalk.i64_in _ (by have := hq0.out; omega)
              rw [hA] at x2
              clear hcs hA hm1
              go_wp2
              go_roundw
              case rel => exact ⟨q + 1, by omega, by go_num, by go_num, hH.far (by simp) _, (hR.set _ _).congr (fun j hj => by have h := hst.out j; rw [hcast.out] at h; exact h), hBr.setCell (by simp) _⟩
              case measure => simp [intOf]; omega
            · have c3 : ¬ (q : Int) < (r.nl : Int) := by omega
              obtain ⟨m9, hme⟩ : ∃ m9, m9 = q := ⟨_, rfl⟩
              subst hme
              have hq9 : Hid (m9 = r.nl) := by show m9 = _; omega
              have hol : r.ord.length ≤ r.na := Rw.ord_len
              have hR0 : wr.rowIs (w.heap.size + 1) 3 (mn + 1) (fun v => .int .i64 (r.nwk (r.ni + r.nl + 0) (v : Int))) := by rw [Nat.add_zero, ← hq9.out]; exact hR
              clear hq hlt hR
              go_wp2_with (first
                | (go_at_call 47; refine (oOrder_any r p _ mn HM.out hs (hm.to hBr hBr.size) (by omega) HN.out).mono ?_; rintro e w5 ⟨v5, rfl, ho5, hb5⟩; obtain ⟨U, ku, rfl, hi5, hg5⟩ := own_list ho5; have hUb : ∀ a, U = some a → wr.heap.size ≤ a.block := (fun a e => hg5 a.block (by rw [e]; rfl)); clear ho5 hg5; have hB5 := Below.step hBr hBr.size hb5; have hH5 := hH.keep hb5 hH.lt; have hR5 := hR0.of_block (hb5.block _ hR0.lt))
                | fail)
              have hrl := hR0.lt
              rw [nL_len] at hi5 ⊢
              go_loopw [5, 9] (fun u i wr => ∃ q : Nat, q ≤ r.ord.length ∧ i = .int .i64 q ∧ u = .int .i64 ((m0 : Int) + m9 + q + 1) ∧ Has wr w.heap.size 26 (rc r p) ∧ wr.rowIs (w.heap.size + 1) 3 (mn + 1) (fun v => .int .i64 (r.nwk (r.ni + r.nl + q) (v : Int))) ∧ Below w.heap.size w wr ∧ IntsAt wr w5.heap.size U r.ord.length (fun j => (nL r.ord).getD j 0)) (fun _ i _ => r.ord.length - (intOf i).toNat)
              case atStart => exact ⟨0, Nat.zero_le _, rfl, by simp, hH5, hR5, hB5, hi5⟩
              case round =>
                clear hH hR0 hBr hH5 hR5 hB5
                obtain ⟨q, hq, rfl, rfl, hH, hR, hBr, hI⟩ := hrel
                obtain ⟨x0, x1, x2, x3, x4, x5⟩ := hH.rbox
                have hHl := hH.lt
                by_cases hlt : q < r.ord.length
                · obtain ⟨n, hn⟩ : ∃ n, Hid (n = r.ord.getD q 0) := ⟨_, Lib.hid rfl⟩
                  have hna : n < r.na := by rw [hn.out]; exact Rw.ord_at hlt
                  obtain ⟨u, hU, hub, huc⟩ := hI (by omega)
                  have v0 : wr.cell? (u.add q) = some (.int .i64 (n : Int)) := by
                    rw [huc q hlt, hn.out]
                    simp [nL, List.getD_eq_getElem?_getD, List.getElem?_eq_getElem hlt]
                  obtain ⟨a, hA, hab, hcs⟩ := (hm.an.keep hBr) (by omega)
                  obtain ⟨y0, y1, y2⟩ := hcs n hna
                  obtain ⟨⟨e1, e2⟩, _, _⟩ := hgg.out n hna
                  have hm1 := HM.out
                  have i1 : (0 : Int) ≤ (q : Int) := by omega
                  have i2 : (q : Int) < (r.ord.length : Int) := by omega
                  have i3 : (0 : Int) ≤ (n : Int) := by omega
                  have i4 : (n : Int) < (r.na : Int) := by omega
                  have n1 : (r.gl n / 2).toNat < mn + 1 := by omega
                  have m1 : 0 ≤ r.gl n / 2 := by omega
                  have m2 : r.gl n / 2 < (mn : Int) + 1 := by omega
                  have m3 : 0 ≤ r.gl n := by omega
                  have z1 := hR.cell n1
                  have z2 := hR.frozen (r.gl n / 2).toNat
                  have hst := Lib.hid (r.nwk_step (r.ni + r.nl + q) (r.gl n) (by rw [r.oL_g hlt, ← hn.out]) m3)
                  have hcast := Lib.hid (show ((r.ni + r.nl + q : Nat) : Int) = (m0 : Int) + m9 + q from by have := hq0.out; have := hq9.out; omega)
                  have hw5 : IntKind.i64.wrap ((m0 : Int) + m9 + q + 1 + 1) = (m0 : Int) + m9 + q + 1 + 1 := IntWalk.i64_in _ (by have := hq0.out; have := hq9.out; omega)
                  have hI2 := setB (b := w.heap.size + 1) (j := (r.gl n / 2).toNat) hI (fun a e => by have := hUb a e; omega)
                  rw [hA] at x3
                  subst hU
                  clear hcs huc hA hm1
                  go_wp2
                  go_region
                  go_wp2
                  go_roundw
                  case rel => exact ⟨q + 1, by omega, by go_num, by go_num, hH.far (by simp) _, (hR.set _ _).congr (fun j hj => by have h := hst.out j; rw [hcast.out] at h; exact h), below_dn (hBr.setCell (by simp) _) 1, hI2 _⟩
                  case measure => simp [intOf]; omega
                · have c4 : ¬ (q : Int) < (r.ord.length : Int) := by omega
                  have hq5 : Hid (q = r.ord.length) := by show q = _; omega
                  clear hq hlt
                  go_wp2
                  go_ret
                  exact ⟨_, rfl, by unfold Rw.nw; rw [Rw.oL_len, ← hq5.out]; exact hR, by omega, hBr⟩
end Go.Proofs.YtkpjpokeonppbaaGreatDoor

namespace Go.Proofs.YtkpjpokeonppbaaGreatDoor
open Go.RowKit
set_option linter.unusedVariables false
set_option linter.unusedSimpArgs false

theorem nodup_le : ∀ (m : Nat) (l : List Nat), l.Nodup → (∀ i ∈ l, i < m) → l.length ≤ m
  | 0, l, _, h => by
    cases l with
    | nil => exact Nat.le_refl _
    | cons a l => exact absurd (h a (by simp)) (Nat.not_lt_zero _)
  | m + 1, l, hn, h => by
    by_cases hm : m ∈ l
    · have h1 := nodup_le m (l.erase m) (hn.erase m) (fun i hi => by
        have h2 := (List.Nodup.mem_erase_iff hn).1 hi
        have := h i h2.2
        have := h2.1
        omega)
      rw [List.length_erase_of_mem hm] at h1
      omega
    · have := nodup_le m l hn (fun i hi => by
        have h1 := h i hi
        have h2 : i ≠ m := fun e => hm (e ▸ hi)
        omega)
      omega
namespace Rw
variable {r : Rw}
theorem st_nodup : ∀ k, (r.st k).2.Nodup ∧ ∀ i ∈ (r.st k).2, (r.st k).1 (r.gl i / 2) = true
  | 0 => ⟨List.nodup_nil, fun i hi => by cases hi⟩
  | k + 1 => by
    obtain ⟨h1, h2⟩ := st_nodup k
    by_cases hf : r.fnd (r.st k).1 < r.na
    · rw [st_go hf]
      have hm := fnd_may hf
      generalize r.fnd (r.st k).1 = f at hm hf
      unfold may at hm
      simp only [Bool.and_eq_true, Bool.not_eq_true'] at hm
      have hnot : f ∉ (r.st k).2 := fun hi => by rw [h2 f hi] at hm; exact absurd hm.1.1 (by decide)
      refine ⟨?_, fun i hi => ?_⟩
      · show ((r.st k).2 ++ [f]).Nodup
        rw [List.nodup_append]
        exact ⟨h1, by simp, fun a ha b hb => by rw [List.mem_singleton.1 hb]; exact fun e => hnot (e ▸ ha)⟩
      · show (if r.gl i / 2 = r.gl f / 2 then true else (r.st k).1 (r.gl i / 2)) = true
        have hi : i ∈ (r.st k).2 ++ [f] := hi
        rw [List.mem_append] at hi
        rcases hi with hi | hi
        · rw [h2 i hi]; split <;> rfl
        · rw [List.mem_singleton.1 hi, if_pos rfl]
    · rw [st, if_neg hf]
      exact ⟨h1, h2⟩
theorem ord_all (h : r.chk = 0) : r.ord.length = r.na ∧ ∀ i, i < r.na → ∃ j, j < r.ord.length ∧ r.ord.getD j 0 = i := by
  have hl : ¬ r.ord.length < r.na := by
    intro hlt
    unfold chk at h
    split at h
    · omega
    · split at h
      · omega
      · split at h
        · omega
        · split at h
          · omega
          · split at h
            · omega
            · first | omega | (rw [if_pos hlt] at h; omega)
  have hn := (st_nodup (r := r) r.na).1
  have hle := ord_len (r := r)
  refine ⟨by omega, fun i hi => ?_⟩
  have hmem : i ∈ r.ord := by
    refine Classical.byContradiction fun hno => ?_
    have := nodup_le r.na (i :: r.ord) (List.nodup_cons.2 ⟨hno, hn⟩) (fun a ha => by
      rcases List.mem_cons.1 ha with e | e
      · rw [e]; exact hi
      · exact ord_lt a e)
    rw [List.length_cons] at this
    omega
  obtain ⟨j, hj, e⟩ := List.getElem_of_mem hmem
  exact ⟨j, hj, by rw [List.getD_eq_getElem?_getD, List.getElem?_eq_getElem hj]; exact e⟩
theorem nwk_bd : ∀ k v, -1 ≤ r.nwk k v ∧ r.nwk k v ≤ k
  | 0, v => by
    show -1 ≤ (if v = 0 then (0 : Int) else -1) ∧ (if v = 0 then (0 : Int) else -1) ≤ 0
    split <;> omega
  | k + 1, v => by
    have := nwk_bd k v
    show -1 ≤ (if v = r.oL.getD k 0 / 2 then (k : Int) + 1 else r.nwk k v) ∧ (if v = r.oL.getD k 0 / 2 then (k : Int) + 1 else r.nwk k v) ≤ ((k + 1 : Nat) : Int)
    split <;> omega
theorem nwk_pos : ∀ k v, (∃ j, j < k ∧ r.oL.getD j 0 / 2 = v) → 1 ≤ r.nwk k v
  | 0, v, ⟨j, hj, _⟩ => absurd hj (Nat.not_lt_zero _)
  | k + 1, v, ⟨j, hj, e⟩ => by
    show 1 ≤ (if v = r.oL.getD k 0 / 2 then (k : Int) + 1 else r.nwk k v)
    by_cases h : v = r.oL.getD k 0 / 2
    · rw [if_pos h]; omega
    · rw [if_neg h]
      refine nwk_pos k v ⟨j, ?_, e⟩
      have : j ≠ k := fun ek => h (by rw [← ek, e])
      omega
theorem nwk_nul : ∀ k, (∀ j, j < k → 1 ≤ r.oL.getD j 0 / 2) → r.nwk k 0 = 0
  | 0, _ => rfl
  | k + 1, h => by
    show (if (0 : Int) = r.oL.getD k 0 / 2 then (k : Int) + 1 else r.nwk k 0) = 0
    have := h k (by omega)
    rw [if_neg (by omega)]
    exact nwk_nul k fun j hj => h j (by omega)
theorem chk_parts (h : r.chk = 0) : 0 ≤ r.m ∧ r.big = false ∧ r.num = true ∧ r.opn = false := by
  unfold chk at h
  split at h
  · omega
  · split at h
    · omega
    · split at h
      · omega
      · split at h
        · omega
        · split at h
          · omega
          · exact ⟨by omega, by simpa using ‹¬ r.big = true›, by simpa using ‹¬ r.num = false›, by simpa using ‹¬ r.opn = true›⟩
theorem oL_big (hnum : r.num = true) (j : Nat) (hj : j < r.oL.length) : 2 ≤ r.oL.getD j 0 ∧ r.oL.getD j 0 ≤ 2 * r.m + 1 := by
  rw [oL_len] at hj
  rcases Nat.lt_or_ge j r.ni with h1 | h1
  · rw [oL_i r h1]; exact num_i hnum h1
  · rcases Nat.lt_or_ge j (r.ni + r.nl) with h2 | h2
    · have e := oL_l r (k := j - r.ni) (by omega)
      rw [show r.ni + (j - r.ni) = j by omega] at e
      rw [e]; exact num_l hnum (by omega)
    · have e := oL_g r (k := j - r.ni - r.nl) (by omega)
      rw [show r.ni + r.nl + (j - r.ni - r.nl) = j by omega] at e
      rw [e]; exact (num_g hnum (ord_at (by omega))).1
/-- what is used has a new variable -/
theorem used_nw (h : r.chk = 0) {x : Int} (hx : x ∈ r.uL) : 0 ≤ x ∧ x ≤ 2 * r.m + 1 ∧ 0 ≤ r.nw (x / 2) ∧ r.nw (x / 2) ≤ 1000 := by
  obtain ⟨h0, hb, hnum, ho⟩ := chk_parts h
  have hub := nwk_bd (r := r) r.oL.length (x / 2)
  obtain ⟨hol, hor⟩ := ord_all h
  have hlen := oL_len r
  have hbig := of_decide_eq_false hb
  have hn2 := hnum
  unfold num at hn2
  simp only [Bool.and_eq_true] at hn2
  have hu := of_decide_eq_true (List.all_eq_true.1 hn2.1.2 x hx)
  unfold opn at ho
  rw [List.any_eq_false] at ho
  have hxo := ho x hx
  simp only [decide_eq_true_eq] at hxo
  refine ⟨hu.1, hu.2, ?_, ?_⟩
  · by_cases e0 : x / 2 = 0
    · rw [e0]
      unfold nw
      rw [nwk_nul r.oL.length fun j hj => by have := oL_big hnum j hj; omega]
      exact Int.le_refl _
    · have hm : x / 2 ∈ r.dL.map (· / 2) := Classical.byContradiction fun hno => hxo ⟨e0, hno⟩
      obtain ⟨y, hy, ey⟩ := List.mem_map.1 hm
      have hj : ∃ j, j < r.oL.length ∧ r.oL.getD j 0 / 2 = x / 2 := by
        unfold dL at hy
        simp only [List.mem_append] at hy
        rcases hy with (hy | hy) | hy
        · obtain ⟨j, hj, rfl⟩ := mem_lst.1 hy
          exact ⟨j, by omega, by rw [oL_i r hj]; exact ey⟩
        · obtain ⟨j, hj, rfl⟩ := mem_lst.1 hy
          exact ⟨r.ni + j, by omega, by rw [oL_l r hj]; exact ey⟩
        · obtain ⟨i, hi, rfl⟩ := mem_lst.1 hy
          obtain ⟨j, hj, e⟩ := hor i hi
          exact ⟨r.ni + r.nl + j, by omega, by rw [oL_g r hj, e]; exact ey⟩
      have := nwk_pos r.oL.length (x / 2) hj
      unfold nw
      omega
  · unfold nw
    omega
end Rw
end Go.Proofs.YtkpjpokeonppbaaGreatDoor

namespace Go.Proofs.YtkpjpokeonppbaaGreatDoor
open Go Go.RowKit
set_option linter.unusedVariables false
set_option linter.unusedSimpArgs false

section
variable {P : Program} {ops : Array Oper} {Q : Exit → Act → World → Prop} {md : Region.Mode} {S : World → Prop} {n : Nat}
/-- three, two, one that may come up -/
theorem wt_ways3 (i j k : Nat) {fuel : Nat} {listed : Array Bool} {a : Act} {w : World} (hr : Region.ready md ops listed = [i, j, k])
    (hi : wpOp P ops Q i (fun a' w' => (i < n → S w') ∧ WT P md ops Q S n fuel (listed.setIfInBounds i true) a' w') a w)
    (hj : wpOp P ops Q j (fun a' w' => (j < n → S w') ∧ WT P md ops Q S n fuel (listed.setIfInBounds j true) a' w') a w)
    (hk : wpOp P ops Q k (fun a' w' => (k < n → S w') ∧ WT P md ops Q S n fuel (listed.setIfInBounds k true) a' w') a w) : WT P md ops Q S n (fuel + 1) listed a w :=
  ⟨fun h0 => (by rw [hr] at h0; cases h0), fun x hx => by
    rw [hr] at hx
    rcases List.mem_cons.1 hx with rfl | hx
    · exact wpOp_mono (fun a' w' h' => ⟨h'.1, h'.2.h⟩) hi
    rcases List.mem_cons.1 hx with rfl | hx
    · exact wpOp_mono (fun a' w' h' => ⟨h'.1, h'.2.h⟩) hj
    obtain rfl : x = k := by simpa using hx
    exact wpOp_mono (fun a' w' h' => ⟨h'.1, h'.2.h⟩) hk⟩
theorem wt_ways2 (i j : Nat) {fuel : Nat} {listed : Array Bool} {a : Act} {w : World} (hr : Region.ready md ops listed = [i, j])
    (hi : wpOp P ops Q i (fun a' w' => (i < n → S w') ∧ WT P md ops Q S n fuel (listed.setIfInBounds i true) a' w') a w)
    (hj : wpOp P ops Q j (fun a' w' => (j < n → S w') ∧ WT P md ops Q S n fuel (listed.setIfInBounds j true) a' w') a w) : WT P md ops Q S n (fuel + 1) listed a w :=
  ⟨fun h0 => (by rw [hr] at h0; cases h0), fun x hx => by
    rw [hr] at hx
    rcases List.mem_cons.1 hx with rfl | hx
    · exact wpOp_mono (fun a' w' h' => ⟨h'.1, h'.2.h⟩) hi
    obtain rfl : x = j := by simpa using hx
    exact wpOp_mono (fun a' w' h' => ⟨h'.1, h'.2.h⟩) hj⟩
/-- one of several: a call, and one that makes memory -/
theorem wb_call (i s : Nat) {oi : Oper} {d : Nat} {f : FuncId} {args : Array Value} {u : Value} {fuel : Nat} {listed : Array Bool} {a : Act} {w : World} (hi : opAt ops.toList i = some oi) (hd : oi.dst = some d)
    (hw : Region.wanted oi (yielded ops a.tmps) = true) (h1 : Slot a s u) (he : ∀ ev : Operand → Value, (∀ x, ev (.const x) = x) → (∀ f, ev (.func f) = .func (.func f) #[] #[]) → ev (.tmp s) = u → (execOp ev oi).run P w = .ok (.enter f args) w)
    (h : Calls P f args w fun e w' => ∃ v, e = .returned v ∧ (i < n → S w') ∧ WT P md ops Q S n fuel (listed.setIfInBounds i true) (a.put (some d) v) w') : wpOp P ops Q i (fun a' w' => (i < n → S w') ∧ WT P md ops Q S n fuel (listed.setIfInBounds i true) a' w') a w := by
  refine wpOp_go (opAt_spec hi) hw fun K hK => ?_
  show oi.upon P a K Q _
  rw [he _ (fun _ => rfl) (fun _ => rfl) h1.eval, Oper.upon_enter]
  refine h.mono fun e w' => ?_
  rintro ⟨v, rfl, h1, h2⟩
  have h3 := hK _ _ ⟨h1, h2⟩
  show K (a.put oi.dst v) w'
  rw [hd]; exact h3
theorem wb_val (i : Nat) {oi : Oper} {d : Nat} {v : Value} {fuel : Nat} {listed : Array Bool} {a : Act} {w w' : World} (hi : opAt ops.toList i = some oi) (hd : oi.dst = some d)
    (hw : Region.wanted oi (yielded ops a.tmps) = true) (he : ∀ ev : Operand → Value, (∀ x, ev (.const x) = x) → (execOp ev oi).run P w = .ok (.value v) w')
    (h : ∀ W1, w' = W1 → (i < n → S W1) ∧ WT P md ops Q S n fuel (listed.setIfInBounds i true) (a.put (some d) v) W1) : wpOp P ops Q i (fun a' w' => (i < n → S w') ∧ WT P md ops Q S n fuel (listed.setIfInBounds i true) a' w') a w := by
  refine wpOp_go (opAt_spec hi) hw fun K hK => ?_
  show oi.upon P a K Q _
  rw [he _ (fun _ => rfl), Oper.upon_value, hd]
  exact hK _ _ (h _ rfl)
theorem wb_act2 (i s t : Nat) {oi : Oper} {u x : Value} {fuel : Nat} {listed : Array Bool} {a : Act} {w w' : World} (hi : opAt ops.toList i = some oi) (hd : oi.dst = none)
    (hw : Region.wanted oi (yielded ops a.tmps) = true) (h1 : Slot a s u) (h2 : Slot a t x) (he : ∀ ev : Operand → Value, (∀ x, ev (.const x) = x) → ev (.tmp s) = u → ev (.tmp t) = x → (execOp ev oi).run P w = .ok .skip w')
    (h : ∀ W1, w' = W1 → (i < n → S W1) ∧ WT P md ops Q S n fuel (listed.setIfInBounds i true) a W1) : wpOp P ops Q i (fun a' w' => (i < n → S w') ∧ WT P md ops Q S n fuel (listed.setIfInBounds i true) a' w') a w := by
  refine wpOp_go (opAt_spec hi) hw fun K hK => ?_
  show oi.upon P a K Q _
  rw [he _ (fun _ => rfl) h1.eval h2.eval, Oper.upon_skip, hd]
  exact hK _ _ (h _ rfl)
end

theorem wb_act1 {P : Program} {ops : Array Oper} {Q : Exit → Act → World → Prop} {md : Region.Mode} {S : World → Prop} {n : Nat} (i s : Nat) {oi : Oper} {u : Value} {fuel : Nat} {listed : Array Bool} {a : Act} {w w' : World} (hi : opAt ops.toList i = some oi) (hd : oi.dst = none)
    (hw : Region.wanted oi (yielded ops a.tmps) = true) (h1 : Slot a s u) (he : ∀ ev : Operand → Value, (∀ x, ev (.const x) = x) → ev (.tmp s) = u → (execOp ev oi).run P w = .ok .skip w')
    (h : ∀ W1, w' = W1 → (i < n → S W1) ∧ WT P md ops Q S n fuel (listed.setIfInBounds i true) a W1) : wpOp P ops Q i (fun a' w' => (i < n → S w') ∧ WT P md ops Q S n fuel (listed.setIfInBounds i true) a' w') a w := by
  refine wpOp_go (opAt_spec hi) hw fun K hK => ?_
  show oi.upon P a K Q _
  rw [he _ (fun _ => rfl) h1.eval, Oper.upon_skip, hd]
  exact hK _ _ (h _ rfl)

theorem Has.z5 {w : World} {b : Nat} (h : Has w b 41 zc) : (w.cell? ⟨b, 0, none⟩ = some (.int .i64 0) ∧ w.cell? ⟨b, 1, none⟩ = some (.slice none 0 0) ∧ w.cell? ⟨b, 2, none⟩ = some (.slice none 0 0) ∧ w.cell? ⟨b, 3, none⟩ = some (.slice none 0 0) ∧ w.cell? ⟨b, 4, none⟩ = some (.slice none 0 0)) ∧
    w.frozen? ⟨b, 0, none⟩ = false ∧ w.frozen? ⟨b, 1, none⟩ = false ∧ w.frozen? ⟨b, 2, none⟩ = false ∧ w.frozen? ⟨b, 3, none⟩ = false ∧ w.frozen? ⟨b, 4, none⟩ = false :=
  ⟨⟨h.cell 0, h.cell 1, h.cell 2, h.cell 3, h.cell 4⟩, h.fz 0, h.fz 1, h.fz 2, h.fz 3, h.fz 4⟩

section
variable {w W W' : World} {base bx : Nat} {c : Cr} {p : Pl}
/-- a box is none of the rows -/
theorem box_ne {g b size n k : Nat} {e : TypeId} {xs : List Value} {cs : Array Value} (h : W.ownsRow base e size (.slice (some ⟨g, 0, none⟩) n k) n xs) (hb : Has W b 41 cs) (he : e ≠ 41) : g ≠ b := by
  rcases h.2 with ⟨h, _⟩ | ⟨g', cap, cur, hv, _, hh, _⟩
  · cases h
  · cases hv
    exact Has.ne (cs := cur) hh hb he

/-- all five cells of a box -/
def put5 (W : World) (b : Nat) (v0 v1 v2 v3 v4 : Value) : World := ((((W.setCell ⟨b, 0, none⟩ v0).setCell ⟨b, 1, none⟩ v1).setCell ⟨b, 2, none⟩ v2).setCell ⟨b, 3, none⟩ v3).setCell ⟨b, 4, none⟩ v4
theorem put5_far (W : World) {b g : Nat} (v0 v1 v2 v3 v4 : Value) (h : g ≠ b) : (put5 W b v0 v1 v2 v3 v4).heap[g]? = W.heap[g]? := by
  unfold put5
  rw [Below.heap_setCell _ _ _ _ h, Below.heap_setCell _ _ _ _ h, Below.heap_setCell _ _ _ _ h, Below.heap_setCell _ _ _ _ h, Below.heap_setCell _ _ _ _ h]
theorem put5_has {b : Nat} {v0 v1 v2 v3 v4 : Value} (h : Has W b 41 zc) : Has (put5 W b v0 v1 v2 v3 v4) b 41 #[v0, v1, v2, v3, v4] := by
  have := ((((h.set 0 v0).set 1 v1).set 2 v2).set 3 v3).set 4 v4
  exact this
theorem put5_below {b : Nat} (v0 v1 v2 v3 v4 : Value) (h : Below w.heap.size w W) (hb : w.heap.size ≤ b) : Below w.heap.size w (put5 W b v0 v1 v2 v3 v4) :=
  ((((h.setCell hb v0).setCell hb v1).setCell hb v2).setCell hb v3).setCell hb v4
end

theorem own_baseT {w : World} {base base' : Nat} {e : TypeId} {size : Nat} {v : Value} {n : Nat} {xs : List Value} (h : w.ownsRow base e size v n xs) (hb : base' ≤ base) : w.ownsRow base' e size v n xs := by
  refine ⟨h.1, ?_⟩
  rcases h.2 with h | ⟨g, cap, cur, hv, hg, r⟩
  · exact Or.inl h
  · exact Or.inr ⟨g, cap, cur, hv, Nat.le_trans hb hg, r⟩
theorem own_on {W W' : World} {base : Nat} {e : TypeId} {size : Nat} {v : Value} {n : Nat} {xs : List Value} (h : W.ownsRow base e size v n xs) (hh : ∀ g, v.ownBlock = some g → (∃ cur, Has W g e cur) → W'.heap[g]? = W.heap[g]?) : W'.ownsRow base e size v n xs := by
  refine ⟨h.1, ?_⟩
  rcases h.2 with h | ⟨g, cap, cur, hv, hg, hc, r⟩
  · exact Or.inl h
  · exact Or.inr ⟨g, cap, cur, hv, hg, (hh g (by rw [hv]; rfl) ⟨cur, hc⟩).trans hc, r⟩
theorem own_below {W W' : World} {base : Nat} {e : TypeId} {size : Nat} {v : Value} {n : Nat} {xs : List Value} (h : W.ownsRow base e size v n xs) (hb : Below W.heap.size W W') : W'.ownsRow base e size v n xs := own_on h fun g _ ⟨_, hc⟩ => hb.block g (Has.lt hc)
theorem intL_congr {f g : Nat → Int} : ∀ {n : Nat}, (∀ j, j < n → f j = g j) → intL f n = intL g n
  | 0, _ => rfl
  | n + 1, h => by rw [intL, intL, intL_congr (n := n) fun j hj => h j (by omega), h n (by omega)]

end Go.Proofs.YtkpjpokeonppbaaGreatDoor

namespace Go.Proofs.YtkpjpokeonppbaaGreatDoor
open Go.RowKit
set_option linter.unusedVariables false
set_option linter.unusedSimpArgs false

/-- a row that is copied onto itself -/
theorem rep_copy {w : World} {g n q m : Nat} (hR : w.rowIs g 3 n (fun j => .int .i64 (if j < q then -1 else 0))) (hm : m = Nat.min q (n - q)) (hqn : q ≤ n) (ty : TypeId) (dc sc : Nat) :
    ∃ W', (Builtin.copy_ #[23, 23] ty #[.slice (some ⟨g, q, none⟩) (n - q) dc, .slice (some ⟨g, 0, none⟩) q sc]).run Tryz.prog w = .ok (.int .i64 (m : Int)) W' ∧
      W'.rowIs g 3 n (fun j => .int .i64 (if j < q + m then -1 else 0)) ∧ w.grownBy W' (some g) := by
  have hmq : m ≤ q := by rw [hm]; exact Nat.min_le_left _ _
  have hmn : m ≤ n - q := by rw [hm]; exact Nat.min_le_right _ _
  have hadd : ∀ j, (⟨g, 0, none⟩ : Addr).add j = ⟨g, j, none⟩ := fun j => by unfold Addr.add; split <;> simp_all
  obtain ⟨c, hb, hs, hc⟩ := id hR
  have hsz : (Tryz.prog.info? 3).map (·.size) = some 1 := by kernel_rfl
  have h := run_copy_row (P := Tryz.prog) w 23 23 ty 3 g q (n - q) dc ⟨g, 0, none⟩ q sc c 3 (List.replicate m (.int .i64 (-1))) Tryz.underlying23 hsz hb (by rw [List.length_replicate]; exact hm)
    (fun j v hv => by
      rw [List.getElem?_replicate] at hv
      split at hv
      · next hj =>
        cases hv
        rw [hadd, hR.cell (show j < n by omega), if_pos (by omega)]
      · cases hv) (by rw [List.length_replicate]; omega) (fun v hv => by rw [(List.mem_replicate.1 hv).2]; rfl)
  rw [List.length_replicate] at h
  refine ⟨_, h, ⟨_, setRow_heap w g c _ 3 _ hb, ?_, fun i hi => ?_⟩, ⟨rfl, rfl, rfl, by simp [World.setRow], fun j _ hj => setRow_other w g j _ (by simpa using hj)⟩⟩
  · simp; omega
  · have hci : c[i]? = some (.int .i64 (if i < q then -1 else 0)) := hc i hi
    show _ = some (Value.int .i64 (if i < q + m then -1 else 0))
    rw [← Array.getElem?_toList] at hci
    rw [List.getElem?_toArray]
    rcases Nat.lt_or_ge i q with h1 | h1
    · rw [List.append_assoc, List.getElem?_append_left (by simp; omega), List.getElem?_take_of_lt h1, hci, if_pos h1, if_pos (by omega)]
    · rcases Nat.lt_or_ge i (q + m) with h2 | h2
      · rw [List.append_assoc, List.getElem?_append_right (by simp; omega), List.getElem?_append_left (by simp; omega), List.getElem?_replicate, if_pos (by simp; omega), if_pos h2]
      · rw [List.getElem?_append_right (by simp; omega), List.getElem?_drop]
        have e : q + m + (i - (List.take q c.toList ++ List.replicate m (Value.int .i64 (-1))).length) = i := by simp; omega
        rw [e, hci, if_neg (by omega), if_neg (by omega)]

/-- the first number of a row -/
theorem rep_first {w : World} {g b n : Nat} (hR : w.rowIs g 3 n (fun _ => .int .i64 0)) (hn : 1 ≤ n) (hx : w.cell? ⟨b, 0, none⟩ = some (.int .i64 (-1))) (ty : TypeId) (dc sc : Nat) :
    ∃ W', (Builtin.copy_ #[23, 23] ty #[.slice (some ⟨g, 0, none⟩) n dc, .slice (some ⟨b, 0, none⟩) 1 sc]).run Tryz.prog w = .ok (.int .i64 1) W' ∧
      W'.rowIs g 3 n (fun j => .int .i64 (if j < 1 then -1 else 0)) ∧ w.grownBy W' (some g) := by
  have hadd : ∀ j, (⟨b, 0, none⟩ : Addr).add j = ⟨b, j, none⟩ := fun j => by unfold Addr.add; split <;> simp_all
  obtain ⟨c, hb, hs, hc⟩ := id hR
  have hsz : (Tryz.prog.info? 3).map (·.size) = some 1 := by kernel_rfl
  have h := run_copy_row (P := Tryz.prog) w 23 23 ty 3 g 0 n dc ⟨b, 0, none⟩ 1 sc c 3 [.int .i64 (-1)] Tryz.underlying23 hsz hb (by show 1 = Nat.min 1 n; exact (Nat.min_eq_left hn).symm)
    (fun j v hv => by
      cases j with
      | zero => cases hv; rw [hadd]; exact hx
      | succ j => cases hv) (by show 0 + 1 ≤ c.size; omega) (fun v hv => by rw [List.mem_singleton.1 hv]; rfl)
  refine ⟨_, h, ⟨_, setRow_heap w g c _ 3 _ hb, ?_, fun i hi => ?_⟩, ⟨rfl, rfl, rfl, by simp [World.setRow], fun j _ hj => setRow_other w g j _ (by simpa using hj)⟩⟩
  · simp; omega
  · have hci : c[i]? = some (.int .i64 0) := hc i hi
    show _ = some (Value.int .i64 (if i < 1 then -1 else 0))
    rw [← Array.getElem?_toList] at hci
    rw [List.getElem?_toArray]
    cases i with
    | zero => rfl
    | succ i =>
      rw [if_neg (by omega)]
      simpa [Nat.add_comm] using hci

set_option maxRecDepth 100000 in
set_option maxHeartbeats 4000000 in
theorem repeat_any (b n : Nat) (w : World) (hn0 : 1 ≤ n) (hn : n ≤ 1001) (hx : w.cell? ⟨b, 0, none⟩ = some (.int .i64 (-1))) :
    Calls Tryz.prog 73 #[.slice (some ⟨b, 0, none⟩) 1 1, .int .i64 (n : Int)] w fun e w' => ∃ g, e = .returned (.slice (some ⟨g, 0, none⟩) n n) ∧ w.heap.size ≤ g ∧ w'.rowIs g 3 n (fun _ => .int .i64 (-1)) ∧ Below w.heap.size w w' := by
  have hmk : ∀ w : World, (Instr.makeSlice 23 (.int .i64 (n : Int)) (.int .i64 (n : Int))).run Tryz.prog w = .ok (.slice (some ⟨w.heap.size, 0, none⟩) n n) (w.alloc (.cells (madeCells #[.int .i64 0] n) 3)) := fun w =>
    run_make_row' 23 3 (.int .i64 0) 8 Tryz.underlying23 info_int rfl .i64 .i64 n (by omega) (by omega) w
  have hM : Hid (∀ W, Calls Tryz.prog 98 #[.int .u64 1, .int .u64 (n : Int)] W fun e w' => e = .returned (.tuple #[.int .u64 0, .int .u64 (n : Int)]) ∧ W = w') := fun W => by
    have h := Tryz.bits_Mul 1 n (by omega) (by omega) W
    rw [Nat.one_mul, Nat.div_eq_of_lt (by omega), Nat.mod_eq_of_lt (by omega)] at h
    exact h.mono fun e w' hh => ⟨hh.1, hh.2.symm⟩
  have n0 : ¬ (n : Int) < 0 := by omega
  have n1 : (1 : Int) ≤ (n : Int) := by omega
  have n2 : (n : Int) ≤ 1001 := by omega
  have hR0 : (w.alloc (.cells (madeCells #[.int .i64 0] n) 3)).rowIs w.heap.size 3 n (fun _ => .int .i64 0) := World.rowIs_made _ _ _ _
  obtain ⟨W1, hk1, hR1, hg1⟩ := rep_first hR0 hn0 ((World.cell?_alloc_lt w _ _ (cell_lt hx)).trans hx) 3 n 1
  have hB1 : Below w.heap.size w W1 := ((Below.refl _ _).alloc (Nat.le_refl _) _).grown hg1 (by simp) (fun k hk => by cases hk; omega)
  go_enter Tryz.func73, Tryz.ntmps73
  go_wp2_with (go_at_call 98; (with_reducible refine (hM.out _).mono ?_); rintro e w1 ⟨rfl, rfl⟩)
  go_loopw [8] (fun i wr => ∃ q : Nat, 1 ≤ q ∧ q ≤ n ∧ i = .int .i64 q ∧ wr.rowIs w.heap.size 3 n (fun j => .int .i64 (if j < q then -1 else 0)) ∧ Below w.heap.size w wr) (fun i _ => n - (intOf i).toNat)
  case atStart => exact ⟨1, by omega, hn0, rfl, hR1, hB1⟩
  case round =>
    clear hR0 hk1 hR1 hg1 hB1
    obtain ⟨q, hq1, hq, rfl, hR, hBr⟩ := hrel
    by_cases hlt : q < n
    · have i0 : (0 : Int) ≤ (q : Int) := by omega
      have i1 : (q : Int) < (n : Int) := by omega
      have i2 : (q : Int) ≤ (n : Int) := by omega
      have hnq : ¬ n = q := by omega
      obtain ⟨m, hm⟩ : ∃ m, m = Nat.min q (n - q) := ⟨_, rfl⟩
      obtain ⟨W2, hk2, hR2, hg2⟩ := rep_copy (w := wr.drew) hR.drew hm hq 3 (n - q) n
      have hm1 : m ≤ n - q := by rw [hm]; exact Nat.min_le_right _ _
      have hm2 : 1 ≤ m := by rw [hm]; exact Nat.le_min.2 ⟨hq1, by omega⟩
      have hB2 : Below w.heap.size w W2 := (below_dn hBr 1).grown hg2 hBr.size (fun k hk => by cases hk; omega)
      have hw3 : IntKind.i64.wrap ((q : Int) + m) = (q : Int) + m := IntWalk.i64_in _ (by omega)
      clear hm
      go_wp2
      have hS0 : (fun _ : World => True) wr.drew := trivial
      refine wp_region_T (fun _ : World => True) 10 (by kernel_rfl) ?_
      (refine wpT_take 0 (v := ?_) rfl (by kernel_rfl) (by kernel_rfl) (by kernel_rfl) (by kernel_rfl) (fun _ _ _ h => h) rfl hS0 (fun w hS => ?_) ?_; rotate_left; focus (go_simp; rfl)); (refine wpT_take 1 (v := ?_) rfl (by kernel_rfl) (by kernel_rfl) (by kernel_rfl) (by kernel_rfl) (fun _ _ _ h => h) rfl hS0 (fun w hS => ?_) ?_; rotate_left; focus (go_simp; rfl)); (refine wpT_take 2 (v := ?_) rfl (by kernel_rfl) (by kernel_rfl) (by kernel_rfl) (by kernel_rfl) (fun _ _ _ h => h) rfl hS0 (fun w hS => ?_) ?_; rotate_left; focus (go_simp; rfl)); (refine wpT_take 3 (v := ?_) rfl (by kernel_rfl) (by kernel_rfl) (by kernel_rfl) (by kernel_rfl) (fun _ _ _ h => h) rfl hS0 (fun w hS => ?_) ?_; rotate_left; focus (go_simp; rfl)); (refine wpT_take 4 (v := ?_) rfl (by kernel_rfl) (by kernel_rfl) (by kernel_rfl) (by kernel_rfl) (fun _ _ _ h => h) rfl hS0 (fun w hS => ?_) ?_; rotate_left; focus (go_simp; rfl)); (refine wpT_take 5 (v := ?_) rfl (by kernel_rfl) (by kernel_rfl) (by kernel_rfl) (by kernel_rfl) (fun _ _ _ h => h) rfl hS0 (fun w hS => ?_) ?_; rotate_left; focus (go_simp; rfl)); (refine wpT_take 6 (v := ?_) rfl (by kernel_rfl) (by kernel_rfl) (by kernel_rfl) (by kernel_rfl) (fun _ _ _ h => h) rfl hS0 (fun w hS => ?_) ?_; rotate_left; focus (go_simp; rfl))
      refine wpT_one 7 (by kernel_rfl) (wpOp_go rfl rfl fun K hK => ?_)
      go_simp
      refine hK _ _ ⟨fun _ => trivial, ?_⟩
      refine wpT_one 8 (by kernel_rfl) (wpOp_go rfl rfl fun K hK => ?_)
      go_simp
      refine hK _ _ ⟨fun _ => trivial, ?_⟩
      refine wpT_one 9 (by kernel_rfl) (wpOp_go rfl rfl fun K hK => ?_)
      go_simp
      refine hK _ _ ⟨fun _ => trivial, ?_⟩
      refine wpT_done (by kernel_rfl) (NoPanic.normal ?_) _
      go_wp2
      go_roundw
      case rel => exact ⟨q + m, by omega, by omega, by go_num, hR2, hB2⟩
      case measure => simp [intOf]; omega
    · obtain rfl : q = n := by omega
      have i1 : ¬ (q : Int) < (q : Int) := by omega
      clear hlt hq
      go_wp2
      go_ret
      refine ⟨_, rfl, Nat.le_refl _, hR.congr (fun j hj => by rw [if_pos hj]), hBr⟩

/-- a literal by its new variable -/
theorem renamed_any (A : Option Addr) (n k : Nat) (f : Nat → Int) (x : Int) (B : Nat) (w : World) (hA0 : IntsAt w B A n f) (h0 : 0 ≤ x) (h1 : x ≤ 2001) (h2 : x / 2 < n) (hb : 0 ≤ f (x / 2).toNat ∧ f (x / 2).toNat ≤ 1000) :
    Calls Tryz.prog 43 #[.int .i64 x, .slice A n k] w fun e w' => e = .returned (.int .i64 (2 * f (x / 2).toNat + x % 2)) ∧ w = w' := by
  obtain ⟨a, hA, hab, hcs⟩ := hA0 (by omega)
  subst hA
  have y0 := hcs (x / 2).toNat (by omega)
  have m1 : 0 ≤ x / 2 := by omega
  obtain ⟨u, hu⟩ : ∃ u, f (x / 2).toNat = u := ⟨_, rfl⟩
  rw [hu] at y0 hb ⊢
  have hmk : Li.mk u (Li.od x) = 2 * u + x % 2 := by
    unfold Li.mk Li.od
    by_cases hx : x % 2 = 1
    · simp [hx]
    · simp [hx]; omega
  clear hcs hu
  go_enter Tryz.func43, Tryz.ntmps43
  go_wp2_with (first
    | (go_at_call 77; (with_reducible refine (var_yes x _ (Li.isL_mk h0 h1)).mono ?_); rintro e w1 ⟨rfl, rfl⟩)
    | (go_at_call 78; (with_reducible refine (lit_yes u (Li.od x) _ (Li.isV_mk hb.1 hb.2)).mono ?_); rintro e w2 ⟨rfl, rfl⟩))
  go_ret
  exact ⟨rfl, rfl⟩


/-- a list of literals by their new variables -/
def reN (f x : Nat → Int) : Nat → Int := fun j => 2 * f (x j / 2).toNat + x j % 2
set_option maxRecDepth 100000 in
set_option maxHeartbeats 4000000 in
theorem renamedAll_any (A U : Option Addr) (n k N kU : Nat) (x f : Nat → Int) (B : Nat) (w : World) (hB : B ≤ w.heap.size) (hA0 : IntsAt w B A n x) (hU0 : IntsAt w B U N f) (hn : n ≤ 1000) (hx : ∀ j, j < n → 0 ≤ x j ∧ x j ≤ 2001 ∧ x j / 2 < N ∧ 0 ≤ f (x j / 2).toNat ∧ f (x j / 2).toNat ≤ 1000) :
    Calls Tryz.prog 42 #[.slice A n k, .slice U N kU] w fun e w' => ∃ v, e = .returned v ∧ w'.ownsRow w.heap.size 3 1 v n (intL (reN f x) n) ∧ Below w.heap.size w w' := by
  obtain ⟨i0, hi0, hzz0, hs0, hy0⟩ := info_parts info_int
  have HX := Lib.hid hx
  clear hx
  go_enter Tryz.func42, Tryz.ntmps42
  go_wp2
  go_loopw [5, 10] (fun u i wr => ∃ q : Nat, ∃ v, q ≤ n ∧ i = .int .i64 q ∧ v = u ∧ wr.ownsRow w.heap.size 3 1 v q (intL (reN f x) q) ∧ Below w.heap.size w wr) (fun _ i _ => n - (intOf i).toNat)
  case atStart => exact ⟨0, _, Nat.zero_le _, rfl, rfl, World.ownsRow_nil _ _ _ _, Below.refl _ _⟩
  case round =>
    obtain ⟨q, u0, hq, rfl, rfl, hown, hBr⟩ := hrel
    by_cases hlt : q < n
    · obtain ⟨a, rfl, hab, hcs⟩ := (hA0.keep (hBr.mono hB)) (by omega)
      have y0 := hcs q hlt
      obtain ⟨e1, e2, e3, e4⟩ := HX.out q hlt
      have hi1 : (0 : Int) ≤ (q : Int) := by omega
      have hi2 : (q : Int) < (n : Int) := by omega
      have D : Hid (Calls Tryz.prog 43 #[.int .i64 (x q), .slice U N kU] wr fun e w' => e = .returned (.int .i64 (reN f x q)) ∧ wr = w') := renamed_any U N kU f (x q) B wr (hU0.keep (hBr.mono hB)) e1 e2 e3 e4
      obtain ⟨z, hz⟩ : ∃ z, reN f x q = z := ⟨_, rfl⟩
      rw [hz] at D
      have HZ := Lib.hid hz
      clear hcs e1 e2 e3 e4 hz
      go_wp2_with (first
        | (go_at_call 43; (with_reducible refine D.out.mono ?_); rintro e w1 ⟨rfl, rfl⟩)
        | (at_builtin
           (refine append_more rfl (.tmp 14) (.tmp 18) _ rfl w.heap.size 3 i0 _ 1 8 Tryz.underlying23 hi0 hzz0 hs0 hy0 rfl (by decide) u0 q (intL (reN f x) q) rfl (hown.alloc _) (some ⟨wr.heap.size, 0, none⟩) 1 1 [.int .i64 z] rfl rfl (Or.inr ⟨_, rfl, World.news_of_block (cs := #[.int .i64 z]) (t := 3) (fr := (0, 0)) (Has.new' _ _ rfl)⟩) (by simp [Value.oneCell']) (by simp only [maxLen]; omega) (by omega) (by have := hBr.size; simp; omega) ?_)
           intro v' w2 ho2 hg2
           have hB2 := app_below hBr hBr.size (Nat.le_refl _) hown hg2))
      go_roundw
      case rel => exact ⟨q + 1, _, by omega, by go_num, rfl, by
        show w2.ownsRow w.heap.size 3 1 _ (q + 1) (intL (reN f x) q ++ [.int .i64 (reN f x q)])
        rw [HZ.out]; exact ho2, hB2⟩
      case measure => simp [intOf]; omega
    · obtain rfl : q = n := by omega
      clear hlt hq
      go_wp2
      go_ret
      exact ⟨_, rfl, hown, hBr⟩


theorem grow_blk {wr w8 : World} {o : Obj} {b base size n : Nat} {e : TypeId} {v : Value} {xs : List Value} (hgrow : (wr.alloc o).grownBy w8 v.ownBlock) (hown : wr.ownsRow base e size v n xs) (hl : b < wr.heap.size) (hb : b < base) : w8.heap[b]? = wr.heap[b]? :=
  (hgrow.block b (by simp; omega) (fun e => by have := own_block hown _ e.symm; omega)).trans (Below.heap_alloc _ _ _ hl)

namespace Rw
theorem oL_bd {r : Rw} (hnum : r.num = true) (k : Nat) (hk : k < r.ni + r.nl + r.ord.length) : 2 ≤ r.oL.getD k 0 ∧ r.oL.getD k 0 ≤ 2 * r.m + 1 := by
  rcases Nat.lt_or_ge k r.ni with h1 | h1
  · rw [oL_i r h1]; exact num_i hnum h1
  · rcases Nat.lt_or_ge k (r.ni + r.nl) with h2 | h2
    · have e := oL_l r (k := k - r.ni) (by omega)
      rw [show r.ni + (k - r.ni) = k by omega] at e
      rw [e]; exact num_l hnum (by omega)
    · have e := oL_g r (k := k - r.ni - r.nl) (by omega)
      rw [show r.ni + r.nl + (k - r.ni - r.nl) = k by omega] at e
      rw [e]; exact (num_g hnum (ord_at (by omega))).1
theorem oL_il (r : Rw) : il r.oL = intL r.ip r.ni ++ intL r.ll r.nl ++ intL (fun j => r.gl (r.ord.getD j 0)) r.ord.length := by
  have e : r.ord.map r.gl = lst (fun j => r.gl (r.ord.getD j 0)) r.ord.length := by
    apply List.ext_getElem?
    intro j
    rcases Nat.lt_or_ge j r.ord.length with h | h
    · rw [lst_at _ _ _ h, List.getElem?_map, List.getElem?_eq_getElem h, List.getD_eq_getElem?_getD, List.getElem?_eq_getElem h]; rfl
    · rw [List.getElem?_eq_none (by simpa using h), List.getElem?_eq_none (by rw [lst_len]; exact h)]
  unfold oL
  rw [e, il_app, il_app, ← il_lst, ← il_lst, ← il_lst]
end Rw

set_option maxRecDepth 100000 in
set_option maxHeartbeats 8000000 in
theorem newVars_any (r : Rw) (p : Rp) (w : World) (mn : Nat) (U : Option Addr) (kU : Nat) (hmn : r.m = mn) (hs : RSm r) (hm : RMem w w.heap.size r p) (hN : RNils r p) (h1 : r.m ≤ 1000) (hnum : r.num = true) (hU : IntsAt w w.heap.size U r.ord.length (fun j => (nL r.ord).getD j 0)) :
    Calls Tryz.prog 41 #[rv r p, .slice U r.ord.length kU] w (NumsIs r mn w) := by
  have g0 := hs.ni
  have g1 := hs.nl
  have g2 := hs.na
  have hmn1 : mn ≤ 1000 := by omega
  have h0 : 0 ≤ r.m := by omega
  have hol : r.ord.length ≤ r.na := Rw.ord_len
  have hw1 : IntKind.i64.wrap (r.m + 1) = r.m + 1 := IntWalk.i64_in _ (by omega)
  obtain ⟨i0, hi0, hzz0, hs0, hy0⟩ := info_parts info_int
  have hoo : Hid (∀ k, k < r.ni + r.nl + r.ord.length → 2 ≤ r.oL.getD k 0 ∧ r.oL.getD k 0 ≤ 2 * r.m + 1) := fun k hk => Rw.oL_bd hnum k hk
  have HM := Lib.hid hmn
  have hB0 : Below w.heap.size w ((w.alloc (.cells (rcL r p) 26)).alloc (.cells #[.int .i64 (-1)] 3)) := by go_grown
  have hH0 : Has ((w.alloc (.cells (rcL r p) 26)).alloc (.cells #[.int .i64 (-1)] 3)) w.heap.size 26 (rc r p) := (Has.new _ _ _).al _
  have hx0 : ((w.alloc (.cells (rcL r p) 26)).alloc (.cells #[.int .i64 (-1)] 3)).cell? ⟨w.heap.size + 1, 0, none⟩ = some (.int .i64 (-1)) := (Has.new' _ _ (by simp)).cell 0
  have RP : Hid (Calls Tryz.prog 73 #[.slice (some ⟨w.heap.size + 1, 0, none⟩) 1 1, .int .i64 (r.m + 1)] ((w.alloc (.cells (rcL r p) 26)).alloc (.cells #[.int .i64 (-1)] 3)) fun e w' => ∃ g, e = .returned (.slice (some ⟨g, 0, none⟩) (mn + 1) (mn + 1)) ∧ ((w.alloc (.cells (rcL r p) 26)).alloc (.cells #[.int .i64 (-1)] 3)).heap.size ≤ g ∧ w'.rowIs g 3 (mn + 1) (fun _ => .int .i64 (-1)) ∧ Below ((w.alloc (.cells (rcL r p) 26)).alloc (.cells #[.int .i64 (-1)] 3)).heap.size ((w.alloc (.cells (rcL r p) 26)).alloc (.cells #[.int .i64 (-1)] 3)) w') := by
    have h := repeat_any (w.heap.size + 1) (mn + 1) _ (by omega) (by omega) hx0
    have e : ((mn + 1 : Nat) : Int) = r.m + 1 := by omega
    rw [e] at h
    exact h
  have HB0 := Lib.hid (And.intro hB0 hH0)
  clear hmn hnum hx0 hB0 hH0
  go_enter Tryz.func41, Tryz.ntmps41
  go_wp2_with (go_at_call 73; (with_reducible refine RP.out.mono ?_); rintro e w1 ⟨g, rfl, hg1, hR1, hb1⟩; have hB1 : Below w.heap.size w w1 := Below.step HB0.out.1 HB0.out.1.size hb1; have hH1 := HB0.out.2.keep hb1 HB0.out.2.lt; have z1 := hR1.cell (i := 0) (by omega); have z2 := hR1.frozen 0; have z3 : (0 : Int) < ((mn + 1 : Nat) : Int) := (by omega))
  have hgw : w.heap.size + 2 ≤ g := by simp at hg1; omega
  have hR2 : (w1.setCell ⟨g, 0, none⟩ (.int .i64 0)).rowIs g 3 (mn + 1) (fun v => .int .i64 (r.nwk 0 (v : Int))) := (hR1.set 0 _).congr (fun j hj => by
    show _ = Value.int .i64 (if (j : Int) = 0 then 0 else -1)
    by_cases e : j = 0
    · rw [if_pos e, if_pos (by omega)]
    · rw [if_neg e, if_neg (by omega)])
  obtain ⟨V, hV⟩ : ∃ V, (w1.setCell ⟨g, 0, none⟩ (.int .i64 0)).drew = V := ⟨_, rfl⟩
  have hRV : V.rowIs g 3 (mn + 1) (fun v => .int .i64 (r.nwk 0 (v : Int))) := hV ▸ hR2.drew
  have hSd : Has V w.heap.size 26 (rc r p) := hV ▸ (show Has (w1.setCell ⟨g, 0, none⟩ (.int .i64 0)).drew w.heap.size 26 (rc r p) from hH1.far (by simp; omega) _)
  have hBV : Below w.heap.size w V := hV ▸ below_dn (hB1.setCell (by simp; omega) _) 1
  have hgV := hRV.lt
  have hS0 := boxR hSd
  clear hR1 hR2 z1 z2 hb1 hB1 hH1 RP
  refine wp_region_T' hV (BoxR r p w.heap.size) 8 (by kernel_rfl) ?_
  (refine wpT_take 0 (v := ?_) rfl (by kernel_rfl) (by kernel_rfl) (by kernel_rfl) (by kernel_rfl) (fun _ _ _ h => h) rfl hS0 (fun w hS => ?_) ?_; rotate_left; focus (obtain ⟨j1, j2, j3⟩ := hS; go_simp; rfl)); (refine wpT_take 1 (v := ?_) rfl (by kernel_rfl) (by kernel_rfl) (by kernel_rfl) (by kernel_rfl) (fun _ _ _ h => h) rfl hS0 (fun w hS => ?_) ?_; rotate_left; focus (obtain ⟨j1, j2, j3⟩ := hS; go_simp; rfl)); (refine wpT_take 2 (v := ?_) rfl (by kernel_rfl) (by kernel_rfl) (by kernel_rfl) (by kernel_rfl) (fun _ _ _ h => h) rfl hS0 (fun w hS => ?_) ?_; rotate_left; focus (obtain ⟨j1, j2, j3⟩ := hS; go_simp; rfl)); (refine wpT_take 3 (v := ?_) rfl (by kernel_rfl) (by kernel_rfl) (by kernel_rfl) (by kernel_rfl) (fun _ _ _ h => h) rfl hS0 (fun w hS => ?_) ?_; rotate_left; focus (obtain ⟨j1, j2, j3⟩ := hS; go_simp; rfl))
  refine wpT_one 4 (by kernel_rfl) (wpOp_go rfl rfl fun K hK => ?_)
  go_simp
  go_at_call 75
  (with_reducible refine (litsOf_any p.A2 r.nl p.k2 r.ll r.la r.lb w.heap.size V (by omega) hBV.size (hm.la.keep hBV)).mono ?_)
  rintro e w2 ⟨B2, c2, rfl, hi2, hn2, hb2⟩
  have hB2 : Below w.heap.size w w2 := Below.step hBV hBV.size hb2
  have hA2 : Has w2 w.heap.size 26 (rc r p) := hSd.keep hb2 hSd.lt
  refine hK _ _ ⟨fun _ => boxR hA2, ?_⟩
  refine wpT_one 5 (by kernel_rfl) (wpOp_go rfl rfl fun K hK => ?_)
  go_simp
  have hb3 : Below w2.heap.size w2 (w2.alloc (.cells #[.slice p.A1 r.ni p.k1, .slice B2 r.nl c2] 23)) := (Below.refl _ _).alloc (Nat.le_refl _) _
  refine hK _ _ ⟨fun _ => boxR (hA2.al _), ?_⟩
  refine wpT_one 6 (by kernel_rfl) (wpOp_go rfl rfl fun K hK => ?_)
  go_simp
  go_at_call 74
  (with_reducible refine (concat2 w2.heap.size (w2.alloc (.cells #[.slice p.A1 r.ni p.k1, .slice B2 r.nl c2] 23)) (Has.new _ _ _) ((hm.ip.keep (Below.step hB2 hB2.size hb3)).more (Below.step hB2 hB2.size hb3).size) ((hi2.keep hb3).more hb3.size) hN.ip hn2 (by omega)).mono ?_)
  rintro e w4 ⟨v4, rfl, ho4, hb4⟩
  have hB4 : Below w.heap.size w w4 := Below.step hB2 hB2.size (Below.step hb3 hb3.size hb4)
  have hA4 : Has w4 w.heap.size 26 (rc r p) := (hA2.al _).keep hb4 (hA2.al _).lt
  have hR4 : w4.rowIs g 3 (mn + 1) (fun v => .int .i64 (r.nwk 0 (v : Int))) := hRV.of_block (((Below.step hb2 hb2.size (Below.step hb3 hb3.size hb4))).block g hgV)
  refine hK _ _ ⟨fun _ => boxR hA4, ?_⟩
  refine wpT_one 7 (by kernel_rfl) (wpOp_go rfl rfl fun K hK => ?_)
  go_simp
  refine hK _ _ ⟨fun _ => boxR hA4, ?_⟩
  refine wpT_done (by kernel_rfl) (NoPanic.normal ?_) _
  obtain ⟨bs, hbs⟩ : ∃ bs, (w2.alloc (.cells #[.slice p.A1 r.ni p.k1, .slice B2 r.nl c2] 23)).heap.size = bs := ⟨_, rfl⟩
  have hgb : g < bs := by have := hb2.size; rw [← hbs]; simp; omega
  have hbw : w.heap.size < bs := by omega
  have hbs4 : bs ≤ w4.heap.size := by rw [← hbs]; exact hb4.size
  rw [hbs] at ho4
  have HU := Lib.hid hU
  clear hV hb2 hb3 hb4 hi2 hn2 hbs hS0 hSd hRV hgV hBV hA2 hB2 hU
  go_wp2
  go_loopw [6, 27] (fun u i wr => ∃ q : Nat, ∃ v, q ≤ r.ord.length ∧ i = .int .i64 q ∧ v = u ∧ wr.ownsRow bs 3 1 v (r.ni + r.nl + q) (intL r.ip r.ni ++ intL r.ll r.nl ++ intL (fun j => r.gl (r.ord.getD j 0)) q) ∧ Has wr w.heap.size 26 (rc r p) ∧ wr.rowIs g 3 (mn + 1) (fun v => .int .i64 (r.nwk 0 (v : Int))) ∧ Below w.heap.size w wr ∧ bs ≤ wr.heap.size) (fun _ i _ => r.ord.length - (intOf i).toNat)
  case atStart => exact ⟨0, v4, Nat.zero_le _, rfl, rfl, by simpa [intL] using ho4, hA4, hR4, hB4, hbs4⟩
  case round =>
    clear hA4 hR4 hB4 hbs4 ho4
    obtain ⟨q, u0, hq, rfl, rfl, hown, hH, hR, hBr, hsz⟩ := hrel
    obtain ⟨x0, x1, x2, x3, x4, x5⟩ := hH.rbox
    by_cases hlt : q < r.ord.length
    · obtain ⟨n, hn⟩ : ∃ n, Hid (n = r.ord.getD q 0) := ⟨_, Lib.hid rfl⟩
      have hna : n < r.na := by rw [hn.out]; exact Rw.ord_at hlt
      obtain ⟨u, hUu, hub, huc⟩ := (HU.out.keep hBr) (by omega)
      have v0 : wr.cell? (u.add q) = some (.int .i64 (n : Int)) := by
        rw [huc q hlt, hn.out]
        simp [nL, List.getD_eq_getElem?_getD, List.getElem?_eq_getElem hlt]
      obtain ⟨a, hA, hab, hcs⟩ := (hm.an.keep hBr) (by omega)
      obtain ⟨y0, y1, y2⟩ := hcs n hna
      have i1 : (0 : Int) ≤ (q : Int) := by omega
      have i2 : (q : Int) < (r.ord.length : Int) := by omega
      have i3 : (0 : Int) ≤ (n : Int) := by omega
      have i4 : (n : Int) < (r.na : Int) := by omega
      obtain ⟨z, hz⟩ : ∃ z, r.gl n = z := ⟨_, rfl⟩
      rw [hz] at y0
      have HZ := Lib.hid (show r.gl (r.ord.getD q 0) = z by rw [← hn.out]; exact hz)
      rw [hA] at x3
      subst hUu
      clear hcs huc hA hz
      go_wp2_with (at_builtin; (refine append_more rfl (.tmp 31) (.tmp 38) _ rfl bs 3 i0 _ 1 8 Tryz.underlying23 hi0 hzz0 hs0 hy0 rfl (by decide) u0 (r.ni + r.nl + q) (intL r.ip r.ni ++ intL r.ll r.nl ++ intL (fun j => r.gl (r.ord.getD j 0)) q) rfl (hown.alloc _) (some ⟨wr.heap.size, 0, none⟩) 1 1 [.int .i64 z] rfl rfl (Or.inr ⟨_, rfl, World.news_of_block (cs := #[.int .i64 z]) (t := 3) (fr := (0, 0)) (Has.new' _ _ rfl)⟩) (by simp [Value.oneCell']) (by simp only [maxLen]; omega) (by omega) (by simp; omega) ?_); intro v' w5 ho5 hg5; have hB5 := app_below hBr hBr.size (by omega) hown hg5; have hH5 := app_has hH hown hg5 (by omega); have hR5 := hR.of_block (grow_blk hg5 hown hR.lt hgb); have hs5 := hg5.size)
      go_roundw
      case rel => exact ⟨q + 1, v', by omega, by go_num, rfl, by
        show w5.ownsRow bs 3 1 _ (r.ni + r.nl + q + 1) (intL r.ip r.ni ++ intL r.ll r.nl ++ (intL (fun j => r.gl (r.ord.getD j 0)) q ++ [.int .i64 (r.gl (r.ord.getD q 0))]))
        rw [HZ.out, ← List.append_assoc]; exact ho5, hH5, hR5, hB5, by simp at hs5; omega⟩
      case measure => simp [intOf]; omega
    · have hqe : Hid (q = r.ord.length) := by show q = _; omega
      have hown2 : wr.ownsRow bs 3 1 u0 r.oL.length (il r.oL) := by
        rw [Rw.oL_il, Rw.oL_len, ← hqe.out]; exact hown
      obtain ⟨A6, k6, rfl, hi6, hg6⟩ := own_list hown2
      rw [Rw.oL_len] at hi6
      have e6 : r.oL.length = r.ni + r.nl + r.ord.length := Rw.oL_len r
      have HE6 := Lib.hid e6
      have i2 : ¬ (q : Int) < (r.ord.length : Int) := by have := hqe.out; omega
      obtain ⟨M, hM⟩ : ∃ M, r.oL.length = M := ⟨_, rfl⟩
      have hMl : M ≤ 4000 := by omega
      have HMM := Lib.hid hM
      rw [e6] at hM
      rw [hM] at hi6
      have HME := Lib.hid hM
      have hi6' := Lib.hid hi6
      have hb6 : ∀ a, A6 = some a → bs ≤ a.block := fun a e => hg6 a.block (by rw [e]; rfl)
      have hHr := Lib.hid hH
      rw [HMM.out]
      clear hlt hq hown hown2 hg6 e6 hM hi6 x0 x1 x2 x3 x4 x5 hH HMM
      go_wp2
      go_loopw [43] (fun i wt => ∃ t : Nat, t ≤ M ∧ i = .int .i64 t ∧ wt.rowIs g 3 (mn + 1) (fun v => .int .i64 (r.nwk t (v : Int))) ∧ IntsAt wt wr.heap.size A6 M (fun j => r.oL.getD j 0) ∧ Below w.heap.size w wt) (fun i _ => M - (intOf i).toNat)
      case atStart => exact ⟨0, Nat.zero_le _, rfl, hR, hi6'.out, hBr⟩
      case round =>
        clear hR hBr
        obtain ⟨t, ht, rfl, hR2, hI2, hB2⟩ := hrel
        by_cases htl : t < M
        · obtain ⟨u, hUu, hub, huc⟩ := hI2 (by omega)
          have v00 := huc t htl
          obtain ⟨e1, e2⟩ := hoo.out t (by have := HME.out; omega)
          obtain ⟨x, hx⟩ : ∃ x, r.oL.getD t 0 = x := ⟨_, rfl⟩
          have hst : Hid (∀ j : Nat, (if j = (x / 2).toNat then Value.int .i64 (1 + (t : Int)) else .int .i64 (r.nwk t (j : Int))) = .int .i64 (r.nwk (t + 1) (j : Int))) := fun j => by
            rw [Int.add_comm]
            exact r.nwk_step t x hx (by rw [← hx]; omega) j
          have v0 : wr.cell? (u.add t) = some (.int .i64 x) := v00.trans (by show some (Value.int .i64 (r.oL.getD t 0)) = _; rw [hx])
          clear v00
          rw [hx] at e1 e2
          have hm1 := HM.out
          have m1 : 0 ≤ x / 2 := by omega
          have m2 : x / 2 < (mn : Int) + 1 := by omega
          have m3 : x / 2 < ((mn + 1 : Nat) : Int) := by omega
          have hn1 : (x / 2).toNat < mn + 1 := by omega
          have z1 := hR2.cell hn1
          have z2 := hR2.frozen (x / 2).toNat
          have i1 : (0 : Int) ≤ (t : Int) := by omega
          have i2 : (t : Int) < (M : Int) := by omega
          have hI3 := setB (b := g) (j := (x / 2).toNat) hI2 (fun a e => by have := hb6 a e; omega)
          have CV : Hid (∀ W, Calls Tryz.prog 76 #[.int .i64 x] W fun e w' => e = .returned (.int .i64 (x / 2)) ∧ W = w') := fun W => varOf_any (by omega) (by omega) W
          subst hUu
          clear huc hx hm1 e1 e2
          go_wp2_with (go_at_call 76; (with_reducible refine (CV.out _).mono ?_); rintro e w7 ⟨rfl, rfl⟩)
          go_roundw
          case rel => exact ⟨t + 1, by omega, by go_num, (hR2.set _ _).congr (fun j hj => hst.out j), hI3 _, hB2.setCell (by simp; omega) _⟩
          case measure => simp [intOf]; omega
        · have hte : Hid (t = M) := by show t = _; omega
          have i2 : ¬ (t : Int) < (M : Int) := by omega
          clear htl ht
          go_wp2
          go_ret
          exact ⟨g, rfl, by unfold Rw.nw; rw [HE6.out, HME.out, ← hte.out]; exact hR2, by omega, hB2⟩

end Go.Proofs.YtkpjpokeonppbaaGreatDoor

namespace Go.Proofs.YtkpjpokeonppbaaGreatDoor
open Go Go.RowKit
set_option linter.unusedVariables false
set_option linter.unusedSimpArgs false

theorem wb_call2 {P : Program} {ops : Array Oper} {Q : Exit → Act → World → Prop} {md : Region.Mode} {S : World → Prop} {n : Nat} (i s t : Nat) {oi : Oper} {d : Nat} {f : FuncId} {args : Array Value} {u x : Value} {fuel : Nat} {listed : Array Bool} {a : Act} {w : World} (hi : opAt ops.toList i = some oi) (hd : oi.dst = some d)
    (hw : Region.wanted oi (yielded ops a.tmps) = true) (h1 : Slot a s u) (h2 : Slot a t x) (he : ∀ ev : Operand → Value, (∀ x, ev (.const x) = x) → (∀ f, ev (.func f) = .func (.func f) #[] #[]) → ev (.tmp s) = u → ev (.tmp t) = x → (execOp ev oi).run P w = .ok (.enter f args) w)
    (h : Calls P f args w fun e w' => ∃ v, e = .returned v ∧ (i < n → S w') ∧ WT P md ops Q S n fuel (listed.setIfInBounds i true) (a.put (some d) v) w') : wpOp P ops Q i (fun a' w' => (i < n → S w') ∧ WT P md ops Q S n fuel (listed.setIfInBounds i true) a' w') a w := by
  refine wpOp_go (opAt_spec hi) hw fun K hK => ?_
  show oi.upon P a K Q _
  rw [he _ (fun _ => rfl) (fun _ => rfl) h1.eval h2.eval, Oper.upon_enter]
  refine h.mono fun e w' => ?_
  rintro ⟨v, rfl, h1, h2⟩
  have h3 := hK _ _ ⟨h1, h2⟩
  show K (a.put oi.dst v) w'
  rw [hd]; exact h3

set_option maxRecDepth 100000 in
set_option maxHeartbeats 4000000 in
theorem circ_no (r : Rw) (p : Rp) (w : World) (hs : RSm r) (hm : RMem w w.heap.size r p) (hN : RNils r p) (hk : r.chk ≠ 0) :
    Calls Tryz.prog 24 #[rv r p] w fun e w' => e = .returned (.tuple #[.agg #[.int .i64 0, .slice none 0 0, .slice none 0 0, .slice none 0 0, .slice none 0 0], .slice none 0 0, .int .i64 r.chk]) ∧ Below w.heap.size w w' := by
  have hk' : (r.chk != 0) = true := by simpa using hk
  have hB0 : Below w.heap.size w ((w.alloc (.cells (rcL r p) 26)).alloc (.cells #[.int .i64 0, .slice none 0 0, .slice none 0 0, .slice none 0 0, .slice none 0 0] 41)) := by go_grown
  have hZ0 : Has ((w.alloc (.cells (rcL r p) 26)).alloc (.cells #[.int .i64 0, .slice none 0 0, .slice none 0 0, .slice none 0 0, .slice none 0 0] 41)) (w.heap.size + 1) 41 zc := Has.new' _ _ (by simp)
  have H0 := Lib.hid (And.intro hB0 hZ0)
  have G0 : Hid (∀ W, Below w.heap.size w W → Calls Tryz.prog 39 #[rv r p] W fun e w' => ∃ v, e = .returned (.tuple #[v, .int .i64 r.chk]) ∧ Below W.heap.size W w') := fun W hb => (pGates_any r p W hs (hm.to hb hb.size) hN).mono fun e w' ⟨v, he, _, hb⟩ => ⟨v, he, hb⟩
  clear hB0 hZ0 hk
  go_enter Tryz.func24, Tryz.ntmps24
  go_wp2_with (go_at_call 39; (with_reducible refine (G0.out _ H0.out.1).mono ?_); rintro e w1 ⟨v, rfl, hb1⟩; have hB1 := Below.step H0.out.1 H0.out.1.size hb1; have hZ1 := H0.out.2.keep hb1 H0.out.2.lt; obtain ⟨⟨z0, z1, z2, z3, z4⟩, f0, f1, f2, f3, f4⟩ := hZ1.z5)
  refine bodyPost_ret (v := .tuple #[.agg #[.int .i64 0, .slice none 0 0, .slice none 0 0, .slice none 0 0, .slice none 0 0], .slice none 0 0, .int .i64 r.chk]) (by simp [results, Tryz.results24, go_sem, z0, z1, z2, z3, z4]) rfl ⟨rfl, ?_⟩
  exact ((((hB1.setCell (by simp) _).setCell (by simp) _).setCell (by simp) _).setCell (by simp) _).setCell (by simp) _

/-- the cells that the statement's loads ask for -/
def BoxC (r : Rw) (p : Rp) (b : Nat) (W : World) : Prop := W.cell? ⟨b, 1, none⟩ = some (.slice p.A1 r.ni p.k1) ∧ W.cell? ⟨b, 4, none⟩ = some (.slice p.A4 r.nb p.k4) ∧ W.cell? ⟨b, 5, none⟩ = some (.slice p.A5 r.nc p.k5)
section
variable {U W W' : World} {bx : Nat} {r : Rw} {p : Rp} {F4 F5 : Nat → Int} {s8 : Option Nat} {t4 t5 : Option Value}
/-- where the statement stands that makes the circuit: its box, and the two lists -/
structure Ci (U W : World) (bx : Nat) (r : Rw) (p : Rp) (F4 F5 : Nat → Int) (s8 : Option Nat) (t4 t5 : Option Value) : Prop where
  B : Below U.heap.size U W
  x : Has W bx 26 (rc r p)
  xl : bx < U.heap.size
  h8 : ∀ b, s8 = some b → U.heap.size ≤ b ∧ Has W b 41 zc
  o4 : ∀ v, t4 = some v → W.ownsRow U.heap.size 3 1 v r.nb (intL F4 r.nb)
  o5 : ∀ v, t5 = some v → W.ownsRow U.heap.size 3 1 v r.nc (intL F5 r.nc)
theorem Ci.box (h : Ci U W bx r p F4 F5 s8 t4 t5) : BoxC r p bx W := ⟨h.x.cell 1, h.x.cell 4, h.x.cell 5⟩
theorem Ci.on (h : Ci U W bx r p F4 F5 s8 t4 t5) (hb : Below W.heap.size W W') : Ci U W' bx r p F4 F5 s8 t4 t5 :=
  ⟨Below.step h.B h.B.size hb, h.x.keep hb h.x.lt, h.xl, fun b e => ⟨(h.h8 b e).1, (h.h8 b e).2.keep hb (h.h8 b e).2.lt⟩, fun v e => own_below (h.o4 v e) hb, fun v e => own_below (h.o5 v e) hb⟩
theorem Ci.al8 (h : Ci U W bx r p F4 F5 none t4 t5) : Ci U (W.alloc (.cells zc 41)) bx r p F4 F5 (some W.heap.size) t4 t5 := by
  have k := h.on ((Below.refl W.heap.size W).alloc (Nat.le_refl _) (.cells zc 41))
  exact ⟨k.B, k.x, k.xl, fun b e => by cases e; exact ⟨h.B.size, Has.new _ _ _⟩, k.o4, k.o5⟩
theorem Ci.c4 {v : Value} (h : Ci U W bx r p F4 F5 s8 none none) (hb : Below W.heap.size W W') (ho : W'.ownsRow U.heap.size 3 1 v r.nb (intL F4 r.nb)) : Ci U W' bx r p F4 F5 s8 (some v) none := by
  have k := h.on hb
  exact ⟨k.B, k.x, k.xl, k.h8, (fun u e => by cases e; exact ho), (fun u e => by cases e)⟩
theorem Ci.c5 {v u : Value} (h : Ci U W bx r p F4 F5 s8 (some u) none) (hb : Below W.heap.size W W') (ho : W'.ownsRow U.heap.size 3 1 v r.nc (intL F5 r.nc)) : Ci U W' bx r p F4 F5 s8 (some u) (some v) := by
  have k := h.on hb
  exact ⟨k.B, k.x, k.xl, k.h8, k.o4, (fun u e => by cases e; exact ho)⟩
/-- behind it -/
structure Cd (U W : World) (bx : Nat) (r : Rw) (p : Rp) (F4 F5 : Nat → Int) (b8 : Nat) (v4 v5 : Value) : Prop where
  B : Below U.heap.size U W
  x : Has W bx 26 (rc r p)
  xl : bx < U.heap.size
  l8 : U.heap.size ≤ b8
  h8 : Has W b8 41 #[.int .i64 r.ni, .slice none 0 0, .slice none 0 0, v4, v5]
  o4 : W.ownsRow U.heap.size 3 1 v4 r.nb (intL F4 r.nb)
  o5 : W.ownsRow U.heap.size 3 1 v5 r.nc (intL F5 r.nc)
theorem Cd.box {b8 : Nat} {v4 v5 : Value} (h : Cd U W bx r p F4 F5 b8 v4 v5) : BoxC r p bx W := ⟨h.x.cell 1, h.x.cell 4, h.x.cell 5⟩
theorem row_ne {base b g size n : Nat} {e t : TypeId} {v : Value} {xs : List Value} {cs : Array Value} (h : W.ownsRow base e size v n xs) (hb : Has W b t cs) (ht : e ≠ t) (hg : v.ownBlock = some g) : g ≠ b := by
  rcases h.2 with ⟨hv, _⟩ | ⟨g', cap, cur, hv, _, hh, _⟩
  · rw [hv] at hg; cases hg
  · rw [hv] at hg
    cases hg
    exact Has.ne (cs := cur) hh hb ht
theorem Ci.fin {b8 : Nat} {A4 A5 : Option Addr} {k4 k5 : Nat} (h : Ci U W bx r p F4 F5 (some b8) (some (.slice A4 r.nb k4)) (some (.slice A5 r.nc k5)))
    (e : put5 W b8 (.int .i64 r.ni) (.slice none 0 0) (.slice none 0 0) (.slice A4 r.nb k4) (.slice A5 r.nc k5) = W') : Cd U W' bx r p F4 F5 b8 (.slice A4 r.nb k4) (.slice A5 r.nc k5) := by
  subst e
  obtain ⟨l8, h8⟩ := h.h8 b8 rfl
  have hx := h.xl
  exact ⟨put5_below _ _ _ _ _ h.B l8, (put5_far _ _ _ _ _ _ (by omega)).trans h.x, h.xl, l8, put5_has h8, own_on (h.o4 _ rfl) fun g hg _ => put5_far _ _ _ _ _ _ (row_ne (h.o4 _ rfl) h8 (by decide) hg), own_on (h.o5 _ rfl) fun g hg _ => put5_far _ _ _ _ _ _ (row_ne (h.o5 _ rfl) h8 (by decide) hg)⟩
end

theorem own_pairs' {w : World} {base : Nat} {e : TypeId} {v : Value} {n : Nat} {f h : Nat → Int} (ho : w.ownsRow base e 2 v n (pairL f h n)) : ∃ A k, v = .slice A n k ∧ PairsAt w w.heap.size A n f h ∧ (A = none → n = 0 ∧ k = 0) := by
  rcases ho.2 with ⟨rfl, hn⟩ | ⟨q, cap, cur, rfl, hg, hh, r⟩
  · subst hn
    exact ⟨none, 0, rfl, fun h => absurd h (Nat.not_lt_zero _), fun _ => ⟨rfl, rfl⟩⟩
  · exact ⟨_, cap, rfl, own_pairs ho (fun _ => Has.lt (t := e) (cs := cur) hh), (fun h => by cases h)⟩
theorem own_pairs2 {w : World} {base : Nat} {e : TypeId} {A : Option Addr} {n k : Nat} {f h : Nat → Int} (ho : w.ownsRow base e 2 (.slice A n k) n (pairL f h n)) : PairsAt w w.heap.size A n f h := by
  obtain ⟨A', k', hv, hp, _⟩ := own_pairs' ho
  cases hv
  exact hp
theorem own_ints2 {w : World} {base : Nat} {e : TypeId} {A : Option Addr} {n k : Nat} {f : Nat → Int} (ho : w.ownsRow base e 1 (.slice A n k) n (intL f n)) : IntsAt w w.heap.size A n f ∧ (A = none → n = 0 ∧ k = 0) := by
  obtain ⟨A', k', hv, hp, hn, _⟩ := own_ints' ho
  cases hv
  exact ⟨hp, hn⟩
theorem row_new {w : World} {base size n : Nat} {e : TypeId} {A : Option Addr} {k : Nat} {xs : List Value} (h : w.ownsRow base e size (.slice A n k) n xs) {B : Nat} (hB : B ≤ base) (a : Addr) (e1 : A = some a) : B ≤ a.block := Nat.le_trans hB (own_block h a.block (by rw [e1]; rfl))
theorem slice_succ {W : World} {base : Nat} {e : TypeId} {size : Nat} {v : Value} {k : Nat} {xs : List Value} (h : W.ownsRow base e size v (k + 1) xs) : ∃ g cap, v = .slice (some ⟨g, 0, none⟩) (k + 1) cap := by
  rcases h.2 with ⟨_, h0⟩ | ⟨g, cap, cur, hv, _⟩
  · omega
  · exact ⟨g, cap, hv⟩
theorem own_kept {X wr : World} {b base size n : Nat} {e : TypeId} {v : Value} {xs : List Value} {cs : Array Value} (h : X.ownsRow base e size v n xs) (hK : Kept X wr b) (hb : Has X b 41 cs) (he : e ≠ 41) : wr.ownsRow base e size v n xs :=
  own_on h fun g hg ⟨cur, hc⟩ => hK.k g (Has.lt hc) (row_ne h hb he hg)
theorem own_put5 {X : World} {b base size n : Nat} {e : TypeId} {v : Value} {xs : List Value} {cs : Array Value} (v0 v1 v2 v3 v4 : Value) (h : X.ownsRow base e size v n xs) (hb : Has X b 41 cs) (he : e ≠ 41) : (put5 X b v0 v1 v2 v3 v4).ownsRow base e size v n xs :=
  own_on h fun g hg _ => put5_far _ _ _ _ _ _ (row_ne h hb he hg)
/-- what Circuit returns of a valid raw circuit -/
def CircOk (r : Rw) (mn : Nat) (w : World) (e : Ending) (w' : World) : Prop :=
  ∃ p' g, e = .returned (.tuple #[cv r.cir p', .slice (some ⟨g, 0, none⟩) (mn + 1) (mn + 1), .int .i64 0]) ∧ Mem w' w'.heap.size r.cir p' ∧ Nils r.cir p' ∧ w'.rowIs g 3 (mn + 1) (fun v => .int .i64 (r.nw v)) ∧ Below w.heap.size w w' ∧ w.heap.size ≤ g ∧ ∀ a, (p'.A1 = some a ∨ p'.A2 = some a ∨ p'.A3 = some a ∨ p'.A4 = some a) → w.heap.size ≤ a.block

set_option maxRecDepth 100000 in
set_option maxHeartbeats 16000000 in
theorem circ_yes (r : Rw) (p : Rp) (w : World) (mn : Nat) (hmn : r.m = mn) (hs : RSm r) (hm : RMem w w.heap.size r p) (hN : RNils r p) (hk : r.chk = 0) :
    Calls Tryz.prog 24 #[rv r p] w (CircOk r mn w) := by
  obtain ⟨h0, hbig, hnum, _⟩ := Rw.chk_parts hk
  have hbg := of_decide_eq_false hbig
  have h1 : r.m ≤ 1000 := by omega
  have g0 := hs.ni
  have g1 := hs.nl
  have g2 := hs.na
  have g4 := hs.nb
  have g5 := hs.nc
  have hB0 : Below w.heap.size w ((w.alloc (.cells (rcL r p) 26)).alloc (.cells #[.int .i64 0, .slice none 0 0, .slice none 0 0, .slice none 0 0, .slice none 0 0] 41)) := by go_grown
  have hX0 : Has ((w.alloc (.cells (rcL r p) 26)).alloc (.cells #[.int .i64 0, .slice none 0 0, .slice none 0 0, .slice none 0 0, .slice none 0 0] 41)) w.heap.size 26 (rc r p) := (Has.new _ _ _).al _
  have hZ0 : Has ((w.alloc (.cells (rcL r p) 26)).alloc (.cells #[.int .i64 0, .slice none 0 0, .slice none 0 0, .slice none 0 0, .slice none 0 0] 41)) (w.heap.size + 1) 41 zc := Has.new' _ _ (by simp)
  have H0 := Lib.hid (And.intro hB0 (And.intro hX0 hZ0))
  have G0 : Hid (∀ W, Below w.heap.size w W → Calls Tryz.prog 39 #[rv r p] W fun e w' => ∃ A k, e = .returned (.tuple #[.slice A r.ord.length k, .int .i64 0]) ∧ IntsAt w' w'.heap.size A r.ord.length (fun j => (nL r.ord).getD j 0) ∧ Below W.heap.size W w') := fun W hb => (pGates_any r p W hs (hm.to hb hb.size) hN).mono fun e w' ⟨v, he, ho, hb⟩ => by
    have ho := ho hk
    rw [← nL_len r.ord] at ho
    obtain ⟨A, k, hv, hi, _⟩ := own_list ho
    rw [nL_len] at hv hi
    exact ⟨A, k, by rw [he, hk, hv], hi, hb⟩
  have V0 : Hid (∀ W A k, Below w.heap.size w W → IntsAt W W.heap.size A r.ord.length (fun j => (nL r.ord).getD j 0) → Calls Tryz.prog 41 #[rv r p, .slice A r.ord.length k] W (NumsIs r mn W)) := fun W A k hb hi => newVars_any r p W mn A k hmn hs (hm.to hb hb.size) hN h1 hnum hi
  have HK := Lib.hid hk
  have HM := Lib.hid hm
  have HMN := Lib.hid hmn
  clear hB0 hX0 hZ0 hk hbig hbg hnum hmn hm
  go_enter Tryz.func24, Tryz.ntmps24
  go_wp2_with (go_at_call 39; (with_reducible refine (G0.out _ H0.out.1).mono ?_); rintro e w1 ⟨U5, k5, rfl, hi1, hb1⟩; have hB1 := Below.step H0.out.1 H0.out.1.size hb1; have hX1 := H0.out.2.1.keep hb1 H0.out.2.1.lt; have hZ1 := H0.out.2.2.keep hb1 H0.out.2.2.lt; obtain ⟨x0, x1, x2, x3, x4, x5⟩ := hX1.rbox)
  go_wp2_with (go_at_call 41; (with_reducible refine (V0.out _ _ _ hB1 hi1).mono ?_); rintro e w2 ⟨g, rfl, hR2, hg2, hb2⟩; have hB2 := Below.step hB1 hB1.size hb2; have hX2 := hX1.keep hb2 hX1.lt; have hZ2 := hZ1.keep hb2 hZ1.lt; have hi2 := (hi1.keep hb2).more hb2.size)
  clear x0 x1 x2 x3 x4 x5
  obtain ⟨U, hU⟩ : ∃ U, w2.drew = U := ⟨_, rfl⟩
  have hRU : U.rowIs g 3 (mn + 1) (fun v => .int .i64 (r.nw v)) := hU ▸ hR2.drew
  have hXU : Has U w.heap.size 26 (rc r p) := hU ▸ (show Has w2.drew w.heap.size 26 (rc r p) from hX2)
  have hZU : Has U (w.heap.size + 1) 41 zc := hU ▸ (show Has w2.drew (w.heap.size + 1) 41 zc from hZ2)
  have hBU : Below w.heap.size w U := hU ▸ below_dn hB2 1
  have hiU : IntsAt U U.heap.size U5 r.ord.length (fun j => (nL r.ord).getD j 0) := hU ▸ (show IntsAt w2.drew w2.drew.heap.size U5 r.ord.length (fun j => (nL r.ord).getD j 0) from hi2)
  have hNU : IntsAt U U.heap.size (some ⟨g, 0, none⟩) (mn + 1) (fun v => r.nw (v : Int)) := fun _ => ⟨_, rfl, hRU.lt, fun j hj => by
    have e : (⟨g, 0, none⟩ : Addr).add j = ⟨g, j, none⟩ := by unfold Addr.add; split <;> simp_all
    rw [e, hRU.cell hj]⟩
  have hb0 : Ci U U w.heap.size r p (fun j => r.told (r.bd j)) (fun j => r.told (r.cn j)) none none none := ⟨Below.refl _ _, hXU, hXU.lt, (fun b e => by cases e), (fun v e => by cases e), (fun v e => by cases e)⟩
  have RA : Hid (∀ (A : Option Addr) (n k : Nat) (x : Nat → Int), n ≤ 1000 → IntsAt U U.heap.size A n x → (∀ j, j < n → x j ∈ r.uL) → ∀ W, Below U.heap.size U W → Calls Tryz.prog 42 #[.slice A n k, .slice (some ⟨g, 0, none⟩) (mn + 1) (mn + 1)] W fun e w' => ∃ A' k', e = .returned (.slice A' n k') ∧ w'.ownsRow U.heap.size 3 1 (.slice A' n k') n (intL (fun j => r.told (x j)) n) ∧ Below W.heap.size W w') := fun A n k x hn hA hx W hb => by
    have hu := fun j hj => Rw.used_nw HK.out (hx j hj)
    have hmn := HMN.out
    have ec : ∀ j, j < n → (((x j / 2).toNat : Nat) : Int) = x j / 2 := fun j hj => by have := (hu j hj).1; omega
    have h := renamedAll_any A (some ⟨g, 0, none⟩) n k (mn + 1) (mn + 1) x (fun v => r.nw (v : Int)) U.heap.size W hb.size (hA.keep hb) (hNU.keep hb) hn (fun j hj => by
      have := hu j hj
      have e := ec j hj
      show 0 ≤ x j ∧ x j ≤ 2001 ∧ x j / 2 < ((mn + 1 : Nat) : Int) ∧ 0 ≤ r.nw (((x j / 2).toNat : Nat) : Int) ∧ r.nw (((x j / 2).toNat : Nat) : Int) ≤ 1000
      rw [e]
      omega)
    refine h.mono fun e w' ⟨v, he, ho, hb'⟩ => ?_
    have el : intL (reN (fun v => r.nw (v : Int)) x) n = intL (fun j => r.told (x j)) n := intL_congr fun j hj => by
      show 2 * r.nw (((x j / 2).toNat : Nat) : Int) + x j % 2 = 2 * r.nw (x j / 2) + x j % 2
      rw [ec j hj]
    rw [el] at ho
    obtain ⟨A', k', hv, _⟩ := own_ints' ho
    subst hv
    exact ⟨A', k', he, own_baseT ho hb.size, hb'⟩
  have RA4 : Hid (∀ W, Below U.heap.size U W → Calls Tryz.prog 42 #[.slice p.A4 r.nb p.k4, .slice (some ⟨g, 0, none⟩) (mn + 1) (mn + 1)] W fun e w' => ∃ A' k', e = .returned (.slice A' r.nb k') ∧ w'.ownsRow U.heap.size 3 1 (.slice A' r.nb k') r.nb (intL (fun j => r.told (r.bd j)) r.nb) ∧ Below W.heap.size W w') := RA.out p.A4 r.nb p.k4 r.bd g4 ((HM.out.bd.keep hBU).more hBU.size) (fun j hj => by unfold Rw.uL; simp only [List.mem_append]; exact Or.inl (Or.inl (Or.inl (mem_lst.2 ⟨j, hj, rfl⟩))))
  have RA5 : Hid (∀ W, Below U.heap.size U W → Calls Tryz.prog 42 #[.slice p.A5 r.nc p.k5, .slice (some ⟨g, 0, none⟩) (mn + 1) (mn + 1)] W fun e w' => ∃ A' k', e = .returned (.slice A' r.nc k') ∧ w'.ownsRow U.heap.size 3 1 (.slice A' r.nc k') r.nc (intL (fun j => r.told (r.cn j)) r.nc) ∧ Below W.heap.size W w') := RA.out p.A5 r.nc p.k5 r.cn g5 ((HM.out.cn.keep hBU).more hBU.size) (fun j hj => by unfold Rw.uL; simp only [List.mem_append]; exact Or.inl (Or.inl (Or.inr (mem_lst.2 ⟨j, hj, rfl⟩))))
  have hgw : w.heap.size ≤ g := Nat.le_trans hB1.size hg2
  clear hi1 hi2 hB1 hB2 hX1 hX2 hZ1 hZ2 hR2 hg2 hb1 hb2
  refine Go.Code.wp_mono (Q := fun e a' W' => e = .normal ∧ ∃ b8 A4 k4 A5 k5', (Sz a' 96 ∧ Slot a' 1 (.pointer (some ⟨w.heap.size, 0, none⟩)) ∧ Slot a' 2 (.pointer (some ⟨w.heap.size + 1, 0, none⟩)) ∧ Slot a' 5 (.slice U5 r.ord.length k5) ∧ Slot a' 7 (.slice (some ⟨g, 0, none⟩) (mn + 1) (mn + 1)) ∧ Slot a' 8 (.pointer (some ⟨b8, 0, none⟩))) ∧ Cd U W' w.heap.size r p (fun j => r.told (r.bd j)) (fun j => r.told (r.cn j)) b8 (.slice A4 r.nb k4) (.slice A5 r.nc k5')) ?rest ?reg
  case reg =>
      refine wp_slots (fun f => Sz f 96 ∧ Slot f 1 (.pointer (some ⟨w.heap.size, 0, none⟩)) ∧ Slot f 2 (.pointer (some ⟨w.heap.size + 1, 0, none⟩)) ∧ Slot f 5 (.slice U5 r.ord.length k5) ∧ Slot f 7 (.slice (some ⟨g, 0, none⟩) (mn + 1) (mn + 1))) ⟨⟨rfl, rfl⟩, ⟨rfl⟩, ⟨rfl⟩, ⟨rfl⟩, ⟨rfl⟩⟩ fun a0 hA0 hR => ?_
      obtain ⟨hZ, hs1, hs2, hs5, hs7⟩ := hR
      clear hA0
      have hS0 : BoxC r p w.heap.size U := hb0.box
      refine wp_region_T' hU (BoxC r p w.heap.size) 14 (by kernel_rfl) ?_
      refine WT.h ?_
      (refine wt_take1 0 1 (v := ?_) rfl rfl (by kernel_rfl) (by kernel_rfl) (by kernel_rfl) (by kernel_rfl) (fun _ _ _ h => h) rfl hS0 (by (repeat (first | (refine slot_hit (N := 96) ?_ (by rfl); (repeat (refine sz_put ?_)); assumption; done) | (apply slot_miss; focus rfl))); all_goals assumption) (fun ev hk hv0 w hS => ?_) ?_; rotate_left; focus (obtain ⟨j1, j2, j3⟩ := hS; go_simp; rfl)); (refine wt_take1 1 27 (v := ?_) rfl rfl (by kernel_rfl) (by kernel_rfl) (by kernel_rfl) (by kernel_rfl) (fun _ _ _ h => h) rfl hS0 (by (repeat (first | (refine slot_hit (N := 96) ?_ (by rfl); (repeat (refine sz_put ?_)); assumption; done) | (apply slot_miss; focus rfl))); all_goals assumption) (fun ev hk hv0 w hS => ?_) ?_; rotate_left; focus (obtain ⟨j1, j2, j3⟩ := hS; go_simp; rfl)); (refine wt_take1 2 28 (v := ?_) rfl rfl (by kernel_rfl) (by kernel_rfl) (by kernel_rfl) (by kernel_rfl) (fun _ _ _ h => h) rfl hS0 (by (repeat (first | (refine slot_hit (N := 96) ?_ (by rfl); (repeat (refine sz_put ?_)); assumption; done) | (apply slot_miss; focus rfl))); all_goals assumption) (fun ev hk hv0 w hS => ?_) ?_; rotate_left; focus (obtain ⟨j1, j2, j3⟩ := hS; go_simp; rfl)); (refine wt_take1 3 1 (v := ?_) rfl rfl (by kernel_rfl) (by kernel_rfl) (by kernel_rfl) (by kernel_rfl) (fun _ _ _ h => h) rfl hS0 (by (repeat (first | (refine slot_hit (N := 96) ?_ (by rfl); (repeat (refine sz_put ?_)); assumption; done) | (apply slot_miss; focus rfl))); all_goals assumption) (fun ev hk hv0 w hS => ?_) ?_; rotate_left; focus (obtain ⟨j1, j2, j3⟩ := hS; go_simp; rfl)); (refine wt_take1 4 30 (v := ?_) rfl rfl (by kernel_rfl) (by kernel_rfl) (by kernel_rfl) (by kernel_rfl) (fun _ _ _ h => h) rfl hS0 (by (repeat (first | (refine slot_hit (N := 96) ?_ (by rfl); (repeat (refine sz_put ?_)); assumption; done) | (apply slot_miss; focus rfl))); all_goals assumption) (fun ev hk hv0 w hS => ?_) ?_; rotate_left; focus (obtain ⟨j1, j2, j3⟩ := hS; go_simp; rfl)); (refine wt_move 5 7 rfl rfl (by kernel_rfl) (by kernel_rfl) (by kernel_rfl) (by kernel_rfl) (fun _ _ _ h => h) rfl hS0 (by (repeat (first | (refine slot_hit (N := 96) ?_ (by rfl); (repeat (refine sz_put ?_)); assumption; done) | (apply slot_miss; focus rfl))); all_goals assumption) rfl ?_); (refine wt_take1 7 1 (v := ?_) rfl rfl (by kernel_rfl) (by kernel_rfl) (by kernel_rfl) (by kernel_rfl) (fun _ _ _ h => h) rfl hS0 (by (repeat (first | (refine slot_hit (N := 96) ?_ (by rfl); (repeat (refine sz_put ?_)); assumption; done) | (apply slot_miss; focus rfl))); all_goals assumption) (fun ev hk hv0 w hS => ?_) ?_; rotate_left; focus (obtain ⟨j1, j2, j3⟩ := hS; go_simp; rfl)); (refine wt_take1 8 34 (v := ?_) rfl rfl (by kernel_rfl) (by kernel_rfl) (by kernel_rfl) (by kernel_rfl) (fun _ _ _ h => h) rfl hS0 (by (repeat (first | (refine slot_hit (N := 96) ?_ (by rfl); (repeat (refine sz_put ?_)); assumption; done) | (apply slot_miss; focus rfl))); all_goals assumption) (fun ev hk hv0 w hS => ?_) ?_; rotate_left; focus (obtain ⟨j1, j2, j3⟩ := hS; go_simp; rfl)); (refine wt_move 9 7 rfl rfl (by kernel_rfl) (by kernel_rfl) (by kernel_rfl) (by kernel_rfl) (fun _ _ _ h => h) rfl hS0 (by (repeat (first | (refine slot_hit (N := 96) ?_ (by rfl); (repeat (refine sz_put ?_)); assumption; done) | (apply slot_miss; focus rfl))); all_goals assumption) rfl ?_)
      refine wt_ways2 6 12 (by kernel_rfl) ?_ ?_
      · refine wb_call2 6 31 32 rfl rfl rfl (by (repeat (first | (refine slot_hit (N := 96) ?_ (by rfl); (repeat (refine sz_put ?_)); assumption; done) | (apply slot_miss; focus rfl))); all_goals assumption) (by (repeat (first | (refine slot_hit (N := 96) ?_ (by rfl); (repeat (refine sz_put ?_)); assumption; done) | (apply slot_miss; focus rfl))); all_goals assumption) (f := ?_) (args := ?_) (fun ev hk hkf hv0 hv1 => ?_) ?_
        rotate_left 2
        focus (go_simp; first | rfl | (constructor <;> rfl))
        (with_reducible refine (RA4.out _ hb0.B).mono ?_)
        rintro e V1 ⟨A6, k6, rfl, ho1, hv1⟩
        have hb1 := hb0.c4 hv1 ho1
        refine ⟨_, rfl, fun _ => hb1.box, ?_⟩
        refine wt_ways2 10 12 (by kernel_rfl) ?_ ?_
        · refine wb_call2 10 35 36 rfl rfl rfl (by (repeat (first | (refine slot_hit (N := 96) ?_ (by rfl); (repeat (refine sz_put ?_)); assumption; done) | (apply slot_miss; focus rfl))); all_goals assumption) (by (repeat (first | (refine slot_hit (N := 96) ?_ (by rfl); (repeat (refine sz_put ?_)); assumption; done) | (apply slot_miss; focus rfl))); all_goals assumption) (f := ?_) (args := ?_) (fun ev hk hkf hv0 hv1 => ?_) ?_
          rotate_left 2
          focus (go_simp; first | rfl | (constructor <;> rfl))
          (with_reducible refine (RA5.out _ hb1.B).mono ?_)
          rintro e V2 ⟨A10, k10, rfl, ho2, hv2⟩
          have hb2 := hb1.c5 hv2 ho2
          refine ⟨_, rfl, fun _ => hb2.box, ?_⟩
          clear hS0
          have hS0 : BoxC r p w.heap.size V2 := hb2.box
          (refine wt_take3 11 29 33 37 (v := ?_) rfl rfl (by kernel_rfl) (by kernel_rfl) (by kernel_rfl) (by kernel_rfl) (fun _ _ _ h => h) rfl hS0 (by (repeat (first | (refine slot_hit (N := 96) ?_ (by rfl); (repeat (refine sz_put ?_)); assumption; done) | (apply slot_miss; focus rfl))); all_goals assumption) (by (repeat (first | (refine slot_hit (N := 96) ?_ (by rfl); (repeat (refine sz_put ?_)); assumption; done) | (apply slot_miss; focus rfl))); all_goals assumption) (by (repeat (first | (refine slot_hit (N := 96) ?_ (by rfl); (repeat (refine sz_put ?_)); assumption; done) | (apply slot_miss; focus rfl))); all_goals assumption) (fun ev hk hv0 hv1 hv2 w hS => ?_) ?_; rotate_left; focus (go_simp; rfl))
          refine wt_one 12 (by kernel_rfl) ?_
          refine wb_val 12 rfl rfl rfl (v := ?_) (w' := ?_) (fun ev hk => ?_) ?_
          rotate_left 2
          focus (go_simp; first | rfl | (constructor <;> rfl))
          intro V3 hV3
          have hb3 := hb2.al8
          unfold zc at hb3
          rw [hV3] at hb3
          clear hV3
          refine ⟨fun _ => hb3.box, ?_⟩
          obtain ⟨⟨z0, z1, z2, z3, z4⟩, f0, f1, f2, f3, f4⟩ := (hb3.h8 _ rfl).2.z5
          refine wt_one 13 (by kernel_rfl) ?_
          refine wb_act2 13 8 38 rfl rfl rfl (by (repeat (first | (refine slot_hit (N := 96) ?_ (by rfl); (repeat (refine sz_put ?_)); assumption; done) | (apply slot_miss; focus rfl))); all_goals assumption) (by (repeat (first | (refine slot_hit (N := 96) ?_ (by rfl); (repeat (refine sz_put ?_)); assumption; done) | (apply slot_miss; focus rfl))); all_goals assumption) (w' := ?_) (fun ev hk hv0 hv1 => ?_) ?_
          rotate_left
          focus (go_simp; rfl)
          intro U2 hU2
          have h3 := hb3.fin hU2
          refine ⟨fun _ => h3.box, ?_⟩
          refine wt_done (by kernel_rfl) (NoPanic.normal ⟨rfl, _, _, _, _, _, ⟨?_, ?_, ?_, ?_, ?_, ?_⟩, h3⟩) _
          · (repeat (refine sz_put ?_)); assumption
          · exact (by (repeat (first | (refine slot_hit (N := 96) ?_ (by rfl); (repeat (refine sz_put ?_)); assumption; done) | (apply slot_miss; focus rfl))); all_goals assumption)
          · exact (by (repeat (first | (refine slot_hit (N := 96) ?_ (by rfl); (repeat (refine sz_put ?_)); assumption; done) | (apply slot_miss; focus rfl))); all_goals assumption)
          · exact (by (repeat (first | (refine slot_hit (N := 96) ?_ (by rfl); (repeat (refine sz_put ?_)); assumption; done) | (apply slot_miss; focus rfl))); all_goals assumption)
          · exact (by (repeat (first | (refine slot_hit (N := 96) ?_ (by rfl); (repeat (refine sz_put ?_)); assumption; done) | (apply slot_miss; focus rfl))); all_goals assumption)
          · exact (by (repeat (first | (refine slot_hit (N := 96) ?_ (by rfl); (repeat (refine sz_put ?_)); assumption; done) | (apply slot_miss; focus rfl))); all_goals assumption)
        · refine wb_val 12 rfl rfl rfl (v := ?_) (w' := ?_) (fun ev hk => ?_) ?_
          rotate_left 2
          focus (go_simp; first | rfl | (constructor <;> rfl))
          intro V2 hV2
          have hb2 := hb1.al8
          unfold zc at hb2
          rw [hV2] at hb2
          clear hV2
          refine ⟨fun _ => hb2.box, ?_⟩
          refine wt_one 10 (by kernel_rfl) ?_
          refine wb_call2 10 35 36 rfl rfl rfl (by (repeat (first | (refine slot_hit (N := 96) ?_ (by rfl); (repeat (refine sz_put ?_)); assumption; done) | (apply slot_miss; focus rfl))); all_goals assumption) (by (repeat (first | (refine slot_hit (N := 96) ?_ (by rfl); (repeat (refine sz_put ?_)); assumption; done) | (apply slot_miss; focus rfl))); all_goals assumption) (f := ?_) (args := ?_) (fun ev hk hkf hv0 hv1 => ?_) ?_
          rotate_left 2
          focus (go_simp; first | rfl | (constructor <;> rfl))
          (with_reducible refine (RA5.out _ hb2.B).mono ?_)
          rintro e V3 ⟨A10, k10, rfl, ho3, hv3⟩
          have hb3 := hb2.c5 hv3 ho3
          refine ⟨_, rfl, fun _ => hb3.box, ?_⟩
          clear hS0
          have hS0 : BoxC r p w.heap.size V3 := hb3.box
          (refine wt_take3 11 29 33 37 (v := ?_) rfl rfl (by kernel_rfl) (by kernel_rfl) (by kernel_rfl) (by kernel_rfl) (fun _ _ _ h => h) rfl hS0 (by (repeat (first | (refine slot_hit (N := 96) ?_ (by rfl); (repeat (refine sz_put ?_)); assumption; done) | (apply slot_miss; focus rfl))); all_goals assumption) (by (repeat (first | (refine slot_hit (N := 96) ?_ (by rfl); (repeat (refine sz_put ?_)); assumption; done) | (apply slot_miss; focus rfl))); all_goals assumption) (by (repeat (first | (refine slot_hit (N := 96) ?_ (by rfl); (repeat (refine sz_put ?_)); assumption; done) | (apply slot_miss; focus rfl))); all_goals assumption) (fun ev hk hv0 hv1 hv2 w hS => ?_) ?_; rotate_left; focus (go_simp; rfl))
          obtain ⟨⟨z0, z1, z2, z3, z4⟩, f0, f1, f2, f3, f4⟩ := (hb3.h8 _ rfl).2.z5
          refine wt_one 13 (by kernel_rfl) ?_
          refine wb_act2 13 8 38 rfl rfl rfl (by (repeat (first | (refine slot_hit (N := 96) ?_ (by rfl); (repeat (refine sz_put ?_)); assumption; done) | (apply slot_miss; focus rfl))); all_goals assumption) (by (repeat (first | (refine slot_hit (N := 96) ?_ (by rfl); (repeat (refine sz_put ?_)); assumption; done) | (apply slot_miss; focus rfl))); all_goals assumption) (w' := ?_) (fun ev hk hv0 hv1 => ?_) ?_
          rotate_left
          focus (go_simp; rfl)
          intro U2 hU2
          have h3 := hb3.fin hU2
          refine ⟨fun _ => h3.box, ?_⟩
          refine wt_done (by kernel_rfl) (NoPanic.normal ⟨rfl, _, _, _, _, _, ⟨?_, ?_, ?_, ?_, ?_, ?_⟩, h3⟩) _
          · (repeat (refine sz_put ?_)); assumption
          · exact (by (repeat (first | (refine slot_hit (N := 96) ?_ (by rfl); (repeat (refine sz_put ?_)); assumption; done) | (apply slot_miss; focus rfl))); all_goals assumption)
          · exact (by (repeat (first | (refine slot_hit (N := 96) ?_ (by rfl); (repeat (refine sz_put ?_)); assumption; done) | (apply slot_miss; focus rfl))); all_goals assumption)
          · exact (by (repeat (first | (refine slot_hit (N := 96) ?_ (by rfl); (repeat (refine sz_put ?_)); assumption; done) | (apply slot_miss; focus rfl))); all_goals assumption)
          · exact (by (repeat (first | (refine slot_hit (N := 96) ?_ (by rfl); (repeat (refine sz_put ?_)); assumption; done) | (apply slot_miss; focus rfl))); all_goals assumption)
          · exact (by (repeat (first | (refine slot_hit (N := 96) ?_ (by rfl); (repeat (refine sz_put ?_)); assumption; done) | (apply slot_miss; focus rfl))); all_goals assumption)
      · refine wb_val 12 rfl rfl rfl (v := ?_) (w' := ?_) (fun ev hk => ?_) ?_
        rotate_left 2
        focus (go_simp; first | rfl | (constructor <;> rfl))
        intro V1 hV1
        have hb1 := hb0.al8
        unfold zc at hb1
        rw [hV1] at hb1
        clear hV1
        refine ⟨fun _ => hb1.box, ?_⟩
        refine wt_one 6 (by kernel_rfl) ?_
        refine wb_call2 6 31 32 rfl rfl rfl (by (repeat (first | (refine slot_hit (N := 96) ?_ (by rfl); (repeat (refine sz_put ?_)); assumption; done) | (apply slot_miss; focus rfl))); all_goals assumption) (by (repeat (first | (refine slot_hit (N := 96) ?_ (by rfl); (repeat (refine sz_put ?_)); assumption; done) | (apply slot_miss; focus rfl))); all_goals assumption) (f := ?_) (args := ?_) (fun ev hk hkf hv0 hv1 => ?_) ?_
        rotate_left 2
        focus (go_simp; first | rfl | (constructor <;> rfl))
        (with_reducible refine (RA4.out _ hb1.B).mono ?_)
        rintro e V2 ⟨A6, k6, rfl, ho2, hv2⟩
        have hb2 := hb1.c4 hv2 ho2
        refine ⟨_, rfl, fun _ => hb2.box, ?_⟩
        refine wt_one 10 (by kernel_rfl) ?_
        refine wb_call2 10 35 36 rfl rfl rfl (by (repeat (first | (refine slot_hit (N := 96) ?_ (by rfl); (repeat (refine sz_put ?_)); assumption; done) | (apply slot_miss; focus rfl))); all_goals assumption) (by (repeat (first | (refine slot_hit (N := 96) ?_ (by rfl); (repeat (refine sz_put ?_)); assumption; done) | (apply slot_miss; focus rfl))); all_goals assumption) (f := ?_) (args := ?_) (fun ev hk hkf hv0 hv1 => ?_) ?_
        rotate_left 2
        focus (go_simp; first | rfl | (constructor <;> rfl))
        (with_reducible refine (RA5.out _ hb2.B).mono ?_)
        rintro e V3 ⟨A10, k10, rfl, ho3, hv3⟩
        have hb3 := hb2.c5 hv3 ho3
        refine ⟨_, rfl, fun _ => hb3.box, ?_⟩
        clear hS0
        have hS0 : BoxC r p w.heap.size V3 := hb3.box
        (refine wt_take3 11 29 33 37 (v := ?_) rfl rfl (by kernel_rfl) (by kernel_rfl) (by kernel_rfl) (by kernel_rfl) (fun _ _ _ h => h) rfl hS0 (by (repeat (first | (refine slot_hit (N := 96) ?_ (by rfl); (repeat (refine sz_put ?_)); assumption; done) | (apply slot_miss; focus rfl))); all_goals assumption) (by (repeat (first | (refine slot_hit (N := 96) ?_ (by rfl); (repeat (refine sz_put ?_)); assumption; done) | (apply slot_miss; focus rfl))); all_goals assumption) (by (repeat (first | (refine slot_hit (N := 96) ?_ (by rfl); (repeat (refine sz_put ?_)); assumption; done) | (apply slot_miss; focus rfl))); all_goals assumption) (fun ev hk hv0 hv1 hv2 w hS => ?_) ?_; rotate_left; focus (go_simp; rfl))
        obtain ⟨⟨z0, z1, z2, z3, z4⟩, f0, f1, f2, f3, f4⟩ := (hb3.h8 _ rfl).2.z5
        refine wt_one 13 (by kernel_rfl) ?_
        refine wb_act2 13 8 38 rfl rfl rfl (by (repeat (first | (refine slot_hit (N := 96) ?_ (by rfl); (repeat (refine sz_put ?_)); assumption; done) | (apply slot_miss; focus rfl))); all_goals assumption) (by (repeat (first | (refine slot_hit (N := 96) ?_ (by rfl); (repeat (refine sz_put ?_)); assumption; done) | (apply slot_miss; focus rfl))); all_goals assumption) (w' := ?_) (fun ev hk hv0 hv1 => ?_) ?_
        rotate_left
        focus (go_simp; rfl)
        intro U2 hU2
        have h3 := hb3.fin hU2
        refine ⟨fun _ => h3.box, ?_⟩
        refine wt_done (by kernel_rfl) (NoPanic.normal ⟨rfl, _, _, _, _, _, ⟨?_, ?_, ?_, ?_, ?_, ?_⟩, h3⟩) _
        · (repeat (refine sz_put ?_)); assumption
        · exact (by (repeat (first | (refine slot_hit (N := 96) ?_ (by rfl); (repeat (refine sz_put ?_)); assumption; done) | (apply slot_miss; focus rfl))); all_goals assumption)
        · exact (by (repeat (first | (refine slot_hit (N := 96) ?_ (by rfl); (repeat (refine sz_put ?_)); assumption; done) | (apply slot_miss; focus rfl))); all_goals assumption)
        · exact (by (repeat (first | (refine slot_hit (N := 96) ?_ (by rfl); (repeat (refine sz_put ?_)); assumption; done) | (apply slot_miss; focus rfl))); all_goals assumption)
        · exact (by (repeat (first | (refine slot_hit (N := 96) ?_ (by rfl); (repeat (refine sz_put ?_)); assumption; done) | (apply slot_miss; focus rfl))); all_goals assumption)
        · exact (by (repeat (first | (refine slot_hit (N := 96) ?_ (by rfl); (repeat (refine sz_put ?_)); assumption; done) | (apply slot_miss; focus rfl))); all_goals assumption)
  case rest =>
    rintro e a' W3 ⟨rfl, b8, A4, k4, A5, k5', ⟨hZ, hs1, hs2, hs5, hs7, hs8⟩, hX3⟩
    refine q_known hZ [(1, .pointer (some ⟨w.heap.size, 0, none⟩)), (2, .pointer (some ⟨w.heap.size + 1, 0, none⟩)), (5, .slice U5 r.ord.length k5), (7, .slice (some ⟨g, 0, none⟩) (mn + 1) (mn + 1)), (8, .pointer (some ⟨b8, 0, none⟩))] ⟨hs1, hs2, hs5, hs7, hs8, trivial⟩ fun fv fl hfl => ?_
    obtain rfl : fl = [fv 0, ((.pointer (some ⟨w.heap.size, 0, none⟩)) : Value), ((.pointer (some ⟨w.heap.size + 1, 0, none⟩)) : Value), fv 3, fv 4, ((.slice U5 r.ord.length k5) : Value), fv 6, ((.slice (some ⟨g, 0, none⟩) (mn + 1) (mn + 1)) : Value), ((.pointer (some ⟨b8, 0, none⟩)) : Value), fv 9, fv 10, fv 11, fv 12, fv 13, fv 14, fv 15, fv 16, fv 17, fv 18, fv 19, fv 20, fv 21, fv 22, fv 23, fv 24, fv 25, fv 26, fv 27, fv 28, fv 29, fv 30, fv 31, fv 32, fv 33, fv 34, fv 35, fv 36, fv 37, fv 38, fv 39, fv 40, fv 41, fv 42, fv 43, fv 44, fv 45, fv 46, fv 47, fv 48, fv 49, fv 50, fv 51, fv 52, fv 53, fv 54, fv 55, fv 56, fv 57, fv 58, fv 59, fv 60, fv 61, fv 62, fv 63, fv 64, fv 65, fv 66, fv 67, fv 68, fv 69, fv 70, fv 71, fv 72, fv 73, fv 74, fv 75, fv 76, fv 77, fv 78, fv 79, fv 80, fv 81, fv 82, fv 83, fv 84, fv 85, fv 86, fv 87, fv 88, fv 89, fv 90, fv 91, fv 92, fv 93, fv 94, fv 95] := hfl.symm.trans (by kernel_rfl)
    clear hfl hZ hs1 hs2 hs5 hs7 hs8
    have hb8l := hX3.h8.lt
    have hol : r.ord.length ≤ r.na := Rw.ord_len
    have hl8 := hX3.l8
    have hwU := hX3.xl
    have hgU := hRU.lt
    have hBW : Below w.heap.size w W3 := Below.step hBU hBU.size hX3.B
    have hR3 : W3.rowIs g 3 (mn + 1) (fun v => .int .i64 (r.nw v)) := hRU.of_block (hX3.B.block g hgU)
    have hi3 : IntsAt W3 W3.heap.size U5 r.ord.length (fun j => (nL r.ord).getD j 0) := (hiU.keep hX3.B).more hX3.B.size
    have hd3 : ∀ a, U5 = some a → 0 < r.ord.length → a.block < U.heap.size := fun a e hn => by obtain ⟨a', e', hl, _⟩ := hiU hn; rw [e] at e'; cases e'; exact hl
    have hx2 : W3.cell? ⟨w.heap.size, 2, none⟩ = some (.slice p.A2 r.nl p.k2) := hX3.x.cell 2
    have RN : Hid (∀ (x : Int), x ∈ r.uL → ∀ W, W.rowIs g 3 (mn + 1) (fun v => .int .i64 (r.nw v)) → Calls Tryz.prog 43 #[.int .i64 x, .slice (some ⟨g, 0, none⟩) (mn + 1) (mn + 1)] W fun e w' => e = .returned (.int .i64 (r.told x)) ∧ W = w') := fun x hx W hW => by
      have hu := Rw.used_nw HK.out hx
      have hmn := HMN.out
      have ec : (((x / 2).toNat : Nat) : Int) = x / 2 := by omega
      have hI : IntsAt W W.heap.size (some ⟨g, 0, none⟩) (mn + 1) (fun v => r.nw (v : Int)) := fun _ => ⟨_, rfl, hW.lt, fun j hj => by
        have e : (⟨g, 0, none⟩ : Addr).add j = ⟨g, j, none⟩ := by unfold Addr.add; split <;> simp_all
        rw [e, hW.cell hj]⟩
      have h := renamed_any (some ⟨g, 0, none⟩) (mn + 1) (mn + 1) (fun v => r.nw (v : Int)) x W.heap.size W hI (by omega) (by omega) (by omega) (by show 0 ≤ r.nw (((x / 2).toNat : Nat) : Int) ∧ r.nw (((x / 2).toNat : Nat) : Int) ≤ 1000; rw [ec]; omega)
      have e2 : 2 * (fun v : Nat => r.nw (v : Int)) (x / 2).toNat + x % 2 = r.told x := by
        show 2 * r.nw (((x / 2).toNat : Nat) : Int) + x % 2 = _
        rw [ec]; rfl
      rw [e2] at h
      exact h
    obtain ⟨i1, hi1, hzz1, hs1, hy1⟩ := info_parts info_latch
    obtain ⟨i2, hi2, hzz2, hs2, hy2⟩ := info_parts info_and
    clear RA RA4 RA5 hNU hiU hb0 V0 G0
    go_wp2
    go_loopw [42] (fun i wr => ∃ q : Nat, ∃ v, q ≤ r.nl ∧ i = .int .i64 q ∧ wr.ownsRow W3.heap.size 70 2 v q (pairL (fun j => r.told (r.la j)) r.lb q) ∧ Has wr b8 41 #[.int .i64 r.ni, v, .slice none 0 0, .slice A4 r.nb k4, .slice A5 r.nc k5'] ∧ Below w.heap.size w wr ∧ Kept W3 wr b8) (fun i _ => r.nl - (intOf i).toNat)
    case atStart => exact ⟨0, _, Nat.zero_le _, rfl, World.ownsRow_nil _ _ _ _, hX3.h8, hBW, Kept.refl _ _⟩
    case round =>
      obtain ⟨q, v, hq, rfl, hown, hX, hBr, hK2⟩ := hrel
      have hks := hK2.s
      have hRr : wr.rowIs g 3 (mn + 1) (fun v => .int .i64 (r.nw v)) := hR3.of_block (hK2.k g (by omega) (by omega))
      by_cases hlt : q < r.nl
      · obtain ⟨a, hA, hab, hcs⟩ := (HM.out.la.keep hBr) (by omega)
        obtain ⟨y0, y1, y2⟩ := hcs q hlt
        have i1' : (0 : Int) ≤ (q : Int) := by omega
        have i2' : (q : Int) < (r.nl : Int) := by omega
        have hmem : r.la q ∈ r.uL := by unfold Rw.uL; simp only [List.mem_append]; exact Or.inl (Or.inr (mem_lst.2 ⟨q, hlt, rfl⟩))
        have D := Lib.hid (fun W hW => RN.out (r.la q) hmem W hW)
        obtain ⟨z, hz⟩ : ∃ z, r.told (r.la q) = z := ⟨_, rfl⟩
        have HZ := Lib.hid hz
        obtain ⟨ll, hll⟩ : ∃ z, r.ll q = z := ⟨_, rfl⟩
        obtain ⟨la, hla⟩ : ∃ z, r.la q = z := ⟨_, rfl⟩
        obtain ⟨lb, hlb⟩ : ∃ z, r.lb q = z := ⟨_, rfl⟩
        have HLB := Lib.hid hlb
        rw [hz] at D
        rw [hla] at D
        rw [hll] at y0
        rw [hla] at y1
        rw [hlb] at y2
        have hX1 := hX.al (.cells #[.int .i64 ll, .int .i64 la, .int .i64 lb] 32)
        have hL1 := Has.new wr 32 #[.int .i64 ll, .int .i64 la, .int .i64 lb]
        have hR1 : (wr.alloc (.cells #[.int .i64 ll, .int .i64 la, .int .i64 lb] 32)).drew.rowIs g 3 (mn + 1) (fun v => .int .i64 (r.nw v)) := (hRr.alloc _).drew
        rw [hA]
        clear hcs hA hz hll hla hlb hmem
        go_wp2
        have hS0 : (fun w' : World => w'.cell? ⟨b8, 1, none⟩ = some v ∧ w'.cell? ⟨wr.heap.size, 1, none⟩ = some (.int .i64 la) ∧ w'.cell? ⟨wr.heap.size, 2, none⟩ = some (.int .i64 lb)) (wr.alloc (.cells #[.int .i64 ll, .int .i64 la, .int .i64 lb] 32)).drew := ⟨hX1.cell 1, hL1.cell 1, hL1.cell 2⟩
        refine wp_slots (fun f => Sz f 96 ∧ Slot f 7 (.slice (some ⟨g, 0, none⟩) (mn + 1) (mn + 1)) ∧ Slot f 8 (.pointer (some ⟨b8, 0, none⟩)) ∧ Slot f 10 (.pointer (some ⟨wr.heap.size, 0, none⟩))) ⟨⟨rfl, rfl⟩, ⟨rfl⟩, ⟨rfl⟩, ⟨rfl⟩⟩ fun a0 hA0 hR => ?_
        obtain ⟨hZ, hs7, hs8, hs10⟩ := hR
        have HA := Lib.hid hA0
        clear hA0
        refine wp_region_T (fun w' : World => w'.cell? ⟨b8, 1, none⟩ = some v ∧ w'.cell? ⟨wr.heap.size, 1, none⟩ = some (.int .i64 la) ∧ w'.cell? ⟨wr.heap.size, 2, none⟩ = some (.int .i64 lb)) 12 (by kernel_rfl) ?_
        refine WT.h ?_
        (refine wt_take1 0 8 (v := ?_) rfl rfl (by kernel_rfl) (by kernel_rfl) (by kernel_rfl) (by kernel_rfl) (fun _ _ _ h => h) rfl hS0 (by (repeat (first | (refine slot_hit (N := 96) ?_ (by rfl); (repeat (refine sz_put ?_)); assumption; done) | (apply slot_miss; focus rfl))); all_goals assumption) (fun ev hk hv0 w hS => ?_) ?_; rotate_left; focus (obtain ⟨j1, j2, j3⟩ := hS; go_simp; rfl)); (refine wt_take1 1 46 (v := ?_) rfl rfl (by kernel_rfl) (by kernel_rfl) (by kernel_rfl) (by kernel_rfl) (fun _ _ _ h => h) rfl hS0 (by (repeat (first | (refine slot_hit (N := 96) ?_ (by rfl); (repeat (refine sz_put ?_)); assumption; done) | (apply slot_miss; focus rfl))); all_goals assumption) (fun ev hk hv0 w hS => ?_) ?_; rotate_left; focus (obtain ⟨j1, j2, j3⟩ := hS; go_simp; rfl)); (refine wt_take1 2 10 (v := ?_) rfl rfl (by kernel_rfl) (by kernel_rfl) (by kernel_rfl) (by kernel_rfl) (fun _ _ _ h => h) rfl hS0 (by (repeat (first | (refine slot_hit (N := 96) ?_ (by rfl); (repeat (refine sz_put ?_)); assumption; done) | (apply slot_miss; focus rfl))); all_goals assumption) (fun ev hk hv0 w hS => ?_) ?_; rotate_left; focus (obtain ⟨j1, j2, j3⟩ := hS; go_simp; rfl)); (refine wt_take1 3 48 (v := ?_) rfl rfl (by kernel_rfl) (by kernel_rfl) (by kernel_rfl) (by kernel_rfl) (fun _ _ _ h => h) rfl hS0 (by (repeat (first | (refine slot_hit (N := 96) ?_ (by rfl); (repeat (refine sz_put ?_)); assumption; done) | (apply slot_miss; focus rfl))); all_goals assumption) (fun ev hk hv0 w hS => ?_) ?_; rotate_left; focus (obtain ⟨j1, j2, j3⟩ := hS; go_simp; rfl)); (refine wt_move 4 7 rfl rfl (by kernel_rfl) (by kernel_rfl) (by kernel_rfl) (by kernel_rfl) (fun _ _ _ h => h) rfl hS0 (by (repeat (first | (refine slot_hit (N := 96) ?_ (by rfl); (repeat (refine sz_put ?_)); assumption; done) | (apply slot_miss; focus rfl))); all_goals assumption) rfl ?_); (refine wt_take1 6 10 (v := ?_) rfl rfl (by kernel_rfl) (by kernel_rfl) (by kernel_rfl) (by kernel_rfl) (fun _ _ _ h => h) rfl hS0 (by (repeat (first | (refine slot_hit (N := 96) ?_ (by rfl); (repeat (refine sz_put ?_)); assumption; done) | (apply slot_miss; focus rfl))); all_goals assumption) (fun ev hk hv0 w hS => ?_) ?_; rotate_left; focus (obtain ⟨j1, j2, j3⟩ := hS; go_simp; rfl)); (refine wt_take1 7 52 (v := ?_) rfl rfl (by kernel_rfl) (by kernel_rfl) (by kernel_rfl) (by kernel_rfl) (fun _ _ _ h => h) rfl hS0 (by (repeat (first | (refine slot_hit (N := 96) ?_ (by rfl); (repeat (refine sz_put ?_)); assumption; done) | (apply slot_miss; focus rfl))); all_goals assumption) (fun ev hk hv0 w hS => ?_) ?_; rotate_left; focus (obtain ⟨j1, j2, j3⟩ := hS; go_simp; rfl))
        refine wt_call2 5 49 50 (by kernel_rfl) rfl rfl rfl (by (repeat (first | (refine slot_hit (N := 96) ?_ (by rfl); (repeat (refine sz_put ?_)); assumption; done) | (apply slot_miss; focus rfl))); all_goals assumption) (by (repeat (first | (refine slot_hit (N := 96) ?_ (by rfl); (repeat (refine sz_put ?_)); assumption; done) | (apply slot_miss; focus rfl))); all_goals assumption) (f := ?_) (args := ?_) (fun ev hk hkf hv0 hv1 => ?_) ?_; rotate_left 2; focus (go_simp; first | rfl | (constructor <;> rfl))
        (with_reducible refine (D.out _ hR1).mono ?_)
        rintro e w6 ⟨rfl, rfl⟩
        refine ⟨_, rfl, fun _ => hS0, ?_⟩
        (refine wt_take2 8 51 53 (v := ?_) rfl rfl (by kernel_rfl) (by kernel_rfl) (by kernel_rfl) (by kernel_rfl) (fun _ _ _ h => h) rfl hS0 (by (repeat (first | (refine slot_hit (N := 96) ?_ (by rfl); (repeat (refine sz_put ?_)); assumption; done) | (apply slot_miss; focus rfl))); all_goals assumption) (by (repeat (first | (refine slot_hit (N := 96) ?_ (by rfl); (repeat (refine sz_put ?_)); assumption; done) | (apply slot_miss; focus rfl))); all_goals assumption) (fun ev hk hv0 hv1 w hS => ?_) ?_; rotate_left; focus (obtain ⟨j1, j2, j3⟩ := hS; go_simp; rfl))
        refine wt_val1 9 54 (by kernel_rfl) rfl rfl rfl (by (repeat (first | (refine slot_hit (N := 96) ?_ (by rfl); (repeat (refine sz_put ?_)); assumption; done) | (apply slot_miss; focus rfl))); all_goals assumption) (v := ?_) (w' := ?_) (fun ev hk hv0 => ?_) ?_; rotate_left 2; focus (go_simp; first | rfl | (constructor <;> rfl))
        refine ⟨fun _ => ⟨ca hS0.1 _, ca hS0.2.1 _, ca hS0.2.2 _⟩, ?_⟩
        refine wt_one 10 (by kernel_rfl) (wpOp_go rfl rfl fun K hK => ?_)
        refine wp_append_lies _ (.tmp 47) (.tmp 55) _ (by rfl) W3.heap.size 70 i1 _ 2 16 Tryz.underlying38 hi1 hzz1 hs1 hy1 rfl (by omega) v q (pairL (fun j => r.told (r.la j)) r.lb q) (Slot.eval (by (repeat (first | (refine slot_hit (N := 96) ?_ (by rfl); (repeat (refine sz_put ?_)); assumption; done) | (apply slot_miss; focus rfl))); all_goals assumption)) (((hown.alloc _).alloc _).drew) ⟨wr.heap.size + 1, 0, none⟩ 1 1 [.int .i64 z, .int .i64 lb] (Slot.eval (by (repeat (first | (refine slot_hit (N := 96) ?_ (by rfl); (repeat (refine sz_put ?_)); assumption; done) | (apply slot_miss; focus rfl))); all_goals assumption)) (by rfl) (World.news_of_block (cs := #[.int .i64 z, .int .i64 lb]) (t := 70) (fr := (0, 0)) (Has.new' _ _ (by simp))) (by simp [Value.oneCell']) (by omega) (by simp only [maxLen]; omega) (by omega) (by simp; omega) (wr.heap.size + 2) (by simp) ?_
        intro gg cap w8 hown' hgrow hat hlt8
        have hgrow := grown_undrew hgrow
        have hX8 := app_has hX1 (hown.alloc _) hgrow (by omega)
        have hL8 := (hL1.al (.cells #[.int .i64 z, .int .i64 lb] 70)).keepg hgrow (fun hh => own_old hown hh)
        have y8 : w8.cell? ⟨b8, 1, none⟩ = some v := hX8.cell 1
        have yf8 : w8.frozen? ⟨b8, 1, none⟩ = false := hX8.fz 1
        have hS8 : w8.cell? ⟨b8, 1, none⟩ = some v ∧ w8.cell? ⟨wr.heap.size, 1, none⟩ = some (.int .i64 la) ∧ w8.cell? ⟨wr.heap.size, 2, none⟩ = some (.int .i64 lb) := ⟨y8, hL8.cell 1, hL8.cell 2⟩
        refine hK _ _ ⟨fun _ => hS8, ?_⟩
        clear hS0
        have hS0 := hS8
        (refine wt_take1 11 8 (v := ?_) rfl rfl (by kernel_rfl) (by kernel_rfl) (by kernel_rfl) (by kernel_rfl) (fun _ _ _ h => h) rfl hS0 (by (repeat (first | (refine slot_hit (N := 96) ?_ (by rfl); (repeat (refine sz_put ?_)); assumption; done) | (apply slot_miss; focus rfl))); all_goals assumption) (fun ev hk hv0 w hS => ?_) ?_; rotate_left; focus (go_simp; rfl))
        refine wt_one 12 (by kernel_rfl) ?_
        refine wb_act2 12 57 56 rfl rfl rfl (by (repeat (first | (refine slot_hit (N := 96) ?_ (by rfl); (repeat (refine sz_put ?_)); assumption; done) | (apply slot_miss; focus rfl))); all_goals assumption) (by (repeat (first | (refine slot_hit (N := 96) ?_ (by rfl); (repeat (refine sz_put ?_)); assumption; done) | (apply slot_miss; focus rfl))); all_goals assumption) (w' := ?_) (fun ev hk hv0 hv1 => ?_) ?_
        rotate_left
        focus (go_simp; rfl)
        intro w9 hw9
        refine ⟨fun h => absurd h (by decide), ?_⟩
        refine wt_done (by kernel_rfl) (NoPanic.normal ?_) _
        have hrel9 : w9.ownsRow W3.heap.size 70 2 (.slice (some ⟨gg, 0, none⟩) (q + 1) cap) (q + 1) (pairL (fun j => r.told (r.la j)) r.lb (q + 1)) ∧ Has w9 b8 41 #[.int .i64 r.ni, .slice (some ⟨gg, 0, none⟩) (q + 1) cap, .slice none 0 0, .slice A4 r.nb k4, .slice A5 r.nc k5'] ∧ Below w.heap.size w w9 ∧ Kept W3 w9 b8 := by
          subst hw9
          have ho := hown'
          rw [← HZ.out, ← HLB.out] at ho
          exact ⟨own_set ho (by omega), hX8.set 1 _, (app_below (hBr.alloc hBr.size _) (by simp; omega) (by omega) (hown.alloc _) hgrow).setCell (by show w.heap.size ≤ b8; omega) _, hK2.round2 hown hgrow⟩
        have HR9 := Lib.hid hrel9
        have ha := HA.out
        subst ha
        clear hS0 hS8 y8 yf8 hX8 hL8 hw9 hrel9 hZ hs7 hs8 hs10 hown' hgrow hX1 hL1 hR1 D
        go_wp2
        go_roundw
        case rel => exact ⟨q + 1, _, by omega, by go_num, HR9.out.1, HR9.out.2.1, HR9.out.2.2.1, HR9.out.2.2.2⟩
        case measure => simp [intOf]; omega
      · obtain rfl : q = r.nl := by omega
        clear hlt hq
        obtain ⟨A1, k1, rfl, hp1, hn1⟩ := own_pairs' hown
        obtain ⟨W5, hW5⟩ : ∃ W5, W5 = wr := ⟨_, rfl⟩
        subst hW5
        have hR5 := hRr
        go_wp2
        go_loopw [61] (fun i wr => ∃ t : Nat, ∃ v, t ≤ r.ord.length ∧ i = .int .i64 t ∧ wr.ownsRow W5.heap.size 80 2 v t (pairL r.cir.ga r.cir.gb t) ∧ Has wr b8 41 #[.int .i64 r.ni, .slice A1 r.nl k1, v, .slice A4 r.nb k4, .slice A5 r.nc k5'] ∧ Below w.heap.size w wr ∧ Kept W5 wr b8) (fun i _ => r.ord.length - (intOf i).toNat)
        case atStart => exact ⟨0, _, Nat.zero_le _, rfl, World.ownsRow_nil _ _ _ _, hX, hBr, Kept.refl _ _⟩
        case round =>
          obtain ⟨t, v, ht, rfl, hown2, hX2, hBr2, hK5⟩ := hrel
          have hks5 := hK5.s
          have hRr2 : wr.rowIs g 3 (mn + 1) (fun v => .int .i64 (r.nw v)) := hR5.of_block (hK5.k g (by omega) (by omega))
          have hHr : Has wr w.heap.size 26 (rc r p) := ((hK5.k w.heap.size (by omega) (by omega)).trans (hK2.k w.heap.size (by omega) (by omega))).trans hX3.x
          obtain ⟨x0, x1, x2, x3, x4, x5⟩ := hHr.rbox
          by_cases htl : t < r.ord.length
          · have hdd : ∀ a, U5 = some a → a.block ≠ b8 := fun a e => by have := hd3 a e (by omega); omega
            obtain ⟨u, hUu, hub, huc⟩ := (hK5.ints (hK2.ints hi3 hdd) hdd) (by omega)
            obtain ⟨n, hn⟩ : ∃ n, Hid (n = r.ord.getD t 0) := ⟨_, Lib.hid rfl⟩
            have hna : n < r.na := by rw [hn.out]; exact Rw.ord_at htl
            have v0 : wr.cell? (u.add t) = some (.int .i64 (n : Int)) := by
              rw [huc t htl, hn.out]
              simp [nL, List.getD_eq_getElem?_getD, List.getElem?_eq_getElem htl]
            obtain ⟨a, hA, hab, hcs⟩ := (HM.out.an.keep hBr2) (by omega)
            obtain ⟨y0, y1, y2⟩ := hcs n hna
            have j1 : (0 : Int) ≤ (t : Int) := by omega
            have j2 : (t : Int) < (r.ord.length : Int) := by omega
            have j3 : (0 : Int) ≤ (n : Int) := by omega
            have j4 : (n : Int) < (r.na : Int) := by omega
            have hm1 : r.ga n ∈ r.uL := by unfold Rw.uL; simp only [List.mem_append]; exact Or.inr (mem_twos.2 ⟨n, hna, Or.inl rfl⟩)
            have hm2 : r.gb n ∈ r.uL := by unfold Rw.uL; simp only [List.mem_append]; exact Or.inr (mem_twos.2 ⟨n, hna, Or.inr rfl⟩)
            have D1 : Hid (∀ m, Calls Tryz.prog 43 #[.int .i64 (r.ga n), .slice (some ⟨g, 0, none⟩) (mn + 1) (mn + 1)] (wr.drewN m) fun e w' => e = .returned (.int .i64 (r.told (r.ga n))) ∧ wr.drewN m = w') := fun m => RN.out (r.ga n) hm1 (wr.drewN m) hRr2
            have D2 : Hid (∀ m, Calls Tryz.prog 43 #[.int .i64 (r.gb n), .slice (some ⟨g, 0, none⟩) (mn + 1) (mn + 1)] (wr.drewN m) fun e w' => e = .returned (.int .i64 (r.told (r.gb n))) ∧ wr.drewN m = w') := fun m => RN.out (r.gb n) hm2 (wr.drewN m) hRr2
            have hga : r.cir.ga t = max (r.told (r.ga n)) (r.told (r.gb n)) := by rw [hn.out]; rfl
            have hgb : r.cir.gb t = min (r.told (r.ga n)) (r.told (r.gb n)) := by rw [hn.out]; rfl
            obtain ⟨z1, hz1⟩ : ∃ z, r.told (r.ga n) = z := ⟨_, rfl⟩
            obtain ⟨z2, hz2⟩ : ∃ z, r.told (r.gb n) = z := ⟨_, rfl⟩
            obtain ⟨xa, hxa⟩ : ∃ z, r.ga n = z := ⟨_, rfl⟩
            obtain ⟨xb, hxb⟩ : ∃ z, r.gb n = z := ⟨_, rfl⟩
            rw [hz1] at D1 hga hgb
            rw [hz2] at D2 hga hgb
            rw [hxa] at D1 y1
            rw [hxb] at D2 y2
            have HG := Lib.hid (And.intro hga hgb)
            rw [hA] at x3
            subst hUu
            clear huc hcs hA hm1 hm2 hga hgb hz1 hz2 hxa hxb y0
            go_wp2
            go_quiet (first | (go_at_call 43; with_reducible exact qs (D1.out _)) | (go_at_call 43; with_reducible exact qs (D2.out _)))
            generalize hW6 : wr.drewN nq = W6
            have hown3 : W6.ownsRow W5.heap.size 80 2 v t (pairL r.cir.ga r.cir.gb t) := hW6 ▸ (show (wr.drewN nq).ownsRow W5.heap.size 80 2 v t (pairL r.cir.ga r.cir.gb t) from hown2)
            have hX6 : Has W6 b8 41 #[.int .i64 r.ni, .slice A1 r.nl k1, v, .slice A4 r.nb k4, .slice A5 r.nc k5'] := hW6 ▸ (show Has (wr.drewN nq) b8 41 #[.int .i64 r.ni, .slice A1 r.nl k1, v, .slice A4 r.nb k4, .slice A5 r.nc k5'] from hX2)
            have hBr6 : Below w.heap.size w W6 := hW6 ▸ below_dn hBr2 nq
            have hK6 : Kept W5 W6 b8 := hW6 ▸ ⟨hK5.s, hK5.k⟩
            have hks6 := hK6.s
            clear hW6 hown2 hX2 hBr2 hK5 hks5 hRr2 hHr D1 D2 x0 x1 x2 x3 x4 x5 y1 y2 v0
            have q2 : W6.cell? ⟨b8, 2, none⟩ = some v := hX6.cell 2
            have q2a : ∀ o : Obj, (W6.alloc o).cell? ⟨b8, 2, none⟩ = some v := ca q2
            go_wp2_with (at_builtin; (refine append_more rfl (.tmp 82) (.tmp 90) _ rfl W5.heap.size 80 i2 _ 2 16 Tryz.underlying39 hi2 hzz2 hs2 hy2 rfl (by decide) v t (pairL r.cir.ga r.cir.gb t) rfl (hown3.alloc _) (some ⟨W6.heap.size, 0, none⟩) 1 1 [.int .i64 (max z1 z2), .int .i64 (min z1 z2)] rfl rfl (Or.inr ⟨_, rfl, World.news_of_block (cs := #[.int .i64 (max z1 z2), .int .i64 (min z1 z2)]) (t := 80) (fr := (0, 0)) (Has.new' _ _ rfl)⟩) (by simp [Value.oneCell']) (by simp only [maxLen]; omega) (by omega) (by simp; omega) ?_); intro v' w8 ho8 hg8; obtain ⟨g8, k8, hv8⟩ := slice_succ ho8; subst hv8; have hX8 := app_has hX6 hown3 hg8 (by omega); have hB8 := app_below hBr6 hBr6.size (by omega) hown3 hg8; have HK8 := Lib.hid (hK6.round (j := 2) (u := .slice (some ⟨g8, 0, none⟩) (t + 1) k8) hown3 hg8); have y8 : w8.cell? ⟨b8, 2, none⟩ = some v := hX8.cell 2; have yf8 : w8.frozen? ⟨b8, 2, none⟩ = false := hX8.fz 2)
            go_roundw
            case rel => exact ⟨t + 1, _, by omega, by go_num, by
              show (w8.setCell ⟨b8, 2, none⟩ _).ownsRow W5.heap.size 80 2 _ (t + 1) (pairL r.cir.ga r.cir.gb t ++ [.int .i64 (r.cir.ga t), .int .i64 (r.cir.gb t)])
              rw [HG.out.1, HG.out.2]; exact own_set ho8 (by omega), hX8.set 2 _, hB8.setCell (by show w.heap.size ≤ b8; omega) _, HK8.out⟩
            case measure => simp [intOf]; omega
          · obtain rfl : t = r.ord.length := by omega
            clear htl ht x0 x1 x2 x3 x4 x5
            obtain ⟨A2, k2, hv2, hp2, hn2⟩ := own_pairs' hown2
            subst hv2
            have hZW : Has wr (w.heap.size + 1) 41 zc := ((hK5.k _ (by have := hZU.lt; have := hX3.B.size; omega) (by have := hZU.lt; omega)).trans (hK2.k _ (by have := hZU.lt; have := hX3.B.size; omega) (by have := hZU.lt; omega))).trans (hZU.keep hX3.B hZU.lt)
            obtain ⟨⟨z0, z1, z2, z3, z4⟩, f0, f1, f2, f3, f4⟩ := hZW.z5
            have c0 : wr.cell? ⟨b8, 0, none⟩ = some (.int .i64 r.ni) := hX2.cell 0
            have c1 : wr.cell? ⟨b8, 1, none⟩ = some (.slice A1 r.nl k1) := hX2.cell 1
            have c2 : wr.cell? ⟨b8, 2, none⟩ = some (.slice A2 r.ord.length k2) := hX2.cell 2
            have c3 : wr.cell? ⟨b8, 3, none⟩ = some (.slice A4 r.nb k4) := hX2.cell 3
            have c4 : wr.cell? ⟨b8, 4, none⟩ = some (.slice A5 r.nc k5') := hX2.cell 4
            have hrg : g ≠ w.heap.size + 1 := by
              obtain ⟨c, hc, _⟩ := hRr2
              exact Has.ne (t := 3) (cs := c) hc hZW (by decide)
            have o1 := own_put5 (.int .i64 r.ni) (.slice A1 r.nl k1) (.slice A2 r.ord.length k2) (.slice A4 r.nb k4) (.slice A5 r.nc k5') (own_kept hown hK5 hX (by decide)) hZW (by decide)
            have o2 := own_put5 (.int .i64 r.ni) (.slice A1 r.nl k1) (.slice A2 r.ord.length k2) (.slice A4 r.nb k4) (.slice A5 r.nc k5') hown2 hZW (by decide)
            have o4 := own_put5 (.int .i64 r.ni) (.slice A1 r.nl k1) (.slice A2 r.ord.length k2) (.slice A4 r.nb k4) (.slice A5 r.nc k5') (own_kept (own_kept hX3.o4 hK2 hX3.h8 (by decide)) hK5 hX (by decide)) hZW (by decide)
            have o5 := own_put5 (.int .i64 r.ni) (.slice A1 r.nl k1) (.slice A2 r.ord.length k2) (.slice A4 r.nb k4) (.slice A5 r.nc k5') (own_kept (own_kept hX3.o5 hK2 hX3.h8 (by decide)) hK5 hX (by decide)) hZW (by decide)
            have oR := hRr2.of_block (put5_far wr (b := w.heap.size + 1) (.int .i64 r.ni) (.slice A1 r.nl k1) (.slice A2 r.ord.length k2) (.slice A4 r.nb k4) (.slice A5 r.nc k5') hrg)
            have oB := put5_below (.int .i64 r.ni) (.slice A1 r.nl k1) (.slice A2 r.ord.length k2) (.slice A4 r.nb k4) (.slice A5 r.nc k5') hBr2 (show w.heap.size ≤ w.heap.size + 1 by omega)
            have HF := Lib.hid (And.intro (show Mem _ _ r.cir ⟨A1, A2, A4, A5, k1, k2, k4, k5'⟩ from ⟨own_pairs2 o1, own_pairs2 o2, (own_ints2 o4).1, (own_ints2 o5).1⟩) (And.intro (show Nils r.cir ⟨A1, A2, A4, A5, k1, k2, k4, k5'⟩ from ⟨hn1, hn2, (own_ints2 o4).2, (own_ints2 o5).2⟩) (And.intro oR (And.intro oB (show ∀ a, (A1 = some a ∨ A2 = some a ∨ A4 = some a ∨ A5 = some a) → w.heap.size ≤ a.block from fun a ha => by
              have hU0 := hBU.size
              have hW0 := hBW.size
              have hW1 := hBr.size
              rcases ha with ha | ha | ha | ha
              · exact row_new o1 hW0 a ha
              · exact row_new o2 hW1 a ha
              · exact row_new o4 hU0 a ha
              · exact row_new o5 hU0 a ha)))))
            clear o1 o2 o4 o5 oR oB hown hown2 hX hX2 hp1 hn1 hp2 hn2
            go_wp2
            refine bodyPost_ret (v := .tuple #[cv r.cir ⟨A1, A2, A4, A5, k1, k2, k4, k5'⟩, .slice (some ⟨g, 0, none⟩) (mn + 1) (mn + 1), .int .i64 0]) (by simp [results, Tryz.results24, go_sem, z0, z1, z2, z3, z4]; exact ⟨rfl, rfl, rfl, rfl, rfl⟩) rfl ⟨⟨A1, A2, A4, A5, k1, k2, k4, k5'⟩, g, rfl, HF.out.1, HF.out.2.1, HF.out.2.2.1, HF.out.2.2.2.1, hgw, HF.out.2.2.2.2⟩

end Go.Proofs.YtkpjpokeonppbaaGreatDoor

namespace Go.Proofs.YtkpjpokeonppbaaGreatDoor
open Go.RowKit
set_option linter.unusedVariables false
set_option linter.unusedSimpArgs false

theorem lst_add (f : Nat → Int) (n : Nat) : ∀ m, lst f (n + m) = lst f n ++ lst (fun j => f (n + j)) m
  | 0 => by simp [lst]
  | m + 1 => by
    rw [← Nat.add_assoc, lst_succ, lst_add f n m, lst_succ, List.append_assoc]
theorem lst_congr {f g : Nat → Int} {n : Nat} (h : ∀ j, j < n → f j = g j) : lst f n = lst g n := by
  unfold lst
  exact List.map_congr_left fun j hj => h j (List.mem_range.1 hj)

theorem gate_ok7 {c : Cr} (h : c.chk = 0) {k : Nat} (hk : k < c.na) : 0 ≤ c.gb k ∧ c.gb k ≤ c.ga k ∧ c.ga k / 2 ≤ c.i + c.nl + k ∧ c.i + c.nl + k < 1000 ∧ 0 ≤ c.i := by
  have h1 := Cr.chk_zero h
  have h2 : c.sz = c.i + c.nl + c.na := rfl
  have h3 := (of_decide_eq_true h1.2.2.2.2.2.2.2 : ∀ j, j < c.na → _) k hk
  exact ⟨h3.1, h3.2.1, h3.2.2, by omega, h1.1⟩

section
variable {c : Cr}
/-- how many variables a valid circuit has -/
def Cr.szN (c : Cr) : Nat := c.i.toNat + c.nl + c.na
theorem szN_eq (h : c.chk = 0) : (c.szN : Int) = c.sz ∧ c.i = (c.i.toNat : Int) ∧ c.sz ≤ 1000 ∧ c.szN ≤ 1000 := by
  obtain ⟨h0, h1, _⟩ := Cr.chk_zero h
  unfold Cr.szN
  unfold Cr.sz at h1 ⊢
  omega
theorem raw_dL (h : c.chk = 0) : c.raw.dL = lst (fun j => 2 * (1 + (j : Int))) c.szN := by
  obtain ⟨h1, h2, h3, h4⟩ := szN_eq h
  unfold Rw.dL Cr.raw Cr.szN
  rw [lst_add, lst_add]
  congr 1
  · congr 1
    exact lst_congr fun j hj => by show 2 * (1 + c.i + (j : Int)) = 2 * (1 + ((c.i.toNat + j : Nat) : Int)); omega
  · exact lst_congr fun j hj => by show 2 * (1 + c.i + (c.nl : Int) + (j : Int)) = 2 * (1 + ((c.i.toNat + c.nl + j : Nat) : Int)); omega
theorem raw_dV (h : c.chk = 0) : c.raw.dL.map (· / 2) = lst (fun j => 1 + (j : Int)) c.szN := by
  rw [raw_dL h]
  unfold lst
  rw [List.map_map]
  exact List.map_congr_left fun j hj => by show 2 * (1 + (j : Int)) / 2 = 1 + (j : Int); omega
theorem mem_dV (h : c.chk = 0) (v : Int) : v ∈ c.raw.dL.map (· / 2) ↔ 1 ≤ v ∧ v ≤ c.sz := by
  obtain ⟨h1, h2, h3, h4⟩ := szN_eq h
  rw [raw_dV h, mem_lst]
  constructor
  · rintro ⟨j, hj, rfl⟩; omega
  · rintro ⟨a, b⟩; exact ⟨(v - 1).toNat, by omega, by omega⟩
theorem raw_twi (h : c.chk = 0) : c.raw.twi = false := by
  unfold Rw.twi
  rw [raw_dV h]
  refine decide_eq_false (fun hn => hn ?_)
  unfold lst
  exact List.pairwise_map.2 (List.pairwise_lt_range.imp fun hab => by omega)
/-- all that is used -/
theorem raw_uL (h : c.chk = 0) : ∀ x ∈ c.raw.uL, 0 ≤ x ∧ x / 2 ≤ c.sz := by
  obtain ⟨h0, h1, h2, h3, h4, h5, h6, h7⟩ := Cr.chk_zero h
  have h4 := of_decide_eq_true h4
  have h5 := of_decide_eq_true h5
  have h6 := of_decide_eq_true h6
  intro x hx
  unfold Rw.uL at hx
  simp only [List.mem_append] at hx
  rcases hx with ((hx | hx) | hx) | hx
  · obtain ⟨j, hj, rfl⟩ := mem_lst.1 hx
    exact h4 j hj
  · obtain ⟨j, hj, rfl⟩ := mem_lst.1 hx
    exact h5 j hj
  · obtain ⟨j, hj, rfl⟩ := mem_lst.1 hx
    have := h6 j hj
    exact ⟨this.1, this.2.1⟩
  · obtain ⟨j, hj, hx⟩ := mem_twos.1 hx
    have hj : j < c.na := hj
    obtain ⟨k1, k2, k3, k4, k5⟩ := gate_ok7 h hj
    unfold Cr.sz
    have e1 : c.raw.ga j = c.ga j := rfl
    have e2 : c.raw.gb j = c.gb j := rfl
    rw [e1, e2] at hx
    rcases hx with rfl | rfl <;> omega
theorem raw_num (h : c.chk = 0) : c.raw.num = true := by
  obtain ⟨h0, h1, h2, h3, h4, h5, h6, h7⟩ := Cr.chk_zero h
  have h6 := of_decide_eq_true h6
  obtain ⟨s1, s2, s3, s4⟩ := szN_eq h
  unfold Rw.num
  simp only [Bool.and_eq_true]
  refine ⟨⟨List.all_eq_true.2 fun x hx => ?_, List.all_eq_true.2 fun x hx => ?_⟩, List.all_eq_true.2 fun x hx => ?_⟩
  · rw [raw_dL h] at hx
    obtain ⟨j, hj, rfl⟩ := mem_lst.1 hx
    refine decide_eq_true ?_
    show 2 ≤ 2 * (1 + (j : Int)) ∧ 2 * (1 + (j : Int)) % 2 = 0 ∧ 2 * (1 + (j : Int)) ≤ 2 * c.sz + 1
    omega
  · have := raw_uL h x hx
    refine decide_eq_true ?_
    show 0 ≤ x ∧ x ≤ 2 * c.sz + 1
    omega
  · obtain ⟨j, hj, rfl⟩ := mem_lst.1 hx
    have := h6 j hj
    exact decide_eq_true ⟨this.2.2.1, this.2.2.2⟩
theorem raw_opn (h : c.chk = 0) : c.raw.opn = false := by
  unfold Rw.opn
  rw [List.any_eq_false]
  intro x hx
  have hb := raw_uL h x hx
  simp only [decide_eq_true_eq, mem_dV h]
  omega
theorem raw_st (h : c.chk = 0) : ∀ k, k ≤ c.na → (∀ v, (c.raw.st k).1 v = decide (¬ (1 + c.i + c.nl + (k : Int) ≤ v ∧ v ≤ c.sz))) ∧ (c.raw.st k).2 = List.range k
  | 0, _ => by
    refine ⟨fun v => ?_, rfl⟩
    show decide (v ∉ (lst (fun j => 2 * (1 + c.i + c.nl + (j : Int))) c.na).map (· / 2)) = _
    refine decide_eq_decide.2 (not_congr ?_)
    simp only [List.mem_map, mem_lst]
    unfold Cr.sz
    constructor
    · rintro ⟨x, ⟨j, hj, rfl⟩, rfl⟩; omega
    · rintro ⟨a, b⟩; exact ⟨2 * v, ⟨(v - (1 + c.i + c.nl)).toNat, by omega, by omega⟩, by omega⟩
  | k + 1, hk => by
    obtain ⟨ih1, ih2⟩ := raw_st h k (by omega)
    obtain ⟨k1, k2, k3, k4, k5⟩ := gate_ok7 h (k := k) (by omega)
    have hf : c.raw.fnd (c.raw.st k).1 = k := by
      refine Rw.fnd_is (show k < c.na by omega) ?_ (fun j hj => ?_)
      · unfold Rw.may
        rw [ih1, ih1, ih1]
        have e1 : c.raw.gl k = 2 * (1 + c.i + c.nl + (k : Int)) := rfl
        have e2 : c.raw.ga k = c.ga k := rfl
        have e3 : c.raw.gb k = c.gb k := rfl
        rw [e1, e2, e3, decide_eq_false (by unfold Cr.sz; omega), decide_eq_true (by omega), decide_eq_true (by omega)]
        rfl
      · unfold Rw.may
        rw [ih1 (c.raw.gl j / 2)]
        have e1 : c.raw.gl j = 2 * (1 + c.i + c.nl + (j : Int)) := rfl
        rw [e1, decide_eq_true (by omega)]
        rfl
    have hlt : c.raw.fnd (c.raw.st k).1 < c.raw.na := by rw [hf]; show k < c.na; omega
    rw [Rw.st_go hlt, hf]
    refine ⟨fun v => ?_, by rw [ih2, List.range_succ]⟩
    show (if v = c.raw.gl k / 2 then true else (c.raw.st k).1 v) = _
    have e1 : c.raw.gl k / 2 = 1 + c.i + c.nl + (k : Int) := by show 2 * (1 + c.i + c.nl + (k : Int)) / 2 = _; omega
    rw [e1, ih1]
    by_cases hv : v = 1 + c.i + c.nl + (k : Int)
    · rw [if_pos hv]; exact (decide_eq_true (by omega)).symm
    · rw [if_neg hv]; exact decide_eq_decide.2 (by omega)
theorem raw_ord (h : c.chk = 0) : c.raw.ord = List.range c.na := (raw_st h c.na (Nat.le_refl _)).2
theorem raw_chk (h : c.chk = 0) : c.raw.chk = 0 := by
  obtain ⟨h0, h1, h2, h3, _⟩ := Cr.chk_zero h
  obtain ⟨s1, s2, s3, s4⟩ := szN_eq h
  have hb : c.raw.big = false := by
    refine decide_eq_false ?_
    show ¬ (1000 < c.sz ∨ 1000 < ((c.i.toNat : Nat) + c.nl + c.na : Int) ∨ 100 < c.nb ∨ 100 < c.nc)
    unfold Cr.sz at h1 ⊢
    omega
  have hl : ¬ c.raw.ord.length < c.raw.na := by rw [raw_ord h, List.length_range]; exact Nat.lt_irrefl _
  have hm : ¬ c.raw.m < 0 := by show ¬ c.sz < 0; omega
  unfold Rw.chk
  rw [if_neg hm, if_neg (by rw [hb]; decide), if_neg (by rw [raw_num h]; decide), if_neg (by rw [raw_twi h]; decide), if_neg (by rw [raw_opn h]; decide), if_neg hl]
theorem raw_oL (h : c.chk = 0) : c.raw.oL = lst (fun j => 2 * (1 + (j : Int))) c.szN := by
  rw [← raw_dL h]
  unfold Rw.oL Rw.dL
  rw [raw_ord h]
  rfl
theorem raw_nwk (h : c.chk = 0) : ∀ k, k ≤ c.szN → ∀ v, c.raw.nwk k v = if v = 0 then 0 else if 1 ≤ v ∧ v ≤ k then v else -1
  | 0, _, v => by
    show (if v = 0 then (0 : Int) else -1) = _
    by_cases hv : v = 0
    · rw [if_pos hv, if_pos hv]
    · rw [if_neg hv, if_neg hv, if_neg (by omega)]
  | k + 1, hk, v => by
    have ih := raw_nwk h k (by omega) v
    have e : c.raw.oL.getD k 0 = 2 * (1 + (k : Int)) := by
      rw [raw_oL h, List.getD_eq_getElem?_getD, lst_at _ _ _ (by omega)]; rfl
    show (if v = c.raw.oL.getD k 0 / 2 then (k : Int) + 1 else c.raw.nwk k v) = _
    rw [e, ih]
    by_cases hv : v = 2 * (1 + (k : Int)) / 2
    · rw [if_pos hv, if_neg (by omega), if_pos (by omega)]; omega
    · rw [if_neg hv]
      by_cases h0 : v = 0
      · rw [if_pos h0, if_pos h0]
      · rw [if_neg h0, if_neg h0]
        by_cases h1 : 1 ≤ v ∧ v ≤ k
        · rw [if_pos h1, if_pos (by omega)]
        · rw [if_neg h1, if_neg (by omega)]
theorem raw_nw (h : c.chk = 0) {v : Int} (h0 : 0 ≤ v) (h1 : v ≤ c.sz) : c.raw.nw v = v := by
  obtain ⟨s1, s2, s3, s4⟩ := szN_eq h
  have e : c.raw.oL.length = c.szN := by rw [raw_oL h, lst_len]
  unfold Rw.nw
  rw [e, raw_nwk h _ (Nat.le_refl _)]
  by_cases hv : v = 0
  · rw [if_pos hv, hv]
  · rw [if_neg hv, if_pos (by omega)]
theorem raw_told (h : c.chk = 0) {x : Int} (h0 : 0 ≤ x) (h1 : x / 2 ≤ c.sz) : c.raw.told x = x := by
  unfold Rw.told
  rw [raw_nw h (by omega) h1]
  omega
end

end Go.Proofs.YtkpjpokeonppbaaGreatDoor

namespace Go.Proofs.YtkpjpokeonppbaaGreatDoor
open Go Go.RowKit
set_option linter.unusedVariables false
set_option linter.unusedSimpArgs false

def aR : Rw := ⟨4, 2, 0, 2, 0, 0, fun j => if j = 0 then 2 else 4, fun _ => 0, fun _ => 0, fun _ => 0, fun j => if j = 0 then 6 else 8, fun j => if j = 0 then 4 else 2, fun j => if j = 0 then 8 else 4, fun _ => 0, fun _ => 0⟩
def aR2 : Rw := ⟨4, 2, 0, 2, 0, 0, fun j => if j = 0 then 2 else 4, fun _ => 0, fun _ => 0, fun _ => 0, fun j => if j = 0 then 6 else 8, fun j => if j = 0 then 8 else 6, fun j => 2, fun _ => 0, fun _ => 0⟩
def aC3 : Cr := ⟨2, 0, 2, 0, 0, fun _ => 0, fun _ => 0, fun j => if j = 0 then 4 else 6, fun j => if j = 0 then 2 else 4, fun _ => 0, fun _ => 0⟩
theorem aR_chk : aR.chk = 0 := by decide +kernel
theorem aR2_chk : aR2.chk = 41 := by decide +kernel
theorem aR_len : aR.ord.length = 2 := by decide +kernel
theorem aR_g0 : aR.cir.ga 0 = 4 ∧ aR.cir.gb 0 = 2 ∧ aR.cir.ga 1 = 6 ∧ aR.cir.gb 1 = 4 := by decide +kernel
theorem aR_nw : ∀ j : Nat, j < 5 → aR.nw (j : Int) = [0, 1, 2, 4, 3].getD j 0 := by decide +kernel
theorem k3 (k : Int) (h : decide (-100000 ≤ k ∧ k ≤ 100000) = true) : I64 k := by have := of_decide_eq_true h; exact i64_k k this.1 this.2
theorem aR_sm : RSm aR := ⟨k3 4 rfl, by decide, by decide, by decide, by decide, by decide, fun _ _ => ite_bd (k3 2 rfl) (k3 4 rfl), fun _ _ => k3 0 rfl, fun _ _ => k3 0 rfl, fun _ _ => k3 0 rfl, fun _ _ => ite_bd (k3 6 rfl) (k3 8 rfl), fun _ _ => ite_bd (k3 4 rfl) (k3 2 rfl), fun _ _ => ite_bd (k3 8 rfl) (k3 4 rfl), fun _ _ => k3 0 rfl, fun _ _ => k3 0 rfl⟩
theorem aR2_sm : RSm aR2 := ⟨k3 4 rfl, by decide, by decide, by decide, by decide, by decide, fun _ _ => ite_bd (k3 2 rfl) (k3 4 rfl), fun _ _ => k3 0 rfl, fun _ _ => k3 0 rfl, fun _ _ => k3 0 rfl, fun _ _ => ite_bd (k3 6 rfl) (k3 8 rfl), fun _ _ => ite_bd (k3 8 rfl) (k3 6 rfl), fun _ _ => k3 2 rfl, fun _ _ => k3 0 rfl, fun _ _ => k3 0 rfl⟩
theorem aC3_sm : Sm aC3 := ⟨k3 2 rfl, (show 0 ≤ 1000 by decide), (show 2 ≤ 1000 by decide), (show 0 ≤ 1000 by decide), (show 0 ≤ 1000 by decide), fun _ => k3 0 rfl, fun _ => k3 0 rfl, fun _ => ite_bd (k3 4 rfl) (k3 6 rfl), fun _ => ite_bd (k3 2 rfl) (k3 4 rfl), fun _ => k3 0 rfl, fun _ => k3 0 rfl⟩
theorem trips_has {w : World} {g : Nat} {t : TypeId} {cs : Array Value} {n : Nat} {f h k : Nat → Int} (hh : Has w g t cs) (hc : ∀ j, j < n → cs[j * 3]? = some (.int .i64 (f j)) ∧ cs[j * 3 + 1]? = some (.int .i64 (h j)) ∧ cs[j * 3 + 2]? = some (.int .i64 (k j))) : TripsAt w w.heap.size (some ⟨g, 0, none⟩) n f h k := fun _ =>
  ⟨_, rfl, hh.lt, fun j hj => by
    have e : ∀ i, (⟨g, 0, none⟩ : Addr).add i = ⟨g, i, none⟩ := fun i => by unfold Addr.add; split <;> simp_all
    rw [e, hh.cell, (hc j hj).1, hh.cell, (hc j hj).2.1, hh.cell, (hc j hj).2.2]
    exact ⟨rfl, rfl, rfl⟩⟩
abbrev aP (b0 b1 : Nat) : Rp := ⟨some ⟨b0, 0, none⟩, none, some ⟨b1, 0, none⟩, none, none, 2, 0, 2, 0, 0⟩
theorem aP_nils (r : Rw) (b0 b1 : Nat) (h1 : r.nl = 0) (h2 : r.nb = 0) (h3 : r.nc = 0) : RNils r (aP b0 b1) := ⟨(fun h => by cases h), fun _ => ⟨h1, rfl⟩, (fun h => by cases h), fun _ => ⟨h2, rfl⟩, fun _ => ⟨h3, rfl⟩⟩
section
variable {X : World} {b0 b1 : Nat}
theorem aR_mem (h0 : Has X b0 3 #[.int .i64 2, .int .i64 4]) (h1 : Has X b1 32 #[.int .i64 6, .int .i64 4, .int .i64 8, .int .i64 8, .int .i64 2, .int .i64 4]) : RMem X X.heap.size aR (aP b0 b1) :=
  ⟨ints_of_has h0 (fun j hj => by rcases lt2 hj with rfl | rfl <;> rfl), fun h => absurd h (Nat.not_lt_zero _), trips_has h1 (fun j hj => by rcases lt2 hj with rfl | rfl <;> exact ⟨rfl, rfl, rfl⟩), fun h => absurd h (Nat.not_lt_zero _), fun h => absurd h (Nat.not_lt_zero _)⟩
theorem aR2_mem (h0 : Has X b0 3 #[.int .i64 2, .int .i64 4]) (h1 : Has X b1 32 #[.int .i64 6, .int .i64 8, .int .i64 2, .int .i64 8, .int .i64 6, .int .i64 2]) : RMem X X.heap.size aR2 (aP b0 b1) :=
  ⟨ints_of_has h0 (fun j hj => by rcases lt2 hj with rfl | rfl <;> rfl), fun h => absurd h (Nat.not_lt_zero _), trips_has h1 (fun j hj => by rcases lt2 hj with rfl | rfl <;> exact ⟨rfl, rfl, rfl⟩), fun h => absurd h (Nat.not_lt_zero _), fun h => absurd h (Nat.not_lt_zero _)⟩
/-- the circuit of the chapter's raw circuit -/
theorem aCirc (h0 : Has X b0 3 #[.int .i64 2, .int .i64 4]) (h1 : Has X b1 32 #[.int .i64 6, .int .i64 4, .int .i64 8, .int .i64 8, .int .i64 2, .int .i64 4]) :
    Calls Tryz.prog 24 #[.agg #[.int .i64 4, .slice (some ⟨b0, 0, none⟩) 2 2, .slice none 0 0, .slice (some ⟨b1, 0, none⟩) 2 2, .slice none 0 0, .slice none 0 0]] X fun e w' => ∃ A1 A2 A3 A4 k1 k2 k3 k4 g, e = .returned (.tuple #[.agg #[.int .i64 2, .slice A1 0 k1, .slice A2 2 k2, .slice A3 0 k3, .slice A4 0 k4], .slice (some ⟨g, 0, none⟩) 5 5, .int .i64 0]) ∧ Mem w' w'.heap.size aC3 ⟨A1, A2, A3, A4, k1, k2, k3, k4⟩ ∧ IntsAt w' w'.heap.size (some ⟨g, 0, none⟩) 5 (fun j => [0, 1, 2, 4, 3].getD j 0) ∧ Below X.heap.size X w' ∧ X.heap.size ≤ g ∧ ∀ a, A2 = some a → X.heap.size ≤ a.block := by
  refine (circ_yes aR (aP b0 b1) X 4 rfl aR_sm (aR_mem h0 h1) (aP_nils aR b0 b1 rfl rfl rfl) aR_chk).mono fun e w' => ?_
  rintro ⟨⟨A1, A2, A3, A4, k1, k2, k3, k4⟩, g, he, hm, _, hr, hb, hgX, hnew⟩
  refine ⟨A1, A2, A3, A4, k1, k2, k3, k4, g, ?_, ⟨fun h => absurd h (Nat.not_lt_zero _), ?_, fun h => absurd h (Nat.not_lt_zero _), fun h => absurd h (Nat.not_lt_zero _)⟩, ?_, hb, hgX, fun a e => hnew a (Or.inr (Or.inl e))⟩
  · rw [he]
    show Ending.returned (.tuple #[.agg #[.int .i64 2, .slice A1 0 k1, .slice A2 aR.ord.length k2, .slice A3 0 k3, .slice A4 0 k4], .slice (some ⟨g, 0, none⟩) 5 5, .int .i64 0]) = _
    rw [aR_len]
  · have ha : PairsAt w' w'.heap.size A2 aR.ord.length aR.cir.ga aR.cir.gb := hm.an
    rw [aR_len] at ha
    obtain ⟨g0, g1, g2, g3⟩ := aR_g0
    intro hn
    obtain ⟨a, e, hl, hc⟩ := ha hn
    refine ⟨a, e, hl, fun j hj => ?_⟩
    have hj : j < 2 := hj
    have hcj := hc j hj
    rcases lt2 hj with rfl | rfl
    · rw [g0, g1] at hcj; exact hcj
    · rw [g2, g3] at hcj; exact hcj
  · intro _
    refine ⟨_, rfl, hr.lt, fun j hj => ?_⟩
    have e : (⟨g, 0, none⟩ : Addr).add j = ⟨g, j, none⟩ := by unfold Addr.add; split <;> simp_all
    rw [e, hr.cell (by omega)]
    show some (Value.int .i64 (aR.nw (j : Int))) = _
    rw [aR_nw j hj]
theorem aCheck (h0 : Has X b0 3 #[.int .i64 2, .int .i64 4]) (h1 : Has X b1 32 #[.int .i64 6, .int .i64 8, .int .i64 2, .int .i64 8, .int .i64 6, .int .i64 2]) :
    Calls Tryz.prog 21 #[.agg #[.int .i64 4, .slice (some ⟨b0, 0, none⟩) 2 2, .slice none 0 0, .slice (some ⟨b1, 0, none⟩) 2 2, .slice none 0 0, .slice none 0 0]] X fun e w' => e = .returned (.int .i64 41) ∧ Below X.heap.size X w' := by
  have h := pCheck_any aR2 (aP b0 b1) X aR2_sm (aR2_mem h0 h1) (aP_nils aR2 b0 b1 rfl rfl rfl)
  rw [aR2_chk] at h
  exact h
end

end Go.Proofs.YtkpjpokeonppbaaGreatDoor

namespace Go.Proofs.YtkpjpokeonppbaaGreatDoor
open Go Go.RowKit
set_option linter.unusedVariables false
set_option linter.unusedSimpArgs false

theorem PairsAt.congr {w : World} {B : Nat} {A : Option Addr} {n : Nat} {f g f' g' : Nat → Int} (h : PairsAt w B A n f g) (e : ∀ j, j < n → f j = f' j ∧ g j = g' j) : PairsAt w B A n f' g' := fun hn => by
  obtain ⟨a, ea, hl, hc⟩ := h hn
  exact ⟨a, ea, hl, fun j hj => by rw [← (e j hj).1, ← (e j hj).2]; exact hc j hj⟩
theorem IntsAt.congr {w : World} {B : Nat} {A : Option Addr} {n : Nat} {f f' : Nat → Int} (h : IntsAt w B A n f) (e : ∀ j, j < n → f j = f' j) : IntsAt w B A n f' := fun hn => by
  obtain ⟨a, ea, hl, hc⟩ := h hn
  exact ⟨a, ea, hl, fun j hj => by rw [← e j hj]; exact hc j hj⟩
theorem circ_self {c : Cr} {p : Rp} (w : World) (hk : c.chk = 0) (hr : RSm c.raw) (hm : RMem w w.heap.size c.raw p) (hN : RNils c.raw p) :
    Calls Tryz.prog 24 #[rv c.raw p] w fun e w' => ∃ p' g, e = .returned (.tuple #[cv c p', .slice (some ⟨g, 0, none⟩) (c.szN + 1) (c.szN + 1), .int .i64 0]) ∧ Mem w' w'.heap.size c p' ∧ w'.rowIs g 3 (c.szN + 1) (fun v => .int .i64 (v : Int)) ∧ Below w.heap.size w w' := by
  obtain ⟨s1, s2, s3, s4⟩ := szN_eq hk
  obtain ⟨h0, h1, h2, h3, h4, h5, h6, h7⟩ := Cr.chk_zero hk
  have h4 := of_decide_eq_true h4
  have h5 := of_decide_eq_true h5
  have h6 := of_decide_eq_true h6
  refine (circ_yes c.raw p w c.szN s1.symm hr hm hN (raw_chk hk)).mono fun e w' => ?_
  rintro ⟨p', g, he, hm', _, hR, hb, _, _⟩
  have ho := raw_ord hk
  have hol : c.raw.ord.length = c.na := by rw [ho, List.length_range]
  refine ⟨p', g, ?_, ⟨?_, ?_, ?_, ?_⟩, ?_, hb⟩
  · rw [he]
    show Ending.returned (.tuple #[.agg #[.int .i64 ((c.i.toNat : Nat) : Int), .slice p'.A1 c.nl p'.k1, .slice p'.A2 c.raw.ord.length p'.k2, .slice p'.A3 c.nb p'.k3, .slice p'.A4 c.nc p'.k4], _, _]) = _
    rw [hol, ← s2]
  · exact (show PairsAt w' w'.heap.size p'.A1 c.nl (fun j => c.raw.told (c.nx j)) c.rs from hm'.la).congr fun j hj => ⟨raw_told hk (h6 j hj).1 (h6 j hj).2.1, rfl⟩
  · have ha : PairsAt w' w'.heap.size p'.A2 c.raw.ord.length c.raw.cir.ga c.raw.cir.gb := hm'.an
    rw [hol] at ha
    refine ha.congr fun j hj => ?_
    obtain ⟨k1, k2, k3, k4, k5⟩ := gate_ok7 hk hj
    have ej : c.raw.ord.getD j 0 = j := by rw [ho, List.getD_eq_getElem?_getD, List.getElem?_range hj]; rfl
    have t1 : c.raw.told (c.ga j) = c.ga j := raw_told hk (by omega) (by unfold Cr.sz; omega)
    have t2 : c.raw.told (c.gb j) = c.gb j := raw_told hk (by omega) (by unfold Cr.sz; omega)
    show max (c.raw.told (c.ga (c.raw.ord.getD j 0))) (c.raw.told (c.gb (c.raw.ord.getD j 0))) = c.ga j ∧ min (c.raw.told (c.ga (c.raw.ord.getD j 0))) (c.raw.told (c.gb (c.raw.ord.getD j 0))) = c.gb j
    rw [ej, t1, t2]
    omega
  · exact (show IntsAt w' w'.heap.size p'.A3 c.nb (fun j => c.raw.told (c.bd j)) from hm'.bd).congr fun j hj => raw_told hk (h4 j hj).1 (h4 j hj).2
  · exact (show IntsAt w' w'.heap.size p'.A4 c.nc (fun j => c.raw.told (c.cn j)) from hm'.cn).congr fun j hj => raw_told hk (h5 j hj).1 (h5 j hj).2
  · exact hR.congr fun j hj => by rw [raw_nw hk (by omega) (by omega)]
/-- the three boxes of the law -/
def S3 (b1 b5 b3 : Nat) (c : Cr) (p q : Pl) (rp : Rp) (W : World) : Prop :=
  (W.cell? ⟨b1, 0, none⟩ = some (.int .i64 c.i) ∧ W.cell? ⟨b1, 1, none⟩ = some (.slice p.A1 c.nl p.k1) ∧ W.cell? ⟨b1, 2, none⟩ = some (.slice p.A2 c.na p.k2) ∧ W.cell? ⟨b1, 3, none⟩ = some (.slice p.A3 c.nb p.k3) ∧ W.cell? ⟨b1, 4, none⟩ = some (.slice p.A4 c.nc p.k4)) ∧
  (W.cell? ⟨b5, 0, none⟩ = some (.int .i64 c.i) ∧ W.cell? ⟨b5, 1, none⟩ = some (.slice q.A1 c.nl q.k1) ∧ W.cell? ⟨b5, 2, none⟩ = some (.slice q.A2 c.na q.k2) ∧ W.cell? ⟨b5, 3, none⟩ = some (.slice q.A3 c.nb q.k3) ∧ W.cell? ⟨b5, 4, none⟩ = some (.slice q.A4 c.nc q.k4)) ∧
  W.cell? ⟨b3, 0, none⟩ = some (.int .i64 c.sz) ∧ W.cell? ⟨b3, 1, none⟩ = some (.slice rp.A1 c.raw.ni rp.k1) ∧ W.cell? ⟨b3, 2, none⟩ = some (.slice rp.A2 c.raw.nl rp.k2) ∧ W.cell? ⟨b3, 3, none⟩ = some (.slice rp.A3 c.raw.na rp.k3) ∧ W.cell? ⟨b3, 4, none⟩ = some (.slice rp.A4 c.raw.nb rp.k4) ∧ W.cell? ⟨b3, 5, none⟩ = some (.slice rp.A5 c.raw.nc rp.k5)
/-- the boxes in a later world -/
structure H3 (w W : World) (b5 b3 : Nat) (c : Cr) (p q : Pl) (rp : Rp) : Prop where
  B : Below w.heap.size w W
  h1 : Has W w.heap.size 41 (cc c p)
  h5 : Has W b5 41 (cc c q)
  h3 : Has W b3 26 (rc c.raw rp)
  m5 : Mem W W.heap.size c q
  m3 : RMem W W.heap.size c.raw rp
theorem H3.s {w W : World} {b5 b3 : Nat} {c : Cr} {p q : Pl} {rp : Rp} (h : H3 w W b5 b3 c p q rp) : S3 w.heap.size b5 b3 c p q rp W := ⟨h.h1.box, h.h5.box, h.h3.rbox⟩
theorem H3.on {w W W' : World} {b5 b3 : Nat} {c : Cr} {p q : Pl} {rp : Rp} (h : H3 w W b5 b3 c p q rp) (hb : Below W.heap.size W W') : H3 w W' b5 b3 c p q rp :=
  ⟨Below.step h.B h.B.size hb, h.h1.keep hb h.h1.lt, h.h5.keep hb h.h5.lt, h.h3.keep hb h.h3.lt, h.m5.to hb hb.size, h.m3.to hb hb.size⟩

end Go.Proofs.YtkpjpokeonppbaaGreatDoor

namespace Go.Proofs.YtkpjpokeonppbaaGreatDoor
open Go.RowKit
set_option linter.unusedVariables false
set_option linter.unusedSimpArgs false

namespace Rw
variable {r : Rw}
theorem chk_twi (h : r.chk = 0) : r.twi = false := by
  unfold chk at h
  split at h
  · omega
  · split at h
    · omega
    · split at h
      · omega
      · split at h
        · omega
        · simpa using ‹¬ r.twi = true›
theorem st_pre (k : Nat) : ∀ d, ∃ t, (r.st (k + d)).2 = (r.st k).2 ++ t ∧ t.length ≤ d
  | 0 => ⟨[], by simp⟩
  | d + 1 => by
    obtain ⟨t, ht, hl⟩ := st_pre k d
    show ∃ t, (r.st (k + d + 1)).2 = _ ∧ _
    rw [st]
    split
    · exact ⟨t ++ [r.fnd (r.st (k + d)).1], by simp [ht], by simp; omega⟩
    · exact ⟨t, ht, by omega⟩
theorem st_full (h : r.ord.length = r.na) {k : Nat} (hk : k ≤ r.na) : (r.st k).2.length = k := by
  obtain ⟨t, ht, hl⟩ := st_pre (r := r) k (r.na - k)
  rw [Nat.add_sub_cancel' hk] at ht
  have h2 : r.ord = (r.st k).2 ++ t := ht
  have h3 := st_len (r := r) k
  rw [h2, List.length_append] at h
  omega
theorem st_ord (h : r.ord.length = r.na) {k j : Nat} (hk : k ≤ r.na) (hj : j < k) : (r.st k).2.getD j 0 = r.ord.getD j 0 := by
  obtain ⟨t, ht, hl⟩ := st_pre (r := r) k (r.na - k)
  rw [Nat.add_sub_cancel' hk] at ht
  have h2 : r.ord = (r.st k).2 ++ t := ht
  have h3 := st_full h hk
  rw [h2, List.getD_eq_getElem?_getD, List.getD_eq_getElem?_getD, List.getElem?_append_left (by omega)]
theorem st_at (h : r.ord.length = r.na) {k : Nat} (hk : k < r.na) : r.fnd (r.st k).1 < r.na ∧ r.ord.getD k 0 = r.fnd (r.st k).1 := by
  have h1 := st_full h (k := k) (by omega)
  have h2 := st_full h (k := k + 1) (by omega)
  have h3 := st_ord h (k := k + 1) (j := k) (by omega) (by omega)
  rw [st] at h2 h3
  split at h2
  · rename_i hf
    rw [if_pos hf] at h3
    refine ⟨hf, ?_⟩
    rw [← h3]
    show ((r.st k).2 ++ [r.fnd (r.st k).1]).getD k 0 = _
    rw [List.getD_eq_getElem?_getD, List.getElem?_append_right (by omega), h1]
    simp
  · omega
theorem st_rdy : ∀ (k : Nat) (v : Int), (r.st k).1 v = true → r.rd0 v = true ∨ ∃ i, i ∈ (r.st k).2 ∧ r.gl i / 2 = v
  | 0, v, h => Or.inl h
  | k + 1, v, h => by
    rw [st] at h ⊢
    split at h
    · rename_i hf
      rw [if_pos hf]
      have h' : (if v = r.gl (r.fnd (r.st k).1) / 2 then true else (r.st k).1 v) = true := h
      by_cases e : v = r.gl (r.fnd (r.st k).1) / 2
      · exact Or.inr ⟨_, List.mem_append_right _ (List.mem_singleton.2 rfl), e.symm⟩
      · rw [if_neg e] at h'
        rcases st_rdy k v h' with h1 | ⟨i, hi, e1⟩
        · exact Or.inl h1
        · exact Or.inr ⟨i, List.mem_append_left _ hi, e1⟩
    · rename_i hf
      rw [if_neg hf]
      exact st_rdy k v h
/-- the variables are all different -/
theorem dL_inj (h : r.twi = false) {i j : Nat} (hi : i < r.dL.length) (hj : j < r.dL.length) (e : r.dL.getD i 0 / 2 = r.dL.getD j 0 / 2) : i = j := by
  have hn : (r.dL.map (· / 2)).Nodup := by
    have := of_decide_eq_false h
    exact Classical.byContradiction this
  have h1 := List.pairwise_iff_getElem.1 hn
  have hg : ∀ k, (hk : k < r.dL.length) → r.dL.getD k 0 = r.dL[k] := fun k hk => by rw [List.getD_eq_getElem?_getD, List.getElem?_eq_getElem hk]; rfl
  rw [hg i hi, hg j hj] at e
  rcases Nat.lt_trichotomy i j with hlt | heq | hlt
  · exact absurd (by rw [List.getElem_map, List.getElem_map]; exact e) (h1 i j (by simpa using hi) (by simpa using hj) hlt)
  · exact heq
  · exact absurd (by rw [List.getElem_map, List.getElem_map]; exact e.symm) (h1 j i (by simpa using hj) (by simpa using hi) hlt)
theorem dL_i (r : Rw) {k : Nat} (h : k < r.ni) : r.dL.getD k 0 = r.ip k := by
  unfold dL
  rw [List.getD_eq_getElem?_getD, List.getElem?_append_left (by simp [lst_len]; omega), List.getElem?_append_left (by simp [lst_len]; omega), lst_at _ _ _ h]; rfl
theorem dL_l (r : Rw) {k : Nat} (h : k < r.nl) : r.dL.getD (r.ni + k) 0 = r.ll k := by
  unfold dL
  rw [List.getD_eq_getElem?_getD, List.getElem?_append_left (by rw [List.length_append, lst_len, lst_len]; omega), List.getElem?_append_right (by simp [lst_len]), lst_len, Nat.add_sub_cancel_left, lst_at _ _ _ h]; rfl
theorem dL_g (r : Rw) {k : Nat} (h : k < r.na) : r.dL.getD (r.ni + r.nl + k) 0 = r.gl k := by
  unfold dL
  rw [List.getD_eq_getElem?_getD, List.getElem?_append_right (by simp [lst_len])]
  simp only [List.length_append, lst_len]
  rw [Nat.add_sub_cancel_left, lst_at _ _ _ h]; rfl
/-- where the literal of a place in the new order stands -/
def sig (r : Rw) (k : Nat) : Nat := if k < r.ni + r.nl then k else r.ni + r.nl + r.ord.getD (k - r.ni - r.nl) 0
theorem sig_dL {k : Nat} (hk : k < r.oL.length) : r.sig k < r.dL.length ∧ r.oL.getD k 0 = r.dL.getD (r.sig k) 0 := by
  rw [oL_len] at hk
  rw [dL_len]
  unfold sig
  rcases Nat.lt_or_ge k r.ni with h1 | h1
  · rw [if_pos (by omega), oL_i r h1, dL_i r h1]; exact ⟨by omega, rfl⟩
  · rcases Nat.lt_or_ge k (r.ni + r.nl) with h2 | h2
    · have e := oL_l r (k := k - r.ni) (by omega)
      have e2 := dL_l r (k := k - r.ni) (by omega)
      rw [show r.ni + (k - r.ni) = k by omega] at e e2
      rw [if_pos h2, e, e2]; exact ⟨by omega, rfl⟩
    · have ho := ord_at (r := r) (j := k - r.ni - r.nl) (by omega)
      have e := oL_g r (k := k - r.ni - r.nl) (by omega)
      rw [show r.ni + r.nl + (k - r.ni - r.nl) = k by omega] at e
      rw [if_neg (by omega), e, dL_g r ho]; exact ⟨by omega, rfl⟩
theorem ord_inj {i j : Nat} (hi : i < r.ord.length) (hj : j < r.ord.length) (e : r.ord.getD i 0 = r.ord.getD j 0) : i = j := by
  have hn : r.ord.Nodup := (st_nodup (r := r) r.na).1
  have h1 := List.pairwise_iff_getElem.1 hn
  have hg : ∀ k, (hk : k < r.ord.length) → r.ord.getD k 0 = r.ord[k] := fun k hk => by rw [List.getD_eq_getElem?_getD, List.getElem?_eq_getElem hk]; rfl
  rw [hg i hi, hg j hj] at e
  rcases Nat.lt_trichotomy i j with hlt | heq | hlt
  · exact absurd e (h1 i j hi hj hlt)
  · exact heq
  · exact absurd e.symm (h1 j i hj hi hlt)
theorem sig_inj {i j : Nat} (hi : i < r.oL.length) (hj : j < r.oL.length) (e : r.sig i = r.sig j) : i = j := by
  rw [oL_len] at hi hj
  unfold sig at e
  by_cases h1 : i < r.ni + r.nl
  · rw [if_pos h1] at e
    by_cases h2 : j < r.ni + r.nl
    · rw [if_pos h2] at e; exact e
    · rw [if_neg h2] at e; omega
  · rw [if_neg h1] at e
    by_cases h2 : j < r.ni + r.nl
    · rw [if_pos h2] at e; omega
    · rw [if_neg h2] at e
      have := ord_inj (r := r) (i := i - r.ni - r.nl) (j := j - r.ni - r.nl) (by omega) (by omega) (by omega)
      omega
theorem nwk_hit : ∀ (k : Nat) (j : Nat), j < k → (∀ i, j < i → i < k → r.oL.getD i 0 / 2 ≠ r.oL.getD j 0 / 2) → r.nwk k (r.oL.getD j 0 / 2) = j + 1
  | 0, j, h, _ => absurd h (Nat.not_lt_zero _)
  | k + 1, j, h, hne => by
    show (if r.oL.getD j 0 / 2 = r.oL.getD k 0 / 2 then (k : Int) + 1 else r.nwk k (r.oL.getD j 0 / 2)) = j + 1
    by_cases e : j = k
    · subst e; rw [if_pos rfl]
    · rw [if_neg (fun e2 => hne k (by omega) (by omega) e2.symm)]
      exact nwk_hit k j (by omega) fun i h1 h2 => hne i h1 (by omega)
/-- the new variable of a literal that is defined -/
theorem nw_at (h : r.chk = 0) {k : Nat} (hk : k < r.oL.length) : r.nw (r.oL.getD k 0 / 2) = k + 1 := by
  have ht := chk_twi h
  refine nwk_hit r.oL.length k hk fun i h1 h2 e => ?_
  obtain ⟨a1, a2⟩ := sig_dL hk
  obtain ⟨b1, b2⟩ := sig_dL (r := r) h2
  rw [a2, b2] at e
  have := sig_inj h2 hk (dL_inj ht b1 a1 e)
  omega
theorem nw_i (h : r.chk = 0) {k : Nat} (hk : k < r.ni) : r.nw (r.ip k / 2) = k + 1 := by
  have := nw_at h (k := k) (by rw [oL_len]; omega)
  rwa [oL_i r hk] at this
theorem nw_l (h : r.chk = 0) {k : Nat} (hk : k < r.nl) : r.nw (r.ll k / 2) = r.ni + k + 1 := by
  have := nw_at h (k := r.ni + k) (by rw [oL_len]; omega)
  rw [oL_l r hk] at this
  omega
theorem nw_g (h : r.chk = 0) {k : Nat} (hk : k < r.na) : r.nw (r.gl (r.ord.getD k 0) / 2) = r.ni + r.nl + k + 1 := by
  have := nw_at h (k := r.ni + r.nl + k) (by rw [oL_len, (ord_all h).1]; omega)
  rw [oL_g r (by rw [(ord_all h).1]; exact hk)] at this
  omega
theorem nw_0 (h : r.chk = 0) : r.nw 0 = 0 := by
  obtain ⟨h0, hb, hnum, ho⟩ := chk_parts h
  exact nwk_nul r.oL.length fun j hj => by have := oL_big hnum j hj; omega
/-- the place of a gate in the new order -/
theorem pos_of (h : r.chk = 0) {i : Nat} (hi : i < r.na) : ∃ j, j < r.na ∧ r.ord.getD j 0 = i ∧ r.nw (r.gl i / 2) = r.ni + r.nl + j + 1 := by
  obtain ⟨h1, h2⟩ := ord_all h
  obtain ⟨j, hj, e⟩ := h2 i hi
  have := nw_g h (k := j) (by omega)
  rw [e] at this
  exact ⟨j, by omega, e, this⟩
/-- what is used and is no gate's variable comes before the gates -/
theorem used_low (h : r.chk = 0) {x : Int} (hx : x ∈ r.uL) (hr : r.rd0 (x / 2) = true) : r.nw (x / 2) ≤ r.ni + r.nl := by
  obtain ⟨h0, hb, hnum, ho⟩ := chk_parts h
  unfold opn at ho
  rw [List.any_eq_false] at ho
  have hxo := ho x hx
  simp only [decide_eq_true_eq] at hxo
  by_cases e0 : x / 2 = 0
  · rw [e0, nw_0 h]; omega
  · have hm : x / 2 ∈ r.dL.map (· / 2) := Classical.byContradiction fun hno => hxo ⟨e0, hno⟩
    obtain ⟨y, hy, ey⟩ := List.mem_map.1 hm
    have ey : y / 2 = x / 2 := ey
    unfold dL at hy
    simp only [List.mem_append] at hy
    rcases hy with (hy | hy) | hy
    · obtain ⟨j, hj, rfl⟩ := mem_lst.1 hy
      rw [← ey, nw_i h hj]; omega
    · obtain ⟨j, hj, rfl⟩ := mem_lst.1 hy
      rw [← ey, nw_l h hj]; omega
    · have := of_decide_eq_true hr
      exact absurd (List.mem_map.2 ⟨y, hy, ey⟩) this
theorem told_half (r : Rw) (x : Int) : r.told x / 2 = r.nw (x / 2) := by unfold told; omega
/-- what a gate uses comes before it -/
theorem gate_low (h : r.chk = 0) {k : Nat} (hk : k < r.na) {x : Int} (hx : x = r.ga (r.ord.getD k 0) ∨ x = r.gb (r.ord.getD k 0)) : 0 ≤ r.told x ∧ r.told x / 2 ≤ r.ni + r.nl + k := by
  obtain ⟨hol, hor⟩ := ord_all h
  obtain ⟨hf, e⟩ := st_at hol hk
  have hm := fnd_may hf
  rw [← e] at hm
  have hlt := ord_at (r := r) (j := k) (by omega)
  unfold may at hm
  simp only [Bool.and_eq_true, Bool.not_eq_true'] at hm
  have hu : x ∈ r.uL := by
    unfold uL
    simp only [List.mem_append]
    refine Or.inr (mem_twos.2 ⟨_, hlt, ?_⟩)
    rcases hx with e | e
    · exact Or.inl e.symm
    · exact Or.inr e.symm
  have hrd : (r.st k).1 (x / 2) = true := by
    rcases hx with e | e
    · rw [e]; exact hm.1.2
    · rw [e]; exact hm.2
  have hus := used_nw h hu
  rw [told_half]
  refine ⟨by unfold told; omega, ?_⟩
  rcases st_rdy k _ hrd with h1 | ⟨i, hi, ei⟩
  · have := used_low h hu h1; omega
  · obtain ⟨j, hj, e1⟩ := List.getElem_of_mem hi
    have hjl : j < k := by rw [st_full hol (by omega)] at hj; exact hj
    have e2 : r.ord.getD j 0 = i := by
      rw [← st_ord hol (k := k) (by omega) hjl, List.getD_eq_getElem?_getD, List.getElem?_eq_getElem hj]; exact e1
    have := nw_g h (k := j) (by omega)
    rw [e2, ei] at this
    omega
theorem used_told (h : r.chk = 0) {x : Int} (hx : x ∈ r.uL) : 0 ≤ r.told x ∧ r.told x / 2 ≤ r.cir.sz := by
  have hu := used_nw h hx
  have hb := nwk_bd (r := r) r.oL.length (x / 2)
  have hl := oL_len r
  rw [told_half]
  refine ⟨by unfold told; omega, ?_⟩
  show r.nwk r.oL.length (x / 2) ≤ ((r.ni : Nat) : Int) + (r.nl : Nat) + (r.ord.length : Nat)
  omega
/-- its circuit is valid -/
theorem cir_chk (h : r.chk = 0) : r.cir.chk = 0 := by
  obtain ⟨h0, hb, hnum, ho⟩ := chk_parts h
  obtain ⟨hol, hor⟩ := ord_all h
  have hbg := of_decide_eq_false hb
  have hn2 := hnum
  unfold num at hn2
  simp only [Bool.and_eq_true] at hn2
  have hsz : r.cir.sz = (r.ni : Int) + r.nl + r.na := by rw [← hol]; rfl
  have A : ∀ (n : Nat) (f : Nat → Int), (∀ j, j < n → f j ∈ r.uL) → Cr.allB r.cir.sz (fun j => r.told (f j)) n = true := fun n f hf => decide_eq_true fun j hj => used_told h (hf j hj)
  unfold Cr.chk
  rw [if_neg (show ¬ r.cir.i < 0 from (show ¬ ((r.ni : Nat) : Int) < 0 by omega)), if_neg (show ¬ (1000 < r.cir.sz ∨ 100 < r.cir.nb ∨ 100 < r.cir.nc) from (show ¬ (1000 < r.cir.sz ∨ 100 < r.nb ∨ 100 < r.nc) by rw [hsz]; omega)), if_pos ?_]
  refine ⟨A r.nb r.bd (fun j hj => ?_), A r.nc r.cn (fun j hj => ?_), decide_eq_true fun j hj => ?_, decide_eq_true fun k hk => ?_⟩
  · unfold uL; simp only [List.mem_append]; exact Or.inl (Or.inl (Or.inl (mem_lst.2 ⟨j, hj, rfl⟩)))
  · unfold uL; simp only [List.mem_append]; exact Or.inl (Or.inl (Or.inr (mem_lst.2 ⟨j, hj, rfl⟩)))
  · have hj : j < r.nl := hj
    have hm : r.la j ∈ r.uL := by unfold uL; simp only [List.mem_append]; exact Or.inl (Or.inr (mem_lst.2 ⟨j, hj, rfl⟩))
    have h1 := used_told h hm
    have h2 := of_decide_eq_true (List.all_eq_true.1 hn2.2 (r.lb j) (mem_lst.2 ⟨j, hj, rfl⟩))
    exact ⟨h1.1, h1.2, h2.1, h2.2⟩
  · have hk : k < r.ord.length := hk
    obtain ⟨a1, a2⟩ := gate_low h (k := k) (by omega) (Or.inl rfl)
    obtain ⟨b1, b2⟩ := gate_low h (k := k) (by omega) (Or.inr rfl)
    show 0 ≤ min (r.told (r.ga (r.ord.getD k 0))) (r.told (r.gb (r.ord.getD k 0))) ∧ min (r.told (r.ga (r.ord.getD k 0))) (r.told (r.gb (r.ord.getD k 0))) ≤ max (r.told (r.ga (r.ord.getD k 0))) (r.told (r.gb (r.ord.getD k 0))) ∧ max (r.told (r.ga (r.ord.getD k 0))) (r.told (r.gb (r.ord.getD k 0))) / 2 ≤ ((r.ni : Nat) : Int) + r.nl + k
    omega
end Rw

end Go.Proofs.YtkpjpokeonppbaaGreatDoor

namespace Go.Proofs.YtkpjpokeonppbaaGreatDoor
open Go Go.RowKit
set_option linter.unusedVariables false
set_option linter.unusedSimpArgs false

/-- the same circuit, with zeros behind its lists -/
def Cr.cut (c : Cr) : Cr := ⟨c.i, c.nl, c.na, c.nb, c.nc, fun j => if j < c.nl then c.nx j else 0, fun j => if j < c.nl then c.rs j else 0, fun j => if j < c.na then c.ga j else 0, fun j => if j < c.na then c.gb j else 0, fun j => if j < c.nb then c.bd j else 0, fun j => if j < c.nc then c.cn j else 0⟩
theorem cut_if {n : Nat} {f : Nat → Int} {j : Nat} (h : j < n) : (if j < n then f j else 0) = f j := if_pos h
theorem Cr.cut_mem {c : Cr} {p : Pl} {w : World} {B : Nat} (h : Mem w B c p) : Mem w B c.cut p :=
  ⟨h.la.congr fun j hj => ⟨(cut_if hj).symm, (cut_if hj).symm⟩, h.an.congr fun j hj => ⟨(cut_if hj).symm, (cut_if hj).symm⟩, h.bd.congr fun j hj => (cut_if hj).symm, h.cn.congr fun j hj => (cut_if hj).symm⟩
theorem allB_congr {s : Int} {f g : Nat → Int} {n : Nat} (h : ∀ j, j < n → f j = g j) : Cr.allB s f n = Cr.allB s g n := decide_eq_decide.2 ⟨fun a j hj => by rw [← h j hj]; exact a j hj, fun a j hj => by rw [h j hj]; exact a j hj⟩
theorem Cr.cut_chk (c : Cr) : c.cut.chk = c.chk := by
  have e1 : Cr.allB c.cut.sz c.cut.bd c.cut.nb = Cr.allB c.sz c.bd c.nb := allB_congr fun j hj => cut_if hj
  have e2 : Cr.allB c.cut.sz c.cut.cn c.cut.nc = Cr.allB c.sz c.cn c.nc := allB_congr fun j hj => cut_if hj
  have e3 : c.cut.latB = c.latB := decide_eq_decide.2 ⟨fun a j hj => by have := a j hj; rw [show c.cut.nx j = c.nx j from cut_if hj, show c.cut.rs j = c.rs j from cut_if hj] at this; exact this, fun a j hj => by rw [show c.cut.nx j = c.nx j from cut_if hj, show c.cut.rs j = c.rs j from cut_if hj]; exact a j hj⟩
  have e4 : c.cut.gatB = c.gatB := decide_eq_decide.2 ⟨fun a j hj => by have := a j hj; rw [show c.cut.ga j = c.ga j from cut_if hj, show c.cut.gb j = c.gb j from cut_if hj] at this; exact this, fun a j hj => by rw [show c.cut.ga j = c.ga j from cut_if hj, show c.cut.gb j = c.gb j from cut_if hj]; exact a j hj⟩
  unfold Cr.chk
  rw [e1, e2, e3, e4]
  rfl
theorem i64_if {P : Prop} [Decidable P] {x : Int} (h : P → 0 ≤ x ∧ x ≤ 100000) : I64 (if P then x else 0) := by
  by_cases hp : P
  · rw [if_pos hp]; have := h hp; exact i64_k x (by omega) this.2
  · rw [if_neg hp]; exact i64_k 0 (by decide) (by decide)
theorem Cr.cut_sm {c : Cr} (h : c.chk = 0) : Sm c.cut := by
  obtain ⟨h0, h1, h2, h3, h4, h5, h6, h7⟩ := Cr.chk_zero h
  have h4 := of_decide_eq_true h4
  have h5 := of_decide_eq_true h5
  have h6 := of_decide_eq_true h6
  have hz : c.sz = c.i + c.nl + c.na := rfl
  refine ⟨i64_k c.i (by omega) (by omega), (show c.nl ≤ 1000 by omega), (show c.na ≤ 1000 by omega), (show c.nb ≤ 1000 by omega), (show c.nc ≤ 1000 by omega), fun j => i64_if fun hj => ?_, fun j => i64_if fun hj => ?_, fun j => i64_if fun hj => ?_, fun j => i64_if fun hj => ?_, fun j => i64_if fun hj => ?_, fun j => i64_if fun hj => ?_⟩
  · have := h6 j hj; omega
  · have := h6 j hj; omega
  · have := gate_ok7 h hj; omega
  · have := gate_ok7 h hj; omega
  · have := h4 j hj; omega
  · have := h5 j hj; omega
theorem Cr.cut_nils {c : Cr} {p : Pl} (h : Nils c p) : Nils c.cut p := ⟨h.1, h.2, h.3, h.4⟩

/-- no circuit -/
def zeC : Cr := ⟨0, 0, 0, 0, 0, fun _ => 0, fun _ => 0, fun _ => 0, fun _ => 0, fun _ => 0, fun _ => 0⟩
theorem ze_i : I64 0 := i64_k 0 (by decide) (by decide)
theorem ze_sm : Sm zeC := ⟨ze_i, by decide, by decide, by decide, by decide, fun _ => ze_i, fun _ => ze_i, fun _ => ze_i, fun _ => ze_i, fun _ => ze_i, fun _ => ze_i⟩
theorem ze_chk : zeC.chk = 0 := by decide +kernel
theorem ze_mem (w : World) : Mem w w.heap.size zeC ⟨none, none, none, none, 0, 0, 0, 0⟩ := ⟨fun h => absurd h (Nat.not_lt_zero _), fun h => absurd h (Nat.not_lt_zero _), fun h => absurd h (Nat.not_lt_zero _), fun h => absurd h (Nat.not_lt_zero _)⟩
namespace Rw
/-- what Circuit returns: the circuit, and how many new variables there are in its list -/
def oc (r : Rw) : Cr := if r.chk = 0 then r.cir.cut else zeC
def on (r : Rw) : Nat := if r.chk = 0 then r.m.toNat + 1 else 0
theorem oc_yes {r : Rw} (h : r.chk = 0) : r.oc = r.cir.cut := if_pos h
theorem oc_no {r : Rw} (h : r.chk ≠ 0) : r.oc = zeC := if_neg h
theorem on_yes {r : Rw} (h : r.chk = 0) : r.on = r.m.toNat + 1 := if_pos h
theorem on_no {r : Rw} (h : r.chk ≠ 0) : r.on = 0 := if_neg h
theorem oc_chk (r : Rw) : r.oc.chk = 0 := by
  by_cases h : r.chk = 0
  · rw [oc_yes h, Cr.cut_chk]; exact cir_chk h
  · rw [oc_no h]; exact ze_chk
theorem oc_sm (r : Rw) : Sm r.oc := by
  by_cases h : r.chk = 0
  · rw [oc_yes h]; exact Cr.cut_sm (cir_chk h)
  · rw [oc_no h]; exact ze_sm
theorem on_le (r : Rw) : r.on ≤ 1001 := by
  by_cases h : r.chk = 0
  · obtain ⟨h0, hbig, _⟩ := chk_parts h
    have := of_decide_eq_false hbig
    rw [on_yes h]; omega
  · rw [on_no h]; omega
end Rw

end Go.Proofs.YtkpjpokeonppbaaGreatDoor
