/- The reference of layer 3: the new variables. -/
import Derived.Test.YtpdfdbnmohippaaOrderRef7
namespace Go.Proofs.Ytpdfdbnmohippaa
open Go.RowKit
set_option linter.unusedVariables false
set_option linter.unusedSimpArgs false

namespace Rw
theorem num_i {r : Rw} (h : r.num = true) {j : Nat} (hj : j < r.ni) : 2 ≤ r.ip j ∧ r.ip j ≤ 2 * r.m + 1 := by
  unfold num at h
  simp only [Bool.and_eq_true] at h
  have e := of_decide_eq_true (List.all_eq_true.1 h.1.1 (r.ip j) (by unfold dL; exact List.mem_append_left _ (List.mem_append_left _ (mem_lst.2 ⟨j, hj, rfl⟩))))
  exact ⟨e.1, e.2.2⟩
theorem num_l {r : Rw} (h : r.num = true) {j : Nat} (hj : j < r.nl) : 2 ≤ r.ll j ∧ r.ll j ≤ 2 * r.m + 1 := by
  unfold num at h
  simp only [Bool.and_eq_true] at h
  have e := of_decide_eq_true (List.all_eq_true.1 h.1.1 (r.ll j) (by unfold dL; exact List.mem_append_left _ (List.mem_append_right _ (mem_lst.2 ⟨j, hj, rfl⟩))))
  exact ⟨e.1, e.2.2⟩
theorem oL_i (r : Rw) {k : Nat} (h : k < r.ni) : r.oL.getD k 0 = r.ip k := by
  unfold oL
  rw [List.getD_eq_getElem?_getD, List.append_assoc, List.getElem?_append_left (by rw [lst_len]; exact h), lst_at _ _ _ h]; rfl
theorem oL_l (r : Rw) {k : Nat} (h : k < r.nl) : r.oL.getD (r.ni + k) 0 = r.ll k := by
  unfold oL
  rw [List.getD_eq_getElem?_getD, List.getElem?_append_left (by simp [lst_len]; omega), List.getElem?_append_right (by rw [lst_len]; omega), lst_len, Nat.add_sub_cancel_left, lst_at _ _ _ h]; rfl
theorem oL_g (r : Rw) {k : Nat} (h : k < r.ord.length) : r.oL.getD (r.ni + r.nl + k) 0 = r.gl (r.ord.getD k 0) := by
  unfold oL
  rw [List.getD_eq_getElem?_getD, List.getElem?_append_right (by simp [lst_len]), show r.ni + r.nl + k - (lst r.ip r.ni ++ lst r.ll r.nl).length = k from by simp [lst_len], List.getElem?_map, List.getD_eq_getElem?_getD, List.getElem?_eq_getElem h]
  rfl
theorem oL_len (r : Rw) : r.oL.length = r.ni + r.nl + r.ord.length := by simp [oL, lst_len]; omega
theorem nwk_step (r : Rw) (k : Nat) (x : Int) (hx : r.oL.getD k 0 = x) (h0 : 0 ≤ x) (j : Nat) : (if j = (x / 2).toNat then Value.int .i64 ((k : Int) + 1) else .int .i64 (r.nwk k (j : Int))) = .int .i64 (r.nwk (k + 1) (j : Int)) := by
  show _ = Value.int .i64 (if (j : Int) = r.oL.getD k 0 / 2 then ((k : Int) + 1) else r.nwk k (j : Int))
  rw [hx]
  by_cases e : j = (x / 2).toNat
  · rw [if_pos e, if_pos (by omega)]
  · rw [if_neg e, if_neg (by omega)]
end Rw

/-- the new variables, in a row of the call's own -/
def NumsIs (r : Rw) (mn : Nat) (w : World) (e : Ending) (w' : World) : Prop :=
  ∃ g, e = .returned (.slice (some ⟨g, 0, none⟩) (mn + 1) (mn + 1)) ∧ w'.rowIs g 3 (mn + 1) (fun v => .int .i64 (r.nw v)) ∧ w.heap.size ≤ g ∧ Below w.heap.size w w'

set_option maxRecDepth 100000 in
set_option maxHeartbeats 4000000 in
theorem oNums_any (r : Rw) (p : Rp) (w : World) (mn : Nat) (hmn : r.m = mn) (hs : RSm r) (hm : RMem w w.heap.size r p) (h1 : r.m ≤ 1000) (hnum : r.num = true) :
    Calls Try.prog 44 #[rv r p] w (NumsIs r mn w) := by
  have g0 := hs.ni
  have g1 := hs.nl
  have g2 := hs.na
  have hmn1 : mn ≤ 1000 := by omega
  have h0 : 0 ≤ r.m := by omega
  have hw1 : IntKind.i64.wrap (r.m + 1) = r.m + 1 := IntWalk.i64_in _ (by omega)
  have hmk : ∀ w : World, (Instr.makeSlice 24 (.int .i64 (r.m + 1)) (.int .i64 (r.m + 1))).run Try.prog w = .ok (.slice (some ⟨w.heap.size, 0, none⟩) (mn + 1) (mn + 1)) (w.alloc (.cells (madeCells #[.int .i64 0] (mn + 1)) 3)) := fun w => by
    have := run_make_row' 24 3 (.int .i64 0) 8 Try.underlying24 info_int rfl .i64 .i64 (mn + 1) (by omega) (by omega) w
    rw [hmn]; exact this
  have hgi := Lib.hid (fun j (hj : j < r.ni) => Rw.num_i hnum hj)
  have hgl := Lib.hid (fun j (hj : j < r.nl) => Rw.num_l hnum hj)
  have hgg := Lib.hid (fun j (hj : j < r.na) => Rw.num_g hnum hj)
  have HM := Lib.hid hmn
  have HN := Lib.hid hnum
  have hH1 : Has ((w.alloc (.cells (rc r p) 32)).alloc (.cells (madeCells #[.int .i64 0] (mn + 1)) 3)) w.heap.size 32 (rc r p) := (Has.new _ _ _).al _
  have hR1 : ((w.alloc (.cells (rc r p) 32)).alloc (.cells (madeCells #[.int .i64 0] (mn + 1)) 3)).rowIs (w.heap.size + 1) 3 (mn + 1) (fun v => .int .i64 (if v = 0 then 0 else if v < 1 then -1 else 0)) := by
    have := World.rowIs_made (w.alloc (.cells (rc r p) 32)) (.int .i64 0) (mn + 1) 3
    have h2 : ((w.alloc (.cells (rc r p) 32)).alloc (.cells (madeCells #[.int .i64 0] (mn + 1)) 3)).rowIs (w.heap.size + 1) 3 (mn + 1) (fun v => .int .i64 0) := by simpa using this
    exact h2.congr (fun j hj => by by_cases e : j = 0 <;> simp [e])
  have hB1 : Below w.heap.size w ((w.alloc (.cells (rc r p) 32)).alloc (.cells (madeCells #[.int .i64 0] (mn + 1)) 3)) := by go_grown
  clear hmn hnum
  go_enter Try.func44, Try.ntmps44
  go_wp2
  go_loopw [4] (fun i wr => ∃ q : Nat, 1 ≤ q ∧ q ≤ mn + 1 ∧ i = .int .i64 q ∧ Has wr w.heap.size 32 (rc r p) ∧ wr.rowIs (w.heap.size + 1) 3 (mn + 1) (fun v => .int .i64 (if v = 0 then 0 else if v < q then -1 else 0)) ∧ Below w.heap.size w wr) (fun i _ => mn + 1 - (intOf i).toNat)
  case atStart => exact ⟨1, Nat.le_refl _, by omega, rfl, hH1, hR1, hB1⟩
  case round =>
    clear hH1 hR1 hB1
    obtain ⟨q, hq1, hq, rfl, hH, hR, hBr⟩ := hrel
    obtain ⟨x0, x1, x2, x3, x4, x5⟩ := hH.rbox
    have hHl := hH.lt
    by_cases hlt : q < mn + 1
    · have c1 : (q : Int) ≤ r.m := by have := HM.out; omega
      have c2 : (q : Int) < (mn : Int) + 1 := by omega
      have z1 := hR.cell hlt
      have z2 := hR.frozen q
      go_wp2
      go_roundw
      case rel => exact ⟨q + 1, by omega, by omega, by go_num, hH.far (by simp) _, (hR.set _ _).congr (fun j hj => by
        by_cases e : j = q
        · subst e; rw [if_pos rfl, if_neg (by omega), if_pos (by omega)]
        · rw [if_neg e]
          by_cases e0 : j = 0
          · rw [if_pos e0, if_pos e0]
          · rw [if_neg e0, if_neg e0]
            by_cases e1 : j < q
            · rw [if_pos e1, if_pos (by omega)]
            · rw [if_neg e1, if_neg (by omega)]), hBr.setCell (by simp) _⟩
      case measure => simp [intOf]; omega
    · have c1 : ¬ (q : Int) ≤ r.m := by have := HM.out; omega
      have hR0 : wr.rowIs (w.heap.size + 1) 3 (mn + 1) (fun v => .int .i64 (r.nwk 0 (v : Int))) := hR.congr (fun j hj => by
        show _ = Value.int .i64 (if (j : Int) = 0 then 0 else -1)
        by_cases e0 : j = 0
        · rw [if_pos e0, if_pos (by omega)]
        · rw [if_neg e0, if_pos (show j < q by omega), if_neg (by omega)])
      clear hq hlt hR hq1
      go_wp2
      go_loopw [5, 6] (fun u i wr => ∃ q : Nat, q ≤ r.ni ∧ i = .int .i64 q ∧ u = .int .i64 ((q : Int) + 1) ∧ Has wr w.heap.size 32 (rc r p) ∧ wr.rowIs (w.heap.size + 1) 3 (mn + 1) (fun v => .int .i64 (r.nwk q (v : Int))) ∧ Below w.heap.size w wr) (fun _ i _ => r.ni - (intOf i).toNat)
      case atStart => exact ⟨0, Nat.zero_le _, rfl, by simp, hH, hR0, hBr⟩
      case round =>
        clear hH hR0 hBr
        obtain ⟨q, hq, rfl, rfl, hH, hR, hBr⟩ := hrel
        obtain ⟨x0, x1, x2, x3, x4, x5⟩ := hH.rbox
        have hHl := hH.lt
        by_cases hlt : q < r.ni
        · obtain ⟨a, hA, hab, hcs⟩ := (hm.ip.keep hBr) (by omega)
          have y0 := hcs q hlt
          obtain ⟨e1, e2⟩ := hgi.out q hlt
          have hm1 := HM.out
          have n1 : (r.ip q / 2).toNat < mn + 1 := by omega
          have m1 : 0 ≤ r.ip q / 2 := by omega
          have m2 : r.ip q / 2 < (mn : Int) + 1 := by omega
          have m3 : 0 ≤ r.ip q := by omega
          have z1 := hR.cell n1
          have z2 := hR.frozen (r.ip q / 2).toNat
          have hst := Lib.hid (r.nwk_step q (r.ip q) (r.oL_i hlt) m3)
          rw [hA] at x1
          clear hcs hA hm1
          go_wp2
          go_roundw
          case rel => exact ⟨q + 1, by omega, by go_num, by go_num, hH.far (by simp) _, (hR.set _ _).congr (fun j hj => hst.out j), hBr.setCell (by simp) _⟩
          case measure => simp [intOf]; omega
        · have c2 : ¬ (q : Int) < (r.ni : Int) := by omega
          obtain ⟨m0, hme⟩ : ∃ m0, m0 = q := ⟨_, rfl⟩
          subst hme
          have hq0 : Hid (m0 = r.ni) := by show m0 = _; omega
          have hR0 : wr.rowIs (w.heap.size + 1) 3 (mn + 1) (fun v => .int .i64 (r.nwk (r.ni + 0) (v : Int))) := by rw [Nat.add_zero, ← hq0.out]; exact hR
          clear hq hlt hR
          go_wp2
          go_loopw [5, 7] (fun u i wr => ∃ q : Nat, q ≤ r.nl ∧ i = .int .i64 q ∧ u = .int .i64 ((m0 : Int) + q + 1) ∧ Has wr w.heap.size 32 (rc r p) ∧ wr.rowIs (w.heap.size + 1) 3 (mn + 1) (fun v => .int .i64 (r.nwk (r.ni + q) (v : Int))) ∧ Below w.heap.size w wr) (fun _ i _ => r.nl - (intOf i).toNat)
          case atStart => exact ⟨0, Nat.zero_le _, rfl, by simp, hH, hR0, hBr⟩
          case round =>
            clear hH hR0 hBr
            obtain ⟨q, hq, rfl, rfl, hH, hR, hBr⟩ := hrel
            obtain ⟨x0, x1, x2, x3, x4, x5⟩ := hH.rbox
            have hHl := hH.lt
            by_cases hlt : q < r.nl
            · obtain ⟨a, hA, hab, hcs⟩ := (hm.la.keep hBr) (by omega)
              obtain ⟨y0, y1, y2⟩ := hcs q hlt
              obtain ⟨e1, e2⟩ := hgl.out q hlt
              have hm1 := HM.out
              have n1 : (r.ll q / 2).toNat < mn + 1 := by omega
              have m1 : 0 ≤ r.ll q / 2 := by omega
              have m2 : r.ll q / 2 < (mn : Int) + 1 := by omega
              have m3 : 0 ≤ r.ll q := by omega
              have z1 := hR.cell n1
              have z2 := hR.frozen (r.ll q / 2).toNat
              have hst := Lib.hid (r.nwk_step (r.ni + q) (r.ll q) (r.oL_l hlt) m3)
              have hcast := Lib.hid (show ((r.ni + q : Nat) : Int) = (m0 : Int) + q from by have := hq0.out; omega)
              have hw5 : IntKind.i64.wrap ((m0 : Int) + q + 1 + 1) = (m0 : Int) + q + 1 + 1 := IntWalk.i64_in _ (by have := hq0.out; omega)
              rw [hA] at x2
              clear hcs hA hm1
              go_wp2
              go_roundw
              case rel => exact ⟨q + 1, by omega, by go_num, by go_num, hH.far (by simp) _, (hR.set _ _).congr (fun j hj => by have h := hst.out j; rw [hcast.out] at h; exact h), hBr.setCell (by simp) _⟩
              case measure => simp [intOf]; omega
            · have c3 : ¬ (q : Int) < (r.nl : Int) := by omega
              obtain ⟨m9, hme⟩ : ∃ m9, m9 = q := ⟨_, rfl⟩
              subst hme
              have hq9 : Hid (m9 = r.nl) := by show m9 = _; omega
              have hol : r.ord.length ≤ r.na := Rw.ord_len
              have hR0 : wr.rowIs (w.heap.size + 1) 3 (mn + 1) (fun v => .int .i64 (r.nwk (r.ni + r.nl + 0) (v : Int))) := by rw [Nat.add_zero, ← hq9.out]; exact hR
              clear hq hlt hR
              go_wp2_with (first
                | (go_at_call 45; refine (oOrder_any r p _ mn HM.out hs (hm.to hBr hBr.size) (by omega) HN.out).mono ?_; rintro e w5 ⟨v5, rfl, ho5, hb5⟩; obtain ⟨U, ku, rfl, hi5, hg5⟩ := own_list ho5; have hUb : ∀ a, U = some a → wr.heap.size ≤ a.block := (fun a e => hg5 a.block (by rw [e]; rfl)); clear ho5 hg5; have hB5 := Below.step hBr hBr.size hb5; have hH5 := hH.keep hb5 hH.lt; have hR5 := hR0.of_block (hb5.block _ hR0.lt))
                | fail)
              have hrl := hR0.lt
              rw [nL_len] at hi5 ⊢
              go_loopw [5, 9] (fun u i wr => ∃ q : Nat, q ≤ r.ord.length ∧ i = .int .i64 q ∧ u = .int .i64 ((m0 : Int) + m9 + q + 1) ∧ Has wr w.heap.size 32 (rc r p) ∧ wr.rowIs (w.heap.size + 1) 3 (mn + 1) (fun v => .int .i64 (r.nwk (r.ni + r.nl + q) (v : Int))) ∧ Below w.heap.size w wr ∧ IntsAt wr w5.heap.size U r.ord.length (fun j => (nL r.ord).getD j 0)) (fun _ i _ => r.ord.length - (intOf i).toNat)
              case atStart => exact ⟨0, Nat.zero_le _, rfl, by simp, hH5, hR5, hB5, hi5⟩
              case round =>
                clear hH hR0 hBr hH5 hR5 hB5
                obtain ⟨q, hq, rfl, rfl, hH, hR, hBr, hI⟩ := hrel
                obtain ⟨x0, x1, x2, x3, x4, x5⟩ := hH.rbox
                have hHl := hH.lt
                by_cases hlt : q < r.ord.length
                · obtain ⟨n, hn⟩ : ∃ n, Hid (n = r.ord.getD q 0) := ⟨_, Lib.hid rfl⟩
                  have hna : n < r.na := by rw [hn.out]; exact Rw.ord_at hlt
                  obtain ⟨u, hU, hub, huc⟩ := hI (by omega)
                  have v0 : wr.cell? (u.add q) = some (.int .i64 (n : Int)) := by
                    rw [huc q hlt, hn.out]
                    simp [nL, List.getD_eq_getElem?_getD, List.getElem?_eq_getElem hlt]
                  obtain ⟨a, hA, hab, hcs⟩ := (hm.an.keep hBr) (by omega)
                  obtain ⟨y0, y1, y2⟩ := hcs n hna
                  obtain ⟨⟨e1, e2⟩, _, _⟩ := hgg.out n hna
                  have hm1 := HM.out
                  have i1 : (0 : Int) ≤ (q : Int) := by omega
                  have i2 : (q : Int) < (r.ord.length : Int) := by omega
                  have i3 : (0 : Int) ≤ (n : Int) := by omega
                  have i4 : (n : Int) < (r.na : Int) := by omega
                  have n1 : (r.gl n / 2).toNat < mn + 1 := by omega
                  have m1 : 0 ≤ r.gl n / 2 := by omega
                  have m2 : r.gl n / 2 < (mn : Int) + 1 := by omega
                  have m3 : 0 ≤ r.gl n := by omega
                  have z1 := hR.cell n1
                  have z2 := hR.frozen (r.gl n / 2).toNat
                  have hst := Lib.hid (r.nwk_step (r.ni + r.nl + q) (r.gl n) (by rw [r.oL_g hlt, ← hn.out]) m3)
                  have hcast := Lib.hid (show ((r.ni + r.nl + q : Nat) : Int) = (m0 : Int) + m9 + q from by have := hq0.out; have := hq9.out; omega)
                  have hw5 : IntKind.i64.wrap ((m0 : Int) + m9 + q + 1 + 1) = (m0 : Int) + m9 + q + 1 + 1 := IntWalk.i64_in _ (by have := hq0.out; have := hq9.out; omega)
                  have hI2 := setB (b := w.heap.size + 1) (j := (r.gl n / 2).toNat) hI (fun a e => by have := hUb a e; omega)
                  rw [hA] at x3
                  subst hU
                  clear hcs huc hA hm1
                  go_wp2
                  go_region
                  go_wp2
                  go_roundw
                  case rel => exact ⟨q + 1, by omega, by go_num, by go_num, hH.far (by simp) _, (hR.set _ _).congr (fun j hj => by have h := hst.out j; rw [hcast.out] at h; exact h), below_dn (hBr.setCell (by simp) _) 1, hI2 _⟩
                  case measure => simp [intOf]; omega
                · have c4 : ¬ (q : Int) < (r.ord.length : Int) := by omega
                  have hq5 : Hid (q = r.ord.length) := by show q = _; omega
                  clear hq hlt
                  go_wp2
                  go_ret
                  exact ⟨_, rfl, by unfold Rw.nw; rw [Rw.oL_len, ← hq5.out]; exact hR, by omega, hBr⟩
end Go.Proofs.Ytpdfdbnmohippaa
