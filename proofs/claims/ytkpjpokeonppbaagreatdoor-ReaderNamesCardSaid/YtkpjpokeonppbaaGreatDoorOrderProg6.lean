/- The contracts of the package order: usesOpen. -/
import Derived.Test.YtkpjpokeonppbaaGreatDoorOrderProg3
import Derived.Test.YtkpjpokeonppbaaGreatDoorOrderFind2
import Derived.Test.YtkpjpokeonppbaaGreatDoorOrderRef5
namespace Go.Proofs.YtkpjpokeonppbaaGreatDoor
open Go.RowKit
set_option linter.unusedVariables false
set_option linter.unusedSimpArgs false

namespace Rw
/-- what is defined behind q literals, and the variable 0 -/
def dZ (r : Rw) (q v : Nat) : Bool := decide (v = 0) || r.dB q v
theorem dZ_0 (r : Rw) (v : Nat) : r.dZ 0 v = decide (v = 0) := by simp [dZ, dB_0]
theorem dZ_succ (r : Rw) {q : Nat} (hq : q < r.dL.length) (h0 : 0 ≤ r.dL.getD q 0) (v : Nat) : (if v = (r.dL.getD q 0 / 2).toNat then true else r.dZ q v) = r.dZ (q + 1) v := by
  have h := dB_succ r hq h0 v
  unfold dZ
  rw [← h]
  by_cases e : v = (r.dL.getD q 0 / 2).toNat
  · rw [if_pos e, if_pos e]; simp
  · rw [if_neg e, if_neg e]
theorem opn_any {r : Rw} (hu : ∀ j, j < r.uL.length → 0 ≤ r.uL.getD j 0) : anyB (nI (r.dZ r.dL.length)) (fun j => r.uL.getD j 0) r.uL.length = r.opn := by
  have key : ∀ x : Int, 0 ≤ x → (nI (r.dZ r.dL.length) x = true ↔ (x / 2 ≠ 0 ∧ x / 2 ∉ r.dL.map (· / 2))) := fun x hx => by
    have e : (((x / 2).toNat : Nat) : Int) = x / 2 := Int.toNat_of_nonneg (by omega)
    have e2 : (r.dL.map (· / 2)).take r.dL.length = r.dL.map (· / 2) := by
      have : r.dL.length = (r.dL.map (· / 2)).length := by simp
      rw [this, List.take_length]
    unfold nI dZ dB
    rw [e, e2]
    simp only [Bool.not_eq_true', Bool.or_eq_false_iff, decide_eq_false_iff_not]
    constructor
    · rintro ⟨a, b⟩; exact ⟨by omega, b⟩
    · rintro ⟨a, b⟩; exact ⟨by omega, b⟩
  rw [Bool.eq_iff_iff]
  unfold opn
  rw [List.any_eq_true]
  constructor
  · intro h
    obtain ⟨j, hj, hp⟩ := of_decide_eq_true h
    refine ⟨r.uL.getD j 0, ?_, decide_eq_true ((key _ (hu j hj)).1 hp)⟩
    rw [List.getD_eq_getElem?_getD, List.getElem?_eq_getElem hj]
    exact List.getElem_mem hj
  · rintro ⟨x, hx, hp⟩
    obtain ⟨j, hj, rfl⟩ := List.getElem_of_mem hx
    have e : r.uL.getD j 0 = r.uL[j] := by rw [List.getD_eq_getElem?_getD, List.getElem?_eq_getElem hj]; rfl
    exact decide_eq_true ⟨j, hj, by
      show nI _ (r.uL.getD j 0) = true
      rw [e]
      exact (key _ (by rw [← e]; exact hu j hj)).2 (of_decide_eq_true hp)⟩
end Rw

theorem row_set0b (w : World) (n : Nat) (t : TypeId) (g : Nat) (hg : w.heap.size = g) : (w.alloc (.cells ((madeCells #[.bool false] n).setIfInBounds 0 (.bool true)) t)).rowIs g t n (fun v => .bool (decide (v = 0))) := by
  subst hg
  exact ⟨_, heap_alloc_new w _, by rw [Array.size_setIfInBounds]; simp [size_madeCells], fun j hj => by
    rw [Array.getElem?_setIfInBounds]
    by_cases e : 0 = j
    · subst e; simp [size_madeCells, hj]
    · have e' : ¬ j = 0 := fun h => e h.symm
      rw [if_neg e]; simp [madeCells, hj, Nat.mod_one, e']⟩
/-- the box of isDefined -/
def BoxD (b g N : Nat) (W : World) : Prop := W.cell? ⟨b, 0, none⟩ = some (.slice (some ⟨g, 0, none⟩) N N) ∧ True

set_option maxRecDepth 100000 in
set_option maxHeartbeats 8000000 in
theorem pOpen_any (r : Rw) (p : Rp) (w : World) (mn : Nat) (hmn : r.m = mn) (hs : RSm r) (hm : RMem w w.heap.size r p) (hN : RNils r p) (h1 : r.m ≤ 1000) (hnum : r.num = true) :
    Calls Tryz.prog 68 #[rv r p] w fun e w' => e = .returned (.bool r.opn) ∧ Below w.heap.size w w' := by
  have g1 := hs.ni
  have g2 := hs.nl
  have g3 := hs.na
  have g4 := hs.nb
  have g5 := hs.nc
  have lD := dL_len r
  have lU := uL_len r
  have hd := Lib.hid (Rw.num_d hnum)
  have hu := Lib.hid (Rw.num_u hnum)
  have hmn1 : mn ≤ 1000 := by omega
  have h0 : 0 ≤ r.m := by omega
  have hw1 : IntKind.i64.wrap (r.m + 1) = r.m + 1 := IntWalk.i64_in _ (by omega)
  have hmk : ∀ w : World, (Instr.makeSlice 121 (.int .i64 (r.m + 1)) (.int .i64 (r.m + 1))).run Tryz.prog w = .ok (.slice (some ⟨w.heap.size, 0, none⟩) (mn + 1) (mn + 1)) (w.alloc (.cells (madeCells #[.bool false] (mn + 1)) 4)) := fun w => by
    have := run_make_row' 121 4 (.bool false) 1 Tryz.underlying121 info_bool8 rfl .i64 .i64 (mn + 1) (by omega) (by omega) w
    rw [hmn]; exact this
  have HM := Lib.hid hmn
  obtain ⟨N, hN'⟩ : ∃ N, r.dL.length = N := ⟨_, rfl⟩
  have HN := Lib.hid hN'
  have hNb : N ≤ 100000 := by omega
  have hUb : r.uL.length ≤ 100000 := by omega
  clear lD lU hN' hnum hmn
  have hRa : ((w.alloc (.cells (rcL r p) 26)).alloc (.cells (madeCells #[.bool false] (mn + 1)) 4)).rowIs (w.heap.size + 1) 4 (mn + 1) (fun v => .bool ((fun _ => false) v)) := by
    have := World.rowIs_made (w.alloc (.cells (rcL r p) 26)) (.bool false) (mn + 1) 4
    rw [World.size_alloc] at this
    exact this
  have hRb := hRa.alloc (.cells #[.slice (some ⟨w.heap.size + 1, 0, none⟩) (mn + 1) (mn + 1)] 121)
  have z1 : (((w.alloc (.cells #[.int .i64 r.m, .slice p.A1 r.ni p.k1, .slice p.A2 r.nl p.k2, .slice p.A3 r.na p.k3, .slice p.A4 r.nb p.k4, .slice p.A5 r.nc p.k5] 26)).alloc (.cells (madeCells #[.bool false] (mn + 1)) 4)).alloc (.cells #[.slice (some ⟨w.heap.size + 1, 0, none⟩) (mn + 1) (mn + 1)] 121)).cell? ⟨w.heap.size + 1, 0, none⟩ = some (.bool false) := hRb.cell (by omega : 0 < mn + 1)
  have z2 : (((w.alloc (.cells #[.int .i64 r.m, .slice p.A1 r.ni p.k1, .slice p.A2 r.nl p.k2, .slice p.A3 r.na p.k3, .slice p.A4 r.nb p.k4, .slice p.A5 r.nc p.k5] 26)).alloc (.cells (madeCells #[.bool false] (mn + 1)) 4)).alloc (.cells #[.slice (some ⟨w.heap.size + 1, 0, none⟩) (mn + 1) (mn + 1)] 121)).frozen? ⟨w.heap.size + 1, 0, none⟩ = false := hRb.frozen 0
  have z3 : ((w.alloc (.cells #[.int .i64 r.m, .slice p.A1 r.ni p.k1, .slice p.A2 r.nl p.k2, .slice p.A3 r.na p.k3, .slice p.A4 r.nb p.k4, .slice p.A5 r.nc p.k5] 26)).alloc (.cells (madeCells #[.bool false] (mn + 1)) 4)).cell? ⟨w.heap.size + 1, 0, none⟩ = some (.bool false) := hRa.cell (by omega : 0 < mn + 1)
  have z4 := hRa.frozen 0
  have i1 : (0 : Int) < (mn : Int) + 1 := by omega
  clear hRa hRb
  have hBx : Below w.heap.size w (((w.alloc (.cells (rcL r p) 26)).alloc (.cells ((madeCells #[.bool false] (mn + 1)).setIfInBounds 0 (.bool true)) 4)).alloc (.cells #[.slice (some ⟨w.heap.size + 1, 0, none⟩) (mn + 1) (mn + 1)] 121)) := (((Below.refl _ _).alloc (Nat.le_refl _) _).alloc (by simp) _).alloc (by simp; omega) _
  have hAx : Has (((w.alloc (.cells (rcL r p) 26)).alloc (.cells ((madeCells #[.bool false] (mn + 1)).setIfInBounds 0 (.bool true)) 4)).alloc (.cells #[.slice (some ⟨w.heap.size + 1, 0, none⟩) (mn + 1) (mn + 1)] 121)) w.heap.size 26 (rc r p) := ((Has.new _ _ _).al _).al _
  have hRx : (((w.alloc (.cells (rcL r p) 26)).alloc (.cells ((madeCells #[.bool false] (mn + 1)).setIfInBounds 0 (.bool true)) 4)).alloc (.cells #[.slice (some ⟨w.heap.size + 1, 0, none⟩) (mn + 1) (mn + 1)] 121)).rowIs (w.heap.size + 1) 4 (mn + 1) (fun v => .bool (r.dZ 0 v)) := ((row_set0b (w.alloc (.cells (rcL r p) 26)) (mn + 1) 4 (w.heap.size + 1) (by simp)).alloc _).congr fun j hj => by rw [Rw.dZ_0]
  have hDx : Has (((w.alloc (.cells (rcL r p) 26)).alloc (.cells ((madeCells #[.bool false] (mn + 1)).setIfInBounds 0 (.bool true)) 4)).alloc (.cells #[.slice (some ⟨w.heap.size + 1, 0, none⟩) (mn + 1) (mn + 1)] 121)) (w.heap.size + 1 + 1) 121 #[.slice (some ⟨w.heap.size + 1, 0, none⟩) (mn + 1) (mn + 1)] := Has.new' _ _ (by simp)
  go_enter Tryz.func68, Tryz.ntmps68
  go_wp2_with (first
    | (go_at_call 91; (with_reducible refine (pDefined_any r p (((w.alloc (.cells (rcL r p) 26)).alloc (.cells ((madeCells #[.bool false] (mn + 1)).setIfInBounds 0 (.bool true)) 4)).alloc (.cells #[.slice (some ⟨w.heap.size + 1, 0, none⟩) (mn + 1) (mn + 1)] 121)) hs (hm.to hBx hBx.size) hN).mono ?_); rintro e w1 ⟨v1, rfl, ho1, hb1⟩; rw [HN.out] at ho1
       have ho1' : w1.ownsRow (((w.alloc (.cells (rcL r p) 26)).alloc (.cells ((madeCells #[.bool false] (mn + 1)).setIfInBounds 0 (.bool true)) 4)).alloc (.cells #[.slice (some ⟨w.heap.size + 1, 0, none⟩) (mn + 1) (mn + 1)] 121)).heap.size 3 1 v1 r.dL.length (il r.dL) := by rw [HN.out]; exact ho1
       obtain ⟨A, k, rfl, hi, hd1⟩ := own_list ho1'
       rw [HN.out] at hi ⊢
       have hB1 : Below w.heap.size w w1 := Below.step hBx hBx.size hb1
       have hA1 := hAx.keep hb1 hAx.lt
       have hD1 := hDx.keep hb1 hDx.lt
       have hR1 := hRx.of_block (hb1.block _ hRx.lt)))
  have hdis : ∀ a, A = some a → a.block ≠ w.heap.size + 1 := fun a e => by
    subst e
    have := hd1 a.block rfl
    simp only [World.size_alloc] at this
    omega
  clear ho1 ho1' hb1 hRx hd1 hAx hDx hBx z1 z2 z3 z4
  go_loopw [15] (fun i wr => ∃ q : Nat, q ≤ N ∧ i = .int .i64 q ∧ wr.rowIs (w.heap.size + 1) 4 (mn + 1) (fun v => .bool (r.dZ q v)) ∧ IntsAt wr wr.heap.size A N (fun j => r.dL.getD j 0) ∧ Has wr (w.heap.size + 1 + 1) 121 #[.slice (some ⟨w.heap.size + 1, 0, none⟩) (mn + 1) (mn + 1)] ∧ Has wr w.heap.size 26 (rc r p) ∧ Below w.heap.size w wr) (fun i _ => N - (intOf i).toNat)
  case atStart => exact ⟨0, Nat.zero_le _, rfl, hR1, hi, hD1, hA1, hB1⟩
  case round =>
    clear hR1 hi hB1 hD1 hA1
    obtain ⟨q, hq, rfl, hR, hi, hD, hH, hBr⟩ := hrel
    by_cases hlt : q < N
    · have hq' : q < r.dL.length := by rw [HN.out]; exact hlt
      obtain ⟨d1, d2, d3⟩ := hd.out q hq'
      obtain ⟨a, rfl, hab, hcs⟩ := hi (by omega)
      have y0 := hcs q hlt
      obtain ⟨x, hx⟩ : ∃ x, r.dL.getD q 0 = x := ⟨_, rfl⟩
      have HQ := Lib.hid hq'
      have HX := Lib.hid hx
      have y1 : wr.cell? (a.add q) = some (.int .i64 x) := by rw [← hx]; exact y0
      rw [hx] at d1 d2 d3
      have c0 : 0 ≤ x := by omega
      have c1 : x ≤ 2001 := by omega
      have c2 : (x / 2).toNat < mn + 1 := by have := HM.out; omega
      have c3 : x / 2 < ((mn + 1 : Nat) : Int) := by have := HM.out; omega
      have c4 : 0 ≤ x / 2 := by omega
      have c5 : x / 2 < (mn : Int) + 1 := by omega
      have hq0 : (0 : Int) ≤ (q : Int) := by omega
      have hq1 : (q : Int) < (N : Int) := by omega
      have z1 : wr.drew.cell? ⟨w.heap.size + 1, (x / 2).toNat, none⟩ = _ := hR.cell c2
      have z2 : wr.drew.frozen? ⟨w.heap.size + 1, (x / 2).toNat, none⟩ = false := hR.frozen (x / 2).toNat
      have hRd : wr.drew.rowIs (w.heap.size + 1) 4 (mn + 1) (fun v => .bool (r.dZ q v)) := hR
      have hDd : Has wr.drew (w.heap.size + 1 + 1) 121 #[.slice (some ⟨w.heap.size + 1, 0, none⟩) (mn + 1) (mn + 1)] := hD
      have hHd : Has wr.drew w.heap.size 26 (rc r p) := hH
      have hId : IntsAt wr.drew wr.drew.heap.size (some a) N (fun j => r.dL.getD j 0) := hi
      have hBd : Below w.heap.size w wr.drew := below_dn hBr 1
      have hS0 : BoxD (w.heap.size + 1 + 1) (w.heap.size + 1) (mn + 1) wr.drew := ⟨hDd.cell 0, trivial⟩
      clear hcs y0 hx hq' d2 d3 hi hR hD hH hBr
      go_wp2
      refine wp_region_T (BoxD (w.heap.size + 1 + 1) (w.heap.size + 1) (mn + 1)) 5 (by kernel_rfl) ?_
      (refine wpT_take 0 (v := ?_) rfl (by kernel_rfl) (by kernel_rfl) (by kernel_rfl) (by kernel_rfl) (fun _ _ _ h => h) rfl hS0 (fun w hS => ?_) ?_; rotate_left; focus (obtain ⟨j1, j2⟩ := hS; go_simp; rfl)); (refine wpT_take 1 (v := ?_) rfl (by kernel_rfl) (by kernel_rfl) (by kernel_rfl) (by kernel_rfl) (fun _ _ _ h => h) rfl hS0 (fun w hS => ?_) ?_; rotate_left; focus (obtain ⟨j1, j2⟩ := hS; go_simp; rfl))
      refine wpT_one 2 (by kernel_rfl) (wpOp_go rfl rfl fun K hK => ?_)
      go_simp
      go_at_call 76
      (with_reducible refine (varOf_any c0 c1 wr.drew).mono ?_)
      rintro e w2 ⟨rfl, rfl⟩
      refine hK _ _ ⟨fun _ => hS0, ?_⟩
      (refine wpT_take 3 (v := ?_) rfl (by kernel_rfl) (by kernel_rfl) (by kernel_rfl) (by kernel_rfl) (fun _ _ _ h => h) rfl hS0 (fun w hS => ?_) ?_; rotate_left; focus (obtain ⟨j1, j2⟩ := hS; go_simp; rfl))
      refine wpT_one 4 (by kernel_rfl) (wpOp_go rfl rfl fun K hK => ?_)
      go_simp
      have hDe := hDd.far (q := ⟨w.heap.size + 1, (x / 2).toNat, none⟩) (by simp) (.bool true)
      refine hK _ _ ⟨fun _ => ⟨hDe.cell 0, trivial⟩, ?_⟩
      refine wpT_done (by kernel_rfl) (NoPanic.normal ?_) _
      go_wp2
      go_roundw
      case rel => exact ⟨q + 1, by omega, by go_num, (hRd.set _ _).congr (fun j hj => by
          have := Rw.dZ_succ r HQ.out (by rw [HX.out]; exact c0) j
          rw [HX.out] at this
          rw [← this]
          split <;> rfl), (setB hId hdis (j := (x / 2).toNat) (.bool true)).more (by simp [World.setCell]), hDe, hHd.far (by simp) _, hBd.setCell (by simp) _⟩
      case measure => simp [intOf]; omega
    · obtain rfl : q = N := by omega
      obtain ⟨o0, o1, o2, o3, o4, o5⟩ := hH.rbox
      have HO := Lib.hid (Rw.opn_any (r := r) (fun j hj => (hu.out j hj).1))
      have hub := Lib.hid (fun j (hj : j < r.uL.length) => (show 0 ≤ r.uL.getD j 0 ∧ r.uL.getD j 0 ≤ 2001 ∧ r.uL.getD j 0 / 2 < ((mn + 1 : Nat) : Int) by have := hu.out j hj; have := HM.out; omega))
      clear hq hlt
      go_wp2_with (first
        | (go_at_call 92; (with_reducible refine (pUsed_any r p wr hs (hm.to hBr hBr.size) hN).mono ?_); rintro e w3 hl3
           obtain ⟨A3, k3, rfl, hi3, hb3⟩ := hl3.at
           have hB3 : Below w.heap.size w w3 := Below.step hBr hBr.size hb3)
        | (go_at_call 90; (with_reducible refine (conOpen (r.dZ q) (w.heap.size + 1) (w.heap.size + 1 + 1) (mn + 1) A3 r.uL.length k3 (fun j => r.uL.getD j 0) w3 hUb hi3 (hR.of_block (hb3.block _ hR.lt)) (hD.keep hb3 hD.lt) hub.out).mono ?_); rintro e w4 ⟨rfl, hb4⟩
           have hB4 : Below w.heap.size w w4 := Below.step hB3 hB3.size hb4))
      go_ret
      exact ⟨Li.ret_bool (by have h9 := HO.out; rw [HN.out] at h9; exact h9), hB4⟩
end Go.Proofs.YtkpjpokeonppbaaGreatDoor
