/- The contracts of the package order: definesTwice. -/
import Derived.Test.YtkpjpokeonppbaaGreatDoorOrderProg3
import Derived.Test.YtkpjpokeonppbaaGreatDoorOrderRef5
namespace Go.Proofs.YtkpjpokeonppbaaGreatDoor
open Go.RowKit
set_option linter.unusedVariables false
set_option linter.unusedSimpArgs false

set_option maxRecDepth 100000 in
set_option maxHeartbeats 8000000 in
theorem pTwice_any (r : Rw) (p : Rp) (w : World) (mn : Nat) (hmn : r.m = mn) (hs : RSm r) (hm : RMem w w.heap.size r p) (hN : RNils r p) (h1 : r.m ≤ 1000) (hnum : r.num = true) :
    Calls Tryz.prog 67 #[rv r p] w fun e w' => e = .returned (.bool r.twi) ∧ Below w.heap.size w w' := by
  have g1 := hs.ni
  have g2 := hs.nl
  have g3 := hs.na
  have lD := dL_len r
  have hd := Lib.hid (Rw.num_d hnum)
  have hmn1 : mn ≤ 1000 := by omega
  have h0 : 0 ≤ r.m := by omega
  have hw1 : IntKind.i64.wrap (r.m + 1) = r.m + 1 := IntWalk.i64_in _ (by omega)
  have hmk : ∀ w : World, (Instr.makeSlice 121 (.int .i64 (r.m + 1)) (.int .i64 (r.m + 1))).run Tryz.prog w = .ok (.slice (some ⟨w.heap.size, 0, none⟩) (mn + 1) (mn + 1)) (w.alloc (.cells (madeCells #[.bool false] (mn + 1)) 4)) := fun w => by
    have := run_make_row' 121 4 (.bool false) 1 Tryz.underlying121 info_bool8 rfl .i64 .i64 (mn + 1) (by omega) (by omega) w
    rw [hmn]; exact this
  have HM := Lib.hid hmn
  obtain ⟨N, hN'⟩ : ∃ N, r.dL.length = N := ⟨_, rfl⟩
  have HN := Lib.hid hN'
  have hNb : N ≤ 100000 := by omega
  have hA0 : Has ((w.alloc (.cells (rcL r p) 26)).alloc (.cells (madeCells #[.bool false] (mn + 1)) 4)) w.heap.size 26 (rc r p) := (Has.new _ _ _).al _
  have hBx : Below w.heap.size w ((w.alloc (.cells (rcL r p) 26)).alloc (.cells (madeCells #[.bool false] (mn + 1)) 4)) := ((Below.refl _ _).alloc (Nat.le_refl _) _).alloc (by simp) _
  have hR0 : ((w.alloc (.cells (rcL r p) 26)).alloc (.cells (madeCells #[.bool false] (mn + 1)) 4)).rowIs (w.heap.size + 1) 4 (mn + 1) (fun v => .bool (r.dB 0 v)) := by
    have := World.rowIs_made (w.alloc (.cells (rcL r p) 26)) (.bool false) (mn + 1) 4
    rw [World.size_alloc] at this
    exact this.congr fun j hj => by rw [Rw.dB_0]
  clear lD hN' hnum hmn
  go_enter Tryz.func67, Tryz.ntmps67
  go_wp2_with (first
    | (go_at_call 91; (with_reducible refine (pDefined_any r p ((w.alloc (.cells (rcL r p) 26)).alloc (.cells (madeCells #[.bool false] (mn + 1)) 4)) hs (hm.to hBx hBx.size) hN).mono ?_); rintro e w1 ⟨v1, rfl, ho1, hb1⟩; rw [HN.out] at ho1
       have ho1' : w1.ownsRow ((w.alloc (.cells (rcL r p) 26)).alloc (.cells (madeCells #[.bool false] (mn + 1)) 4)).heap.size 3 1 v1 r.dL.length (il r.dL) := by rw [HN.out]; exact ho1
       obtain ⟨A, k, rfl, hi, hd1⟩ := own_list ho1'
       rw [HN.out] at hi ⊢
       have hB1 : Below w.heap.size w w1 := Below.step hBx hBx.size hb1
       have hR1 := hR0.of_block (hb1.block _ hR0.lt)))
  have hdis : ∀ a, A = some a → a.block ≠ w.heap.size + 1 := fun a e => by
    subst e
    have := hd1 a.block rfl
    simp only [World.size_alloc] at this
    omega
  clear ho1 ho1' hb1 hR0 hd1
  have hz1 : w.heap.size + 1 < w1.heap.size := hR1.lt
  go_loopw [13] (fun i wr => ∃ q : Nat, q ≤ N ∧ i = .int .i64 q ∧ Hid (∀ j, j < q → r.dB j (r.dL.getD j 0 / 2).toNat = false) ∧ wr.rowIs (w.heap.size + 1) 4 (mn + 1) (fun v => .bool (r.dB q v)) ∧ IntsAt wr wr.heap.size A N (fun j => r.dL.getD j 0) ∧ Below w.heap.size w wr) (fun i _ => N - (intOf i).toNat)
  case atStart => exact ⟨0, Nat.zero_le _, rfl, Lib.hid (fun j hj => absurd hj (Nat.not_lt_zero _)), hR1, hi, hB1⟩
  case round =>
    clear hR1 hi hB1
    obtain ⟨q, hq, rfl, hL, hR, hi, hBr⟩ := hrel
    by_cases hlt : q < N
    · have hq' : q < r.dL.length := by rw [HN.out]; exact hlt
      obtain ⟨d1, d2, d3⟩ := hd.out q hq'
      obtain ⟨a, rfl, hab, hcs⟩ := hi (by omega)
      have y0 := hcs q hlt
      obtain ⟨x, hx⟩ : ∃ x, r.dL.getD q 0 = x := ⟨_, rfl⟩
      have HQ := Lib.hid hq'
      have HX := Lib.hid hx
      have y1 : wr.cell? (a.add q) = some (.int .i64 x) := by rw [← hx]; exact y0
      rw [hx] at d1 d2 d3
      have c0 : 0 ≤ x := by omega
      have c1 : x ≤ 2001 := by omega
      have c2 : (x / 2).toNat < mn + 1 := by have := HM.out; omega
      have c3 : x / 2 < ((mn + 1 : Nat) : Int) := by have := HM.out; omega
      have c4 : 0 ≤ x / 2 := by omega
      have z1 := hR.cell c2
      have z2 := hR.frozen (x / 2).toNat
      have HI := Lib.hid hi
      clear hcs y0 hx hq' d2 d3 hi
      cases hv : r.dB q (x / 2).toNat
      · rw [hv] at z1
        have HV := Lib.hid hv
        clear hv
        go_wp2_with (go_at_call 76; (with_reducible refine (varOf_any c0 c1 wr).mono ?_); rintro e w2 ⟨rfl, rfl⟩)
        go_roundw
        case rel => exact ⟨q + 1, by omega, by go_num, Lib.hid (fun j hj => by
          rcases Nat.lt_succ_iff_lt_or_eq.1 hj with h' | h'
          · exact hL.out j h'
          · subst h'; rw [HX.out]; exact HV.out), (hR.set _ _).congr (fun j hj => by
          have := Rw.dB_succ r HQ.out (by rw [HX.out]; exact c0) j
          rw [HX.out] at this
          rw [← this]
          split <;> rfl), by have := setB HI.out hdis (j := (x / 2).toNat) (.bool true); simpa [World.setCell] using this, hBr.setCell (by simp) _⟩
        case measure => simp [intOf]; omega
      · rw [hv] at z1
        have HV := Lib.hid (Rw.twi_yes HQ.out (by rw [HX.out]; exact c0) (by rw [HX.out]; exact hv))
        clear hv
        go_wp2_with (go_at_call 76; (with_reducible refine (varOf_any c0 c1 wr).mono ?_); rintro e w2 ⟨rfl, rfl⟩)
        go_ret
        exact ⟨Li.ret_bool HV.out.symm, hBr⟩
    · obtain rfl : q = N := by omega
      have HV := Lib.hid (Rw.twi_no (r := r) (fun j hj => by have := hd.out j hj; omega) (fun j hj => hL.out j (by rw [HN.out] at hj; exact hj)))
      clear hq hlt
      go_wp2
      go_ret
      exact ⟨Li.ret_bool HV.out.symm, hBr⟩
end Go.Proofs.YtkpjpokeonppbaaGreatDoor
