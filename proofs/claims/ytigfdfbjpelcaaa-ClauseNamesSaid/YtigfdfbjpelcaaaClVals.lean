/- The reference's Values. -/
import Derived.Test.YtigfdfbjpelcaaaClAlive
namespace Go.Proofs.Ytigfdfbjpelcaaa
open Go Go.RowKit
set_option linter.unusedVariables false
set_option linter.unusedSimpArgs false

theorem info_bl13 : (Try.prog.info? 4).map (fun i => (i.zero, i.size, i.bytes)) = some (some (.bool false), 1, 1) := by kernel_rfl

set_option maxRecDepth 100000 in
set_option maxHeartbeats 2000000 in
theorem values_any (n num : Nat) (hn : n ≤ 8) (hk : num < 256) (w : World) : Calls Try.prog 22 #[.int .i64 (n : Int), .int .i64 (num : Int)] w fun e w' => ∃ A k, e = .returned (.slice A n k) ∧ BlsAt w' w'.heap.size A n (vals n num) ∧ Below w.heap.size w w' := by
  have hmk : ∀ w : World, (Instr.makeSlice 23 (.int .i64 (n : Int)) (.int .i64 (n : Int))).run Try.prog w = .ok (.slice (some ⟨w.heap.size, 0, none⟩) n n) (w.alloc (.cells (madeCells #[.bool false] n) 4)) := fun w =>
    run_make_row' 23 4 (.bool false) 1 Try.underlying23 info_bl13 rfl _ _ n (by omega) (by omega) w
  have HR0 := Lib.hid (World.rowIs_made w (.bool false) n 4)
  go_enter Try.func22, Try.ntmps22
  go_wp2
  go_loopw [1, 6] (fun x i wr => ∃ q : Nat, q ≤ n ∧ i = .int .i64 ((q : Int) - 1) ∧ x = .int .i64 ((num / 2 ^ (n - q) : Nat) : Int) ∧ wr.rowIs w.heap.size 4 n (fun j => .bool (if q ≤ j then vals n num j else false)) ∧ Below w.heap.size w wr) (fun _ i _ => (intOf i + 1).toNat)
  case atStart => exact ⟨n, Nat.le_refl _, rfl, by rw [Nat.sub_self]; simp, HR0.out.congr fun j hj => by rw [if_neg (by omega)], (Below.refl _ _).alloc (Nat.le_refl _) _⟩
  case round =>
    clear HR0 hmk
    obtain ⟨q, hq, rfl, rfl, hR, hB⟩ := hrel
    cases q with
    | zero =>
      have HK := Lib.hid (And.intro hR hB)
      clear hR hB
      go_wp2
      go_ret
      exact ⟨_, _, rfl, row_bools (HK.out.1.congr fun j hj => by rw [if_pos (Nat.zero_le _)]), HK.out.2⟩
    | succ p =>
      have ei : ((p + 1 : Nat) : Int) - 1 = (p : Int) := by omega
      rw [ei]
      obtain ⟨m, hm⟩ : ∃ m, m = num / 2 ^ (n - (p + 1)) := ⟨_, rfl⟩
      have hm1 : m < 256 := by rw [hm]; exact Nat.lt_of_le_of_lt (Nat.div_le_self _ _) hk
      have hm2 : m / 2 = num / 2 ^ (n - p) := by rw [hm, Nat.div_div_eq_div_mul, ← Nat.pow_succ, show (n - (p + 1)).succ = n - p by omega]
      have hv : vals n num p = decide (m % 2 = 1) := by unfold vals; rw [hm, show n - 1 - p = n - (p + 1) by omega]
      rw [← hm]
      have hr : (m : Int).tmod 2 = ((m % 2 : Nat) : Int) := by rw [Int.tmod_eq_emod_of_nonneg (by omega)]; omega
      have hd : (m : Int).tdiv 2 = ((m / 2 : Nat) : Int) := by rw [Int.tdiv_eq_ediv_of_nonneg (by omega)]; omega
      have p0 : (0 : Int) ≤ (p : Int) := by omega
      have p1 : (p : Int) < (n : Int) := by omega
      have y := hR.cell (i := p) (by omega)
      have yf := hR.frozen p
      have HK := Lib.hid (And.intro hR (And.intro hB (And.intro hm2 (And.intro hv hq))))
      clear hR hB hm hm2 hv ei
      go_wp2
      go_roundw
      case rel => exact ⟨p, by omega, by go_num, by rw [← HK.out.2.2.1]; first | rfl | (congr 1; omega), (HK.out.1.set p (.bool ((m : Int) % 2 == 1))).congr fun j hj => by
          by_cases e : j = p
          · rw [if_pos e, e, if_pos (Nat.le_refl _), HK.out.2.2.2.1]
            congr 1
            rw [Bool.eq_iff_iff, beq_iff_eq, decide_eq_true_iff]
            try omega
          · rw [if_neg e]
            by_cases e2 : p + 1 ≤ j
            · rw [if_pos e2, if_pos (by omega)]
            · rw [if_neg e2, if_neg (by omega)], HK.out.2.1.setCell (p := ⟨w.heap.size, p, none⟩) (Nat.le_refl _) _⟩
      case measure => simp [intOf] <;> omega

end Go.Proofs.Ytigfdfbjpelcaaa
