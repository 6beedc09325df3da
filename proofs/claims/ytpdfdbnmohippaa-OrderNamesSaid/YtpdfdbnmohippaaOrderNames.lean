/- The chapter's examples of layer 3, each error, and which one comes first. No conditions. -/
import Derived.Test.YtpdfdbnmohippaaGatesFrame
import Derived.Test.YtpdfdbnmohippaaOrderNamesKit
import Derived.Deep.DeepCutAuto
import Derived.Deep.CutBlock
namespace Go.Proofs.Ytpdfdbnmohippaa.orderNames
open Go.ChangeShapes Go.WideShapes Go.ChangeAt Go.RowKit
set_option linter.unusedVariables false
set_option linter.unusedSimpArgs false


theorem own : ownKnob Try.prog.godebug = none := by kernel_rfl

set_option maxRecDepth 100000 in
set_option maxHeartbeats 40000000 in
theorem walk  (w : World)  :
    Calls Try.prog 3 #[] w fun e w' => e = .returned (.bool true) ∧ Below w.heap.size w w' := by
  have hmk : ∀ n : Nat, n ≤ 1000 → ∀ w : World, (Instr.makeSlice 24 (.int .i64 (n : Int)) (.int .i64 (n : Int))).run Try.prog w = .ok (.slice (some ⟨w.heap.size, 0, none⟩) n n) (w.alloc (.cells (madeCells #[.int .i64 0] n) 3)) := fun n hn w =>
    run_make_row' 24 3 (.int .i64 0) 8 Try.underlying24 info_int rfl _ _ n (by omega) (by omega) w
  have hm1 : ∀ w : World, (Instr.makeSlice 24 (.int .i64 999) (.int .i64 999)).run Try.prog w = .ok (.slice (some ⟨w.heap.size, 0, none⟩) 999 999) (w.alloc (.cells (madeCells #[.int .i64 0] 999) 3)) := hmk 999 (by omega)
  have hm2 : ∀ w : World, (Instr.makeSlice 24 (.int .i64 101) (.int .i64 101)).run Try.prog w = .ok (.slice (some ⟨w.heap.size, 0, none⟩) 101 101) (w.alloc (.cells (madeCells #[.int .i64 0] 101) 3)) := hmk 101 (by omega)
  clear hmk
  go_enter Try.func3, Try.ntmps3
  go_wp2_with (go_at_call 10; (with_reducible refine (good_any _).mono ?_); rintro e w1 ⟨b1, b2, b3, b4, b5, rfl, hG1, hl2, hl3, hb1⟩)
  go_wp2_with (go_at_call 9; (with_reducible refine (gCirc b1 b2 b3 b4 b5 _ hG1).mono ?_); rintro e w2 ⟨A1, A2, A3, A4, k1, k2, k3, k4, g, rfl, hm2', hi2, hb2⟩)
  have hB2 : Below w.heap.size w w2 := Below.step hb1 hb1.size hb2
  have hX : Has ((((((w2.alloc (.cells #[.int .i64 1, .slice A1 1 k1, .slice A2 2 k2, .slice A3 2 k3, .slice A4 1 k4] 26)).alloc (.cells #[.int .i64 9, .int .i64 2] 35)).alloc (.cells #[.int .i64 4, .int .i64 1, .int .i64 6, .int .i64 3] 37)).alloc (.cells #[.int .i64 6, .int .i64 0] 3)).alloc (.cells #[.int .i64 5] 3)).alloc (.cells #[.int .i64 1, .slice (some ⟨w2.heap.size + 1, 0, none⟩) 1 1, .slice (some ⟨w2.heap.size + 1 + 1, 0, none⟩) 2 2, .slice (some ⟨w2.heap.size + 1 + 1 + 1, 0, none⟩) 2 2, .slice (some ⟨w2.heap.size + 1 + 1 + 1 + 1, 0, none⟩) 1 1] 26)) (w2.heap.size + 1) 35 #[.int .i64 9, .int .i64 2] := ((((Has.new' _ _ (by simp)).al _).al _).al _).al _
  have hY : Has ((((((w2.alloc (.cells #[.int .i64 1, .slice A1 1 k1, .slice A2 2 k2, .slice A3 2 k3, .slice A4 1 k4] 26)).alloc (.cells #[.int .i64 9, .int .i64 2] 35)).alloc (.cells #[.int .i64 4, .int .i64 1, .int .i64 6, .int .i64 3] 37)).alloc (.cells #[.int .i64 6, .int .i64 0] 3)).alloc (.cells #[.int .i64 5] 3)).alloc (.cells #[.int .i64 1, .slice (some ⟨w2.heap.size + 1, 0, none⟩) 1 1, .slice (some ⟨w2.heap.size + 1 + 1, 0, none⟩) 2 2, .slice (some ⟨w2.heap.size + 1 + 1 + 1, 0, none⟩) 2 2, .slice (some ⟨w2.heap.size + 1 + 1 + 1 + 1, 0, none⟩) 1 1] 26)) (w2.heap.size + 1 + 1) 37 #[.int .i64 4, .int .i64 1, .int .i64 6, .int .i64 3] := (((Has.new' _ _ (by simp)).al _).al _).al _
  have hZ : Has ((((((w2.alloc (.cells #[.int .i64 1, .slice A1 1 k1, .slice A2 2 k2, .slice A3 2 k3, .slice A4 1 k4] 26)).alloc (.cells #[.int .i64 9, .int .i64 2] 35)).alloc (.cells #[.int .i64 4, .int .i64 1, .int .i64 6, .int .i64 3] 37)).alloc (.cells #[.int .i64 6, .int .i64 0] 3)).alloc (.cells #[.int .i64 5] 3)).alloc (.cells #[.int .i64 1, .slice (some ⟨w2.heap.size + 1, 0, none⟩) 1 1, .slice (some ⟨w2.heap.size + 1 + 1, 0, none⟩) 2 2, .slice (some ⟨w2.heap.size + 1 + 1 + 1, 0, none⟩) 2 2, .slice (some ⟨w2.heap.size + 1 + 1 + 1 + 1, 0, none⟩) 1 1] 26)) (w2.heap.size + 1 + 1 + 1) 3 #[.int .i64 6, .int .i64 0] := ((Has.new' _ _ (by simp)).al _).al _
  have hT : Has ((((((w2.alloc (.cells #[.int .i64 1, .slice A1 1 k1, .slice A2 2 k2, .slice A3 2 k3, .slice A4 1 k4] 26)).alloc (.cells #[.int .i64 9, .int .i64 2] 35)).alloc (.cells #[.int .i64 4, .int .i64 1, .int .i64 6, .int .i64 3] 37)).alloc (.cells #[.int .i64 6, .int .i64 0] 3)).alloc (.cells #[.int .i64 5] 3)).alloc (.cells #[.int .i64 1, .slice (some ⟨w2.heap.size + 1, 0, none⟩) 1 1, .slice (some ⟨w2.heap.size + 1 + 1, 0, none⟩) 2 2, .slice (some ⟨w2.heap.size + 1 + 1 + 1, 0, none⟩) 2 2, .slice (some ⟨w2.heap.size + 1 + 1 + 1 + 1, 0, none⟩) 1 1] 26)) (w2.heap.size + 1 + 1 + 1 + 1) 3 #[.int .i64 5] := (Has.new' _ _ (by simp)).al _
  have hbV : Below w2.heap.size w2 ((((((w2.alloc (.cells #[.int .i64 1, .slice A1 1 k1, .slice A2 2 k2, .slice A3 2 k3, .slice A4 1 k4] 26)).alloc (.cells #[.int .i64 9, .int .i64 2] 35)).alloc (.cells #[.int .i64 4, .int .i64 1, .int .i64 6, .int .i64 3] 37)).alloc (.cells #[.int .i64 6, .int .i64 0] 3)).alloc (.cells #[.int .i64 5] 3)).alloc (.cells #[.int .i64 1, .slice (some ⟨w2.heap.size + 1, 0, none⟩) 1 1, .slice (some ⟨w2.heap.size + 1 + 1, 0, none⟩) 2 2, .slice (some ⟨w2.heap.size + 1 + 1 + 1, 0, none⟩) 2 2, .slice (some ⟨w2.heap.size + 1 + 1 + 1 + 1, 0, none⟩) 1 1] 26)) := by go_grown
  have HM := Lib.hid (And.intro (hm2'.to hbV hbV.size) (wantMem hX hY hZ hT))
  have hBV := Below.step hB2 hB2.size hbV
  have hiV := Lib.hid (hi2.to hbV hbV.size)
  clear hX hY hZ hT hm2' hi2 hbV hB2 hb1 hb2 hG1 hl2 hl3
  go_wp2_with (go_at_call 11; (with_reducible refine (sameW _ A1 A2 A3 A4 (some ⟨w2.heap.size + 1, 0, none⟩) (some ⟨w2.heap.size + 1 + 1, 0, none⟩) (some ⟨w2.heap.size + 1 + 1 + 1, 0, none⟩) (some ⟨w2.heap.size + 1 + 1 + 1 + 1, 0, none⟩) k1 k2 k3 k4 1 2 2 1 HM.out.1 HM.out.2).mono ?_); rintro e w3 ⟨rfl, hb3⟩; have hB3 := Below.step hBV hBV.size hb3; have hi3 := Lib.hid (hiV.out.to hb3 hb3.size))
  go_wp2_with (go_at_call 12; (with_reducible refine (sameInts_self (some ⟨g, 0, none⟩) (some ⟨w3.heap.size, 0, none⟩) 10 10 10 gN _ (w3.alloc (.cells #[.int .i64 0, .int .i64 (-1), .int .i64 2, .int .i64 (-1), .int .i64 3, .int .i64 (-1), .int .i64 4, .int .i64 (-1), .int .i64 (-1), .int .i64 1] 3)) (by omega) (hi3.out.to ((Below.refl _ _).alloc (Nat.le_refl _) _) (by simp)) (ints_of_has (Has.new w3 3 _) gN_at)).mono ?_); rintro e w4 ⟨rfl, hb4⟩; have hB4 : Below w.heap.size w w4 := Below.step (hB3.alloc hB3.size _) (by have := hB3.size; simp; omega) hb4)
  clear HM hBV hiV hi3 hB3 hb3 hb4
  go_wp2
  go_loopw [5] (fun i wr => ∃ q : Nat, q ≤ 17 ∧ i = .int .i64 q ∧ Below w.heap.size w wr) (fun i _ => 17 - (intOf i).toNat)
  case atStart => exact ⟨0, by omega, rfl, hB4⟩
  case round =>
    clear hB4
    obtain ⟨q, hq, rfl, hBr⟩ := hrel
    by_cases hlt : q < 17
    · go_upto_block 2 with (first
        | (go_at_call 10; (with_reducible refine (good_any _).mono ?_); rintro e w1 ⟨b1, b2, b3, b4, b5, rfl, hG, hl2, hl3, hb1⟩; have hB1 := Below.step hBr hBr.size hb1; have cb20 : ∀ o : Obj, (w1.alloc o).cell? ⟨b2, 0, none⟩ = some (.int .i64 4) := ca (hG.h2.cell 0); have fb20 : ∀ o : Obj, (w1.alloc o).frozen? ⟨b2, 0, none⟩ = false := fun o => (hG.h2.al o).fz 0; have cb21 : ∀ o : Obj, (w1.alloc o).cell? ⟨b2, 1, none⟩ = some (.int .i64 13) := ca (hG.h2.cell 1); have fb21 : ∀ o : Obj, (w1.alloc o).frozen? ⟨b2, 1, none⟩ = false := fun o => (hG.h2.al o).fz 1; have cb22 : ∀ o : Obj, (w1.alloc o).cell? ⟨b2, 2, none⟩ = some (.int .i64 2) := ca (hG.h2.cell 2); have fb22 : ∀ o : Obj, (w1.alloc o).frozen? ⟨b2, 2, none⟩ = false := fun o => (hG.h2.al o).fz 2; have cb30 : ∀ o : Obj, (w1.alloc o).cell? ⟨b3, 0, none⟩ = some (.int .i64 12) := ca (hG.h3.cell 0); have fb30 : ∀ o : Obj, (w1.alloc o).frozen? ⟨b3, 0, none⟩ = false := fun o => (hG.h3.al o).fz 0; have cb31 : ∀ o : Obj, (w1.alloc o).cell? ⟨b3, 1, none⟩ = some (.int .i64 19) := ca (hG.h3.cell 1); have fb31 : ∀ o : Obj, (w1.alloc o).frozen? ⟨b3, 1, none⟩ = false := fun o => (hG.h3.al o).fz 1; have cb32 : ∀ o : Obj, (w1.alloc o).cell? ⟨b3, 2, none⟩ = some (.int .i64 8) := ca (hG.h3.cell 2); have fb32 : ∀ o : Obj, (w1.alloc o).frozen? ⟨b3, 2, none⟩ = false := fun o => (hG.h3.al o).fz 2; have cb33 : ∀ o : Obj, (w1.alloc o).cell? ⟨b3, 3, none⟩ = some (.int .i64 8) := ca (hG.h3.cell 3); have fb33 : ∀ o : Obj, (w1.alloc o).frozen? ⟨b3, 3, none⟩ = false := fun o => (hG.h3.al o).fz 3; have cb34 : ∀ o : Obj, (w1.alloc o).cell? ⟨b3, 4, none⟩ = some (.int .i64 4) := ca (hG.h3.cell 4); have fb34 : ∀ o : Obj, (w1.alloc o).frozen? ⟨b3, 4, none⟩ = false := fun o => (hG.h3.al o).fz 4; have cb35 : ∀ o : Obj, (w1.alloc o).cell? ⟨b3, 5, none⟩ = some (.int .i64 1) := ca (hG.h3.cell 5); have fb35 : ∀ o : Obj, (w1.alloc o).frozen? ⟨b3, 5, none⟩ = false := fun o => (hG.h3.al o).fz 5))
      go_cut [7] (fun u7 wx => ∃ P, u7 = .int .i64 (oW q) ∧ RMem wx wx.heap.size (oR q) P ∧ RNils (oR q) P ∧ Has wx w1.heap.size 32 (rc (oR q) P) ∧ Below w.heap.size w wx)
      case first =>
        have hqq : q = 0 ∨ q = 1 ∨ q = 2 ∨ q = 3 ∨ q = 4 ∨ q = 5 ∨ q = 6 ∨ q = 7 ∨ q = 8 ∨ q = 9 ∨ q = 10 ∨ q = 11 ∨ q = 12 ∨ q = 13 ∨ q = 14 ∨ q = 15 ∨ q = 16 := by omega
        have hsw := hBr.size
        clear hq hlt
        rcases hqq with rfl | rfl | rfl | rfl | rfl | rfl | rfl | rfl | rfl | rfl | rfl | rfl | rfl | rfl | rfl | rfl | rfl
        · go_wp2
          go_meet
          exact ⟨(gP b1 b2 b3 b4 b5), rfl, ⟨(hG.al _).mem.ip, (hG.al _).mem.la, (hG.al _).mem.an, (hG.al _).mem.bd, (hG.al _).mem.cn⟩, some_nils, Has.new' _ _ rfl, (hB1.alloc (Below.size hB1) _)⟩
        · go_wp2
          go_meet
          exact ⟨(gP b1 b2 b3 b4 b5), rfl, ⟨(hG.al _).mem.ip, (hG.al _).mem.la, (hG.al _).mem.an, (hG.al _).mem.bd, (hG.al _).mem.cn⟩, some_nils, Has.new' _ _ rfl, (hB1.alloc (Below.size hB1) _)⟩
        · go_wp2
          go_meet
          exact ⟨⟨some ⟨w1.heap.size + 1, 0, none⟩, some ⟨b2, 0, none⟩, some ⟨b3, 0, none⟩, some ⟨b4, 0, none⟩, some ⟨b5, 0, none⟩, 999, 1, 2, 2, 1⟩, rfl, ⟨made_i _ 999 _ _ (by simp), ((hG.al _).al _).mem.la, ((hG.al _).al _).mem.an, ((hG.al _).al _).mem.bd, ((hG.al _).al _).mem.cn⟩, some_nils, (Has.new' _ _ rfl).al _, ((hB1.alloc (Below.size hB1) _).alloc (by have := hB1.size; simp; omega) _)⟩
        · go_wp2
          go_meet
          exact ⟨⟨some ⟨b1, 0, none⟩, some ⟨b2, 0, none⟩, some ⟨b3, 0, none⟩, some ⟨w1.heap.size + 1, 0, none⟩, some ⟨b5, 0, none⟩, 1, 1, 2, 101, 1⟩, rfl, ⟨((hG.al _).al _).mem.ip, ((hG.al _).al _).mem.la, ((hG.al _).al _).mem.an, made_i _ 101 _ _ (by simp), ((hG.al _).al _).mem.cn⟩, some_nils, (Has.new' _ _ rfl).al _, ((hB1.alloc (Below.size hB1) _).alloc (by have := hB1.size; simp; omega) _)⟩
        · go_wp2
          go_meet
          exact ⟨⟨some ⟨b1, 0, none⟩, some ⟨b2, 0, none⟩, some ⟨b3, 0, none⟩, some ⟨b4, 0, none⟩, some ⟨w1.heap.size + 1, 0, none⟩, 1, 1, 2, 2, 101⟩, rfl, ⟨((hG.al _).al _).mem.ip, ((hG.al _).al _).mem.la, ((hG.al _).al _).mem.an, ((hG.al _).al _).mem.bd, made_i _ 101 _ _ (by simp)⟩, some_nils, (Has.new' _ _ rfl).al _, ((hB1.alloc (Below.size hB1) _).alloc (by have := hB1.size; simp; omega) _)⟩
        · go_wp2
          go_meet
          exact ⟨⟨some ⟨w1.heap.size + 1, 0, none⟩, some ⟨b2, 0, none⟩, some ⟨b3, 0, none⟩, some ⟨b4, 0, none⟩, some ⟨b5, 0, none⟩, 1, 1, 2, 2, 1⟩, rfl, ⟨i1 (Has.new' _ _ (by simp)) rfl, ((hG.al _).al _).mem.la, ((hG.al _).al _).mem.an, ((hG.al _).al _).mem.bd, ((hG.al _).al _).mem.cn⟩, some_nils, (Has.new' _ _ rfl).al _, ((hB1.alloc (Below.size hB1) _).alloc (by have := hB1.size; simp; omega) _)⟩
        · go_wp2
          go_meet
          exact ⟨⟨some ⟨w1.heap.size + 1, 0, none⟩, some ⟨b2, 0, none⟩, some ⟨b3, 0, none⟩, some ⟨b4, 0, none⟩, some ⟨b5, 0, none⟩, 1, 1, 2, 2, 1⟩, rfl, ⟨i1 (Has.new' _ _ (by simp)) rfl, ((hG.al _).al _).mem.la, ((hG.al _).al _).mem.an, ((hG.al _).al _).mem.bd, ((hG.al _).al _).mem.cn⟩, some_nils, (Has.new' _ _ rfl).al _, ((hB1.alloc (Below.size hB1) _).alloc (by have := hB1.size; simp; omega) _)⟩
        · go_wp2
          go_meet
          exact ⟨⟨some ⟨w1.heap.size + 1, 0, none⟩, some ⟨b2, 0, none⟩, some ⟨b3, 0, none⟩, some ⟨b4, 0, none⟩, some ⟨b5, 0, none⟩, 1, 1, 2, 2, 1⟩, rfl, ⟨i1 (Has.new' _ _ (by simp)) rfl, ((hG.al _).al _).mem.la, ((hG.al _).al _).mem.an, ((hG.al _).al _).mem.bd, ((hG.al _).al _).mem.cn⟩, some_nils, (Has.new' _ _ rfl).al _, ((hB1.alloc (Below.size hB1) _).alloc (by have := hB1.size; simp; omega) _)⟩
        · go_wp2
          go_meet
          exact ⟨(gP b1 b2 b3 b4 b5), rfl, ⟨i1 ((hG.al _).s2 2 (.int .i64 (3))).1 rfl, t1 (show Has _ _ 41 #[.int .i64 4, .int .i64 13, .int .i64 3] from ((hG.al _).s2 2 (.int .i64 (3))).2.1) rfl rfl rfl, t2 (show Has _ _ 41 #[.int .i64 12, .int .i64 19, .int .i64 8, .int .i64 8, .int .i64 4, .int .i64 1] from ((hG.al _).s2 2 (.int .i64 (3))).2.2.1) ⟨rfl, rfl, rfl⟩ ⟨rfl, rfl, rfl⟩, i2 ((hG.al _).s2 2 (.int .i64 (3))).2.2.2.1 rfl rfl, i1 ((hG.al _).s2 2 (.int .i64 (3))).2.2.2.2 rfl⟩, some_nils, (Has.new' _ _ rfl).far (q := ⟨b2, 2, none⟩) (Nat.ne_of_gt (hG.h2.lt)) _, ((hB1.alloc (Below.size hB1) _).setCell (show w.heap.size ≤ (⟨b2, 2, none⟩ : Addr).block by show w.heap.size ≤ b2; omega) _)⟩
        · go_wp2
          go_meet
          exact ⟨(gP b1 b2 b3 b4 b5), rfl, ⟨i1 ((hG.al _).s3 1 (.int .i64 (-1))).1 rfl, t1 (show Has _ _ 41 #[.int .i64 4, .int .i64 13, .int .i64 2] from ((hG.al _).s3 1 (.int .i64 (-1))).2.1) rfl rfl rfl, t2 (show Has _ _ 41 #[.int .i64 12, .int .i64 (-1), .int .i64 8, .int .i64 8, .int .i64 4, .int .i64 1] from ((hG.al _).s3 1 (.int .i64 (-1))).2.2.1) ⟨rfl, rfl, rfl⟩ ⟨rfl, rfl, rfl⟩, i2 ((hG.al _).s3 1 (.int .i64 (-1))).2.2.2.1 rfl rfl, i1 ((hG.al _).s3 1 (.int .i64 (-1))).2.2.2.2 rfl⟩, some_nils, (Has.new' _ _ rfl).far (q := ⟨b3, 1, none⟩) (Nat.ne_of_gt (hG.h3.lt)) _, ((hB1.alloc (Below.size hB1) _).setCell (show w.heap.size ≤ (⟨b3, 1, none⟩ : Addr).block by show w.heap.size ≤ b3; omega) _)⟩
        · go_wp2
          go_meet
          exact ⟨⟨some ⟨b1, 0, none⟩, some ⟨b2, 0, none⟩, some ⟨b3, 0, none⟩, some ⟨w1.heap.size + 1, 0, none⟩, some ⟨b5, 0, none⟩, 1, 1, 2, 1, 1⟩, rfl, ⟨((hG.al _).al _).mem.ip, ((hG.al _).al _).mem.la, ((hG.al _).al _).mem.an, i1 (Has.new' _ _ (by simp)) rfl, ((hG.al _).al _).mem.cn⟩, some_nils, (Has.new' _ _ rfl).al _, ((hB1.alloc (Below.size hB1) _).alloc (by have := hB1.size; simp; omega) _)⟩
        · go_wp2
          go_meet
          exact ⟨⟨some ⟨w1.heap.size + 1, 0, none⟩, some ⟨b2, 0, none⟩, some ⟨b3, 0, none⟩, some ⟨b4, 0, none⟩, some ⟨b5, 0, none⟩, 2, 1, 2, 2, 1⟩, rfl, ⟨i2 (Has.new' _ _ (by simp)) rfl rfl, ((hG.al _).al _).mem.la, ((hG.al _).al _).mem.an, ((hG.al _).al _).mem.bd, ((hG.al _).al _).mem.cn⟩, some_nils, (Has.new' _ _ rfl).al _, ((hB1.alloc (Below.size hB1) _).alloc (by have := hB1.size; simp; omega) _)⟩
        · go_wp2
          go_meet
          exact ⟨(gP b1 b2 b3 b4 b5), rfl, ⟨i1 ((hG.al _).s3 3 (.int .i64 (18))).1 rfl, t1 (show Has _ _ 41 #[.int .i64 4, .int .i64 13, .int .i64 2] from ((hG.al _).s3 3 (.int .i64 (18))).2.1) rfl rfl rfl, t2 (show Has _ _ 41 #[.int .i64 12, .int .i64 19, .int .i64 8, .int .i64 18, .int .i64 4, .int .i64 1] from ((hG.al _).s3 3 (.int .i64 (18))).2.2.1) ⟨rfl, rfl, rfl⟩ ⟨rfl, rfl, rfl⟩, i2 ((hG.al _).s3 3 (.int .i64 (18))).2.2.2.1 rfl rfl, i1 ((hG.al _).s3 3 (.int .i64 (18))).2.2.2.2 rfl⟩, some_nils, (Has.new' _ _ rfl).far (q := ⟨b3, 3, none⟩) (Nat.ne_of_gt (hG.h3.lt)) _, ((hB1.alloc (Below.size hB1) _).setCell (show w.heap.size ≤ (⟨b3, 3, none⟩ : Addr).block by show w.heap.size ≤ b3; omega) _)⟩
        · go_wp2
          go_meet
          exact ⟨⟨some ⟨b1, 0, none⟩, some ⟨b2, 0, none⟩, some ⟨b3, 0, none⟩, some ⟨b4, 0, none⟩, some ⟨w1.heap.size + 1, 0, none⟩, 1, 1, 2, 2, 1⟩, rfl, ⟨((hG.al _).al _).mem.ip, ((hG.al _).al _).mem.la, ((hG.al _).al _).mem.an, ((hG.al _).al _).mem.bd, i1 (Has.new' _ _ (by simp)) rfl⟩, some_nils, (Has.new' _ _ rfl).al _, ((hB1.alloc (Below.size hB1) _).alloc (by have := hB1.size; simp; omega) _)⟩
        · go_wp2
          go_meet
          exact ⟨(gP b1 b2 b3 b4 b5), rfl, ⟨i1 ((hG.al _).s2 1 (.int .i64 (7))).1 rfl, t1 (show Has _ _ 41 #[.int .i64 4, .int .i64 7, .int .i64 2] from ((hG.al _).s2 1 (.int .i64 (7))).2.1) rfl rfl rfl, t2 (show Has _ _ 41 #[.int .i64 12, .int .i64 19, .int .i64 8, .int .i64 8, .int .i64 4, .int .i64 1] from ((hG.al _).s2 1 (.int .i64 (7))).2.2.1) ⟨rfl, rfl, rfl⟩ ⟨rfl, rfl, rfl⟩, i2 ((hG.al _).s2 1 (.int .i64 (7))).2.2.2.1 rfl rfl, i1 ((hG.al _).s2 1 (.int .i64 (7))).2.2.2.2 rfl⟩, some_nils, (Has.new' _ _ rfl).far (q := ⟨b2, 1, none⟩) (Nat.ne_of_gt (hG.h2.lt)) _, ((hB1.alloc (Below.size hB1) _).setCell (show w.heap.size ≤ (⟨b2, 1, none⟩ : Addr).block by show w.heap.size ≤ b2; omega) _)⟩
        · go_wp2
          go_meet
          exact ⟨(gP b1 b2 b3 b4 b5), rfl, ⟨i1 ((hG.al _).s3 4 (.int .i64 (9))).1 rfl, t1 (show Has _ _ 41 #[.int .i64 4, .int .i64 13, .int .i64 2] from ((hG.al _).s3 4 (.int .i64 (9))).2.1) rfl rfl rfl, t2 (show Has _ _ 41 #[.int .i64 12, .int .i64 19, .int .i64 8, .int .i64 8, .int .i64 9, .int .i64 1] from ((hG.al _).s3 4 (.int .i64 (9))).2.2.1) ⟨rfl, rfl, rfl⟩ ⟨rfl, rfl, rfl⟩, i2 ((hG.al _).s3 4 (.int .i64 (9))).2.2.2.1 rfl rfl, i1 ((hG.al _).s3 4 (.int .i64 (9))).2.2.2.2 rfl⟩, some_nils, (Has.new' _ _ rfl).far (q := ⟨b3, 4, none⟩) (Nat.ne_of_gt (hG.h3.lt)) _, ((hB1.alloc (Below.size hB1) _).setCell (show w.heap.size ≤ (⟨b3, 4, none⟩ : Addr).block by show w.heap.size ≤ b3; omega) _)⟩
        · go_wp2
          go_meet
          exact ⟨(gP b1 b2 b3 b4 b5), rfl, ⟨i1 ((hG.al _).s3 5 (.int .i64 (12))).1 rfl, t1 (show Has _ _ 41 #[.int .i64 4, .int .i64 13, .int .i64 2] from ((hG.al _).s3 5 (.int .i64 (12))).2.1) rfl rfl rfl, t2 (show Has _ _ 41 #[.int .i64 12, .int .i64 19, .int .i64 8, .int .i64 8, .int .i64 4, .int .i64 12] from ((hG.al _).s3 5 (.int .i64 (12))).2.2.1) ⟨rfl, rfl, rfl⟩ ⟨rfl, rfl, rfl⟩, i2 ((hG.al _).s3 5 (.int .i64 (12))).2.2.2.1 rfl rfl, i1 ((hG.al _).s3 5 (.int .i64 (12))).2.2.2.2 rfl⟩, some_nils, (Has.new' _ _ rfl).far (q := ⟨b3, 5, none⟩) (Nat.ne_of_gt (hG.h3.lt)) _, ((hB1.alloc (Below.size hB1) _).setCell (show w.heap.size ≤ (⟨b3, 5, none⟩ : Addr).block by show w.heap.size ≤ b3; omega) _)⟩
      case rest =>
        obtain ⟨P, rfl, hM, hN, hX, hB2⟩ := hcut
        obtain ⟨x0, x1, x2, x3, x4, x5⟩ := hX.rbox
        go_wp2_with (go_at_call 9; (with_reducible refine (oCirc q hlt P _ hM hN).mono ?_); rintro e w2 ⟨p', A, n, l, c, rfl, hb2⟩; have hM2 := hM.to hb2 hb2.size; have hX2 := hX.keep hb2 hX.lt; have hB3 := Below.step hB2 hB2.size hb2; have hz2 := hX2.lt; clear x0 x1 x2 x3 x4 x5; obtain ⟨x0, x1, x2, x3, x4, x5⟩ := hX2.rbox)
        go_wp2_with (go_at_call 13; (with_reducible refine (oCheck q hlt P _ (hM2.to ((Below.refl _ _).alloc (Nat.le_refl _) _) (by simp)) hN).mono ?_); rintro e w3 ⟨rfl, hb3⟩; have hB4 : Below w.heap.size w w3 := Below.step (hB3.alloc hB3.size _) (by have := hB3.size; simp; omega) hb3)
        go_roundw
        case rel => exact ⟨q + 1, by omega, by go_num, hB4⟩
        case measure => simp [intOf]; omega
    · obtain rfl : q = 17 := by omega
      clear hq hlt
      go_wp2_with (go_at_call 9; (with_reducible refine (eCirc _).mono ?_); rintro e w5 ⟨A1, A2, A3, A4, k1, k2, k3, k4, g, rfl, hi5, hb5⟩; have hB5 := Below.step hBr hBr.size hb5)
      have hi5x := hi5.to ((Below.refl w5.heap.size w5).alloc (Nat.le_refl _) (.cells #[.int .i64 0, .slice A1 0 k1, .slice A2 0 k2, .slice A3 0 k3, .slice A4 0 k4] 26)) (by simp)
      have hB5x := hB5.alloc hB5.size (.cells #[.int .i64 0, .slice A1 0 k1, .slice A2 0 k2, .slice A3 0 k3, .slice A4 0 k4] 26)
      have hU5 : Has (w5.alloc (.cells #[.int .i64 0, .slice A1 0 k1, .slice A2 0 k2, .slice A3 0 k3, .slice A4 0 k4] 26)) w5.heap.size 26 #[.int .i64 0, .slice A1 0 k1, .slice A2 0 k2, .slice A3 0 k3, .slice A4 0 k4] := Has.new _ _ _
      clear hi5 hb5
      go_wp2_with (go_at_call 14; (with_reducible refine (negRaw _).mono ?_); rintro e w6 ⟨rfl, hb6⟩; have hB6 := Below.step hB5x hB5x.size hb6; have hi6 := hi5x.to hb6 hb6.size; have hU6 := hU5.keep hb6 hU5.lt; have u0 : ∀ o : Obj, (w6.alloc o).cell? ⟨w5.heap.size, 0, none⟩ = some (.int .i64 0) := ca (hU6.cell 0); have u1 : ∀ o : Obj, (w6.alloc o).cell? ⟨w5.heap.size, 1, none⟩ = some (.slice A1 0 k1) := ca (hU6.cell 1); have u2 : ∀ o : Obj, (w6.alloc o).cell? ⟨w5.heap.size, 2, none⟩ = some (.slice A2 0 k2) := ca (hU6.cell 2); have u3 : ∀ o : Obj, (w6.alloc o).cell? ⟨w5.heap.size, 3, none⟩ = some (.slice A3 0 k3) := ca (hU6.cell 3); have u4 : ∀ o : Obj, (w6.alloc o).cell? ⟨w5.heap.size, 4, none⟩ = some (.slice A4 0 k4) := ca (hU6.cell 4))
      have hi6x := hi6.to ((Below.refl w6.heap.size w6).alloc (Nat.le_refl _) (.cells #[.int .i64 0, .slice none 0 0, .slice none 0 0, .slice none 0 0, .slice none 0 0, .slice none 0 0] 32)) (by simp)
      have hB6x := hB6.alloc hB6.size (.cells #[.int .i64 0, .slice none 0 0, .slice none 0 0, .slice none 0 0, .slice none 0 0, .slice none 0 0] 32)
      clear hi6 hi5x hB5 hB5x hb6
      go_wp2_with (go_at_call 11; (with_reducible refine (sameE _ A1 A2 A3 A4 k1 k2 k3 k4).mono ?_); rintro e w7 ⟨rfl, hb7⟩; have hB7 := Below.step hB6x hB6x.size hb7; have hi7 := hi6x.to hb7 hb7.size)
      go_wp2_with (go_at_call 12; (with_reducible refine (sameInts_self (some ⟨g, 0, none⟩) (some ⟨w7.heap.size, 0, none⟩) 1 1 1 (fun _ => 0) _ (w7.alloc (.cells #[.int .i64 0] 3)) (by omega) (hi7.to ((Below.refl _ _).alloc (Nat.le_refl _) _) (by simp)) (i1 (Has.new w7 3 _) rfl)).mono ?_); rintro e w8 ⟨rfl, hb8⟩; have hB8 : Below w.heap.size w w8 := Below.step (hB7.alloc hB7.size _) (by have := hB7.size; simp; omega) hb8)
      go_wp2_with (go_at_call 15; (with_reducible refine (alive3_any _).mono ?_); rintro e w9 ⟨rfl, hb9⟩; have hB9 := Below.step hB8 hB8.size hb9)
      go_ret
      exact ⟨rfl, hB9⟩

set_option maxRecDepth 100000 in
theorem lifted (os : Os) (started : os.Started) (H : Type) (enc : TypeId × Value → H) :
    ReturnsInHanded {} Try.checked os 3 .any (Rows.orderNamesSpec.pre6 enc Try.prog Try.f3 Rows.orderNamesRow.domain false) (Rows.orderNamesSpec.post enc Try.prog Try.f3 false true false false) := by
  refine returnsInHanded_of_change (C := Try.checked) own started (by kernel_rfl) Try.func3
    (ChangeSpec.witness6 (enc := enc) (C := Try.checked) false ⟨#[], #[], []⟩ 12 (by kernel_rfl) (by kernel_rfl) (by kernel_rfl) (by kernel_rfl)) ?_
  intro W base args ds gs before hval0 hW hcnd _
  have hval : ∀ (j : Nat) t v, Try.f3.params[j]? = some t → args[j]? = some v → Value.okWide Try.prog W .any base t v := hval0
  have hW' := hW
  have hlt : ∀ x ∈ before, x.block < W.heap.size := fun x hx => by simpa using hW'.lt x hx
  obtain ⟨p, q, hA0, hV, rfl, hfz, hnd⟩ := hW
  have hA : DataW.TrodAll enc Try.prog W 0 (fun _ => true) true Try.f3.params.toList args.toList ds p := hA0
  rw [Try.params3] at hA hval
  
  obtain ⟨ha0, rfl, rfl⟩ := trodAll_nil hA
  obtain rfl : args = #[] := by cases args; simp_all
  obtain ⟨rfl, rfl⟩ := trodVars_none hV
  
  have hlo : laidOutB Try.prog = true := by kernel_rfl
  clear hA0 hval0
  simp only [List.append_nil] at hW' hlt
  refine (walk  W ).mono fun e W' ⟨he, hb⟩ => ?_
  subst he
  exact ⟨_, rfl, law_post hW' (trodAll_cons_mk (shut_bool Try.underlying4 _) trodAll_mk0) trodAll_mk0 rfl hb⟩

theorem over : Rows.orderNamesRow.holds Try.pinned (OpenSpec.ofChange Rows.orderNamesSpec) :=
  OpenClaim.holds_of_wide 3 Try.f3 rfl rfl rfl rfl rfl rfl rfl ⟨rfl, rfl, rfl, rfl, rfl⟩ rfl rfl rfl rfl rfl (by kernel_rfl) Try.func3 (by kernel_rfl)
    (of_decide_eq_true (by kernel_rfl)) (by unfold Func.isWrapper; first | (rw [if_pos (by decide +kernel)]; kernel_rfl) | (rw [if_neg (by decide +kernel)]; exact ⟨rfl, rfl⟩))
    (fun os started H enc _ => lifted os started H enc)

theorem proved : Rows.OrderNamesSaid :=
  over
end Go.Proofs.Ytpdfdbnmohippaa.orderNames
