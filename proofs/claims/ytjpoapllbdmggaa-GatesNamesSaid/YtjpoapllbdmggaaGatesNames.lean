/- The chapter's circuits and errors. -/
import Derived.Test.YtjpoapllbdmggaaGatesFrame
import Derived.Test.YtjpoapllbdmggaaGatesNamesKit
import Derived.Test.YtjpoapllbdmggaaGatesAlive
import Derived.Deep.DeepCutAuto
import Derived.Deep.CutBlock
namespace Go.Proofs.Ytjpoapllbdmggaa.gatesNames
open Go.ChangeShapes Go.WideShapes Go.ChangeAt Go.RowKit
set_option linter.unusedVariables false
set_option linter.unusedSimpArgs false


theorem own : ownKnob Try.prog.godebug = none := by kernel_rfl

set_option maxRecDepth 100000 in
set_option maxHeartbeats 4000000 in
theorem walk  (w : World)  :
    Calls Try.prog 10 #[] w fun e w' => e = .returned (.bool true) ∧ Below w.heap.size w w' := by
  have hB0 : Below w.heap.size w w := Below.refl _ _
  have hmk : ∀ w : World, (Instr.makeSlice 24 (.int .i64 101) (.int .i64 101)).run Try.prog w = .ok (.slice (some ⟨w.heap.size, 0, none⟩) 101 101) (w.alloc (.cells (madeCells #[.int .i64 0] 101) 3)) := fun w =>
    run_make_row' 24 3 (.int .i64 0) 8 Try.underlying24 info_int2 rfl _ _ 101 (by omega) (by omega) w
  go_enter Try.func10, Try.ntmps10
  go_wp2
  go_loopw [1] (fun i wr => ∃ q : Nat, q ≤ 16 ∧ i = .int .i64 q ∧ Below w.heap.size w wr) (fun i _ => 16 - (intOf i).toNat)
  case atStart => exact ⟨0, by omega, rfl, Below.refl _ _⟩
  case round =>
    obtain ⟨q, hq, rfl, hBr⟩ := hrel
    by_cases hlt : q < 16
    · go_upto_block 2 with (first
        | (go_at_call 32; refine (ex_any _).mono ?_; rintro e w1 ⟨b1, b2, b3, rfl, hE1, hb1', hb1⟩; have hB1 := Below.step hBr hBr.size hb1; have l1 := hE1.1.lt; have l2 := hE1.2.1.lt; have l3 := hE1.2.2.lt; have cb10 : ∀ o : Obj, (w1.alloc o).cell? ⟨b1, 0, none⟩ = some (.int .i64 10) := ca (hE1.1.cell 0); have fb10 : ∀ o : Obj, (w1.alloc o).frozen? ⟨b1, 0, none⟩ = false := fun o => (hE1.1.al o).fz 0; have cb11 : ∀ o : Obj, (w1.alloc o).cell? ⟨b1, 1, none⟩ = some (.int .i64 2) := ca (hE1.1.cell 1); have fb11 : ∀ o : Obj, (w1.alloc o).frozen? ⟨b1, 1, none⟩ = false := fun o => (hE1.1.al o).fz 1; have cb20 : ∀ o : Obj, (w1.alloc o).cell? ⟨b2, 0, none⟩ = some (.int .i64 4) := ca (hE1.2.1.cell 0); have fb20 : ∀ o : Obj, (w1.alloc o).frozen? ⟨b2, 0, none⟩ = false := fun o => (hE1.2.1.al o).fz 0; have cb21 : ∀ o : Obj, (w1.alloc o).cell? ⟨b2, 1, none⟩ = some (.int .i64 2) := ca (hE1.2.1.cell 1); have fb21 : ∀ o : Obj, (w1.alloc o).frozen? ⟨b2, 1, none⟩ = false := fun o => (hE1.2.1.al o).fz 1; have cb22 : ∀ o : Obj, (w1.alloc o).cell? ⟨b2, 2, none⟩ = some (.int .i64 8) := ca (hE1.2.1.cell 2); have fb22 : ∀ o : Obj, (w1.alloc o).frozen? ⟨b2, 2, none⟩ = false := fun o => (hE1.2.1.al o).fz 2; have cb23 : ∀ o : Obj, (w1.alloc o).cell? ⟨b2, 3, none⟩ = some (.int .i64 7) := ca (hE1.2.1.cell 3); have fb23 : ∀ o : Obj, (w1.alloc o).frozen? ⟨b2, 3, none⟩ = false := fun o => (hE1.2.1.al o).fz 3; have n12 := Has.ne hE1.1 hE1.2.1 (by decide); have n13 := Has.ne hE1.1 hE1.2.2 (by decide); have n23 := Has.ne hE1.2.1 hE1.2.2 (by decide); have hU := hE1.2.1.set 0 (.int .i64 9); have u1 : ∀ o : Obj, ((w1.setCell ⟨b2, 0, none⟩ (.int .i64 9)).alloc o).cell? ⟨b2, 1, none⟩ = some (.int .i64 2) := ca (hU.cell 1); have u2 : ∀ o : Obj, ((w1.setCell ⟨b2, 0, none⟩ (.int .i64 9)).alloc o).frozen? ⟨b2, 1, none⟩ = false := fun o => (hU.al o).fz 1; ))
      go_cut [3] (fun u3 wx => ∃ P, u3 = .int .i64 (nmE q) ∧ Mem wx wx.heap.size (nmC q) P ∧ Has wx w1.heap.size 26 (cc (nmC q) P) ∧ Below w.heap.size w wx)
      case first =>
        have hqq : q = 0 ∨ q = 1 ∨ q = 2 ∨ q = 3 ∨ q = 4 ∨ q = 5 ∨ q = 6 ∨ q = 7 ∨ q = 8 ∨ q = 9 ∨ q = 10 ∨ q = 11 ∨ q = 12 ∨ q = 13 ∨ q = 14 ∨ q = 15 := by omega
        clear hq hlt
        rcases hqq with rfl | rfl | rfl | rfl | rfl | rfl | rfl | rfl | rfl | rfl | rfl | rfl | rfl | rfl | rfl | rfl
        · go_wp2
          go_meet
          exact ⟨(exP b1 b2 b3), rfl, memA 0 (hE1.al _), Has.new' _ _ rfl, (hB1.alloc (Below.size hB1) _)⟩
        · go_wp2
          go_meet
          exact ⟨(exP b1 b2 b3), rfl, memA 1 (hE1.al _), Has.new' _ _ rfl, (hB1.alloc (Below.size hB1) _)⟩
        · go_wp2
          go_meet
          exact ⟨(exP b1 b2 b3), rfl, memA 2 (hE1.al _), Has.new' _ _ rfl, (hB1.alloc (Below.size hB1) _)⟩
        · go_wp2
          go_meet
          exact ⟨⟨some ⟨b1, 0, none⟩, some ⟨b2, 0, none⟩, some ⟨w1.heap.size + 1, 0, none⟩, none, 1, 2, 101, 0⟩, rfl, memB 3 ((hE1.al _).al _) (made_ints _ 101 _ _ (by simp)), (Has.new' _ _ rfl).al _, ((hB1.alloc (Below.size hB1) _).alloc (by have := hB1.size; simp; omega) _)⟩
        · go_wp2
          go_meet
          exact ⟨⟨some ⟨b1, 0, none⟩, some ⟨b2, 0, none⟩, some ⟨b3, 0, none⟩, some ⟨w1.heap.size + 1, 0, none⟩, 1, 2, 1, 101⟩, rfl, memC ((hE1.al _).al _) (made_ints _ 101 _ _ (by simp)), (Has.new' _ _ rfl).al _, ((hB1.alloc (Below.size hB1) _).alloc (by have := hB1.size; simp; omega) _)⟩
        · go_wp2
          go_meet
          exact ⟨⟨some ⟨b1, 0, none⟩, some ⟨b2, 0, none⟩, some ⟨w1.heap.size + 1, 0, none⟩, none, 1, 2, 1, 0⟩, rfl, memD ((hE1.al _).al _) (ints_of_has (Has.new' _ _ (by simp)) (fun j hj => by rw [Nat.lt_one_iff.1 hj]; rfl)), (Has.new' _ _ rfl).al _, ((hB1.alloc (Below.size hB1) _).alloc (by have := hB1.size; simp; omega) _)⟩
        · go_wp2
          go_meet
          exact ⟨⟨some ⟨b1, 0, none⟩, some ⟨b2, 0, none⟩, some ⟨b3, 0, none⟩, some ⟨w1.heap.size + 1, 0, none⟩, 1, 2, 1, 1⟩, rfl, memE ((hE1.al _).al _) (ints_of_has (Has.new' _ _ (by simp)) (fun j hj => by rw [Nat.lt_one_iff.1 hj]; rfl)), (Has.new' _ _ rfl).al _, ((hB1.alloc (Below.size hB1) _).alloc (by have := hB1.size; simp; omega) _)⟩
        · go_wp2
          go_meet
          exact ⟨(exP b1 b2 b3), rfl, memL 7 ((hE1.1.set 0 (.int .i64 (12))).al _) ((hE1.2.1.far (q := ⟨b1, 0, none⟩) (Ne.symm n12) _).al _) ((hE1.2.2.far (q := ⟨b1, 0, none⟩) (Ne.symm n13) _).al _) (fun j hj => by rw [Nat.lt_one_iff.1 hj]; exact ⟨rfl, rfl⟩) (fun j hj => by rcases lt2 hj with rfl | rfl <;> exact ⟨rfl, rfl⟩) (fun j hj => by rw [Nat.lt_one_iff.1 hj]; rfl) rfl rfl rfl rfl, Has.new' _ _ (by simp [World.setCell]), ((hB1.setCell (by have := hBr.size; have := hb1'; simp; omega) _).alloc (by have := hB1.size; simp [World.setCell]; omega) _)⟩
        · go_wp2
          go_meet
          exact ⟨(exP b1 b2 b3), rfl, memL 8 ((hE1.1.set 0 (.int .i64 (-1))).al _) ((hE1.2.1.far (q := ⟨b1, 0, none⟩) (Ne.symm n12) _).al _) ((hE1.2.2.far (q := ⟨b1, 0, none⟩) (Ne.symm n13) _).al _) (fun j hj => by rw [Nat.lt_one_iff.1 hj]; exact ⟨rfl, rfl⟩) (fun j hj => by rcases lt2 hj with rfl | rfl <;> exact ⟨rfl, rfl⟩) (fun j hj => by rw [Nat.lt_one_iff.1 hj]; rfl) rfl rfl rfl rfl, Has.new' _ _ (by simp [World.setCell]), ((hB1.setCell (by have := hBr.size; have := hb1'; simp; omega) _).alloc (by have := hB1.size; simp [World.setCell]; omega) _)⟩
        · go_wp2
          go_meet
          exact ⟨(exP b1 b2 b3), rfl, memL 9 ((hE1.1.set 1 (.int .i64 (3))).al _) ((hE1.2.1.far (q := ⟨b1, 1, none⟩) (Ne.symm n12) _).al _) ((hE1.2.2.far (q := ⟨b1, 1, none⟩) (Ne.symm n13) _).al _) (fun j hj => by rw [Nat.lt_one_iff.1 hj]; exact ⟨rfl, rfl⟩) (fun j hj => by rcases lt2 hj with rfl | rfl <;> exact ⟨rfl, rfl⟩) (fun j hj => by rw [Nat.lt_one_iff.1 hj]; rfl) rfl rfl rfl rfl, Has.new' _ _ (by simp [World.setCell]), ((hB1.setCell (by have := hBr.size; have := hb1'; simp; omega) _).alloc (by have := hB1.size; simp [World.setCell]; omega) _)⟩
        · go_wp2
          go_meet
          exact ⟨(exP b1 b2 b3), rfl, memL 10 ((hE1.1.set 1 (.int .i64 (-1))).al _) ((hE1.2.1.far (q := ⟨b1, 1, none⟩) (Ne.symm n12) _).al _) ((hE1.2.2.far (q := ⟨b1, 1, none⟩) (Ne.symm n13) _).al _) (fun j hj => by rw [Nat.lt_one_iff.1 hj]; exact ⟨rfl, rfl⟩) (fun j hj => by rcases lt2 hj with rfl | rfl <;> exact ⟨rfl, rfl⟩) (fun j hj => by rw [Nat.lt_one_iff.1 hj]; rfl) rfl rfl rfl rfl, Has.new' _ _ (by simp [World.setCell]), ((hB1.setCell (by have := hBr.size; have := hb1'; simp; omega) _).alloc (by have := hB1.size; simp [World.setCell]; omega) _)⟩
        · go_wp2
          go_meet
          exact ⟨(exP b1 b2 b3), rfl, memL 11 ((hE1.1.far (q := ⟨b2, 2, none⟩) n12 _).al _) ((hE1.2.1.set 2 (.int .i64 (10))).al _) ((hE1.2.2.far (q := ⟨b2, 2, none⟩) (Ne.symm n23) _).al _) (fun j hj => by rw [Nat.lt_one_iff.1 hj]; exact ⟨rfl, rfl⟩) (fun j hj => by rcases lt2 hj with rfl | rfl <;> exact ⟨rfl, rfl⟩) (fun j hj => by rw [Nat.lt_one_iff.1 hj]; rfl) rfl rfl rfl rfl, Has.new' _ _ (by simp [World.setCell]), ((hB1.setCell (by have := hBr.size; have := hb1'; simp; omega) _).alloc (by have := hB1.size; simp [World.setCell]; omega) _)⟩
        · go_wp2
          go_meet
          exact ⟨(exP b1 b2 b3), rfl, memL 12 ((hE1.1.far (q := ⟨b2, 3, none⟩) n12 _).al _) ((hE1.2.1.set 3 (.int .i64 (9))).al _) ((hE1.2.2.far (q := ⟨b2, 3, none⟩) (Ne.symm n23) _).al _) (fun j hj => by rw [Nat.lt_one_iff.1 hj]; exact ⟨rfl, rfl⟩) (fun j hj => by rcases lt2 hj with rfl | rfl <;> exact ⟨rfl, rfl⟩) (fun j hj => by rw [Nat.lt_one_iff.1 hj]; rfl) rfl rfl rfl rfl, Has.new' _ _ (by simp [World.setCell]), ((hB1.setCell (by have := hBr.size; have := hb1'; simp; omega) _).alloc (by have := hB1.size; simp [World.setCell]; omega) _)⟩
        · go_wp2
          go_meet
          exact ⟨(exP b1 b2 b3), rfl, memL 13 ((hE1.1.far (q := ⟨b2, 1, none⟩) n12 _).al _) ((hE1.2.1.set 1 (.int .i64 (-1))).al _) ((hE1.2.2.far (q := ⟨b2, 1, none⟩) (Ne.symm n23) _).al _) (fun j hj => by rw [Nat.lt_one_iff.1 hj]; exact ⟨rfl, rfl⟩) (fun j hj => by rcases lt2 hj with rfl | rfl <;> exact ⟨rfl, rfl⟩) (fun j hj => by rw [Nat.lt_one_iff.1 hj]; rfl) rfl rfl rfl rfl, Has.new' _ _ (by simp [World.setCell]), ((hB1.setCell (by have := hBr.size; have := hb1'; simp; omega) _).alloc (by have := hB1.size; simp [World.setCell]; omega) _)⟩
        · go_wp2
          go_meet
          exact ⟨(exP b1 b2 b3), rfl, memL 14 (((hE1.1.far (q := ⟨b2, 0, none⟩) n12 _).far (q := ⟨b2, 1, none⟩) n12 _).al _) ((hU.set 1 (.int .i64 0)).al _) (((hE1.2.2.far (q := ⟨b2, 0, none⟩) (Ne.symm n23) _).far (q := ⟨b2, 1, none⟩) (Ne.symm n23) _).al _) (fun j hj => by rw [Nat.lt_one_iff.1 hj]; exact ⟨rfl, rfl⟩) (fun j hj => by rcases lt2 hj with rfl | rfl <;> exact ⟨rfl, rfl⟩) (fun j hj => by rw [Nat.lt_one_iff.1 hj]; rfl) rfl rfl rfl rfl, Has.new' _ _ (by simp [World.setCell]), (((hB1.setCell (by have := hBr.size; have := hb1'; simp; omega) _).setCell (by have := hBr.size; have := hb1'; simp; omega) _).alloc (by have := hB1.size; simp [World.setCell]; omega) _)⟩
        · go_wp2
          go_region
          go_wp2
          go_meet
          exact ⟨⟨some ⟨b1, 0, none⟩, some ⟨b2, 0, none⟩, some ⟨w1.heap.size + 1, 0, none⟩, none, 1, 2, 101, 0⟩, rfl, memDrew (memB 15 ((hE1.al _).al _) (made_ints _ 101 _ _ (by simp))), hasDrew ((Has.new' _ _ rfl).al _), (below_dn ((hB1.alloc (Below.size hB1) _).alloc (by have := hB1.size; simp; omega) _) 1)⟩
      case rest =>
        obtain ⟨P, rfl, hM, hX, hB2⟩ := hcut
        obtain ⟨x0, x1, x2', x3, x4⟩ := hX.box
        go_wp2_with (first
          | (go_at_call 33; refine (nmVars q hlt P _ hM).mono ?_; rintro e w2 ⟨x2, rfl, hb2⟩; have hM := hM.to hb2 hb2.size; have hX := hX.keep hb2 hX.lt; have hB2 := Below.step hB2 hB2.size hb2; obtain ⟨x0, x1, x2', x3, x4⟩ := hX.box)
          | (go_at_call 34; refine (nmKind q hlt P _ hM).mono ?_; rintro e w3 ⟨y2, z2, rfl, hb3⟩; have hM := hM.to hb3 hb3.size; have hX := hX.keep hb3 hX.lt; have hB3 := Below.step hB2 hB2.size hb3; obtain ⟨y0, y1, y2', y3, y4⟩ := hX.box)
          | (go_at_call 35; refine (nmCone q hlt P _ hM).mono ?_; rintro e w4 ⟨v4, rfl, hb4⟩; have hM := hM.to hb4 hb4.size; have hX := hX.keep hb4 hX.lt; have hB4 := Below.step hB3 hB3.size hb4; obtain ⟨s0, s1, s2, s3, s4⟩ := hX.box)
          | (go_at_call 36; refine (nmDepth q hlt P _ hM).mono ?_; rintro e w5 ⟨d5, rfl, hb5⟩; have hM := hM.to hb5 hb5.size; have hX := hX.keep hb5 hX.lt; have hB5 := Below.step hB4 hB4.size hb5; obtain ⟨t0, t1, t2, t3, t4⟩ := hX.box)
          | (go_at_call 26; refine (nmCheck q hlt P _ hM).mono ?_; rintro e w6 ⟨rfl, hb6⟩; have hB6 := Below.step hB5 hB5.size hb6))
        go_roundw
        case rel => exact ⟨q + 1, by omega, by go_num, hB6⟩
        case measure => simp [intOf]; omega
    · have hl16 : ¬ ((q : Int) < 16) := by omega
      obtain ⟨W0, hW0⟩ : ∃ W0, W0 = wr := ⟨_, rfl⟩
      subst hW0
      have hmk1 : ∀ w : World, (Instr.makeSlice 24 (.int .i64 100) (.int .i64 100)).run Try.prog w = .ok (.slice (some ⟨w.heap.size, 0, none⟩) 100 100) (w.alloc (.cells (madeCells #[.int .i64 0] 100) 3)) := fun w =>
        run_make_row' 24 3 (.int .i64 0) 8 Try.underlying24 info_int2 rfl _ _ 100 (by omega) (by omega) w
      clear hq hlt
      obtain ⟨m0, hme⟩ : ∃ m0, m0 = q := ⟨_, rfl⟩
      subst hme
      go_wp2
      go_loopw [15] (fun i wr => ∃ q : Nat, q ≤ 6 ∧ i = .int .i64 q ∧ Below w.heap.size w wr ∧ Has wr W0.heap.size 3 #[.int .i64 0, .int .i64 1, .int .i64 1, .int .i64 2, .int .i64 3, .int .i64 3] ∧ Has wr (W0.heap.size + 1) 3 #[.int .i64 0, .int .i64 0, .int .i64 1, .int .i64 0, .int .i64 0, .int .i64 1]) (fun i _ => 6 - (intOf i).toNat)
      case atStart => exact ⟨0, by omega, rfl, by have := hBr.size; exact (hBr.alloc this _).alloc (by simp; omega) _, (Has.new _ _ _).al _, Has.new' _ _ (by simp)⟩
      case round =>
        clear hBr
        obtain ⟨q, hq, rfl, hBr, hK, hI⟩ := hrel
        by_cases hlt : q < 6
        · have hqq : q = 0 ∨ q = 1 ∨ q = 2 ∨ q = 3 ∨ q = 4 ∨ q = 5 := by omega
          rcases hqq with rfl | rfl | rfl | rfl | rfl | rfl
          · have z1 : ∀ o : Obj, True := fun _ => trivial
            go_wp2_with (first
              | (go_at_call 32; refine (ex_any _).mono ?_; rintro e w1 ⟨b1, b2, b3, rfl, hE1, hb1', hb1⟩; have hB1 := Below.step hBr hBr.size hb1; have hK1 := hK.keep hb1 hK.lt; have hI1 := hI.keep hb1 hI.lt)
              | (go_at_call 34; refine (exKind 0 (by omega) _ _ _ _ hE1).mono ?_; rintro e w2 ⟨rfl, hb2⟩; have hB2 := Below.step hB1 hB1.size hb2; have hK2 := hK1.keep hb2 hK1.lt; have hI2 := hI1.keep hb2 hI1.lt; have y1 : w2.cell? ⟨W0.heap.size, 0, none⟩ = some (.int .i64 (kdI 0)) := hK2.cell 0; have y2 : w2.cell? ⟨W0.heap.size + 1, 0, none⟩ = some (.int .i64 (ixI 0)) := hI2.cell 0))
            go_roundw
            case rel => exact ⟨1, by omega, by go_num, hB2, hK2, hI2⟩
            case measure => simp [intOf]
          · have z1 : ∀ o : Obj, True := fun _ => trivial
            go_wp2_with (first
              | (go_at_call 32; refine (ex_any _).mono ?_; rintro e w1 ⟨b1, b2, b3, rfl, hE1, hb1', hb1⟩; have hB1 := Below.step hBr hBr.size hb1; have hK1 := hK.keep hb1 hK.lt; have hI1 := hI.keep hb1 hI.lt)
              | (go_at_call 34; refine (exKind 1 (by omega) _ _ _ _ hE1).mono ?_; rintro e w2 ⟨rfl, hb2⟩; have hB2 := Below.step hB1 hB1.size hb2; have hK2 := hK1.keep hb2 hK1.lt; have hI2 := hI1.keep hb2 hI1.lt; have y1 : w2.cell? ⟨W0.heap.size, 1, none⟩ = some (.int .i64 (kdI 1)) := hK2.cell 1; have y2 : w2.cell? ⟨W0.heap.size + 1, 1, none⟩ = some (.int .i64 (ixI 1)) := hI2.cell 1))
            go_roundw
            case rel => exact ⟨2, by omega, by go_num, hB2, hK2, hI2⟩
            case measure => simp [intOf]
          · have z1 : ∀ o : Obj, True := fun _ => trivial
            go_wp2_with (first
              | (go_at_call 32; refine (ex_any _).mono ?_; rintro e w1 ⟨b1, b2, b3, rfl, hE1, hb1', hb1⟩; have hB1 := Below.step hBr hBr.size hb1; have hK1 := hK.keep hb1 hK.lt; have hI1 := hI.keep hb1 hI.lt)
              | (go_at_call 34; refine (exKind 2 (by omega) _ _ _ _ hE1).mono ?_; rintro e w2 ⟨rfl, hb2⟩; have hB2 := Below.step hB1 hB1.size hb2; have hK2 := hK1.keep hb2 hK1.lt; have hI2 := hI1.keep hb2 hI1.lt; have y1 : w2.cell? ⟨W0.heap.size, 2, none⟩ = some (.int .i64 (kdI 2)) := hK2.cell 2; have y2 : w2.cell? ⟨W0.heap.size + 1, 2, none⟩ = some (.int .i64 (ixI 2)) := hI2.cell 2))
            go_roundw
            case rel => exact ⟨3, by omega, by go_num, hB2, hK2, hI2⟩
            case measure => simp [intOf]
          · have z1 : ∀ o : Obj, True := fun _ => trivial
            go_wp2_with (first
              | (go_at_call 32; refine (ex_any _).mono ?_; rintro e w1 ⟨b1, b2, b3, rfl, hE1, hb1', hb1⟩; have hB1 := Below.step hBr hBr.size hb1; have hK1 := hK.keep hb1 hK.lt; have hI1 := hI.keep hb1 hI.lt)
              | (go_at_call 34; refine (exKind 3 (by omega) _ _ _ _ hE1).mono ?_; rintro e w2 ⟨rfl, hb2⟩; have hB2 := Below.step hB1 hB1.size hb2; have hK2 := hK1.keep hb2 hK1.lt; have hI2 := hI1.keep hb2 hI1.lt; have y1 : w2.cell? ⟨W0.heap.size, 3, none⟩ = some (.int .i64 (kdI 3)) := hK2.cell 3; have y2 : w2.cell? ⟨W0.heap.size + 1, 3, none⟩ = some (.int .i64 (ixI 3)) := hI2.cell 3))
            go_roundw
            case rel => exact ⟨4, by omega, by go_num, hB2, hK2, hI2⟩
            case measure => simp [intOf]
          · have z1 : ∀ o : Obj, True := fun _ => trivial
            go_wp2_with (first
              | (go_at_call 32; refine (ex_any _).mono ?_; rintro e w1 ⟨b1, b2, b3, rfl, hE1, hb1', hb1⟩; have hB1 := Below.step hBr hBr.size hb1; have hK1 := hK.keep hb1 hK.lt; have hI1 := hI.keep hb1 hI.lt)
              | (go_at_call 34; refine (exKind 4 (by omega) _ _ _ _ hE1).mono ?_; rintro e w2 ⟨rfl, hb2⟩; have hB2 := Below.step hB1 hB1.size hb2; have hK2 := hK1.keep hb2 hK1.lt; have hI2 := hI1.keep hb2 hI1.lt; have y1 : w2.cell? ⟨W0.heap.size, 4, none⟩ = some (.int .i64 (kdI 4)) := hK2.cell 4; have y2 : w2.cell? ⟨W0.heap.size + 1, 4, none⟩ = some (.int .i64 (ixI 4)) := hI2.cell 4))
            go_roundw
            case rel => exact ⟨5, by omega, by go_num, hB2, hK2, hI2⟩
            case measure => simp [intOf]
          · have z1 : ∀ o : Obj, True := fun _ => trivial
            go_wp2_with (first
              | (go_at_call 32; refine (ex_any _).mono ?_; rintro e w1 ⟨b1, b2, b3, rfl, hE1, hb1', hb1⟩; have hB1 := Below.step hBr hBr.size hb1; have hK1 := hK.keep hb1 hK.lt; have hI1 := hI.keep hb1 hI.lt)
              | (go_at_call 34; refine (exKind 5 (by omega) _ _ _ _ hE1).mono ?_; rintro e w2 ⟨rfl, hb2⟩; have hB2 := Below.step hB1 hB1.size hb2; have hK2 := hK1.keep hb2 hK1.lt; have hI2 := hI1.keep hb2 hI1.lt; have y1 : w2.cell? ⟨W0.heap.size, 5, none⟩ = some (.int .i64 (kdI 5)) := hK2.cell 5; have y2 : w2.cell? ⟨W0.heap.size + 1, 5, none⟩ = some (.int .i64 (ixI 5)) := hI2.cell 5))
            go_roundw
            case rel => exact ⟨6, by omega, by go_num, hB2, hK2, hI2⟩
            case measure => simp [intOf]
        · have hl6 : ¬ ((q : Int) ≤ 5) := by omega
          clear hq hlt
          go_wp2_with (first
            | (go_at_call 33; (with_reducible refine (mostVars _ _ _ (mostMem wr _)).mono ?_); rintro e w2 ⟨rfl, hb2⟩; have hM := (mostMem wr _).to1 hb2; have hB2 := Below.step (((hBr.alloc hBr.size _).alloc (by have := hBr.size; simp; omega) _).alloc (by have := hBr.size; simp; omega) _) (by have := hBr.size; simp; omega) hb2; have hX2 := (show Has _ (wr.heap.size + 1 + 1) 26 #[.int .i64 1000, .slice none 0 0, .slice none 0 0, .slice (some ⟨wr.heap.size, 0, none⟩) 100 100, .slice (some ⟨wr.heap.size + 1, 0, none⟩) 1 1] from Has.new' _ _ (by simp)).keep hb2 (by simp))
            | (go_at_call 33; (with_reducible refine (nulVars _).mono ?_); rintro e w3 ⟨rfl, hb3⟩; have hM := hM.to hb3 hb3.size; have hB3 := Below.step hB2 hB2.size hb3; have hX3 := hX2.keep hb3 hX2.lt)
            | (go_at_call 34; refine (exKind6 _ _ _ _ hE4).mono ?_; rintro e w5 ⟨x5, y5, rfl, hb5⟩; have hM := hM.to hb5 hb5.size; have hB5 := Below.step hB4 hB4.size hb5; have hX5 := hX4.keep hb5 hX4.lt)
            | (go_at_call 35; (with_reducible refine (exCone12 _ _ _ _ hE4).mono ?_); rintro e w7 ⟨v7, rfl, hb7⟩; have hM := hM.to hb7 hb7.size; have hB5 := Below.step hB4 hB4.size hb7; have hX5 := hX4.keep hb7 hX4.lt)
            | (go_at_call 35; (with_reducible refine (exCone1 _ _ _ _ hE4).mono ?_); rintro e w9 ⟨A9, k9, rfl, hb9⟩; have hM := hM.to hb9 hb9.size; have hB9 := Below.step hB4 hB4.size hb9; have hX9 := hX4.keep hb9 hX4.lt; have t0 : w9.cell? ⟨wr.heap.size + 1 + 1, 0, none⟩ = some (.int .i64 1000) := hX9.cell 0; have t1 : w9.cell? ⟨wr.heap.size + 1 + 1, 1, none⟩ = some (.slice none 0 0) := hX9.cell 1; have t2 : w9.cell? ⟨wr.heap.size + 1 + 1, 2, none⟩ = some (.slice none 0 0) := hX9.cell 2; have t3 : w9.cell? ⟨wr.heap.size + 1 + 1, 3, none⟩ = some (.slice (some ⟨wr.heap.size, 0, none⟩) 100 100) := hX9.cell 3; have t4 : w9.cell? ⟨wr.heap.size + 1 + 1, 4, none⟩ = some (.slice (some ⟨wr.heap.size + 1, 0, none⟩) 1 1) := hX9.cell 4)
            | (go_at_call 32; refine (ex_any _).mono ?_; rintro e w4 ⟨b1, b2, b3, rfl, hE4, hb4', hb4⟩; have hM := hM.to hb4 hb4.size; have hB4 := Below.step (by first | exact hB5 | exact hB3) (Below.size (by first | exact hB5 | exact hB3)) hb4; have hX4 := Has.keep (by first | exact hX5 | exact hX3) hb4 (Has.lt (by first | exact hX5 | exact hX3)))
            | (go_at_call 36; refine (mostDepth _ _ _ hM).mono ?_; rintro e w10 ⟨rfl, hb10⟩; have hB10 := Below.step hB9 hB9.size hb10)
            | (go_at_call 37; refine (alive_any _).mono ?_; rintro e wE ⟨rfl, hbE⟩; have hBE := Below.step hB10 hB10.size hbE))
          go_ret
          exact ⟨rfl, hBE⟩

set_option maxRecDepth 100000 in
theorem lifted (os : Os) (started : os.Started) (H : Type) (enc : TypeId × Value → H) :
    ReturnsInHanded {} Try.checked os 10 .any (Rows.gatesNamesSpec.pre6 enc Try.prog Try.f10 Rows.gatesNamesRow.domain false) (Rows.gatesNamesSpec.post enc Try.prog Try.f10 false true false false) := by
  refine returnsInHanded_of_change (C := Try.checked) own started (by kernel_rfl) Try.func10
    (ChangeSpec.witness6 (enc := enc) (C := Try.checked) false ⟨#[], #[], []⟩ 12 (by kernel_rfl) (by kernel_rfl) (by kernel_rfl) (by kernel_rfl)) ?_
  intro W base args ds gs before hval0 hW hcnd _
  have hval : ∀ (j : Nat) t v, Try.f10.params[j]? = some t → args[j]? = some v → Value.okWide Try.prog W .any base t v := hval0
  have hW' := hW
  have hlt : ∀ x ∈ before, x.block < W.heap.size := fun x hx => by simpa using hW'.lt x hx
  obtain ⟨p, q, hA0, hV, rfl, hfz, hnd⟩ := hW
  have hA : DataW.TrodAll enc Try.prog W 0 (fun _ => true) true Try.f10.params.toList args.toList ds p := hA0
  rw [Try.params10] at hA hval
  
  obtain ⟨ha0, rfl, rfl⟩ := trodAll_nil hA
  obtain rfl : args = #[] := by cases args; simp_all
  obtain ⟨rfl, rfl⟩ := trodVars_none hV
  
  have hlo : laidOutB Try.prog = true := by kernel_rfl
  clear hA0 hval0
  simp only [List.append_nil] at hW' hlt
  refine (walk  W ).mono fun e W' ⟨he, hb⟩ => ?_
  subst he
  exact ⟨_, rfl, law_post hW' (trodAll_cons_mk (shut_bool Try.underlying4 _) trodAll_mk0) trodAll_mk0 rfl hb⟩

theorem over : Rows.gatesNamesRow.holds Try.pinned (OpenSpec.ofChange Rows.gatesNamesSpec) :=
  OpenClaim.holds_of_wide 10 Try.f10 rfl rfl rfl rfl rfl rfl rfl ⟨rfl, rfl, rfl, rfl, rfl⟩ rfl rfl rfl rfl rfl (by kernel_rfl) Try.func10 (by kernel_rfl)
    (of_decide_eq_true (by kernel_rfl)) (by unfold Func.isWrapper; first | (rw [if_pos (by decide +kernel)]; kernel_rfl) | (rw [if_neg (by decide +kernel)]; exact ⟨rfl, rfl⟩))
    (fun os started H enc _ => lifted os started H enc)

theorem proved : Rows.GatesNamesSaid :=
  over
end Go.Proofs.Ytjpoapllbdmggaa.gatesNames
