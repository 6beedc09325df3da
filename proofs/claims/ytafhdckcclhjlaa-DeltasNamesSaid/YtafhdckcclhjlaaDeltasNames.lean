/- The chapter's examples, limits, gates that are not right, and errors hold. No conditions. -/
import Derived.Test.YtafhdckcclhjlaaDeltaNamesKit
import Derived.Test.YtafhdckcclhjlaaGatesFrame
namespace Go.Proofs.Ytafhdckcclhjlaa.deltasNames
open Go.ChangeShapes Go.WideShapes Go.ChangeAt Go.RowKit
set_option linter.unusedVariables false
set_option linter.unusedSimpArgs false


theorem own : ownKnob Try.prog.godebug = none := by kernel_rfl

set_option maxRecDepth 100000 in
set_option maxHeartbeats 40000000 in
theorem walk  (w : World)  :
    Calls Try.prog 3 #[] w fun e w' => e = .returned (.bool true) ∧ Below w.heap.size w w' := by
  have CW0 := Lib.hid (fun W => writes_lit (x := 0) (n := 0) (m := 1) (l := [0]) (cs := #[.int .u8 0]) rfl (by decide) bts0 rfl rfl W)
  have CW1 := Lib.hid (fun W => writes_lit (x := 127) (n := 127) (m := 1) (l := [127]) (cs := #[.int .u8 127]) rfl (by decide) bts127 rfl rfl W)
  have CW2 := Lib.hid (fun W => writes_lit (x := 128) (n := 128) (m := 2) (l := [128, 1]) (cs := #[.int .u8 128, .int .u8 1]) rfl (by decide) bts128 rfl rfl W)
  have CW3 := Lib.hid (fun W => writes_lit (x := 16383) (n := 16383) (m := 2) (l := [255, 127]) (cs := #[.int .u8 255, .int .u8 127]) rfl (by decide) bts16383 rfl rfl W)
  have CW4 := Lib.hid (fun W => writes_lit (x := 16384) (n := 16384) (m := 3) (l := [128, 128, 1]) (cs := #[.int .u8 128, .int .u8 128, .int .u8 1]) rfl (by decide) bts16384 rfl rfl W)
  have CW5 := Lib.hid (fun W => writes_lit (x := 2147483647) (n := 2147483647) (m := 5) (l := [255, 255, 255, 255, 7]) (cs := #[.int .u8 255, .int .u8 255, .int .u8 255, .int .u8 255, .int .u8 7]) rfl (by decide) bts2147483647 rfl rfl W)
  have CN := Lib.hid (fun W => reads_nil W)
  have CR0 := Lib.hid (fun W => reads_lit (x := 6) (m := 1) (l := [128]) (cs := #[.int .u8 128]) (by decide +kernel) (by decide) rfl (by decide) rfl W)
  have CR1 := Lib.hid (fun W => reads_lit (x := 6) (m := 4) (l := [255, 255, 255, 255]) (cs := #[.int .u8 255, .int .u8 255, .int .u8 255, .int .u8 255]) (by decide +kernel) (by decide) rfl (by decide) rfl W)
  have CR2 := Lib.hid (fun W => reads_lit (x := 16) (m := 5) (l := [128, 128, 128, 128, 128]) (cs := #[.int .u8 128, .int .u8 128, .int .u8 128, .int .u8 128, .int .u8 128]) (by decide +kernel) (by decide) rfl (by decide) rfl W)
  have CR3 := Lib.hid (fun W => reads_lit (x := 16) (m := 6) (l := [128, 128, 128, 128, 128, 1]) (cs := #[.int .u8 128, .int .u8 128, .int .u8 128, .int .u8 128, .int .u8 128, .int .u8 1]) (by decide +kernel) (by decide) rfl (by decide) rfl W)
  have CR4 := Lib.hid (fun W => reads_lit (x := 16) (m := 5) (l := [128, 128, 128, 128, 8]) (cs := #[.int .u8 128, .int .u8 128, .int .u8 128, .int .u8 128, .int .u8 8]) (by decide +kernel) (by decide) rfl (by decide) rfl W)
  have CR5 := Lib.hid (fun W => reads_lit (x := 12) (m := 2) (l := [128, 0]) (cs := #[.int .u8 128, .int .u8 0]) (by decide +kernel) (by decide) rfl (by decide) rfl W)
  have CR6 := Lib.hid (fun W => reads_lit (x := 12) (m := 5) (l := [255, 255, 255, 255, 0]) (cs := #[.int .u8 255, .int .u8 255, .int .u8 255, .int .u8 255, .int .u8 0]) (by decide +kernel) (by decide) rfl (by decide) rfl W)
  have CR7 := Lib.hid (fun W => reads_lit (x := 12) (m := 3) (l := [128, 0, 1]) (cs := #[.int .u8 128, .int .u8 0, .int .u8 1]) (by decide +kernel) (by decide) rfl (by decide) rfl W)
  have CX1 := Lib.hid (fun W => dWrite_no (-1) W (by decide))
  have CX2 := Lib.hid (fun W => dWrite_no 2147483648 W (by decide))
  have CP1 := Lib.hid (fun W => dPack_err (v := 0) (x := 2) (n := 0) (i64_small (by decide) (by decide)) none 0 (by decide) (by decide) (by decide) W)
  have CP2 := Lib.hid (fun W => dPack_err (v := 1001) (x := 2) (n := 0) (i64_small (by decide) (by decide)) none 0 (by decide) (by decide) (by decide) W)
  have CP3 : Hid (∀ W, Calls Try.prog 13 #[.int .i64 1000, .slice (some ⟨W.heap.size, 0, none⟩) 2 2] (W.alloc (.cells #[.int .i64 0, .int .i64 0, .int .i64 0, .int .i64 0] 29)) fun e w' => e = .returned (.tuple #[.slice none 0 0, .int .i64 4]) ∧ Below W.heap.size W w') := Lib.hid fun W => (dPack_err (v := 1000) (x := 4) (n := 2) (i64_small (by decide) (by decide)) _ 2 (by decide) (by decide) (by decide) _).mono fun e w' ⟨h1, h2⟩ => ⟨h1, h2 ▸ (Below.refl _ _).alloc (Nat.le_refl _) _⟩
  have CP4 := Lib.hid (fun W => dPack1000 W)
  have CU1 := Lib.hid (fun W => dUnpack_err (v := 1) (n := -1) (x := 2) (i64_small (by decide) (by decide)) (i64_small (by decide) (by decide)) (by decide) (by decide) W)
  have CU2 := Lib.hid (fun W => dUnpack_err (v := 1) (n := 1001) (x := 4) (i64_small (by decide) (by decide)) (i64_small (by decide) (by decide)) (by decide) (by decide) W)
  have CL0 := Lib.hid (fun W => unLit (v := 9) (n := 0) (x := 0) (s := 0) (N := 0) (m := 2) (l := [1, 2]) (cs := #[.int .u8 1, .int .u8 2]) (i64_small (by decide) (by decide)) (i64_small (by decide) (by decide)) (by decide +kernel) (by decide +kernel) (by decide +kernel) rfl (by decide) rfl W)
  have CL1 := Lib.hid (fun W => unLit (v := 4) (n := 1) (x := 8) (s := 0) (N := 0) (m := 2) (l := [9, 0]) (cs := #[.int .u8 9, .int .u8 0]) (i64_small (by decide) (by decide)) (i64_small (by decide) (by decide)) (by decide +kernel) (by decide +kernel) (by decide +kernel) rfl (by decide) rfl W)
  have CL2 := Lib.hid (fun W => unLit (v := 4) (n := 1) (x := 8) (s := 0) (N := 0) (m := 2) (l := [4, 5]) (cs := #[.int .u8 4, .int .u8 5]) (i64_small (by decide) (by decide)) (i64_small (by decide) (by decide)) (by decide +kernel) (by decide +kernel) (by decide +kernel) rfl (by decide) rfl W)
  have CL3 := Lib.hid (fun W => unLit (v := 4) (n := 2) (x := 6) (s := 0) (N := 0) (m := 3) (l := [4, 2, 1]) (cs := #[.int .u8 4, .int .u8 2, .int .u8 1]) (i64_small (by decide) (by decide)) (i64_small (by decide) (by decide)) (by decide +kernel) (by decide +kernel) (by decide +kernel) rfl (by decide) rfl W)
  have CL4 := Lib.hid (fun W => unLit (v := 4) (n := 2) (x := 0) (s := 4) (N := 2) (m := 5) (l := [4, 2, 1, 9, 77]) (cs := #[.int .u8 4, .int .u8 2, .int .u8 1, .int .u8 9, .int .u8 77]) (i64_small (by decide) (by decide)) (i64_small (by decide) (by decide)) (by decide +kernel) (by decide +kernel) (by decide +kernel) rfl (by decide) rfl W)
  have CL5 := Lib.hid (fun W => unLit (v := 4) (n := 1) (x := 8) (s := 0) (N := 0) (m := 3) (l := [0, 128, 0]) (cs := #[.int .u8 0, .int .u8 128, .int .u8 0]) (i64_small (by decide) (by decide)) (i64_small (by decide) (by decide)) (by decide +kernel) (by decide +kernel) (by decide +kernel) rfl (by decide) rfl W)
  have CS := Lib.hid (fun W A k h => two_same W A k h)
  have CA := Lib.hid (fun W => alive9_any W)
  have hmk := fun W => make2 W
  go_enter Try.func3, Try.ntmps3
  go_wp2_with (first
    | (go_at_call 10; (with_reducible refine (CW0.out w).mono ?_); rintro e v1 ⟨rfl, hb1⟩; have hB1 : Below w.heap.size w v1 := hb1)
    | (go_at_call 10; (with_reducible refine (CW1.out v1).mono ?_); rintro e v2 ⟨rfl, hb2⟩; have hB2 : Below w.heap.size w v2 := Below.step hB1 hB1.size hb2)
    | (go_at_call 10; (with_reducible refine (CW2.out v2).mono ?_); rintro e v3 ⟨rfl, hb3⟩; have hB3 : Below w.heap.size w v3 := Below.step hB2 hB2.size hb3)
    | (go_at_call 10; (with_reducible refine (CW3.out v3).mono ?_); rintro e v4 ⟨rfl, hb4⟩; have hB4 : Below w.heap.size w v4 := Below.step hB3 hB3.size hb4)
    | (go_at_call 10; (with_reducible refine (CW4.out v4).mono ?_); rintro e v5 ⟨rfl, hb5⟩; have hB5 : Below w.heap.size w v5 := Below.step hB4 hB4.size hb5)
    | (go_at_call 10; (with_reducible refine (CW5.out v5).mono ?_); rintro e v6 ⟨rfl, hb6⟩; have hB6 : Below w.heap.size w v6 := Below.step hB5 hB5.size hb6)
    | (go_at_call 11; (with_reducible refine (CN.out v6).mono ?_); rintro e vq ⟨rfl, rfl⟩)
    | (go_at_call 11; (with_reducible refine (CR0.out v6).mono ?_); rintro e v7 ⟨rfl, hb7⟩; have hB7 : Below w.heap.size w v7 := Below.step hB6 hB6.size hb7)
    | (go_at_call 11; (with_reducible refine (CR1.out v7).mono ?_); rintro e v8 ⟨rfl, hb8⟩; have hB8 : Below w.heap.size w v8 := Below.step hB7 hB7.size hb8)
    | (go_at_call 11; (with_reducible refine (CR2.out v8).mono ?_); rintro e v9 ⟨rfl, hb9⟩; have hB9 : Below w.heap.size w v9 := Below.step hB8 hB8.size hb9)
    | (go_at_call 11; (with_reducible refine (CR3.out v9).mono ?_); rintro e v10 ⟨rfl, hb10⟩; have hB10 : Below w.heap.size w v10 := Below.step hB9 hB9.size hb10)
    | (go_at_call 11; (with_reducible refine (CR4.out v10).mono ?_); rintro e v11 ⟨rfl, hb11⟩; have hB11 : Below w.heap.size w v11 := Below.step hB10 hB10.size hb11)
    | (go_at_call 11; (with_reducible refine (CR5.out v11).mono ?_); rintro e v12 ⟨rfl, hb12⟩; have hB12 : Below w.heap.size w v12 := Below.step hB11 hB11.size hb12)
    | (go_at_call 11; (with_reducible refine (CR6.out v12).mono ?_); rintro e v13 ⟨rfl, hb13⟩; have hB13 : Below w.heap.size w v13 := Below.step hB12 hB12.size hb13)
    | (go_at_call 11; (with_reducible refine (CR7.out v13).mono ?_); rintro e v14 ⟨rfl, hb14⟩; have hB14 : Below w.heap.size w v14 := Below.step hB13 hB13.size hb14)
    | (go_at_call 12; (with_reducible refine (CX1.out v14).mono ?_); rintro e vq ⟨rfl, rfl⟩)
    | (go_at_call 12; (with_reducible refine (CX2.out v14).mono ?_); rintro e vq ⟨rfl, rfl⟩))
  have hBL : Below w.heap.size w (v14.alloc (.cells badCs 29)) := hB14.alloc hB14.size _
  have HBL := Lib.hid hBL
  have HBP := Lib.hid (fun q (hq : q < 4) => bad_pack v14 hq)
  clear hBL
  go_loopw [8] (fun i wr => ∃ q : Nat, q ≤ 4 ∧ i = .int .i64 (q : Int) ∧ Below (v14.alloc (.cells badCs 29)).heap.size (v14.alloc (.cells badCs 29)) wr) (fun i _ => 4 - (intOf i).toNat)
  case atStart => exact ⟨0, by decide, rfl, Below.refl _ _⟩
  case round =>
    obtain ⟨q, hq, rfl, hBq⟩ := hrel
    have HBQ := Lib.hid hBq
    clear hBq
    by_cases hlt : q < 4
    · have hq1 : (q : Int) < 4 := by omega
      have hq0 : (0 : Int) ≤ (q : Int) := by omega
      obtain ⟨A', k', hs, hp⟩ := HBP.out q hlt
      have DP := Lib.hid hp
      clear hp
      go_wp2_with (go_at_call 13; (with_reducible refine (DP.out _ HBQ.out).mono ?_); rintro e vx ⟨Ax, kx, rfl, hbx⟩)
      go_roundw
      case rel => exact ⟨q + 1, by omega, by go_num, Below.step HBQ.out HBQ.out.size hbx⟩
      case measure => simp [intOf]; omega
    · obtain rfl : q = 4 := by omega
      have hBr : Below w.heap.size w wr := Below.step HBL.out HBL.out.size HBQ.out
      clear hq hlt
      go_wp2_with (first
        | (go_at_call 13; (with_reducible refine (CP1.out wr).mono ?_); rintro e vq ⟨rfl, rfl⟩)
        | (go_at_call 13; (with_reducible refine (CP2.out wr).mono ?_); rintro e vq ⟨rfl, rfl⟩)
        | (go_at_call 13; (with_reducible refine (CP3.out wr).mono ?_); rintro e v15 ⟨rfl, hb15⟩; have hB15 : Below w.heap.size w v15 := Below.step hBr hBr.size hb15)
        | (go_at_call 13; (with_reducible refine (CP4.out v15).mono ?_); rintro e v16 ⟨AP, kP, rfl, hyP, hb16⟩; have hB16 : Below w.heap.size w v16 := Below.step hB15 hB15.size hb16)
        | (go_at_call 14; (with_reducible refine (CU1.out v16).mono ?_); rintro e v17 ⟨AU1, kU1, rfl, hb17⟩; have hB17 : Below w.heap.size w v17 := Below.step hB16 hB16.size hb17)
        | (go_at_call 14; (with_reducible refine (CU2.out v17).mono ?_); rintro e v18 ⟨AU2, kU2, rfl, hb18⟩; have hB18 : Below w.heap.size w v18 := Below.step hB17 hB17.size hb18)
        | (go_at_call 14; (with_reducible refine (CL0.out v18).mono ?_); rintro e v19 ⟨AL0, kL0, rfl, hyL0, hb19⟩; have hB19 : Below w.heap.size w v19 := Below.step hB18 hB18.size hb19)
        | (go_at_call 14; (with_reducible refine (CL1.out v19).mono ?_); rintro e v20 ⟨AL1, kL1, rfl, hyL1, hb20⟩; have hB20 : Below w.heap.size w v20 := Below.step hB19 hB19.size hb20)
        | (go_at_call 14; (with_reducible refine (CL2.out v20).mono ?_); rintro e v21 ⟨AL2, kL2, rfl, hyL2, hb21⟩; have hB21 : Below w.heap.size w v21 := Below.step hB20 hB20.size hb21)
        | (go_at_call 14; (with_reducible refine (CL3.out v21).mono ?_); rintro e v22 ⟨AL3, kL3, rfl, hyL3, hb22⟩; have hB22 : Below w.heap.size w v22 := Below.step hB21 hB21.size hb22)
        | (go_at_call 14; (with_reducible refine (CL4.out v22).mono ?_); rintro e v23 ⟨AL4, kL4, rfl, hyL4, hb23⟩; have hB23 : Below w.heap.size w v23 := Below.step hB22 hB22.size hb23)
        | (go_at_call 14; (with_reducible refine (CL5.out v23).mono ?_); rintro e v24 ⟨AL5, kL5, rfl, hyL5, hb24⟩; have hB24 : Below w.heap.size w v24 := Below.step hB23 hB23.size hb24; have hPl : Below v16.heap.size v16 v24 := (Below.step ((Below.step ((Below.step ((Below.step ((Below.step ((Below.step ((Below.step (hb17) (Below.size (hb17)) hb18)) (Below.size ((Below.step (hb17) (Below.size (hb17)) hb18))) hb19)) (Below.size ((Below.step ((Below.step (hb17) (Below.size (hb17)) hb18)) (Below.size ((Below.step (hb17) (Below.size (hb17)) hb18))) hb19))) hb20)) (Below.size ((Below.step ((Below.step ((Below.step (hb17) (Below.size (hb17)) hb18)) (Below.size ((Below.step (hb17) (Below.size (hb17)) hb18))) hb19)) (Below.size ((Below.step ((Below.step (hb17) (Below.size (hb17)) hb18)) (Below.size ((Below.step (hb17) (Below.size (hb17)) hb18))) hb19))) hb20))) hb21)) (Below.size ((Below.step ((Below.step ((Below.step ((Below.step (hb17) (Below.size (hb17)) hb18)) (Below.size ((Below.step (hb17) (Below.size (hb17)) hb18))) hb19)) (Below.size ((Below.step ((Below.step (hb17) (Below.size (hb17)) hb18)) (Below.size ((Below.step (hb17) (Below.size (hb17)) hb18))) hb19))) hb20)) (Below.size ((Below.step ((Below.step ((Below.step (hb17) (Below.size (hb17)) hb18)) (Below.size ((Below.step (hb17) (Below.size (hb17)) hb18))) hb19)) (Below.size ((Below.step ((Below.step (hb17) (Below.size (hb17)) hb18)) (Below.size ((Below.step (hb17) (Below.size (hb17)) hb18))) hb19))) hb20))) hb21))) hb22)) (Below.size ((Below.step ((Below.step ((Below.step ((Below.step ((Below.step (hb17) (Below.size (hb17)) hb18)) (Below.size ((Below.step (hb17) (Below.size (hb17)) hb18))) hb19)) (Below.size ((Below.step ((Below.step (hb17) (Below.size (hb17)) hb18)) (Below.size ((Below.step (hb17) (Below.size (hb17)) hb18))) hb19))) hb20)) (Below.size ((Below.step ((Below.step ((Below.step (hb17) (Below.size (hb17)) hb18)) (Below.size ((Below.step (hb17) (Below.size (hb17)) hb18))) hb19)) (Below.size ((Below.step ((Below.step (hb17) (Below.size (hb17)) hb18)) (Below.size ((Below.step (hb17) (Below.size (hb17)) hb18))) hb19))) hb20))) hb21)) (Below.size ((Below.step ((Below.step ((Below.step ((Below.step (hb17) (Below.size (hb17)) hb18)) (Below.size ((Below.step (hb17) (Below.size (hb17)) hb18))) hb19)) (Below.size ((Below.step ((Below.step (hb17) (Below.size (hb17)) hb18)) (Below.size ((Below.step (hb17) (Below.size (hb17)) hb18))) hb19))) hb20)) (Below.size ((Below.step ((Below.step ((Below.step (hb17) (Below.size (hb17)) hb18)) (Below.size ((Below.step (hb17) (Below.size (hb17)) hb18))) hb19)) (Below.size ((Below.step ((Below.step (hb17) (Below.size (hb17)) hb18)) (Below.size ((Below.step (hb17) (Below.size (hb17)) hb18))) hb19))) hb20))) hb21))) hb22))) hb23)) (Below.size ((Below.step ((Below.step ((Below.step ((Below.step ((Below.step ((Below.step (hb17) (Below.size (hb17)) hb18)) (Below.size ((Below.step (hb17) (Below.size (hb17)) hb18))) hb19)) (Below.size ((Below.step ((Below.step (hb17) (Below.size (hb17)) hb18)) (Below.size ((Below.step (hb17) (Below.size (hb17)) hb18))) hb19))) hb20)) (Below.size ((Below.step ((Below.step ((Below.step (hb17) (Below.size (hb17)) hb18)) (Below.size ((Below.step (hb17) (Below.size (hb17)) hb18))) hb19)) (Below.size ((Below.step ((Below.step (hb17) (Below.size (hb17)) hb18)) (Below.size ((Below.step (hb17) (Below.size (hb17)) hb18))) hb19))) hb20))) hb21)) (Below.size ((Below.step ((Below.step ((Below.step ((Below.step (hb17) (Below.size (hb17)) hb18)) (Below.size ((Below.step (hb17) (Below.size (hb17)) hb18))) hb19)) (Below.size ((Below.step ((Below.step (hb17) (Below.size (hb17)) hb18)) (Below.size ((Below.step (hb17) (Below.size (hb17)) hb18))) hb19))) hb20)) (Below.size ((Below.step ((Below.step ((Below.step (hb17) (Below.size (hb17)) hb18)) (Below.size ((Below.step (hb17) (Below.size (hb17)) hb18))) hb19)) (Below.size ((Below.step ((Below.step (hb17) (Below.size (hb17)) hb18)) (Below.size ((Below.step (hb17) (Below.size (hb17)) hb18))) hb19))) hb20))) hb21))) hb22)) (Below.size ((Below.step ((Below.step ((Below.step ((Below.step ((Below.step (hb17) (Below.size (hb17)) hb18)) (Below.size ((Below.step (hb17) (Below.size (hb17)) hb18))) hb19)) (Below.size ((Below.step ((Below.step (hb17) (Below.size (hb17)) hb18)) (Below.size ((Below.step (hb17) (Below.size (hb17)) hb18))) hb19))) hb20)) (Below.size ((Below.step ((Below.step ((Below.step (hb17) (Below.size (hb17)) hb18)) (Below.size ((Below.step (hb17) (Below.size (hb17)) hb18))) hb19)) (Below.size ((Below.step ((Below.step (hb17) (Below.size (hb17)) hb18)) (Below.size ((Below.step (hb17) (Below.size (hb17)) hb18))) hb19))) hb20))) hb21)) (Below.size ((Below.step ((Below.step ((Below.step ((Below.step (hb17) (Below.size (hb17)) hb18)) (Below.size ((Below.step (hb17) (Below.size (hb17)) hb18))) hb19)) (Below.size ((Below.step ((Below.step (hb17) (Below.size (hb17)) hb18)) (Below.size ((Below.step (hb17) (Below.size (hb17)) hb18))) hb19))) hb20)) (Below.size ((Below.step ((Below.step ((Below.step (hb17) (Below.size (hb17)) hb18)) (Below.size ((Below.step (hb17) (Below.size (hb17)) hb18))) hb19)) (Below.size ((Below.step ((Below.step (hb17) (Below.size (hb17)) hb18)) (Below.size ((Below.step (hb17) (Below.size (hb17)) hb18))) hb19))) hb20))) hb21))) hb22))) hb23))) hb24); have sP : (convert 25 9 (.slice AP 3 kP)).run Try.prog v24 = .ok (.string ⟨#[208, 15, 0]⟩) v24 := (hyP.to hPl hPl.size).str; have hLl := (hyL4.to hb24 (Below.size hb24)).h)
        | (go_at_call 15; (with_reducible refine (CS.out v24 AL4 kL4 hLl).mono ?_); rintro e v25 ⟨rfl, hb25⟩; have hB25 : Below w.heap.size w v25 := Below.step hB24 hB24.size hb25)
        | (go_at_call 16; (with_reducible refine (CA.out v25).mono ?_); rintro e v26 ⟨rfl, hb26⟩; have hB26 : Below w.heap.size w v26 := Below.step hB25 hB25.size hb26))
      go_ret
      exact ⟨by simp, hB26⟩

set_option maxRecDepth 100000 in
theorem lifted (os : Os) (started : os.Started) (H : Type) (enc : TypeId × Value → H) :
    ReturnsInHanded {} Try.checked os 3 .any (Rows.deltasNamesSpec.pre6 enc Try.prog Try.f3 Rows.deltasNamesRow.domain false) (Rows.deltasNamesSpec.post enc Try.prog Try.f3 false true false false) := by
  refine returnsInHanded_of_change (C := Try.checked) own started (by kernel_rfl) Try.func3
    (ChangeSpec.witness6 (enc := enc) (C := Try.checked) false ⟨#[], #[], []⟩ 12 (by kernel_rfl) (by kernel_rfl) (by kernel_rfl) (by kernel_rfl)) ?_
  intro W base args ds gs before hval0 hW hcnd _
  have hval : ∀ (j : Nat) t v, Try.f3.params[j]? = some t → args[j]? = some v → Value.okWide Try.prog W .any base t v := hval0
  have hW' := hW
  have hlt : ∀ x ∈ before, x.block < W.heap.size := fun x hx => by simpa using hW'.lt x hx
  obtain ⟨p, q, hA0, hV, rfl, hfz, hnd⟩ := hW
  have hA : DataW.TrodAll enc Try.prog W 0 (fun _ => true) true Try.f3.params.toList args.toList ds p := hA0
  rw [Try.params3] at hA hval
  
  obtain ⟨ha0, rfl, rfl⟩ := trodAll_nil hA
  obtain rfl : args = #[] := by cases args; simp_all
  obtain ⟨rfl, rfl⟩ := trodVars_none hV
  
  have hlo : laidOutB Try.prog = true := by kernel_rfl
  clear hA0 hval0
  simp only [List.append_nil] at hW' hlt
  refine (walk  W ).mono fun e W' ⟨he, hb⟩ => ?_
  subst he
  exact ⟨_, rfl, law_post hW' (trodAll_cons_mk (shut_bool Try.underlying4 _) trodAll_mk0) trodAll_mk0 rfl hb⟩

theorem over : Rows.deltasNamesRow.holds Try.pinned (OpenSpec.ofChange Rows.deltasNamesSpec) :=
  OpenClaim.holds_of_wide 3 Try.f3 rfl rfl rfl rfl rfl rfl rfl ⟨rfl, rfl, rfl, rfl, rfl⟩ rfl rfl rfl rfl rfl (by kernel_rfl) Try.func3 (by kernel_rfl)
    (of_decide_eq_true (by kernel_rfl)) (by unfold Func.isWrapper; first | (rw [if_pos (by decide +kernel)]; kernel_rfl) | (rw [if_neg (by decide +kernel)]; exact ⟨rfl, rfl⟩))
    (fun os started H enc _ => lifted os started H enc)

theorem proved : Rows.DeltasNamesSaid :=
  over
end Go.Proofs.Ytafhdckcclhjlaa.deltasNames
