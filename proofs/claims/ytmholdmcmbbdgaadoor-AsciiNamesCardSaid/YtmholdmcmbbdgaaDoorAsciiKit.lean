/- The chapter's circuit as text; the statement's own function on it. -/
import Derived.Test.YtmholdmcmbbdgaaDoorAsciiRef
import Derived.Test.YtmholdmcmbbdgaaDoorAsciiInj
import Derived.Test.YtmholdmcmbbdgaaDoorOrderSelf
namespace Go.Proofs.YtmholdmcmbbdgaaDoor
open Go.RowKit
set_option linter.unusedVariables false
set_option linter.unusedSimpArgs false

theorem dg1 (n : Nat) (h : n < 10) : dgs (n : Int) = [UInt8.ofNat (48 + n)] := by
  rw [dgs_nat _ (by omega), Lib.decDigits, dif_pos (by omega)]
  rfl
theorem dg2 (n : Nat) (h : 10 ≤ n) (h' : n < 100) : dgs (n : Int) = [UInt8.ofNat (48 + n / 10), UInt8.ofNat (48 + n % 10)] := by
  rw [dgs_nat _ (by omega), Int.toNat_natCast, Lib.decDigits, dif_neg (by omega), Lib.decDigits, dif_pos (by omega)]
  rfl
theorem dgs_0 : dgs 0 = [48] := dg1 0 (by decide)
theorem dgs_1 : dgs 1 = [49] := dg1 1 (by decide)
theorem dgs_2 : dgs 2 = [50] := dg1 2 (by decide)
theorem dgs_3 : dgs 3 = [51] := dg1 3 (by decide)
theorem dgs_4 : dgs 4 = [52] := dg1 4 (by decide)
theorem dgs_5 : dgs 5 = [53] := dg1 5 (by decide)
theorem dgs_6 : dgs 6 = [54] := dg1 6 (by decide)
theorem dgs_7 : dgs 7 = [55] := dg1 7 (by decide)
theorem dgs_8 : dgs 8 = [56] := dg1 8 (by decide)
theorem dgs_9 : dgs 9 = [57] := dg1 9 (by decide)
theorem dgs_12 : dgs 12 = [49, 50] := dg2 12 (by decide) (by decide)
theorem dgs_13 : dgs 13 = [49, 51] := dg2 13 (by decide) (by decide)
theorem dgs_14 : dgs 14 = [49, 52] := dg2 14 (by decide) (by decide)
theorem dgs_16 : dgs 16 = [49, 54] := dg2 16 (by decide) (by decide)
theorem dgs_18 : dgs 18 = [49, 56] := dg2 18 (by decide) (by decide)
theorem dgs_19 : dgs 19 = [49, 57] := dg2 19 (by decide) (by decide)

/-- the chapter's circuit, with a reset -/
def aC (z : Int) : Cr := ⟨0, 1, 0, 1, 0, fun _ => 3, fun _ => z, fun _ => 0, fun _ => 0, fun _ => 2, fun _ => 0⟩
theorem aC_chk0 : (aC 0).chk = 0 := by decide +kernel
theorem aC_chk2 : (aC 2).chk = 0 := by decide +kernel
theorem aC_sm (z : Int) (h : 0 ≤ z ∧ z ≤ 2) : Sm (aC z) := ⟨i64_k 0 (by decide) (by decide), (show 1 ≤ 1000 by decide), (show 0 ≤ 1000 by decide), (show 1 ≤ 1000 by decide), (show 0 ≤ 1000 by decide), fun _ => i64_k 3 (by decide) (by decide), fun _ => i64_k z (by omega) (by omega), fun _ => i64_k 0 (by decide) (by decide), fun _ => i64_k 0 (by decide) (by decide), fun _ => i64_k 2 (by decide) (by decide), fun _ => i64_k 0 (by decide) (by decide)⟩
theorem aC_tK {z : Int} (h : (aC z).chk = 0) : (aC z).tK = 0 := by unfold Cr.tK; rw [if_pos h, raw_chk h]
theorem aC_tE {z : Int} (h : (aC z).chk = 0) : (aC z).tE = (aC z).raw.txt := by unfold Cr.tE Rw.txtE; rw [if_pos h, if_pos (raw_chk h)]
theorem aC_t0 : (aC 0).tE = [97, 97, 103, 32, 49, 32, 48, 32, 49, 32, 48, 32, 48, 32, 49, 32, 48, 10, 50, 32, 51, 10, 50, 10] := by
  rw [aC_tE aC_chk0]
  simp [Rw.txt, lin, par, Rw.hd, ech, lts, gts, one, tri, ltn, lt3, aC, Cr.raw, Cr.sz, dgs_0, dgs_1, dgs_2, dgs_3]
theorem aC_t2 : (aC 2).tE = [97, 97, 103, 32, 49, 32, 48, 32, 49, 32, 48, 32, 48, 32, 49, 32, 48, 10, 50, 32, 51, 32, 50, 10, 50, 10] := by
  rw [aC_tE aC_chk2]
  simp [Rw.txt, lin, par, Rw.hd, ech, lts, gts, one, tri, ltn, lt3, aC, Cr.raw, Cr.sz, dgs_0, dgs_1, dgs_2, dgs_3]

theorem aC_mem {z : Int} {X : World} {b1 b2 : Nat} (h1 : Has X b1 55 #[.int .i64 3, .int .i64 z]) (h2 : Has X b2 3 #[.int .i64 2]) : Mem X X.heap.size (aC z) ⟨some ⟨b1, 0, none⟩, none, some ⟨b2, 0, none⟩, none, 1, 0, 1, 0⟩ :=
  ⟨pairs_of_has h1 (fun j hj => by rw [Nat.lt_one_iff.1 hj]; exact ⟨rfl, rfl⟩), fun h => absurd h (Nat.not_lt_zero _), ints_of_has h2 (fun j hj => by rw [Nat.lt_one_iff.1 hj]; rfl), fun h => absurd h (Nat.not_lt_zero _)⟩
theorem aC_nils (z : Int) (b1 b2 : Nat) : Nils (aC z) ⟨some ⟨b1, 0, none⟩, none, some ⟨b2, 0, none⟩, none, 1, 0, 1, 0⟩ :=
  ⟨(fun h => by cases h), fun _ => ⟨rfl, rfl⟩, (fun h => by cases h), fun _ => ⟨rfl, rfl⟩⟩
theorem alText0 {X : World} {b1 b2 : Nat} (h1 : Has X b1 55 #[.int .i64 3, .int .i64 0]) (h2 : Has X b2 3 #[.int .i64 2]) (ht : Tab X.heap.size X) :
    Calls Tryd.prog 11 #[.agg #[.int .i64 0, .slice (some ⟨b1, 0, none⟩) 1 1, .slice none 0 0, .slice (some ⟨b2, 0, none⟩) 1 1, .slice none 0 0]] X fun e w' => e = .returned (.tuple #[.string ⟨#[97, 97, 103, 32, 49, 32, 48, 32, 49, 32, 48, 32, 48, 32, 49, 32, 48, 10, 50, 32, 51, 10, 50, 10]⟩, .int .i64 0]) ∧ Below X.heap.size X w' := by
  have h := aText_any (aC 0) _ X (aC_mem h1 h2) (aC_sm 0 (by omega)) (aC_nils 0 b1 b2) ht
  unfold TextIs at h
  rw [aC_t0, aC_tK aC_chk0] at h
  exact h
theorem alText2 {X : World} {b1 b2 : Nat} (h1 : Has X b1 55 #[.int .i64 3, .int .i64 2]) (h2 : Has X b2 3 #[.int .i64 2]) (ht : Tab X.heap.size X) :
    Calls Tryd.prog 11 #[.agg #[.int .i64 0, .slice (some ⟨b1, 0, none⟩) 1 1, .slice none 0 0, .slice (some ⟨b2, 0, none⟩) 1 1, .slice none 0 0]] X fun e w' => e = .returned (.tuple #[.string ⟨#[97, 97, 103, 32, 49, 32, 48, 32, 49, 32, 48, 32, 48, 32, 49, 32, 48, 10, 50, 32, 51, 32, 50, 10, 50, 10]⟩, .int .i64 0]) ∧ Below X.heap.size X w' := by
  have h := aText_any (aC 2) _ X (aC_mem h1 h2) (aC_sm 2 (by omega)) (aC_nils 2 b1 b2) ht
  unfold TextIs at h
  rw [aC_t2, aC_tK aC_chk2] at h
  exact h

set_option maxRecDepth 100000 in
set_option maxHeartbeats 4000000 in
theorem alive7_any (w : World) (htab : Tab w.heap.size w) : Calls Tryd.prog 12 #[] w fun e w' => e = .returned (.bool true) ∧ Below w.heap.size w w' := by
  have HT := Lib.hid htab
  clear htab
  go_enter Tryd.func12, Tryd.ntmps12
  have hB0 : Below w.heap.size w (((w.alloc (.cells #[.int .i64 3, .int .i64 0] 55)).alloc (.cells #[.int .i64 2] 3)).alloc (.cells #[.int .i64 0, .slice (some ⟨w.heap.size, 0, none⟩) 1 1, .slice none 0 0, .slice (some ⟨w.heap.size + 1, 0, none⟩) 1 1, .slice none 0 0] 37)) := by go_grown
  have hL0 : Has (((w.alloc (.cells #[.int .i64 3, .int .i64 0] 55)).alloc (.cells #[.int .i64 2] 3)).alloc (.cells #[.int .i64 0, .slice (some ⟨w.heap.size, 0, none⟩) 1 1, .slice none 0 0, .slice (some ⟨w.heap.size + 1, 0, none⟩) 1 1, .slice none 0 0] 37)) w.heap.size 55 #[.int .i64 3, .int .i64 0] := ((Has.new' _ _ rfl).al _).al _
  have hI0 : Has (((w.alloc (.cells #[.int .i64 3, .int .i64 0] 55)).alloc (.cells #[.int .i64 2] 3)).alloc (.cells #[.int .i64 0, .slice (some ⟨w.heap.size, 0, none⟩) 1 1, .slice none 0 0, .slice (some ⟨w.heap.size + 1, 0, none⟩) 1 1, .slice none 0 0] 37)) (w.heap.size + 1) 3 #[.int .i64 2] := (Has.new' _ _ (by simp)).al _
  have hX0 : Has (((w.alloc (.cells #[.int .i64 3, .int .i64 0] 55)).alloc (.cells #[.int .i64 2] 3)).alloc (.cells #[.int .i64 0, .slice (some ⟨w.heap.size, 0, none⟩) 1 1, .slice none 0 0, .slice (some ⟨w.heap.size + 1, 0, none⟩) 1 1, .slice none 0 0] 37)) (w.heap.size + 1 + 1) 37 #[.int .i64 0, .slice (some ⟨w.heap.size, 0, none⟩) 1 1, .slice none 0 0, .slice (some ⟨w.heap.size + 1, 0, none⟩) 1 1, .slice none 0 0] := Has.new' _ _ (by simp)
  have H0 := Lib.hid (And.intro hB0 (And.intro hL0 (And.intro hI0 hX0)))
  clear hB0 hL0 hI0 hX0
  go_wp2_with (go_at_call 11; (with_reducible refine (alText0 (b1 := w.heap.size) (b2 := w.heap.size + 1) H0.out.2.1 H0.out.2.2.1 (Tab.up (HT.out.on H0.out.1) H0.out.1.size)).mono ?_); rintro e w1 ⟨rfl, hb1⟩; have hB1 := Below.step H0.out.1 H0.out.1.size hb1; have hL1 := H0.out.2.1.keep hb1 H0.out.2.1.lt; have hI1 := H0.out.2.2.1.keep hb1 H0.out.2.2.1.lt; have hX1 := H0.out.2.2.2.keep hb1 H0.out.2.2.2.lt; have x0 := hX1.cell 0; have x1 := hX1.cell 1; have x2 := hX1.cell 2; have x3 := hX1.cell 3; have x4 := hX1.cell 4; have l1 : w1.cell? ⟨w.heap.size, 1, none⟩ = some (.int .i64 0) := hL1.cell 1; have f1 := hL1.fz 1; simp only [List.getElem?_toArray, List.getElem?_cons_zero, List.getElem?_cons_succ] at x0 x1 x2 x3 x4)
  have hL2 : Has (w1.setCell ⟨w.heap.size, 1, none⟩ (.int .i64 2)) w.heap.size 55 #[.int .i64 3, .int .i64 2] := by simpa using hL1.set 1 (.int .i64 2)
  have hI2 : Has (w1.setCell ⟨w.heap.size, 1, none⟩ (.int .i64 2)) (w.heap.size + 1) 3 #[.int .i64 2] := hI1.far (by simp) _
  have hX2 : Has (w1.setCell ⟨w.heap.size, 1, none⟩ (.int .i64 2)) (w.heap.size + 1 + 1) 37 #[.int .i64 0, .slice (some ⟨w.heap.size, 0, none⟩) 1 1, .slice none 0 0, .slice (some ⟨w.heap.size + 1, 0, none⟩) 1 1, .slice none 0 0] := hX1.far (by simp; omega) _
  have hB2 : Below w.heap.size w (w1.setCell ⟨w.heap.size, 1, none⟩ (.int .i64 2)) := hB1.setCell (by simp) _
  have H2 := Lib.hid (And.intro hB2 (And.intro hL2 hI2))
  clear hL1 hI1 hX1 hL2 hI2 hX2 hB2
  go_wp2_with (go_at_call 11; (with_reducible refine (alText2 (b1 := w.heap.size) (b2 := w.heap.size + 1) H2.out.2.1 H2.out.2.2 (Tab.up (HT.out.on H2.out.1) H2.out.1.size)).mono ?_); rintro e w2 ⟨rfl, hb2⟩; have hB2 := Below.step H2.out.1 H2.out.1.size hb2)
  go_ret
  exact ⟨by simp, hB2⟩
end Go.Proofs.YtmholdmcmbbdgaaDoor
