/- The raw circuits and circuits of the statement on names: their texts and errors; a circuit of a thousand gates. -/
import Derived.Test.YtmholdmcmbbdgaaDoorAsciiLn
namespace Go.Proofs.YtmholdmcmbbdgaaDoor
open Go.RowKit
set_option linter.unusedVariables false
set_option linter.unusedSimpArgs false

def nmR : Rw := ⟨9, 1, 3, 2, 2, 1, fun _ => 18, fun j => if j = 0 then 4 else if j = 1 then 14 else 16, fun j => if j = 0 then 13 else if j = 1 then 1 else 0, fun j => if j = 0 then 2 else if j = 1 then 1 else 0, fun j => if j = 0 then 12 else 8, fun j => if j = 0 then 19 else 1, fun j => if j = 0 then 8 else 4, fun j => if j = 0 then 8 else 0, fun _ => 5⟩
def nmR2 : Rw := ⟨9, 1, 3, 2, 1, 1, fun _ => 18, fun j => if j = 0 then 4 else if j = 1 then 14 else 16, fun j => if j = 0 then 13 else if j = 1 then 1 else 0, fun j => if j = 0 then 2 else if j = 1 then 1 else 0, fun j => if j = 0 then 12 else 8, fun j => if j = 0 then 19 else 1, fun j => if j = 0 then 8 else 4, fun _ => 2, fun _ => 5⟩
def nmRm : Rw := ⟨1001, 0, 0, 0, 0, 0, fun _ => 0, fun _ => 0, fun _ => 0, fun _ => 0, fun _ => 0, fun _ => 0, fun _ => 0, fun _ => 0, fun _ => 0⟩
theorem nmR_chk : nmR.chk = 0 := by decide +kernel
theorem nmR2_chk : nmR2.chk = 46 := by decide +kernel
theorem nmRm_chk : nmRm.chk = 4 := by decide +kernel
theorem nul_chk7 : nulR.chk = 0 := by decide +kernel
theorem k64 (k : Int) (h : decide (-100000 ≤ k ∧ k ≤ 100000) = true) : I64 k := by have := of_decide_eq_true h; exact i64_k k this.1 this.2
theorem nmR_sm : RSm nmR := ⟨k64 9 rfl, by decide, by decide, by decide, by decide, by decide, fun _ _ => k64 18 rfl, fun _ _ => ite_bd (k64 4 rfl) (ite_bd (k64 14 rfl) (k64 16 rfl)), fun _ _ => ite_bd (k64 13 rfl) (ite_bd (k64 1 rfl) (k64 0 rfl)), fun _ _ => ite_bd (k64 2 rfl) (ite_bd (k64 1 rfl) (k64 0 rfl)), fun _ _ => ite_bd (k64 12 rfl) (k64 8 rfl), fun _ _ => ite_bd (k64 19 rfl) (k64 1 rfl), fun _ _ => ite_bd (k64 8 rfl) (k64 4 rfl), fun _ _ => ite_bd (k64 8 rfl) (k64 0 rfl), fun _ _ => k64 5 rfl⟩
theorem nmR2_sm : RSm nmR2 := ⟨k64 9 rfl, by decide, by decide, by decide, by decide, by decide, fun _ _ => k64 18 rfl, fun _ _ => ite_bd (k64 4 rfl) (ite_bd (k64 14 rfl) (k64 16 rfl)), fun _ _ => ite_bd (k64 13 rfl) (ite_bd (k64 1 rfl) (k64 0 rfl)), fun _ _ => ite_bd (k64 2 rfl) (ite_bd (k64 1 rfl) (k64 0 rfl)), fun _ _ => ite_bd (k64 12 rfl) (k64 8 rfl), fun _ _ => ite_bd (k64 19 rfl) (k64 1 rfl), fun _ _ => ite_bd (k64 8 rfl) (k64 4 rfl), fun _ _ => k64 2 rfl, fun _ _ => k64 5 rfl⟩
theorem nmRm_sm : RSm nmRm := ⟨k64 1001 rfl, by decide, by decide, by decide, by decide, by decide, fun _ _ => k64 0 rfl, fun _ _ => k64 0 rfl, fun _ _ => k64 0 rfl, fun _ _ => k64 0 rfl, fun _ _ => k64 0 rfl, fun _ _ => k64 0 rfl, fun _ _ => k64 0 rfl, fun _ _ => k64 0 rfl, fun _ _ => k64 0 rfl⟩
theorem nmR_txt : nmR.txt = [97, 97, 103, 32, 57, 32, 49, 32, 51, 32, 48, 32, 50, 32, 50, 32, 49, 10, 49, 56, 10, 52, 32, 49, 51, 32, 52, 10, 49, 52, 32, 49, 32, 49, 10, 49, 54, 32, 48, 10, 56, 10, 48, 10, 53, 10, 49, 50, 32, 49, 57, 32, 56, 10, 56, 32, 49, 32, 52, 10] := by
  simp [nmR, Rw.txt, lin, par, Rw.hd, ech, lts, gts, one, tri, ltn, lt3, dgs_0, dgs_1, dgs_2, dgs_3, dgs_4, dgs_5, dgs_8, dgs_9, dgs_12, dgs_13, dgs_14, dgs_16, dgs_18, dgs_19]
theorem nul_txt : nulR.txt = [97, 97, 103, 32, 48, 32, 48, 32, 48, 32, 48, 32, 48, 32, 48, 32, 48, 10] := by
  simp [nulR, Rw.txt, lin, par, Rw.hd, ech, lts, gts, one, tri, ltn, lt3, dgs_0, dgs_1, dgs_2, dgs_3, dgs_4, dgs_5, dgs_8, dgs_9, dgs_12, dgs_13, dgs_14, dgs_16, dgs_18, dgs_19]

theorem trips_of_has {w : World} {g : Nat} {t : TypeId} {cs : Array Value} {n : Nat} {f h k : Nat → Int} (hh : Has w g t cs) (hc : ∀ j, j < n → cs[j * 3]? = some (.int .i64 (f j)) ∧ cs[j * 3 + 1]? = some (.int .i64 (h j)) ∧ cs[j * 3 + 2]? = some (.int .i64 (k j))) : TripsAt w w.heap.size (some ⟨g, 0, none⟩) n f h k := fun _ =>
  ⟨_, rfl, hh.lt, fun j hj => by
    have e : ∀ i, (⟨g, 0, none⟩ : Addr).add i = ⟨g, i, none⟩ := fun i => by unfold Addr.add; split <;> simp_all
    rw [e, hh.cell, (hc j hj).1, hh.cell, (hc j hj).2.1, hh.cell, (hc j hj).2.2]
    exact ⟨rfl, rfl, rfl⟩⟩
/-- where the lists of the raw circuit lie -/
def NmAt (X : World) (b0 b1 b2 b4 : Nat) : Prop := Has X b0 3 #[.int .i64 18] ∧ Has X b1 24 #[.int .i64 4, .int .i64 13, .int .i64 2, .int .i64 14, .int .i64 1, .int .i64 1, .int .i64 16, .int .i64 0, .int .i64 0] ∧ Has X b2 24 #[.int .i64 12, .int .i64 19, .int .i64 8, .int .i64 8, .int .i64 1, .int .i64 4] ∧ Has X b4 3 #[.int .i64 5]
theorem NmAt.keep {X X' : World} {b0 b1 b2 b4 : Nat} (h : NmAt X b0 b1 b2 b4) (hb : Below X.heap.size X X') : NmAt X' b0 b1 b2 b4 := ⟨h.1.keep hb h.1.lt, h.2.1.keep hb h.2.1.lt, h.2.2.1.keep hb h.2.2.1.lt, h.2.2.2.keep hb h.2.2.2.lt⟩
theorem ltm3 {j : Nat} (h : j < 3) : j = 0 ∨ j = 1 ∨ j = 2 := by omega
section
variable {X : World} {b0 b1 b2 b3 b4 : Nat}
theorem nmR_mem (h : NmAt X b0 b1 b2 b4) (h3 : Has X b3 3 #[.int .i64 8, .int .i64 0]) : RMem X X.heap.size nmR ⟨some ⟨b0, 0, none⟩, some ⟨b1, 0, none⟩, some ⟨b2, 0, none⟩, some ⟨b3, 0, none⟩, some ⟨b4, 0, none⟩, 1, 3, 2, 2, 1⟩ :=
  ⟨ints_of_has h.1 (fun j hj => by rw [Nat.lt_one_iff.1 hj]; rfl), trips_of_has h.2.1 (fun j hj => by rcases ltm3 hj with rfl | rfl | rfl <;> exact ⟨rfl, rfl, rfl⟩), trips_of_has h.2.2.1 (fun j hj => by rcases lt2 hj with rfl | rfl <;> exact ⟨rfl, rfl, rfl⟩), ints_of_has h3 (fun j hj => by rcases lt2 hj with rfl | rfl <;> rfl), ints_of_has h.2.2.2 (fun j hj => by rw [Nat.lt_one_iff.1 hj]; rfl)⟩
theorem nmR2_mem (h : NmAt X b0 b1 b2 b4) (h3 : Has X b3 3 #[.int .i64 2]) : RMem X X.heap.size nmR2 ⟨some ⟨b0, 0, none⟩, some ⟨b1, 0, none⟩, some ⟨b2, 0, none⟩, some ⟨b3, 0, none⟩, some ⟨b4, 0, none⟩, 1, 3, 2, 1, 1⟩ :=
  ⟨ints_of_has h.1 (fun j hj => by rw [Nat.lt_one_iff.1 hj]; rfl), trips_of_has h.2.1 (fun j hj => by rcases ltm3 hj with rfl | rfl | rfl <;> exact ⟨rfl, rfl, rfl⟩), trips_of_has h.2.2.1 (fun j hj => by rcases lt2 hj with rfl | rfl <;> exact ⟨rfl, rfl, rfl⟩), ints_of_has h3 (fun j hj => by rw [Nat.lt_one_iff.1 hj]; rfl), ints_of_has h.2.2.2 (fun j hj => by rw [Nat.lt_one_iff.1 hj]; rfl)⟩
theorem nmR_nils (r : Rw) (k1 k2 k3 k4 k5 : Nat) : RNils r ⟨some ⟨b0, 0, none⟩, some ⟨b1, 0, none⟩, some ⟨b2, 0, none⟩, some ⟨b3, 0, none⟩, some ⟨b4, 0, none⟩, k1, k2, k3, k4, k5⟩ := ⟨(fun h => by cases h), (fun h => by cases h), (fun h => by cases h), (fun h => by cases h), (fun h => by cases h)⟩
theorem nmRm_mem : RMem X X.heap.size nmRm nulRp := ⟨fun h => absurd h (Nat.not_lt_zero _), fun h => absurd h (Nat.not_lt_zero _), fun h => absurd h (Nat.not_lt_zero _), fun h => absurd h (Nat.not_lt_zero _), fun h => absurd h (Nat.not_lt_zero _)⟩
theorem nil_nils {r : Rw} (h1 : r.ni = 0) (h2 : r.nl = 0) (h3 : r.na = 0) (h4 : r.nb = 0) (h5 : r.nc = 0) : RNils r nulRp := ⟨fun _ => ⟨h1, rfl⟩, fun _ => ⟨h2, rfl⟩, fun _ => ⟨h3, rfl⟩, fun _ => ⟨h4, rfl⟩, fun _ => ⟨h5, rfl⟩⟩
theorem nRaw (h : NmAt X b0 b1 b2 b4) (h3 : Has X b3 3 #[.int .i64 8, .int .i64 0]) (ht : Tab X.heap.size X) : Calls Tryd.prog 9 #[.agg #[.int .i64 9, .slice (some ⟨b0, 0, none⟩) 1 1, .slice (some ⟨b1, 0, none⟩) 3 3, .slice (some ⟨b2, 0, none⟩) 2 2, .slice (some ⟨b3, 0, none⟩) 2 2, .slice (some ⟨b4, 0, none⟩) 1 1]] X fun e w' => e = .returned (.tuple #[.string ⟨#[97, 97, 103, 32, 57, 32, 49, 32, 51, 32, 48, 32, 50, 32, 50, 32, 49, 10, 49, 56, 10, 52, 32, 49, 51, 32, 52, 10, 49, 52, 32, 49, 32, 49, 10, 49, 54, 32, 48, 10, 56, 10, 48, 10, 53, 10, 49, 50, 32, 49, 57, 32, 56, 10, 56, 32, 49, 32, 52, 10]⟩, .int .i64 0]) ∧ Below X.heap.size X w' := by
  have k := aRaw_yes nmR _ X nmR_chk nmR_sm (nmR_mem h h3) (nmR_nils _ _ _ _ _ _) ht
  rw [nmR_txt] at k
  exact k
theorem nLines (h : NmAt X b0 b1 b2 b4) (h3 : Has X b3 3 #[.int .i64 8, .int .i64 0]) : Calls Tryd.prog 10 #[.agg #[.int .i64 9, .slice (some ⟨b0, 0, none⟩) 1 1, .slice (some ⟨b1, 0, none⟩) 3 3, .slice (some ⟨b2, 0, none⟩) 2 2, .slice (some ⟨b3, 0, none⟩) 2 2, .slice (some ⟨b4, 0, none⟩) 1 1]] X fun e w' => e = .returned (.tuple #[.int .i64 10, .int .i64 0]) ∧ Below X.heap.size X w' := by
  have k := aLines_any nmR _ X nmR_sm (nmR_mem h h3) (nmR_nils _ _ _ _ _ _)
  rw [nmR_chk, show nmR.lnsE = 10 by decide +kernel] at k
  exact k
theorem nRaw2 (h : NmAt X b0 b1 b2 b4) (h3 : Has X b3 3 #[.int .i64 2]) (ht : Tab X.heap.size X) : Calls Tryd.prog 9 #[.agg #[.int .i64 9, .slice (some ⟨b0, 0, none⟩) 1 1, .slice (some ⟨b1, 0, none⟩) 3 3, .slice (some ⟨b2, 0, none⟩) 2 2, .slice (some ⟨b3, 0, none⟩) 1 1, .slice (some ⟨b4, 0, none⟩) 1 1]] X fun e w' => e = .returned (.tuple #[.string ⟨#[]⟩, .int .i64 46]) ∧ Below X.heap.size X w' := by
  have k := aRaw_any nmR2 _ X nmR2_sm (nmR2_mem h h3) (nmR_nils _ _ _ _ _ _) ht
  rw [nmR2_chk, show nmR2.txtE = [] by unfold Rw.txtE; rw [nmR2_chk]; rfl] at k
  exact k
theorem nLines2 (h : NmAt X b0 b1 b2 b4) (h3 : Has X b3 3 #[.int .i64 2]) : Calls Tryd.prog 10 #[.agg #[.int .i64 9, .slice (some ⟨b0, 0, none⟩) 1 1, .slice (some ⟨b1, 0, none⟩) 3 3, .slice (some ⟨b2, 0, none⟩) 2 2, .slice (some ⟨b3, 0, none⟩) 1 1, .slice (some ⟨b4, 0, none⟩) 1 1]] X fun e w' => e = .returned (.tuple #[.int .i64 0, .int .i64 46]) ∧ Below X.heap.size X w' := by
  have k := aLines_any nmR2 _ X nmR2_sm (nmR2_mem h h3) (nmR_nils _ _ _ _ _ _)
  rw [nmR2_chk, show nmR2.lnsE = 0 by decide +kernel] at k
  exact k
theorem nLinesM : Calls Tryd.prog 10 #[.agg #[.int .i64 1001, .slice none 0 0, .slice none 0 0, .slice none 0 0, .slice none 0 0, .slice none 0 0]] X fun e w' => e = .returned (.tuple #[.int .i64 0, .int .i64 4]) ∧ Below X.heap.size X w' := by
  have k := aLines_any nmRm nulRp X nmRm_sm nmRm_mem (nil_nils rfl rfl rfl rfl rfl)
  rw [nmRm_chk, show nmRm.lnsE = 0 by decide +kernel] at k
  exact k
theorem nEmpty (ht : Tab X.heap.size X) : Calls Tryd.prog 9 #[.agg #[.int .i64 0, .slice none 0 0, .slice none 0 0, .slice none 0 0, .slice none 0 0, .slice none 0 0]] X fun e w' => e = .returned (.tuple #[.string ⟨#[97, 97, 103, 32, 48, 32, 48, 32, 48, 32, 48, 32, 48, 32, 48, 32, 48, 10]⟩, .int .i64 0]) ∧ Below X.heap.size X w' := by
  have k := aRaw_yes nulR nulRp X nul_chk7 nulR_sm (nulR_mem X) (nil_nils rfl rfl rfl rfl rfl) ht
  rw [nul_txt] at k
  exact k
/-- circuits without lists -/
def zC (i : Int) : Cr := ⟨i, 0, 0, 0, 0, fun _ => 0, fun _ => 0, fun _ => 0, fun _ => 0, fun _ => 0, fun _ => 0⟩
theorem zC_chk : (zC 0).chk = 0 := by decide +kernel
theorem zC_chkm : (zC (-1)).chk = 8 := by decide +kernel
theorem zC_sm {i : Int} (h : I64 i) : Sm (zC i) := ⟨h, (show 0 ≤ 1000 by decide), (show 0 ≤ 1000 by decide), (show 0 ≤ 1000 by decide), (show 0 ≤ 1000 by decide), fun _ => k64 0 rfl, fun _ => k64 0 rfl, fun _ => k64 0 rfl, fun _ => k64 0 rfl, fun _ => k64 0 rfl, fun _ => k64 0 rfl⟩
theorem zC_mem (i : Int) : Mem X X.heap.size (zC i) ⟨none, none, none, none, 0, 0, 0, 0⟩ := ⟨fun h => absurd h (Nat.not_lt_zero _), fun h => absurd h (Nat.not_lt_zero _), fun h => absurd h (Nat.not_lt_zero _), fun h => absurd h (Nat.not_lt_zero _)⟩
theorem zC_nils (i : Int) : Nils (zC i) ⟨none, none, none, none, 0, 0, 0, 0⟩ := ⟨fun _ => ⟨rfl, rfl⟩, fun _ => ⟨rfl, rfl⟩, fun _ => ⟨rfl, rfl⟩, fun _ => ⟨rfl, rfl⟩⟩
theorem zC_txt : (zC 0).raw.txt = [97, 97, 103, 32, 48, 32, 48, 32, 48, 32, 48, 32, 48, 32, 48, 32, 48, 10] := by
  simp [zC, Cr.raw, Cr.sz, Rw.txt, lin, par, Rw.hd, ech, lts, gts, one, tri, ltn, lt3, dgs_0, dgs_1, dgs_2, dgs_3, dgs_4, dgs_5, dgs_8, dgs_9, dgs_12, dgs_13, dgs_14, dgs_16, dgs_18, dgs_19]
theorem nText (ht : Tab X.heap.size X) : Calls Tryd.prog 11 #[.agg #[.int .i64 0, .slice none 0 0, .slice none 0 0, .slice none 0 0, .slice none 0 0]] X fun e w' => e = .returned (.tuple #[.string ⟨#[97, 97, 103, 32, 48, 32, 48, 32, 48, 32, 48, 32, 48, 32, 48, 32, 48, 10]⟩, .int .i64 0]) ∧ Below X.heap.size X w' := by
  have k := aText_any (zC 0) _ X (zC_mem 0) (zC_sm (k64 0 rfl)) (zC_nils 0) ht
  unfold TextIs at k
  rw [show (zC 0).tE = (zC 0).raw.txt by unfold Cr.tE Rw.txtE; rw [if_pos zC_chk, if_pos (raw_chk zC_chk)], zC_txt, show (zC 0).tK = 0 by unfold Cr.tK; rw [if_pos zC_chk, raw_chk zC_chk]] at k
  exact k
theorem nTextM (ht : Tab X.heap.size X) : Calls Tryd.prog 11 #[.agg #[.int .i64 (-1), .slice none 0 0, .slice none 0 0, .slice none 0 0, .slice none 0 0]] X fun e w' => e = .returned (.tuple #[.string ⟨#[]⟩, .int .i64 8]) ∧ Below X.heap.size X w' := by
  have k := aText_any (zC (-1)) _ X (zC_mem (-1)) (zC_sm (k64 (-1) rfl)) (zC_nils (-1)) ht
  unfold TextIs at k
  rw [show (zC (-1)).tE = [] by unfold Cr.tE; rw [if_neg (by rw [zC_chkm]; decide)], show (zC (-1)).tK = 8 by unfold Cr.tK; rw [if_neg (by rw [zC_chkm]; decide), zC_chkm]] at k
  exact k
end

/-- a thousand gates -/
def bG (j : Nat) : Int := if j < 1000 then 2 * (j : Int) + 1 else 0
def bC : Cr := ⟨0, 0, 1000, 0, 0, fun _ => 0, fun _ => 0, bG, bG, fun _ => 0, fun _ => 0⟩
theorem bG_64 (j : Nat) : I64 (bG j) := by
  unfold bG I64
  split <;> omega
theorem bC_sm : Sm bC := ⟨k64 0 rfl, by decide, by decide, by decide, by decide, fun _ => k64 0 rfl, fun _ => k64 0 rfl, bG_64, bG_64, fun _ => k64 0 rfl, fun _ => k64 0 rfl⟩
theorem bC_chk : bC.chk = 0 := by
  refine Cr.chk_ok (by decide) (by show ¬ ((1000 : Int) < 0 + ((0 : Nat) : Int) + ((1000 : Nat) : Int) ∨ 100 < 0 ∨ 100 < 0); omega) ⟨decide_eq_true fun j hj => absurd hj (Nat.not_lt_zero _), decide_eq_true fun j hj => absurd hj (Nat.not_lt_zero _), decide_eq_true fun j hj => absurd hj (Nat.not_lt_zero _), decide_eq_true fun j hj => ?_⟩
  have hj : j < 1000 := hj
  show 0 ≤ bG j ∧ bG j ≤ bG j ∧ bG j / 2 ≤ 0 + ((0 : Nat) : Int) + (j : Int)
  unfold bG
  rw [if_pos hj]
  omega
theorem dgs_ge {x : Int} (h : 100 ≤ x) : 3 ≤ (dgs x).length := by
  rw [dgs_nat x (by omega), Lib.decDigits_length, Lib.nDigits_big (by omega), Lib.nDigits_big (by omega)]
  have := Lib.nDigits_pos (x.toNat / 10 / 10)
  omega
theorem tri_ge {x y z : Int} (hx : 100 ≤ x) (hy : 100 ≤ y) (hz : 100 ≤ z) : 12 ≤ (lin (tri x y z) 3).length := by
  have a := dgs_ge hx
  have b := dgs_ge hy
  have d := dgs_ge hz
  have e : lin (tri x y z) 3 = dgs x ++ [32] ++ dgs y ++ [32] ++ dgs z ++ [10] := by simp [lin, par, tri]
  rw [e]
  simp only [List.length_append, List.length_cons, List.length_nil]
  omega
theorem gts_ge {f g h : Nat → Int} : ∀ {n : Nat}, n ≤ 1000 → (∀ j, 50 ≤ j → j < 1000 → 100 ≤ f j ∧ 100 ≤ g j ∧ 100 ≤ h j) → 12 * n ≤ (gts f g h n).length + 600
  | 0, _, _ => by simp
  | n + 1, hn, H => by
    have ih := gts_ge (n := n) (by omega) H
    rw [gts, List.length_append]
    rcases Nat.lt_or_ge n 50 with h5 | h5
    · omega
    · obtain ⟨a, b, d⟩ := H n h5 (by omega)
      have := tri_ge a b d
      omega
theorem bC_len : 10000 < bC.raw.txt.length ∧ bC.raw.txt.length ≤ 60000 := by
  have h := gts_ge (f := bC.raw.gl) (g := bC.raw.ga) (h := bC.raw.gb) (n := 1000) (Nat.le_refl _) (fun j h1 h2 => by
    show 100 ≤ 2 * (1 + 0 + ((0 : Nat) : Int) + (j : Int)) ∧ 100 ≤ bG j ∧ 100 ≤ bG j
    unfold bG
    rw [if_pos h2]
    omega)
  have hu := (Rw.t_len (Bd.of (raw_chk bC_chk))).2.2.2.2.2 1000 (Nat.le_refl _)
  have e : bC.raw.t6 1000 = bC.raw.txt := Rw.t6_txt bC.raw
  rw [e] at hu
  refine ⟨?_, by omega⟩
  have e2 : bC.raw.txt.length = (bC.raw.t5).length + (gts bC.raw.gl bC.raw.ga bC.raw.gb 1000).length := by
    rw [← e, Rw.t6, List.length_append]
  omega
theorem slice_of_succ {W : World} {base : Nat} {e : TypeId} {size : Nat} {v : Value} {k : Nat} {xs : List Value} (h : W.ownsRow base e size v (k + 1) xs) : ∃ g cap, v = .slice (some ⟨g, 0, none⟩) (k + 1) cap := by
  rcases h.2 with ⟨_, h0⟩ | ⟨g, cap, cur, hv, _⟩
  · omega
  · exact ⟨g, cap, hv⟩
theorem pairL_congr {f g f' g' : Nat → Int} : ∀ {n : Nat}, (∀ j, j < n → f j = f' j ∧ g j = g' j) → pairL f g n = pairL f' g' n
  | 0, _ => rfl
  | n + 1, h => by rw [pairL, pairL, pairL_congr (n := n) fun j hj => h j (by omega), (h n (by omega)).1, (h n (by omega)).2]
/-- its text -/
theorem nBig : ∃ S, ∃ m : Nat, (∀ W : World, (Builtin.len_ #[9] 3 #[.string S]).run Tryd.prog W = .ok (.int .i64 (m : Int)) W) ∧ 10000 < m ∧ m ≤ 60000 ∧ ∀ (X : World) (base : Nat) (v : Value) (n : Nat), n = 1000 → X.ownsRow base 39 2 v n (pairL (fun j => 2 * (j : Int) + 1) (fun j => 2 * (j : Int) + 1) n) → Tab X.heap.size X →
    Calls Tryd.prog 11 #[.agg #[.int .i64 0, .slice none 0 0, v, .slice none 0 0, .slice none 0 0]] X fun e w' => e = .returned (.tuple #[.string S, .int .i64 0]) ∧ Below X.heap.size X w' := by
  refine ⟨str bC.raw.txt, bC.raw.txt.length, fun W => str_len Tryd.underlying9 _ W, bC_len.1, bC_len.2, fun X base v n hn0 ho ht => ?_⟩
  subst hn0
  have e : pairL (fun j => 2 * (j : Int) + 1) (fun j => 2 * (j : Int) + 1) 1000 = pairL bG bG 1000 := pairL_congr fun j hj => by
    unfold bG
    rw [if_pos hj]
    exact ⟨rfl, rfl⟩
  rw [e] at ho
  rcases ho.2 with ⟨rfl, hn⟩ | ⟨g, cap, cur, rfl, _, hh, _⟩
  · exfalso
    have hl := pairL_len bG bG 1000
    have h0 : (pairL bG bG 1000).length = 0 := by first | (rw [hn]; rfl) | (rw [congrArg List.length hn]; rfl) | omega
    omega
  · have hm : Mem X X.heap.size bC ⟨none, some ⟨g, 0, none⟩, none, none, 0, cap, 0, 0⟩ := ⟨fun h => absurd h (Nat.not_lt_zero _), own_pairs ho (fun _ => own_lt ho), fun h => absurd h (Nat.not_lt_zero _), fun h => absurd h (Nat.not_lt_zero _)⟩
    have k := aText_any bC _ X hm bC_sm ⟨fun _ => ⟨rfl, rfl⟩, (fun h => by cases h), fun _ => ⟨rfl, rfl⟩, fun _ => ⟨rfl, rfl⟩⟩ ht
    unfold TextIs at k
    rw [show bC.tE = bC.raw.txt by unfold Cr.tE Rw.txtE; rw [if_pos bC_chk, if_pos (raw_chk bC_chk)], show bC.tK = 0 by unfold Cr.tK; rw [if_pos bC_chk, raw_chk bC_chk]] at k
    exact k
end Go.Proofs.YtmholdmcmbbdgaaDoor
