/- The closed facts of DeltasNames. -/
import Derived.Test.YtafhdckcclhjlaaDeltaKit3
import Derived.Laws.MakeOwn
namespace Go.Proofs.Ytafhdckcclhjlaa
open Go Go.RowKit
set_option linter.unusedVariables false
set_option linter.unusedSimpArgs false

theorem bts0 : bts 0 = [0] := by rw [bts_lo (by decide)]; rfl
theorem bts127 : bts 127 = [127] := by rw [bts_lo (by decide)]; rfl
theorem bts128 : bts 128 = [128, 1] := by rw [bts_hi (by decide), bts_lo (by decide)]; rfl
theorem bts16383 : bts 16383 = [255, 127] := by rw [bts_hi (by decide), bts_lo (by decide)]; rfl
theorem bts16384 : bts 16384 = [128, 128, 1] := by rw [bts_hi (by decide), bts_hi (by decide), bts_lo (by decide)]; rfl
theorem bts2147483647 : bts 2147483647 = [255, 255, 255, 255, 7] := by rw [bts_hi (by decide), bts_hi (by decide), bts_hi (by decide), bts_hi (by decide), bts_lo (by decide)]; rfl
theorem bts2000 : bts 2000 = [208, 15] := by rw [bts_hi (by decide), bts_lo (by decide)]; rfl
theorem reads_nil (W : World) : Calls Try.prog 11 #[.int .i64 6, .slice none 0 0] W fun e w' => e = .returned (.bool true) ∧ W = w' :=
  reads_yes none [] 0 6 W ⟨fun h => absurd h (Nat.lt_irrefl 0), fun _ => ⟨rfl, rfl⟩, Nat.le_refl _⟩ (by decide) (by decide +kernel) (by decide)
theorem dPack_err {v x : Int} {n : Nat} (hv : I64 v) (A : Option Addr) (k : Nat) (hn : n ≤ 100000) (hE : asd v n = x) (h0 : x ≠ 0) (W : World) : Calls Try.prog 13 #[.int .i64 v, .slice A n k] W fun e w' => e = .returned (.tuple #[.slice none 0 0, .int .i64 x]) ∧ W = w' := by
  have h := dPack_no hv A n k W hn (by rw [hE]; exact h0)
  rw [hE] at h
  exact h
theorem dUnpack_err {v n x : Int} (hv : I64 v) (hn : I64 n) (hE : asd v n = x) (h0 : x ≠ 0) (W : World) : Calls Try.prog 14 #[.int .i64 v, .int .i64 n, .slice none 0 0] W fun e w' => ∃ A k, e = .returned (.tuple #[.slice A 0 k, .int .i64 0, .int .i64 x]) ∧ Below W.heap.size W w' := by
  have hne : asd v n ≠ 0 := by rw [hE]; exact h0
  have hu : unE v n [] = x := by unfold unE; rw [if_pos hne, hE]
  have hu0 : unE v n [] ≠ 0 := by rw [hu]; exact h0
  refine (dUnpack_no hv hn none [] 0 W hne).mono fun e w' => ?_
  rintro ⟨A, k, rfl, hy, hb⟩
  exact ⟨A, k, by rw [show unN v n [] = 0 from if_neg hu0, show unS v n [] = 0 from if_neg hu0, hu]; rfl, hb⟩
/-- an Unpack of bytes that have just been laid -/
theorem unLit {v n x s : Int} {N m : Nat} {l : List UInt8} {cs : Array Value} (hv : I64 v) (hn : I64 n) (hE : unE v n l = x) (hN : unN v n l = N) (hS : (unS v n l : Int) = s) (hm : l.length = m) (hl : m ≤ 1000) (hcs : cs = (bC l).toArray) (W : World) : Calls Try.prog 14 #[.int .i64 v, .int .i64 n, .slice (some ⟨W.heap.size, 0, none⟩) m m] (W.alloc (.cells cs 5)) fun e w' => ∃ A k, e = .returned (.tuple #[.slice A N k, .int .i64 s, .int .i64 x]) ∧ Gts w' w'.heap.size A N k (unA v n l) (unB v n l) ∧ Below W.heap.size W w' := by
  subst hm
  refine (dUnpack_any hv hn _ l _ _ (Bya.lit W hl hcs) (by omega)).mono fun e w' => ?_
  rintro ⟨A, k, rfl, hy, hb⟩
  rw [hE, hS]
  rw [hN] at hy ⊢
  exact ⟨A, k, rfl, hy, below_lit W _ hb⟩
theorem pk1000 : pkE 1000 (fun _ => 0) (fun _ => 0) 1 = 0 ∧ pkL 1000 (fun _ => 0) (fun _ => 0) 1 = [208, 15, 0] := by
  have e : pkE 1000 (fun _ => 0) (fun _ => 0) 1 = 0 := by decide +kernel
  refine ⟨e, ?_⟩
  unfold pkL
  rw [if_pos e, pk, pk]
  show [] ++ bts 2000 ++ bts 0 = _
  rw [bts2000, bts0]
  rfl
theorem dPack1000 (W : World) : Calls Try.prog 13 #[.int .i64 1000, .slice (some ⟨W.heap.size, 0, none⟩) 1 1] (W.alloc (.cells #[.int .i64 0, .int .i64 0] 29)) fun e w' => ∃ A k, e = .returned (.tuple #[.slice A 3 k, .int .i64 0]) ∧ Bya w' w'.heap.size A [208, 15, 0] k ∧ Below W.heap.size W w' := by
  refine (dPack_yes (v := 1000) (some ⟨W.heap.size, 0, none⟩) 1 1 _ _ _ (Gts.lit W 0 0 (i64_small (by decide) (by decide)) (i64_small (by decide) (by decide))) (by decide +kernel)).mono fun e w' => ?_
  rintro ⟨A, k, rfl, hy, hb, _⟩
  rw [pk1000.1]
  rw [pk1000.2] at hy ⊢
  exact ⟨A, k, rfl, hy, below_lit W _ hb⟩
/-- the four gates that are not right -/
def badA (j : Nat) : Int := [8, 2, 1, -1].getD j 0
def badB (j : Nat) : Int := [0, 3, -1, -1].getD j 0
theorem bad_i64 (j : Nat) : I64 (badA j) ∧ I64 (badB j) := by
  match j with
  | 0 => exact ⟨i64_small (by decide) (by decide), i64_small (by decide) (by decide)⟩
  | 1 => exact ⟨i64_small (by decide) (by decide), i64_small (by decide) (by decide)⟩
  | 2 => exact ⟨i64_small (by decide) (by decide), i64_small (by decide) (by decide)⟩
  | 3 => exact ⟨i64_small (by decide) (by decide), i64_small (by decide) (by decide)⟩
  | j + 4 => exact ⟨show I64 0 from i64_z, show I64 0 from i64_z⟩
abbrev badCs : Array Value := #[.int .i64 8, .int .i64 0, .int .i64 2, .int .i64 3, .int .i64 1, .int .i64 (-1), .int .i64 (-1), .int .i64 (-1)]
theorem bad_pairs (W : World) : PairsAt (W.alloc (.cells badCs 29)) (W.alloc (.cells badCs 29)).heap.size (some ⟨W.heap.size, 0, none⟩) 4 badA badB := fun _ =>
  ⟨_, rfl, by simp, fun j hj => by
    have h := Has.new W 29 badCs
    rcases (by omega : j = 0 ∨ j = 1 ∨ j = 2 ∨ j = 3) with rfl | rfl | rfl | rfl
    · exact ⟨h.cell 0, h.cell 1⟩
    · exact ⟨h.cell 2, h.cell 3⟩
    · exact ⟨h.cell 4, h.cell 5⟩
    · exact ⟨h.cell 6, h.cell 7⟩⟩
theorem bad_pk {q : Nat} (h : q < 4) : pkE 4 (fun j => badA (q + j)) (fun j => badB (q + j)) 1 = 8 ∧ pkL 4 (fun j => badA (q + j)) (fun j => badB (q + j)) 1 = [] := by
  have e : pkE 4 (fun j => badA (q + j)) (fun j => badB (q + j)) 1 = 8 := by
    rcases (by omega : q = 0 ∨ q = 1 ∨ q = 2 ∨ q = 3) with rfl | rfl | rfl | rfl <;> decide +kernel
  exact ⟨e, by unfold pkL; rw [e]; rfl⟩
/-- one gate of a list -/
theorem Gts.one {w : World} {B n k : Nat} {A : Option Addr} {f g : Nat → Int} (h : Gts w B A n k f g) (hk : n ≤ k) (i : Nat) (hi : i < n) : ∃ A' k', (∀ W, (Instr.sliceAt 30 (.slice A n k) (some (.int .i64 (i : Int))) (some (.int .i64 ((i : Int) + 1))) none).run Try.prog W = .ok (.slice A' 1 k') W) ∧ Gts w B A' 1 k' (fun j => f (i + j)) (fun j => g (i + j)) := by
  have ht : Try.prog.underlying 30 = some (.slice (Try.prog.elem 30)) := by simp [Program.elem, Try.underlying30]
  have he : Try.prog.elem 30 = 29 := by simp [Program.elem, Try.underlying30]
  obtain ⟨a, rfl, hl, hc⟩ := h.h (by omega)
  refine ⟨some (a.add (i * 2)), k - i, fun W => ?_, ?_⟩
  · rw [run_sliceAt_slice _ _ _ _ _ _ ht, run_slice_lh W _ _ _ _ ht .i64 .i64 _ _ (by omega) (by omega) (by omega), he, sl_and W]
    have e1 : ¬ k = i := by omega
    have e2 : ((i : Int) + 1).toNat - i = 1 := by omega
    simp [Result.andThen, sliced, e1, e2]
  · refine ⟨fun hn => ⟨a.add (i * 2), rfl, by rw [add_block]; exact hl, fun j hj => ?_⟩, (fun h => by cases h), fun j => h.f _, fun j => h.g _⟩
    rw [add_add, show i * 2 + j * 2 = (i + j) * 2 by omega]
    exact hc (i + j) (by omega)
theorem bad_pack (W0 : World) {q : Nat} (hq : q < 4) : ∃ A' k', (∀ W, (Instr.sliceAt 30 (.slice (some ⟨W0.heap.size, 0, none⟩) 4 4) (some (.int .i64 (q : Int))) (some (.int .i64 ((q : Int) + 1))) none).run Try.prog W = .ok (.slice A' 1 k') W) ∧ ∀ W, Below (W0.alloc (.cells badCs 29)).heap.size (W0.alloc (.cells badCs 29)) W → Calls Try.prog 13 #[.int .i64 4, .slice A' 1 k'] W fun e w' => ∃ A k, e = .returned (.tuple #[.slice A 0 k, .int .i64 8]) ∧ Below W.heap.size W w' := by
  have hg : Gts (W0.alloc (.cells badCs 29)) (W0.alloc (.cells badCs 29)).heap.size (some ⟨W0.heap.size, 0, none⟩) 4 4 badA badB := ⟨bad_pairs W0, (fun h => by cases h), fun j => (bad_i64 j).1, fun j => (bad_i64 j).2⟩
  obtain ⟨A', k', hs, hA⟩ := hg.one (Nat.le_refl _) q hq
  refine ⟨A', k', hs, fun W hW => ?_⟩
  refine (dPack_any (v := 4) (i64_small (by decide) (by decide)) A' 1 k' _ _ W (hA.to hW hW.size) (by decide)).mono fun e w' => ?_
  rintro ⟨A, k, rfl, hy, hb, _⟩
  rw [(bad_pk hq).1, (bad_pk hq).2]
  exact ⟨A, k, rfl, hb⟩
theorem two_same (W : World) (A : Option Addr) (k : Nat) (h : PairsAt W W.heap.size A 2 (unA 4 2 [4, 2, 1, 9, 77]) (unB 4 2 [4, 2, 1, 9, 77])) : Calls Try.prog 15 #[.slice A 2 k, .slice (some ⟨W.heap.size, 0, none⟩) 2 2] (W.alloc (.cells #[.int .i64 4, .int .i64 2, .int .i64 9, .int .i64 0] 29)) fun e w' => e = .returned (.bool true) ∧ Below W.heap.size W w' := by
  have hn : PairsAt (W.alloc (.cells #[.int .i64 4, .int .i64 2, .int .i64 9, .int .i64 0] 29)) (W.alloc (.cells #[.int .i64 4, .int .i64 2, .int .i64 9, .int .i64 0] 29)).heap.size (some ⟨W.heap.size, 0, none⟩) 2 (fun j => [4, 9].getD j 0) (fun j => [2, 0].getD j 0) := fun _ =>
    ⟨_, rfl, by simp, fun j hj => by
      have h := Has.new W 29 #[.int .i64 4, .int .i64 2, .int .i64 9, .int .i64 0]
      rcases (by omega : j = 0 ∨ j = 1) with rfl | rfl
      · exact ⟨h.cell 0, h.cell 1⟩
      · exact ⟨h.cell 2, h.cell 3⟩⟩
  have hc : ∀ j, j < 2 → unA 4 2 [4, 2, 1, 9, 77] j = [4, 9].getD j 0 ∧ unB 4 2 [4, 2, 1, 9, 77] j = [2, 0].getD j 0 := fun j hj => by
    rcases (by omega : j = 0 ∨ j = 1) with rfl | rfl <;> decide +kernel
  exact (same9_yes A _ 2 k 2 _ _ _ _ _ (by decide) (((h.congr hc).keep ((Below.refl _ _).alloc (Nat.le_refl _) _))) hn).mono fun e w' ⟨h1, h2⟩ => ⟨h1, below_lit W _ h2⟩
theorem make2 (W : World) : (Instr.makeSlice 30 (.int .i64 2) (.int .i64 2)).run Try.prog W = .ok (.slice (some ⟨W.heap.size, 0, none⟩) 2 2) (W.alloc (.cells #[.int .i64 0, .int .i64 0, .int .i64 0, .int .i64 0] 29)) := by
  obtain ⟨i0, hi0, hz, hs, hy⟩ := info_parts dinfo_and
  have h := run_makeSlice (P := Try.prog) (w := W) 30 29 i0 (.agg #[.int .i64 0, .int .i64 0]) Try.underlying30 hi0 hz .i64 .i64 2 2 (by decide) (by decide) (by rw [hs]; decide) (by rw [hy]; decide) (by decide)
  rw [h, hs, show madeCells (Value.agg #[.int .i64 0, .int .i64 0]).cells ((2 : Int).toNat * 2) = #[.int .i64 0, .int .i64 0, .int .i64 0, .int .i64 0] by kernel_rfl]
  rfl
end Go.Proofs.Ytafhdckcclhjlaa
