/- The statement WitnessNames's walk: its circuit and runs as numbers, its errors, its memory, its calls. -/
import Derived.Test.YtbppdifghkkooaaGreatDoorWitAlive
import Derived.Test.YtbppdifghkkooaaGreatDoorHeadTail
import Derived.Test.YtbppdifghkkooaaGreatDoorGatesFrame
import Derived.Deep.DeepCutAuto
import Derived.Deep.CutBlock
namespace Go.Proofs.YtbppdifghkkooaaGreatDoor
open Go Go.RowKit
set_option linter.unusedVariables false
set_option linter.unusedSimpArgs false

def wnC : Cr := ⟨2, 2, 0, 3, 1, fun j => if j = 0 then 2 else 4, fun j => if j = 0 then 2 else 1, fun _ => 0, fun _ => 0, fun j => if j = 0 then 0 else if j = 1 then 6 else 3, fun _ => 5⟩
def wnT : Tr := ⟨2, fun _ => true, 2, fun _ => 2, fun j i => decide (j = 1 ∧ i = 0)⟩
/-- its first frame -/
def wnT1 : Tr := ⟨2, fun _ => true, 1, fun _ => 2, fun j i => decide (j = 1 ∧ i = 0)⟩
/-- circuits that are not valid -/
def wnB : Cr := ⟨-1, 0, 0, 0, 0, fun _ => 0, fun _ => 0, fun _ => 0, fun _ => 0, fun _ => 0, fun _ => 0⟩
def wnD : Cr := ⟨0, 0, 0, 1, 0, fun _ => 0, fun _ => 0, fun _ => 0, fun _ => 0, fun _ => 4, fun _ => 0⟩
theorem i0 : I64 0 := i64_k 0 (by decide) (by decide)
theorem wnC_sm : Sm wnC := by
  refine ⟨i64_k 2 (by decide) (by decide), by decide, by decide, by decide, by decide, fun j => ?_, fun j => ?_, fun _ => i0, fun _ => i0, fun j => ?_, fun _ => i64_k 5 (by decide) (by decide)⟩
  · show I64 (if j = 0 then 2 else 4)
    split
    · exact i64_k 2 (by decide) (by decide)
    · exact i64_k 4 (by decide) (by decide)
  · show I64 (if j = 0 then 2 else 1)
    split
    · exact i64_k 2 (by decide) (by decide)
    · exact i64_k 1 (by decide) (by decide)
  · show I64 (if j = 0 then 0 else if j = 1 then 6 else 3)
    split
    · exact i0
    · split
      · exact i64_k 6 (by decide) (by decide)
      · exact i64_k 3 (by decide) (by decide)
theorem wnB_sm : Sm wnB := ⟨i64_k (-1) (by decide) (by decide), by decide, by decide, by decide, by decide, fun _ => i0, fun _ => i0, fun _ => i0, fun _ => i0, fun _ => i0, fun _ => i0⟩
theorem wnD_sm : Sm wnD := ⟨i0, by decide, by decide, by decide, by decide, fun _ => i0, fun _ => i0, fun _ => i0, fun _ => i0, fun _ => i64_k 4 (by decide) (by decide), fun _ => i0⟩
theorem wnT_sm : TSm wnT := ⟨by show 2 ≤ 1000; decide, by show 2 ≤ 1000; decide, fun j _ => by show 2 ≤ 1000; decide⟩
theorem wnT1_sm : TSm wnT1 := ⟨by show 2 ≤ 1000; decide, by show 1 ≤ 1000; decide, fun j _ => by show 2 ≤ 1000; decide⟩
theorem z0T_sm : TSm z0T := ⟨Nat.zero_le _, Nat.zero_le _, fun j hj => absurd hj (Nat.not_lt_zero _)⟩
def tx12 : List UInt8 := [49, 10, 98, 49, 10, 49, 49, 10, 48, 48, 10, 46, 10]
theorem wnT1_w : wnC.wck wnT1 1 = 0 ∧ wnC.wrW wnT1 1 = tx12 := by
  have h1 : wnC.wck wnT1 1 = 0 := by decide +kernel
  refine ⟨h1, ?_⟩
  unfold Cr.wrW
  rw [if_pos h1]
  unfold wtx mdl rwL
  have e : dgs 1 = [49] := by rw [dgs_nat 1 (by decide)]; show Lib.decDigits 1 = _; rw [Lib.decDigits, dif_pos (by decide)]; rfl
  rw [e]
  decide +kernel
theorem wnT_w : wnC.wck wnT 0 = 57 ∧ wnC.wck wnT 2 = 57 ∧ wnC.wck wnT 3 = 2 ∧ wnC.wck wnT (-1) = 2 ∧ wnC.wck z0T 9 = 8 ∧ wnB.wck wnT 0 = 8 := by decide +kernel
def txs : List (List UInt8) := [[], [49, 10, 98, 49, 10, 49, 49, 10, 46, 10], [49, 10, 98, 49, 10, 49, 49, 10, 48, 48, 10, 46], [49, 10, 98, 49, 10, 49, 49, 10, 48, 48, 10, 46, 10, 10], [49, 10, 98, 49, 10, 49, 49, 10, 48, 48, 10], [48, 10, 98, 49, 10, 49, 49, 10, 48, 48, 10, 46, 10], [49, 10, 98, 48, 49, 10, 49, 49, 10, 48, 48, 10, 46, 10], [49, 10, 98, 10, 49, 49, 10, 48, 48, 10, 46, 10], [49, 10, 49, 10, 49, 49, 10, 48, 48, 10, 46, 10], [49, 10, 98, 49, 10, 49, 10, 48, 48, 10, 46, 10], [49, 10, 98, 49, 10, 49, 49, 49, 10, 48, 48, 10, 46, 10], [49, 10, 98, 49, 10, 49, 120, 10, 48, 48, 10, 46, 10], [49, 10, 98, 49, 10, 49, 49, 10, 48, 10, 46, 10], [49, 10, 98, 49, 10, 49, 49, 10, 48, 48, 10, 10, 46, 10], [49, 10, 98, 43, 49, 10, 49, 49, 10, 48, 48, 10, 46, 10], [49, 10, 98, 49, 48, 48, 48, 48, 48, 48, 48, 48, 48, 10, 49, 49, 10, 48, 48, 10, 46, 10], [49, 10, 106, 49, 10, 49, 49, 10, 48, 48, 10, 46, 10], [49, 13, 10, 98, 49, 10, 49, 49, 10, 48, 48, 10, 46, 10]]
def txN (q : Nat) : List UInt8 := txs.getD q []
def txC : Array Value := (txs.map fun l => .string (str l)).toArray
theorem txN_w : ∀ q, q < 18 → wnC.wrE (txN q) = 12 ∧ (txN q).length ≤ 100000 := by decide +kernel
theorem txC_at {q : Nat} (h : q < 18) : txC[q]? = some (.string (str (txN q))) := by
  have hq : q < txs.length := h
  unfold txC txN
  rw [List.getElem?_toArray, List.getElem?_map, List.getD_eq_getElem?_getD, List.getElem?_eq_getElem hq]
  rfl
def lgN (q : Nat) : List UInt8 := [49, 10, 98, 48, 10, 48, 10] ++ List.replicate q 10
theorem lgN_succ (q : Nat) : lgN q ++ [10] = lgN (q + 1) := by unfold lgN; rw [List.append_assoc, ← List.replicate_succ']
theorem lgN_len (q : Nat) : (lgN q).length = 7 + q := by unfold lgN; rw [List.length_append, List.length_replicate]; rfl
theorem lgN_w : exA.wrE (lgN 101 ++ [46, 10]) = 12 := by decide +kernel
theorem wnE : wnC.wrE [49, 10, 98, 51, 10, 49, 49, 10, 48, 48, 10, 46, 10] = 2 ∧ wnC.wrE [49, 10, 98, 48, 10, 49, 49, 10, 48, 48, 10, 46, 10] = 57 ∧ wnC.wrE [49, 10, 98, 49, 10, 49, 48, 10, 48, 48, 10, 46, 10] = 8 ∧ wnC.wrE [49, 10, 98, 49, 10, 49, 49, 10, 48, 49, 10, 46, 10] = 57 ∧ wnC.wrE [49, 10, 98, 57, 57, 57, 57, 57, 57, 57, 57, 57, 10, 49, 49, 10, 48, 48, 10, 46, 10] = 2 ∧ wnD.wrE [] = 8 := by decide +kernel

theorem lt2n {j : Nat} (h : j < 2) : j = 0 ∨ j = 1 := by omega
theorem lt3w {j : Nat} (h : j < 3) : j = 0 ∨ j = 1 ∨ j = 2 := by omega
/-! ### where they lie -/
abbrev wnP (b : Nat) : Pl := ⟨some ⟨b, 0, none⟩, none, some ⟨b + 1, 0, none⟩, some ⟨b + 1 + 1, 0, none⟩, 2, 0, 3, 1⟩
abbrev wnQ (b : Nat) : Tp := ⟨some ⟨b + 1 + 1 + 1 + 1, 0, none⟩, 2, some ⟨b + 1 + 1 + 1 + 1 + 1 + 1 + 1, 0, none⟩, 2⟩
abbrev wnCv (b : Nat) : Value := .agg #[.int .i64 2, .slice (some ⟨b, 0, none⟩) 2 2, .slice none 0 0, .slice (some ⟨b + 1, 0, none⟩) 3 3, .slice (some ⟨b + 1 + 1, 0, none⟩) 1 1]
abbrev wnTv (b : Nat) : Value := .agg #[.slice (some ⟨b + 1 + 1 + 1 + 1, 0, none⟩) 2 2, .slice (some ⟨b + 1 + 1 + 1 + 1 + 1 + 1 + 1, 0, none⟩) 2 2]
structure WnAt (w : World) (b : Nat) : Prop where
  h0 : Has w b 43 #[.int .i64 2, .int .i64 2, .int .i64 4, .int .i64 1]
  h1 : Has w (b + 1) 3 #[.int .i64 0, .int .i64 6, .int .i64 3]
  h2 : Has w (b + 1 + 1) 3 #[.int .i64 5]
  h3 : Has w (b + 1 + 1 + 1) 34 #[.int .i64 2, .slice (some ⟨b, 0, none⟩) 2 2, .slice none 0 0, .slice (some ⟨b + 1, 0, none⟩) 3 3, .slice (some ⟨b + 1 + 1, 0, none⟩) 1 1]
  h4 : Has w (b + 1 + 1 + 1 + 1) 4 #[.bool true, .bool true]
  h5 : Has w (b + 1 + 1 + 1 + 1 + 1) 4 #[.bool false, .bool false]
  h6 : Has w (b + 1 + 1 + 1 + 1 + 1 + 1) 4 #[.bool true, .bool false]
  h7 : Has w (b + 1 + 1 + 1 + 1 + 1 + 1 + 1) 44 #[.slice (some ⟨b + 1 + 1 + 1 + 1 + 1, 0, none⟩) 2 2, .slice (some ⟨b + 1 + 1 + 1 + 1 + 1 + 1, 0, none⟩) 2 2]
  h8 : Has w (b + 1 + 1 + 1 + 1 + 1 + 1 + 1 + 1) 47 #[.slice (some ⟨b + 1 + 1 + 1 + 1, 0, none⟩) 2 2, .slice (some ⟨b + 1 + 1 + 1 + 1 + 1 + 1 + 1, 0, none⟩) 2 2]
section
variable {w W : World} {b : Nat}
theorem WnAt.to (h : WnAt w b) (hb : Below w.heap.size w W) : WnAt W b := ⟨h.h0.keep hb h.h0.lt, h.h1.keep hb h.h1.lt, h.h2.keep hb h.h2.lt, h.h3.keep hb h.h3.lt, h.h4.keep hb h.h4.lt, h.h5.keep hb h.h5.lt, h.h6.keep hb h.h6.lt, h.h7.keep hb h.h7.lt, h.h8.keep hb h.h8.lt⟩
theorem WnAt.mem (h : WnAt w b) : Mem w w.heap.size wnC (wnP b) :=
  ⟨pairs_of_has h.h0 fun j hj => by rcases lt2n hj with rfl | rfl <;> exact ⟨rfl, rfl⟩, fun hn => absurd hn (Nat.not_lt_zero _), ints_of_has h.h1 fun j hj => by rcases lt3w hj with rfl | rfl | rfl <;> rfl, ints_of_has h.h2 fun j hj => by rw [Nat.lt_one_iff.1 hj]; rfl⟩
theorem WnAt.rows (h : WnAt w b) : RowsAt w w.heap.size (some ⟨b + 1 + 1 + 1 + 1 + 1 + 1 + 1, 0, none⟩) 2 (fun _ => 2) (fun j i => decide (j = 1 ∧ i = 0)) := fun _ => by
  refine ⟨_, rfl, h.h7.lt, fun j hj => ?_⟩
  have e : (⟨b + 1 + 1 + 1 + 1 + 1 + 1 + 1, 0, none⟩ : Addr).add j = ⟨b + 1 + 1 + 1 + 1 + 1 + 1 + 1, j, none⟩ := by unfold Addr.add; split <;> simp_all
  rw [e, h.h7.cell j]
  rcases lt2n hj with rfl | rfl
  · exact ⟨_, _, rfl, bls_of_has h.h5 fun j hj => by rcases lt2n hj with rfl | rfl <;> rfl, (fun h => by cases h)⟩
  · exact ⟨_, _, rfl, bls_of_has h.h6 fun j hj => by rcases lt2n hj with rfl | rfl <;> rfl, (fun h => by cases h)⟩
theorem WnAt.fi (h : WnAt w b) : BlsAt w w.heap.size (some ⟨b + 1 + 1 + 1 + 1, 0, none⟩) 2 (fun _ => true) := bls_of_has h.h4 fun j hj => by rcases lt2n hj with rfl | rfl <;> rfl
theorem WnAt.run (h : WnAt w b) : TMem w w.heap.size wnT (wnQ b) := ⟨h.fi, h.rows, (fun h => by cases h), (fun h => by cases h), ⟨Nat.le_refl _, by show 2 ≤ maxLen; decide⟩⟩
theorem WnAt.run1 (h : WnAt w b) : TMem w w.heap.size wnT1 (wnQ b) := ⟨h.fi, h.rows.first (by show 1 ≤ 2; decide), (fun h => by cases h), (fun h => by cases h), ⟨by show 1 ≤ 2; decide, by show 2 ≤ maxLen; decide⟩⟩
theorem wnK : wnC.nb ≤ (wnP b).k3 ∧ (wnP b).k3 ≤ maxLen := ⟨by show 3 ≤ 3; decide, by show 3 ≤ maxLen; decide⟩
theorem WnAt.cells (h : WnAt w b) : w.cell? ⟨b + 1 + 1 + 1, 0, none⟩ = some (.int .i64 2) ∧ w.cell? ⟨b + 1 + 1 + 1, 1, none⟩ = some (.slice (some ⟨b, 0, none⟩) 2 2) ∧ w.cell? ⟨b + 1 + 1 + 1, 2, none⟩ = some (.slice none 0 0) ∧ w.cell? ⟨b + 1 + 1 + 1, 3, none⟩ = some (.slice (some ⟨b + 1, 0, none⟩) 3 3) ∧ w.cell? ⟨b + 1 + 1 + 1, 4, none⟩ = some (.slice (some ⟨b + 1 + 1, 0, none⟩) 1 1) ∧
    w.cell? ⟨b + 1 + 1 + 1 + 1 + 1 + 1 + 1 + 1, 0, none⟩ = some (.slice (some ⟨b + 1 + 1 + 1 + 1, 0, none⟩) 2 2) ∧ w.cell? ⟨b + 1 + 1 + 1 + 1 + 1 + 1 + 1 + 1, 1, none⟩ = some (.slice (some ⟨b + 1 + 1 + 1 + 1 + 1 + 1 + 1, 0, none⟩) 2 2) ∧ b + 1 + 1 + 1 + 1 + 1 + 1 + 1 + 1 < w.heap.size :=
  ⟨h.h3.cell 0, h.h3.cell 1, h.h3.cell 2, h.h3.cell 3, h.h3.cell 4, h.h8.cell 0, h.h8.cell 1, h.h8.lt⟩
end
/-! ### the calls -/
theorem wnWrite1 (b : Nat) (w : World) (h : WnAt w b) : Calls Tryz.prog 16 #[wnCv b, .agg #[.slice (some ⟨b + 1 + 1 + 1 + 1, 0, none⟩) 2 2, .slice (some ⟨b + 1 + 1 + 1 + 1 + 1 + 1 + 1, 0, none⟩) 1 2], .int .i64 1] w fun e w' => e = .returned (.tuple #[.string (str tx12), .int .i64 0]) ∧ Below w.heap.size w w' := by
  have := wWrite_any (c := wnC) (p := wnP b) (t := wnT1) (q := wnQ b) 1 (i64_k 1 (by decide) (by decide)) w ⟨h.mem, wnC_sm, h.run1, wnT1_sm⟩ wnK
  rwa [wnT1_w.1, wnT1_w.2] at this
theorem wnCheckK (b : Nat) (w : World) (h : WnAt w b) (x : Int) (hx : I64 x) (y : Int) (hy : wnC.wck wnT x = y) : Calls Tryz.prog 17 #[wnCv b, wnTv b, .int .i64 x] w fun e w' => e = .returned (.int .i64 y) ∧ Below w.heap.size w w' := by
  have := wCheck_any (c := wnC) (p := wnP b) (t := wnT) (q := wnQ b) x hx w ⟨h.mem, wnC_sm, h.run, wnT_sm⟩ wnK
  rwa [hy] at this
theorem wnWriteK (b : Nat) (w : World) (h : WnAt w b) (x : Int) (hx : I64 x) (y : Int) (hy : wnC.wck wnT x = y) : Calls Tryz.prog 16 #[wnCv b, wnTv b, .int .i64 x] w fun e w' => ∃ S, e = .returned (.tuple #[.string S, .int .i64 y]) ∧ Below w.heap.size w w' := by
  have := wWrite_any (c := wnC) (p := wnP b) (t := wnT) (q := wnQ b) x hx w ⟨h.mem, wnC_sm, h.run, wnT_sm⟩ wnK
  rw [hy] at this
  exact this.mono fun e w' h => ⟨_, h.1, h.2⟩
theorem wnWrite0 (b : Nat) (w : World) (h : WnAt w b) : Calls Tryz.prog 16 #[wnCv b, .agg #[.slice none 0 0, .slice none 0 0], .int .i64 9] w fun e w' => ∃ S, e = .returned (.tuple #[.string S, .int .i64 8]) ∧ Below w.heap.size w w' := by
  have := wWrite_any (c := wnC) (p := wnP b) (t := z0T) (q := ⟨none, 0, none, 0⟩) 9 (i64_k 9 (by decide) (by decide)) w ⟨h.mem, wnC_sm, z0T_mem w _, z0T_sm⟩ wnK
  rw [wnT_w.2.2.2.2.1] at this
  exact this.mono fun e w' h => ⟨_, h.1, h.2⟩
theorem wnWriteB (b : Nat) (w : World) (h : WnAt w b) : Calls Tryz.prog 16 #[.agg #[.int .i64 (-1), .slice none 0 0, .slice none 0 0, .slice none 0 0, .slice none 0 0], wnTv b, .int .i64 0] w fun e w' => ∃ S, e = .returned (.tuple #[.string S, .int .i64 8]) ∧ Below w.heap.size w w' := by
  have := wWrite_any (c := wnB) (p := ⟨none, none, none, none, 0, 0, 0, 0⟩) (t := wnT) (q := wnQ b) 0 i0 w ⟨⟨fun h => absurd h (Nat.not_lt_zero _), fun h => absurd h (Nat.not_lt_zero _), fun h => absurd h (Nat.not_lt_zero _), fun h => absurd h (Nat.not_lt_zero _)⟩, wnB_sm, h.run, wnT_sm⟩ ⟨Nat.le_refl _, Nat.zero_le _⟩
  rw [wnT_w.2.2.2.2.2] at this
  exact this.mono fun e w' h => ⟨_, h.1, h.2⟩
theorem wnFails (b B : Nat) (w : World) (h : WnAt w b) (hE : EnvW B w) (hB : B ≤ w.heap.size) (l : List UInt8) (hl : l.length ≤ 100000) (x : Int) (h0 : x ≠ 0) (hx : wnC.wrE l = x) : Calls Tryz.prog 18 #[wnCv b, .string (str l), .int .i64 x] w fun e w' => e = .returned (.bool true) ∧ Below w.heap.size w w' :=
  fails11_any (c := wnC) (p := wnP b) l hl x h0 hx B w h.mem wnC_sm wnK hE hB
theorem wnFailsD (g B : Nat) (w : World) (h : Has w g 3 #[.int .i64 4]) (hE : EnvW B w) (hB : B ≤ w.heap.size) : Calls Tryz.prog 18 #[.agg #[.int .i64 0, .slice none 0 0, .slice none 0 0, .slice (some ⟨g, 0, none⟩) 1 1, .slice none 0 0], .string (str []), .int .i64 8] w fun e w' => e = .returned (.bool true) ∧ Below w.heap.size w w' :=
  fails11_any (c := wnD) (p := ⟨none, none, some ⟨g, 0, none⟩, none, 0, 0, 1, 0⟩) [] (by decide) 8 (by decide) wnE.2.2.2.2.2 B w ⟨fun h => absurd h (Nat.not_lt_zero _), fun h => absurd h (Nat.not_lt_zero _), ints_of_has h fun j hj => by rw [Nat.lt_one_iff.1 hj]; rfl, fun h => absurd h (Nat.not_lt_zero _)⟩ wnD_sm ⟨Nat.le_refl _, by show 1 ≤ maxLen; decide⟩ hE hB
/-- what is kept from call to call -/
structure WnK (w wk : World) : Prop where
  b : Below w.heap.size w wk
  n : WnAt wk w.heap.size
theorem WnK.to {w wk wl : World} (h : WnK w wk) (hb : Below wk.heap.size wk wl) : WnK w wl := ⟨Below.step h.b h.b.size hb, h.n.to hb⟩
theorem WnK.al {w wk : World} (h : WnK w wk) (o : Obj) : WnK w (wk.alloc o) := h.to ((Below.refl _ _).alloc (Nat.le_refl _) _)
structure WnX (w wk : World) (g : Nat) : Prop where
  k : WnK w wk
  t : Has wk g 9 txC
theorem WnX.to {w wk wl : World} {g : Nat} (h : WnX w wk g) (hb : Below wk.heap.size wk wl) : WnX w wl g := ⟨h.k.to hb, h.t.keep hb h.t.lt⟩

set_option maxRecDepth 100000 in
set_option maxHeartbeats 40000000 in
theorem wnames_walk (w : World) (henv : EnvW w.heap.size w) : Calls Tryz.prog 4 #[] w fun e w' => e = .returned (.bool true) ∧ Below w.heap.size w w' := by
  have AL : Hid (∀ W, Below w.heap.size w W → Calls Tryz.prog 20 #[] W fun e w' => e = .returned (.bool true) ∧ Below W.heap.size W w') := Lib.hid fun W hb => alive11_any w.heap.size W (henv.on hb) hb.size
  have DW : Hid (∀ W, WnAt W w.heap.size → Calls Tryz.prog 16 #[wnCv w.heap.size, .agg #[.slice (some ⟨w.heap.size + 1 + 1 + 1 + 1, 0, none⟩) 2 2, .slice (some ⟨w.heap.size + 1 + 1 + 1 + 1 + 1 + 1 + 1, 0, none⟩) 1 2], .int .i64 1] W fun e w' => e = .returned (.tuple #[.string (str tx12), .int .i64 0]) ∧ Below W.heap.size W w') := Lib.hid fun W h => wnWrite1 _ W h
  have FT : Hid (∀ W q, q < 18 → WnK w W → Calls Tryz.prog 18 #[wnCv w.heap.size, .string (str (txN q)), .int .i64 12] W fun e w' => e = .returned (.bool true) ∧ Below W.heap.size W w') := Lib.hid fun W q hq h => wnFails _ w.heap.size W h.n (henv.on h.b) h.b.size (txN q) (txN_w q hq).2 12 (by decide) (txN_w q hq).1
  have F1 : Hid (∀ W, WnK w W → Calls Tryz.prog 18 #[wnCv w.heap.size, .string ⟨#[49, 10, 98, 51, 10, 49, 49, 10, 48, 48, 10, 46, 10]⟩, .int .i64 2] W fun e w' => e = .returned (.bool true) ∧ Below W.heap.size W w') := Lib.hid fun W h => wnFails _ w.heap.size W h.n (henv.on h.b) h.b.size _ (by decide) 2 (by decide) wnE.1
  have F2 : Hid (∀ W, WnK w W → Calls Tryz.prog 18 #[wnCv w.heap.size, .string ⟨#[49, 10, 98, 48, 10, 49, 49, 10, 48, 48, 10, 46, 10]⟩, .int .i64 57] W fun e w' => e = .returned (.bool true) ∧ Below W.heap.size W w') := Lib.hid fun W h => wnFails _ w.heap.size W h.n (henv.on h.b) h.b.size _ (by decide) 57 (by decide) wnE.2.1
  have F3 : Hid (∀ W, WnK w W → Calls Tryz.prog 18 #[wnCv w.heap.size, .string ⟨#[49, 10, 98, 49, 10, 49, 48, 10, 48, 48, 10, 46, 10]⟩, .int .i64 8] W fun e w' => e = .returned (.bool true) ∧ Below W.heap.size W w') := Lib.hid fun W h => wnFails _ w.heap.size W h.n (henv.on h.b) h.b.size _ (by decide) 8 (by decide) wnE.2.2.1
  have F4 : Hid (∀ W, WnK w W → Calls Tryz.prog 18 #[wnCv w.heap.size, .string ⟨#[49, 10, 98, 49, 10, 49, 49, 10, 48, 49, 10, 46, 10]⟩, .int .i64 57] W fun e w' => e = .returned (.bool true) ∧ Below W.heap.size W w') := Lib.hid fun W h => wnFails _ w.heap.size W h.n (henv.on h.b) h.b.size _ (by decide) 57 (by decide) wnE.2.2.2.1
  have F5 : Hid (∀ W, WnK w W → Calls Tryz.prog 18 #[wnCv w.heap.size, .string ⟨#[49, 10, 98, 57, 57, 57, 57, 57, 57, 57, 57, 57, 10, 49, 49, 10, 48, 48, 10, 46, 10]⟩, .int .i64 2] W fun e w' => e = .returned (.bool true) ∧ Below W.heap.size W w') := Lib.hid fun W h => wnFails _ w.heap.size W h.n (henv.on h.b) h.b.size _ (by decide) 2 (by decide) wnE.2.2.2.2.1
  have F6 : Hid (∀ W, WnK w W → Calls Tryz.prog 18 #[.agg #[.int .i64 0, .slice none 0 0, .slice none 0 0, .slice (some ⟨W.heap.size, 0, none⟩) 1 1, .slice none 0 0], .string ⟨#[]⟩, .int .i64 8] (W.alloc (.cells #[.int .i64 4] 3)) fun e w' => e = .returned (.bool true) ∧ Below (W.alloc (.cells #[.int .i64 4] 3)).heap.size (W.alloc (.cells #[.int .i64 4] 3)) w') := Lib.hid fun W h => wnFailsD _ w.heap.size _ (Has.new W _ _) (henv.on (h.al _).b) (h.al _).b.size
  obtain ⟨SL, hSL⟩ : ∃ SL, SL = str (lgN 101 ++ [46, 10]) := ⟨_, rfl⟩
  have F7 : Hid (∀ W p, WnK w W → Mem W W.heap.size exA p → (1 ≤ p.k3 ∧ p.k3 ≤ maxLen) → Calls Tryz.prog 18 #[cv exA p, .string SL, .int .i64 12] W fun e w' => e = .returned (.bool true) ∧ Below W.heap.size W w') := Lib.hid fun W p h hm hk => by
    rw [hSL]
    exact fails11_any (c := exA) (p := p) (lgN 101 ++ [46, 10]) (by rw [List.length_append, lgN_len]; decide) 12 (by decide) lgN_w w.heap.size W hm exA_sm hk (henv.on h.b) h.b.size
  obtain ⟨S1, hS1⟩ : ∃ S1, S1 = str tx12 := ⟨_, rfl⟩
  have e1 : (S1.toList == [49, 10, 98, 49, 10, 49, 49, 10, 48, 48, 10, 46, 10]) = true := by rw [hS1, str_list]; decide
  rw [← hS1] at DW
  have HSL := Lib.hid hSL
  clear hS1 henv hSL
  go_enter Tryz.func4, Tryz.ntmps4
  go_upto_region 2 with (fail)
  go_cut [2] (fun u2 wx => u2 = .pointer (some ⟨w.heap.size + 1 + 1 + 1 + 1 + 1 + 1 + 1 + 1, 0, none⟩) ∧ WnK w wx)
  case first =>
    go_wp2
    go_meet
    exact ⟨rfl, ⟨by go_grown, ⟨(((((((((Has.new' _ _ (by simp)).al _).al _).al _).al _).al _).al _).al _).al _), ((((((((Has.new' _ _ (by simp)).al _).al _).al _).al _).al _).al _).al _), (((((((Has.new' _ _ (by simp)).al _).al _).al _).al _).al _).al _), ((((((Has.new' _ _ (by simp)).al _).al _).al _).al _).al _), (((((Has.new' _ _ (by simp)).al _).al _).al _).al _), ((((Has.new' _ _ (by simp)).al _).al _).al _), (((Has.new' _ _ (by simp)).al _).al _), ((Has.new' _ _ (by simp)).al _), (Has.new' _ _ (by simp))⟩⟩⟩
  case rest =>
    obtain ⟨rfl, hK0⟩ := hcut
    obtain ⟨x0, x1, x2, x3, x4, x5, x6, xz⟩ := hK0.n.cells
    go_wp2
    go_cut [3, 4] (fun u3 u4 wx => u3 = .string S1 ∧ u4 = .int .i64 0 ∧ WnK w wx)
    case first =>
      have hS0 : (fun w' : World => (w'.cell? ⟨w.heap.size + 1 + 1 + 1, 0, none⟩ = some (.int .i64 2) ∧ w'.cell? ⟨w.heap.size + 1 + 1 + 1, 1, none⟩ = some (.slice (some ⟨w.heap.size, 0, none⟩) 2 2) ∧ w'.cell? ⟨w.heap.size + 1 + 1 + 1, 2, none⟩ = some (.slice none 0 0) ∧ w'.cell? ⟨w.heap.size + 1 + 1 + 1, 3, none⟩ = some (.slice (some ⟨w.heap.size + 1, 0, none⟩) 3 3) ∧ w'.cell? ⟨w.heap.size + 1 + 1 + 1, 4, none⟩ = some (.slice (some ⟨w.heap.size + 1 + 1, 0, none⟩) 1 1)) ∧ w'.cell? ⟨w.heap.size + 1 + 1 + 1 + 1 + 1 + 1 + 1 + 1, 0, none⟩ = some (.slice (some ⟨w.heap.size + 1 + 1 + 1 + 1, 0, none⟩) 2 2) ∧ w'.cell? ⟨w.heap.size + 1 + 1 + 1 + 1 + 1 + 1 + 1 + 1, 1, none⟩ = some (.slice (some ⟨w.heap.size + 1 + 1 + 1 + 1 + 1 + 1 + 1, 0, none⟩) 2 2)) wc.drew := ⟨⟨x0, x1, x2, x3, x4⟩, x5, x6⟩
      refine wp_slots (fun f => Sz f 157 ∧ Slot f 1 (.pointer (some ⟨w.heap.size + 1 + 1 + 1, 0, none⟩)) ∧ Slot f 2 (.pointer (some ⟨w.heap.size + 1 + 1 + 1 + 1 + 1 + 1 + 1 + 1, 0, none⟩))) ⟨⟨rfl, rfl⟩, ⟨rfl⟩, ⟨rfl⟩⟩ fun a0 hA0 hR => ?_
      obtain ⟨hZ, hs1, hs2⟩ := hR
      have HA := Lib.hid hA0
      clear hA0 x0 x1 x2 x3 x4 x5 x6 xz
      refine wp_region_T (fun w' : World => (w'.cell? ⟨w.heap.size + 1 + 1 + 1, 0, none⟩ = some (.int .i64 2) ∧ w'.cell? ⟨w.heap.size + 1 + 1 + 1, 1, none⟩ = some (.slice (some ⟨w.heap.size, 0, none⟩) 2 2) ∧ w'.cell? ⟨w.heap.size + 1 + 1 + 1, 2, none⟩ = some (.slice none 0 0) ∧ w'.cell? ⟨w.heap.size + 1 + 1 + 1, 3, none⟩ = some (.slice (some ⟨w.heap.size + 1, 0, none⟩) 3 3) ∧ w'.cell? ⟨w.heap.size + 1 + 1 + 1, 4, none⟩ = some (.slice (some ⟨w.heap.size + 1 + 1, 0, none⟩) 1 1)) ∧ w'.cell? ⟨w.heap.size + 1 + 1 + 1 + 1 + 1 + 1 + 1 + 1, 0, none⟩ = some (.slice (some ⟨w.heap.size + 1 + 1 + 1 + 1, 0, none⟩) 2 2) ∧ w'.cell? ⟨w.heap.size + 1 + 1 + 1 + 1 + 1 + 1 + 1 + 1, 1, none⟩ = some (.slice (some ⟨w.heap.size + 1 + 1 + 1 + 1 + 1 + 1 + 1, 0, none⟩) 2 2)) 13 (by kernel_rfl) ?_
      refine WT.h ?_
      (refine wt_take1 0 1 (v := ?_) rfl rfl (by kernel_rfl) (by kernel_rfl) (by kernel_rfl) (by kernel_rfl) (fun _ _ _ h => h) rfl hS0 (by (repeat (first | (refine slot_hit (N := 157) ?_ (by rfl); (repeat (refine sz_put ?_)); assumption; done) | (apply slot_miss; focus rfl))); all_goals assumption) (fun ev hk hv0 w hS => ?_) ?_; rotate_left; focus (obtain ⟨⟨j0, j1, j2, j3, j4⟩, j5, j6⟩ := hS; go_simp; rfl)); (refine wt_take1 1 2 (v := ?_) rfl rfl (by kernel_rfl) (by kernel_rfl) (by kernel_rfl) (by kernel_rfl) (fun _ _ _ h => h) rfl hS0 (by (repeat (first | (refine slot_hit (N := 157) ?_ (by rfl); (repeat (refine sz_put ?_)); assumption; done) | (apply slot_miss; focus rfl))); all_goals assumption) (fun ev hk hv0 w hS => ?_) ?_; rotate_left; focus (obtain ⟨⟨j0, j1, j2, j3, j4⟩, j5, j6⟩ := hS; go_simp; rfl)); (refine wt_take1 2 33 (v := ?_) rfl rfl (by kernel_rfl) (by kernel_rfl) (by kernel_rfl) (by kernel_rfl) (fun _ _ _ h => h) rfl hS0 (by (repeat (first | (refine slot_hit (N := 157) ?_ (by rfl); (repeat (refine sz_put ?_)); assumption; done) | (apply slot_miss; focus rfl))); all_goals assumption) (fun ev hk hv0 w hS => ?_) ?_; rotate_left; focus (obtain ⟨⟨j0, j1, j2, j3, j4⟩, j5, j6⟩ := hS; go_simp; rfl)); (refine wt_take1 3 2 (v := ?_) rfl rfl (by kernel_rfl) (by kernel_rfl) (by kernel_rfl) (by kernel_rfl) (fun _ _ _ h => h) rfl hS0 (by (repeat (first | (refine slot_hit (N := 157) ?_ (by rfl); (repeat (refine sz_put ?_)); assumption; done) | (apply slot_miss; focus rfl))); all_goals assumption) (fun ev hk hv0 w hS => ?_) ?_; rotate_left; focus (obtain ⟨⟨j0, j1, j2, j3, j4⟩, j5, j6⟩ := hS; go_simp; rfl)); (refine wt_take1 4 35 (v := ?_) rfl rfl (by kernel_rfl) (by kernel_rfl) (by kernel_rfl) (by kernel_rfl) (fun _ _ _ h => h) rfl hS0 (by (repeat (first | (refine slot_hit (N := 157) ?_ (by rfl); (repeat (refine sz_put ?_)); assumption; done) | (apply slot_miss; focus rfl))); all_goals assumption) (fun ev hk hv0 w hS => ?_) ?_; rotate_left; focus (obtain ⟨⟨j0, j1, j2, j3, j4⟩, j5, j6⟩ := hS; go_simp; rfl)); (refine wt_take1 5 36 (v := ?_) rfl rfl (by kernel_rfl) (by kernel_rfl) (by kernel_rfl) (by kernel_rfl) (fun _ _ _ h => h) rfl hS0 (by (repeat (first | (refine slot_hit (N := 157) ?_ (by rfl); (repeat (refine sz_put ?_)); assumption; done) | (apply slot_miss; focus rfl))); all_goals assumption) (fun ev hk hv0 w hS => ?_) ?_; rotate_left; focus (obtain ⟨⟨j0, j1, j2, j3, j4⟩, j5, j6⟩ := hS; go_simp; rfl)); (refine wt_take2 6 34 37 (v := ?_) rfl rfl (by kernel_rfl) (by kernel_rfl) (by kernel_rfl) (by kernel_rfl) (fun _ _ _ h => h) rfl hS0 (by (repeat (first | (refine slot_hit (N := 157) ?_ (by rfl); (repeat (refine sz_put ?_)); assumption; done) | (apply slot_miss; focus rfl))); all_goals assumption) (by (repeat (first | (refine slot_hit (N := 157) ?_ (by rfl); (repeat (refine sz_put ?_)); assumption; done) | (apply slot_miss; focus rfl))); all_goals assumption) (fun ev hk hv0 hv1 w hS => ?_) ?_; rotate_left; focus (obtain ⟨⟨j0, j1, j2, j3, j4⟩, j5, j6⟩ := hS; go_simp; rfl))
      refine wt_call2 7 32 38 (by kernel_rfl) rfl rfl rfl (by (repeat (first | (refine slot_hit (N := 157) ?_ (by rfl); (repeat (refine sz_put ?_)); assumption; done) | (apply slot_miss; focus rfl))); all_goals assumption) (by (repeat (first | (refine slot_hit (N := 157) ?_ (by rfl); (repeat (refine sz_put ?_)); assumption; done) | (apply slot_miss; focus rfl))); all_goals assumption) (f := ?_) (args := ?_) (fun ev hk hkf hv0 hv1 => ?_) ?_; rotate_left 2; focus (go_simp; first | rfl | (constructor <;> rfl))
      have hKd : WnK w wc.drew := hK0.to (below_dn (Below.refl _ _) 1)
      (with_reducible refine (DW.out wc.drew hKd.n).mono ?_)
      rintro e w1 ⟨rfl, hb1⟩
      have hK1 := hKd.to hb1
      have hS0 : (fun w' : World => (w'.cell? ⟨w.heap.size + 1 + 1 + 1, 0, none⟩ = some (.int .i64 2) ∧ w'.cell? ⟨w.heap.size + 1 + 1 + 1, 1, none⟩ = some (.slice (some ⟨w.heap.size, 0, none⟩) 2 2) ∧ w'.cell? ⟨w.heap.size + 1 + 1 + 1, 2, none⟩ = some (.slice none 0 0) ∧ w'.cell? ⟨w.heap.size + 1 + 1 + 1, 3, none⟩ = some (.slice (some ⟨w.heap.size + 1, 0, none⟩) 3 3) ∧ w'.cell? ⟨w.heap.size + 1 + 1 + 1, 4, none⟩ = some (.slice (some ⟨w.heap.size + 1 + 1, 0, none⟩) 1 1)) ∧ w'.cell? ⟨w.heap.size + 1 + 1 + 1 + 1 + 1 + 1 + 1 + 1, 0, none⟩ = some (.slice (some ⟨w.heap.size + 1 + 1 + 1 + 1, 0, none⟩) 2 2) ∧ w'.cell? ⟨w.heap.size + 1 + 1 + 1 + 1 + 1 + 1 + 1 + 1, 1, none⟩ = some (.slice (some ⟨w.heap.size + 1 + 1 + 1 + 1 + 1 + 1 + 1, 0, none⟩) 2 2)) w1 := by
        obtain ⟨c0, c1, c2, c3, c4, c5, c6, _⟩ := hK1.n.cells
        exact ⟨⟨c0, c1, c2, c3, c4⟩, c5, c6⟩
      refine ⟨_, rfl, fun _ => hS0, ?_⟩
      (refine wt_move 8 39 rfl rfl (by kernel_rfl) (by kernel_rfl) (by kernel_rfl) (by kernel_rfl) (fun _ _ _ h => h) rfl hS0 (by (repeat (first | (refine slot_hit (N := 157) ?_ (by rfl); (repeat (refine sz_put ?_)); assumption; done) | (apply slot_miss; focus rfl))); all_goals assumption) rfl ?_); (refine wt_take1 9 31 (v := ?_) rfl rfl (by kernel_rfl) (by kernel_rfl) (by kernel_rfl) (by kernel_rfl) (fun _ _ _ h => h) rfl hS0 (by (repeat (first | (refine slot_hit (N := 157) ?_ (by rfl); (repeat (refine sz_put ?_)); assumption; done) | (apply slot_miss; focus rfl))); all_goals assumption) (fun ev hk hv0 w hS => ?_) ?_; rotate_left; focus (obtain ⟨⟨j0, j1, j2, j3, j4⟩, j5, j6⟩ := hS; go_simp; rfl)); (refine wt_take1 10 31 (v := ?_) rfl rfl (by kernel_rfl) (by kernel_rfl) (by kernel_rfl) (by kernel_rfl) (fun _ _ _ h => h) rfl hS0 (by (repeat (first | (refine slot_hit (N := 157) ?_ (by rfl); (repeat (refine sz_put ?_)); assumption; done) | (apply slot_miss; focus rfl))); all_goals assumption) (fun ev hk hv0 w hS => ?_) ?_; rotate_left; focus (obtain ⟨⟨j0, j1, j2, j3, j4⟩, j5, j6⟩ := hS; go_simp; rfl)); (refine wt_assign 11 40 rfl rfl (by kernel_rfl) (by kernel_rfl) (by kernel_rfl) (by kernel_rfl) (fun _ _ _ h => h) rfl hS0 (by (repeat (first | (refine slot_hit (N := 157) ?_ (by rfl); (repeat (refine sz_put ?_)); assumption; done) | (apply slot_miss; focus rfl))); all_goals assumption) rfl ?_); (refine wt_assign 12 41 rfl rfl (by kernel_rfl) (by kernel_rfl) (by kernel_rfl) (by kernel_rfl) (fun _ _ _ h => h) rfl hS0 (by (repeat (first | (refine slot_hit (N := 157) ?_ (by rfl); (repeat (refine sz_put ?_)); assumption; done) | (apply slot_miss; focus rfl))); all_goals assumption) rfl ?_)
      refine wt_done (by kernel_rfl) (NoPanic.normal ?_) _
      have ha := HA.out
      subst ha
      clear hZ hs1 hs2 hS0
      go_wp2
      go_meet
      exact ⟨rfl, rfl, hK1⟩
    case rest =>
      obtain ⟨rfl, rfl, hK1⟩ := hcut
      clear hK0 x0 x1 x2 x3 x4 x5 x6 xz
      obtain ⟨x0, x1, x2, x3, x4, x5, x6, xz⟩ := hK1.n.cells
      go_wp2_with (first
        | (go_at_call 17; (with_reducible refine (wnCheckK _ _ hK1.n 0 i0 57 wnT_w.1).mono ?_); rintro e w2 ⟨rfl, hb2⟩; have hK2 := hK1.to hb2; clear x0 x1 x2 x3 x4 x5 x6 xz; obtain ⟨x0, x1, x2, x3, x4, x5, x6, xz⟩ := hK2.n.cells)
        | (go_at_call 17; (with_reducible refine (wnCheckK _ _ hK2.n 2 (i64_k 2 (by decide) (by decide)) 57 wnT_w.2.1).mono ?_); rintro e w3 ⟨rfl, hb3⟩; have hK3 := hK2.to hb3; clear x0 x1 x2 x3 x4 x5 x6 xz; obtain ⟨x0, x1, x2, x3, x4, x5, x6, xz⟩ := hK3.n.cells)
        | (go_at_call 16; (with_reducible refine (wnWriteK _ _ hK3.n 3 (i64_k 3 (by decide) (by decide)) 2 wnT_w.2.2.1).mono ?_); rintro e w4 ⟨S4, rfl, hb4⟩; have hK4 := hK3.to hb4; clear x0 x1 x2 x3 x4 x5 x6 xz; obtain ⟨x0, x1, x2, x3, x4, x5, x6, xz⟩ := hK4.n.cells)
        | (go_at_call 16; (with_reducible refine (wnWriteK _ _ hK4.n (-1) (i64_k (-1) (by decide) (by decide)) 2 wnT_w.2.2.2.1).mono ?_); rintro e w5 ⟨S5, rfl, hb5⟩; have hK5 := hK4.to hb5; clear x0 x1 x2 x3 x4 x5 x6 xz; obtain ⟨x0, x1, x2, x3, x4, x5, x6, xz⟩ := hK5.n.cells)
        | (go_at_call 16; (with_reducible refine (wnWrite0 _ _ hK5.n).mono ?_); rintro e w6 ⟨S6, rfl, hb6⟩; have hK6 := hK5.to hb6; clear x0 x1 x2 x3 x4 x5 x6 xz; obtain ⟨x0, x1, x2, x3, x4, x5, x6, xz⟩ := hK6.n.cells)
        | (go_at_call 16; (with_reducible refine (wnWriteB _ _ hK6.n).mono ?_); rintro e w7 ⟨S7, rfl, hb7⟩; have hK7 := hK6.to hb7; clear x0 x1 x2 x3 x4 x5 x6 xz))
      go_loopw [16] (fun i wr => ∃ q : Nat, q ≤ 18 ∧ i = .int .i64 q ∧ WnX w wr w7.heap.size) (fun i _ => 18 - (intOf i).toNat)
      case atStart => exact ⟨0, by omega, rfl, ⟨hK7.al _, Has.new w7 _ _⟩⟩
      case round =>
        clear hK1 hK2 hK3 hK4 hK5 hK6 hK7 hb2 hb3 hb4 hb5 hb6 hb7
        obtain ⟨q, hq, rfl, hK⟩ := hrel
        obtain ⟨x0, x1, x2, x3, x4, x5, x6, xz⟩ := hK.k.n.cells
        by_cases hlt : q < 18
        · have y0 : wr.cell? ⟨w7.heap.size, q, none⟩ = some (.string (str (txN q))) := (hK.t.cell q).trans (txC_at hlt)
          have HF := Lib.hid (fun (W : World) (hW : WnK w W) => FT.out W q hlt hW)
          obtain ⟨S9, hS9⟩ : ∃ S9, S9 = str (txN q) := ⟨_, rfl⟩
          rw [← hS9] at HF y0
          have hq0 : (0 : Int) ≤ (q : Int) := by omega
          have hq1 : (q : Int) < 18 := by omega
          have hq2 : q < 18 := hlt
          clear hS9
          go_wp2
          go_cut [85] (fun u85 wx => u85 = .bool false ∧ WnX w wx w7.heap.size)
          case first =>
            have hS0 : (fun w' : World => (w'.cell? ⟨w.heap.size + 1 + 1 + 1, 0, none⟩ = some (.int .i64 2) ∧ w'.cell? ⟨w.heap.size + 1 + 1 + 1, 1, none⟩ = some (.slice (some ⟨w.heap.size, 0, none⟩) 2 2) ∧ w'.cell? ⟨w.heap.size + 1 + 1 + 1, 2, none⟩ = some (.slice none 0 0) ∧ w'.cell? ⟨w.heap.size + 1 + 1 + 1, 3, none⟩ = some (.slice (some ⟨w.heap.size + 1, 0, none⟩) 3 3) ∧ w'.cell? ⟨w.heap.size + 1 + 1 + 1, 4, none⟩ = some (.slice (some ⟨w.heap.size + 1 + 1, 0, none⟩) 1 1)) ∧ w'.cell? ⟨w7.heap.size, q, none⟩ = some (.string S9)) wr.drew := ⟨⟨x0, x1, x2, x3, x4⟩, y0⟩
            refine wp_slots (fun f => Sz f 157 ∧ Slot f 1 (.pointer (some ⟨w.heap.size + 1 + 1 + 1, 0, none⟩)) ∧ Slot f 15 (.slice (some ⟨w7.heap.size, 0, none⟩) 18 18) ∧ Slot f 16 (.int .i64 (q : Int))) ⟨⟨rfl, rfl⟩, ⟨rfl⟩, ⟨rfl⟩, ⟨rfl⟩⟩ fun a0 hA0 hR => ?_
            obtain ⟨hZ, hs1, hs15, hs16⟩ := hR
            have HA := Lib.hid hA0
            clear hA0 x0 x1 x2 x3 x4 x5 x6 xz y0
            refine wp_region_T (fun w' : World => (w'.cell? ⟨w.heap.size + 1 + 1 + 1, 0, none⟩ = some (.int .i64 2) ∧ w'.cell? ⟨w.heap.size + 1 + 1 + 1, 1, none⟩ = some (.slice (some ⟨w.heap.size, 0, none⟩) 2 2) ∧ w'.cell? ⟨w.heap.size + 1 + 1 + 1, 2, none⟩ = some (.slice none 0 0) ∧ w'.cell? ⟨w.heap.size + 1 + 1 + 1, 3, none⟩ = some (.slice (some ⟨w.heap.size + 1, 0, none⟩) 3 3) ∧ w'.cell? ⟨w.heap.size + 1 + 1 + 1, 4, none⟩ = some (.slice (some ⟨w.heap.size + 1 + 1, 0, none⟩) 1 1)) ∧ w'.cell? ⟨w7.heap.size, q, none⟩ = some (.string S9)) 7 (by kernel_rfl) ?_
            refine WT.h ?_
            (refine wt_take1 0 1 (v := ?_) rfl rfl (by kernel_rfl) (by kernel_rfl) (by kernel_rfl) (by kernel_rfl) (fun _ _ _ h => h) rfl hS0 (by (repeat (first | (refine slot_hit (N := 157) ?_ (by rfl); (repeat (refine sz_put ?_)); assumption; done) | (apply slot_miss; focus rfl))); all_goals assumption) (fun ev hk hv0 w hS => ?_) ?_; rotate_left; focus (obtain ⟨⟨j0, j1, j2, j3, j4⟩, j5⟩ := hS; go_simp; rfl)); (refine wt_move 1 15 rfl rfl (by kernel_rfl) (by kernel_rfl) (by kernel_rfl) (by kernel_rfl) (fun _ _ _ h => h) rfl hS0 (by (repeat (first | (refine slot_hit (N := 157) ?_ (by rfl); (repeat (refine sz_put ?_)); assumption; done) | (apply slot_miss; focus rfl))); all_goals assumption) rfl ?_); (refine wt_move 2 16 rfl rfl (by kernel_rfl) (by kernel_rfl) (by kernel_rfl) (by kernel_rfl) (fun _ _ _ h => h) rfl hS0 (by (repeat (first | (refine slot_hit (N := 157) ?_ (by rfl); (repeat (refine sz_put ?_)); assumption; done) | (apply slot_miss; focus rfl))); all_goals assumption) rfl ?_); (refine wt_take2 3 80 81 (v := ?_) rfl rfl (by kernel_rfl) (by kernel_rfl) (by kernel_rfl) (by kernel_rfl) (fun _ _ _ h => h) rfl hS0 (by (repeat (first | (refine slot_hit (N := 157) ?_ (by rfl); (repeat (refine sz_put ?_)); assumption; done) | (apply slot_miss; focus rfl))); all_goals assumption) (by (repeat (first | (refine slot_hit (N := 157) ?_ (by rfl); (repeat (refine sz_put ?_)); assumption; done) | (apply slot_miss; focus rfl))); all_goals assumption) (fun ev hk hv0 hv1 w hS => ?_) ?_; rotate_left; focus (obtain ⟨⟨j0, j1, j2, j3, j4⟩, j5⟩ := hS; go_simp; rfl)); (refine wt_take1 4 82 (v := ?_) rfl rfl (by kernel_rfl) (by kernel_rfl) (by kernel_rfl) (by kernel_rfl) (fun _ _ _ h => h) rfl hS0 (by (repeat (first | (refine slot_hit (N := 157) ?_ (by rfl); (repeat (refine sz_put ?_)); assumption; done) | (apply slot_miss; focus rfl))); all_goals assumption) (fun ev hk hv0 w hS => ?_) ?_; rotate_left; focus (obtain ⟨⟨j0, j1, j2, j3, j4⟩, j5⟩ := hS; go_simp; rfl))
            refine wt_call2 5 79 83 (by kernel_rfl) rfl rfl rfl (by (repeat (first | (refine slot_hit (N := 157) ?_ (by rfl); (repeat (refine sz_put ?_)); assumption; done) | (apply slot_miss; focus rfl))); all_goals assumption) (by (repeat (first | (refine slot_hit (N := 157) ?_ (by rfl); (repeat (refine sz_put ?_)); assumption; done) | (apply slot_miss; focus rfl))); all_goals assumption) (f := ?_) (args := ?_) (fun ev hk hkf hv0 hv1 => ?_) ?_; rotate_left 2; focus (go_simp; first | rfl | (constructor <;> rfl))
            have hKd : WnX w wr.drew w7.heap.size := hK.to (below_dn (Below.refl _ _) 1)
            (with_reducible refine (HF.out wr.drew hKd.k).mono ?_)
            rintro e w8 ⟨rfl, hb8⟩
            have hK8 := hKd.to hb8
            have hS1 := hS0
            have hS0 : (fun w' : World => (w'.cell? ⟨w.heap.size + 1 + 1 + 1, 0, none⟩ = some (.int .i64 2) ∧ w'.cell? ⟨w.heap.size + 1 + 1 + 1, 1, none⟩ = some (.slice (some ⟨w.heap.size, 0, none⟩) 2 2) ∧ w'.cell? ⟨w.heap.size + 1 + 1 + 1, 2, none⟩ = some (.slice none 0 0) ∧ w'.cell? ⟨w.heap.size + 1 + 1 + 1, 3, none⟩ = some (.slice (some ⟨w.heap.size + 1, 0, none⟩) 3 3) ∧ w'.cell? ⟨w.heap.size + 1 + 1 + 1, 4, none⟩ = some (.slice (some ⟨w.heap.size + 1 + 1, 0, none⟩) 1 1)) ∧ w'.cell? ⟨w7.heap.size, q, none⟩ = some (.string S9)) w8 := by
              obtain ⟨c0, c1, c2, c3, c4, _⟩ := hK8.k.n.cells
              exact ⟨⟨c0, c1, c2, c3, c4⟩, (hb8.cell (cell_lt hS1.2)).trans hS1.2⟩
            clear hS1
            refine ⟨_, rfl, fun _ => hS0, ?_⟩
            (refine wt_take1 6 84 (v := ?_) rfl rfl (by kernel_rfl) (by kernel_rfl) (by kernel_rfl) (by kernel_rfl) (fun _ _ _ h => h) rfl hS0 (by (repeat (first | (refine slot_hit (N := 157) ?_ (by rfl); (repeat (refine sz_put ?_)); assumption; done) | (apply slot_miss; focus rfl))); all_goals assumption) (fun ev hk hv0 w hS => ?_) ?_; rotate_left; focus (obtain ⟨⟨j0, j1, j2, j3, j4⟩, j5⟩ := hS; go_simp; rfl))
            refine wt_done (by kernel_rfl) (NoPanic.normal ?_) _
            have ha := HA.out
            subst ha
            clear hZ hs1 hs15 hs16 hS0
            go_wp2
            go_meet
            exact ⟨rfl, hK8⟩
          case rest =>
            obtain ⟨rfl, hK8⟩ := hcut
            clear x0 x1 x2 x3 x4 x5 x6 xz y0
            go_wp2
            go_roundw
            case rel => exact ⟨q + 1, by omega, by go_num, hK8⟩
            case measure => simp [intOf]; omega
        · obtain ⟨q3, hqe⟩ : ∃ q3, q3 = q := ⟨_, rfl⟩
          subst hqe
          have hqn : ¬ (q3 : Int) < 18 := by omega
          have HKK := Lib.hid hK.k
          clear hq hlt x0 x1 x2 x3 x4 x5 x6 xz hK
          go_wp2
          go_loopw [17, 18] (fun s i wx => ∃ q : Nat, q ≤ 101 ∧ i = .int .i64 q ∧ s = .string (str (lgN q)) ∧ wx = wr) (fun _ i _ => 101 - (intOf i).toNat)
          case atStart => exact ⟨0, by omega, rfl, rfl, rfl⟩
          case round =>
            clear hqn
            obtain ⟨q, hq, rfl, rfl, rfl⟩ := hrel
            by_cases hlt : q < 101
            · have hq1 : (q : Int) < 101 := by omega
              have k1 : ∀ W, (Op.stringOp .add (str (lgN q)) ⟨#[10]⟩).run Tryz.prog W = .ok (.string (str (lgN q ++ [10]))) W := fun W => str_add (l := lgN q) (m := [10]) (by rw [lgN_len]; show 7 + q + 1 ≤ 10000000; omega) W
              go_wp2
              go_roundw
              case rel => exact ⟨q + 1, by omega, by go_num, (by rw [lgN_succ]), trivial⟩
              case measure => simp [intOf]; omega
            · obtain rfl : q = 101 := by omega
              clear hq hlt
              have k1 : ∀ W, (Op.stringOp .add (str (lgN 101)) ⟨#[46, 10]⟩).run Tryz.prog W = .ok (.string SL) W := fun W => by rw [HSL.out]; exact str_add (l := lgN 101) (m := [46, 10]) (by rw [lgN_len]; decide) W
              obtain ⟨SG, hSG⟩ : ∃ SG, SG = str (lgN 101) := ⟨_, rfl⟩
              rw [← hSG] at k1 ⊢
              clear hSG
              obtain ⟨x0, x1, x2, x3, x4, x5, x6, xz⟩ := HKK.out.n.cells
              go_wp2_with (first
                | (go_at_call 18; (with_reducible refine (F1.out _ HKK.out).mono ?_); rintro e wa1 ⟨rfl, hba1⟩; have hA1 := HKK.out.to hba1; clear x0 x1 x2 x3 x4 x5 x6 xz; obtain ⟨x0, x1, x2, x3, x4, x5, x6, xz⟩ := hA1.n.cells)
                | (go_at_call 18; (with_reducible refine (F2.out _ hA1).mono ?_); rintro e wa2 ⟨rfl, hba2⟩; have hA2 := hA1.to hba2; clear x0 x1 x2 x3 x4 x5 x6 xz; obtain ⟨x0, x1, x2, x3, x4, x5, x6, xz⟩ := hA2.n.cells)
                | (go_at_call 18; (with_reducible refine (F3.out _ hA2).mono ?_); rintro e wa3 ⟨rfl, hba3⟩; have hA3 := hA2.to hba3; clear x0 x1 x2 x3 x4 x5 x6 xz; obtain ⟨x0, x1, x2, x3, x4, x5, x6, xz⟩ := hA3.n.cells)
                | (go_at_call 18; (with_reducible refine (F4.out _ hA3).mono ?_); rintro e wa4 ⟨rfl, hba4⟩; have hA4 := hA3.to hba4; clear x0 x1 x2 x3 x4 x5 x6 xz; obtain ⟨x0, x1, x2, x3, x4, x5, x6, xz⟩ := hA4.n.cells)
                | (go_at_call 18; (with_reducible refine (F5.out _ hA4).mono ?_); rintro e wa5 ⟨rfl, hba5⟩; have hA5 := hA4.to hba5; clear x0 x1 x2 x3 x4 x5 x6 xz)
                | (go_at_call 18; (with_reducible refine (F6.out _ hA5).mono ?_); rintro e wa6 ⟨rfl, hba6⟩; have hA6 := (hA5.al _).to hba6)
                | (go_at_call 19; (with_reducible refine (ex11_any _).mono ?_); rintro e wa7 ⟨p7, rfl, hm7, hk7, hba7⟩; have hA7 := hA6.to hba7)
                | (go_at_call 18; (with_reducible refine (F7.out _ p7 hA7 hm7 hk7).mono ?_); rintro e wa8 ⟨rfl, hba8⟩; have hA8 := hA7.to hba8)
                | (go_at_call 20; (with_reducible refine (AL.out _ hA8.b).mono ?_); rintro e wa9 ⟨rfl, hba9⟩; have hA9 := hA8.to hba9))
              go_ret
              exact ⟨rfl, hA9.b⟩

end Go.Proofs.YtbppdifghkkooaaGreatDoor
