/- Lists of clauses in memory; the table of the library; rows of cells. -/
import Derived.Test.YtecmldnigohjfabDoorUnMath
import Derived.Test.YtecmldnigohjfabDoorAsRef
import Derived.Deep.Matrix
import Derived.Lib.LaidTab
import Derived.Lib.AppendIntMem
import Derived.LaidMore
import Derived.LaidSub
import Derived.Lib.TrailingZeros
import Derived.Laws.Bits64b
import Derived.BigRegion
import Derived.BigQuiet
import Derived.RangeFuncBound
import Derived.RangeFuncCalls
import Derived.RangeFuncLeaves
import Derived.RangeFuncNested
import Derived.Shelf.RegionOpen
import Derived.Test.YtecmldnigohjfabDoorHeadTail
import Derived.BigRegionIn
import Derived.Test.YtecmldnigohjfabDoorClProg
import Derived.Test.YtecmldnigohjfabDoorAsProg
namespace Go.Proofs.YtecmldnigohjfabDoor
open Go Go.RowKit Go.ChangeShapes Go.WideShapes Go.ChangeAt
set_option linter.unusedVariables false
set_option linter.unusedSimpArgs false

/-- the table is as its initialiser lays it -/
def Tab (B : Nat) (w : World) : Prop := Lib.TabBelow Tryd.prog B w "math/bits.deBruijn64tab" .u8 (Lib.deBruijn64tab.map fun n : Nat => (n : Int))
theorem Tab.on {B : Nat} {w w1 : World} (h : Tab B w) (hb : Below B w w1) : Tab B w1 := Lib.TabBelow.on h hb
theorem Tab.up {B C : Nat} {w : World} (h : Tab B w) (hC : B ≤ C) : Tab C w := fun w' hb => h w' (hb.mono hC)
theorem Tab.next {w w' : World} (h : Tab w.heap.size w) (hb : Below w.heap.size w w') : Tab w'.heap.size w' := (h.on hb).up hb.size
theorem Tab.is {B : Nat} {w : World} (h : Tab B w) : Lib.TabIs Tryd.prog w "math/bits.deBruijn64tab" .u8 (Lib.deBruijn64tab.map fun n : Nat => (n : Int)) := h w (Below.refl _ _)

/-- what the listed variable gives -/
theorem tab_of_laid {L : List (String × DataW Unit)} {W : World} (h : laidMetH Tryd.prog L W)
    (e1 : L = [("math/bits.deBruijn64tab", Lib.tabData .u8 (Lib.deBruijn64tab.map fun n : Nat => (n : Int)))] := by kernel_rfl) : Tab W.heap.size W := by
  subst e1
  rw [MakeChecks.laidMetH_plain _ _ _ (by kernel_rfl)] at h
  exact Lib.tabBelow_of_tabIs (Lib.tabIs_of_head (show Tryd.prog.globalNamed "math/bits.deBruijn64tab" = some 0 by kernel_rfl) (by kernel_rfl) Tryd.underlying74 Tryd.underlying5 (by kernel_rfl) (by kernel_rfl) h)

theorem Tab.cell {B : Nat} {w : World} (h : Tab B w) {j : Nat} (hj : j < 64) : w.cell? ⟨0, j, none⟩ = some (.int .u8 (Lib.deBruijn64tab.getD j 0 : Nat)) := by
  have h1 := World.var?_cell (show Tryd.prog.globalNamed "math/bits.deBruijn64tab" = some 0 by kernel_rfl) h.is j
  rw [h1]
  have hl : Lib.deBruijn64tab.length = 64 := rfl
  simp [hj, hl, List.getD_eq_getElem?_getD]

theorem row_keep {W W' : World} {B g n : Nat} {ty : TypeId} {f : Nat → Value} (h : W.rowIs g ty n f) (hb : Below B W W') (hg : g < B) : W'.rowIs g ty n f := h.of_block (hb.block g hg)
theorem row_on {W W' : World} {g n : Nat} {ty : TypeId} {f : Nat → Value} (h : W.rowIs g ty n f) (hb : Below W.heap.size W W') : W'.rowIs g ty n f := row_keep h hb h.lt
theorem row_same {W W' : World} {g n : Nat} {ty : TypeId} {f : Nat → Value} (h : W.rowIs g ty n f) (hb : W'.heap[g]? = W.heap[g]?) : W'.rowIs g ty n f := h.of_block hb

/-! ### lists of clauses -/
/-- a list of lists of ints, as a call has it -/
structure Ill (w : World) (B : Nat) (A : Option Addr) (L : List (List Int)) (k : Nat) : Prop where
  h : 0 < L.length → ∃ b o, A = some ⟨b, o, none⟩ ∧ b < B ∧ ∀ j, j < L.length → ∃ A' k', w.cell? ⟨b, o + j, none⟩ = some (.slice A' (L.getD j []).length k') ∧ Ia w B A' (L.getD j []) k'
  n : A = none → L = [] ∧ k = 0
  c : L.length ≤ k
section
variable {w w' W : World} {B B' k : Nat} {A : Option Addr} {L : List (List Int)}
theorem Ill.keep (h : Ill w B A L k) (hb : Below B w w') : Ill w' B A L k := by
  refine ⟨fun hn => ?_, h.n, h.c⟩
  obtain ⟨b, o, e, hl, hc⟩ := h.h hn
  refine ⟨b, o, e, hl, fun j hj => ?_⟩
  obtain ⟨A', k', h1, h2⟩ := hc j hj
  exact ⟨A', k', (hb.cell (p := ⟨b, o + j, none⟩) hl).trans h1, h2.keep hb⟩
theorem Ill.more (h : Ill w B A L k) (hb : B ≤ B') : Ill w B' A L k := by
  refine ⟨fun hn => ?_, h.n, h.c⟩
  obtain ⟨b, o, e, hl, hc⟩ := h.h hn
  refine ⟨b, o, e, by omega, fun j hj => ?_⟩
  obtain ⟨A', k', h1, h2⟩ := hc j hj
  exact ⟨A', k', h1, h2.more hb⟩
theorem Ill.to (h : Ill w B A L k) (hb : Below B w W) (hB : B ≤ W.heap.size) : Ill W W.heap.size A L k := (h.keep hb).more hB
theorem Ill.on (h : Ill w w.heap.size A L k) (hb : Below w.heap.size w W) : Ill W W.heap.size A L k := h.to hb hb.size
theorem Ill.nil (w : World) (B : Nat) : Ill w B none [] 0 := ⟨fun h => absurd h (Nat.lt_irrefl 0), fun _ => ⟨rfl, rfl⟩, Nat.le_refl _⟩
theorem gotD {L : List (List Int)} {j : Nat} (h : j < L.length) : L.getD j [] = L[j] := by rw [List.getD_eq_getElem?_getD, List.getElem?_eq_getElem h]; rfl
theorem gotD_mem {L : List (List Int)} {j : Nat} (h : j < L.length) : L.getD j [] ∈ L := by rw [gotD h]; exact List.getElem_mem h
end

section
variable {H : Type} {enc : TypeId × Value → H} {W : World} {base : Nat} {held : Bool}
set_option maxRecDepth 100000 in
/-- a list of lists of ints, as it comes in -/
theorem open_ll {v : Value} {d : DataW H} {ps : List MemPlace} {r : Reach} {b0 : Nat} (hv : Value.okWide Tryd.prog W r b0 38 v) (h : DataW.Trod enc Tryd.prog W base (fun _ => true) held 38 v d ps) :
    ∃ A L k, v = .slice A (List.length (α := List Int) L) k ∧ Ill W W.heap.size A L k ∧ k ≤ maxLen ∧ (∀ c ∈ L, (∀ x ∈ c, I64 x) ∧ c.length ≤ maxLen) := by
  obtain ⟨a0, n0, k0, rfl⟩ := okWide_slice Tryd.underlying38 hv
  obtain ⟨fuel, hf⟩ := h
  rcases Go.Deep.open_int_rows Tryd.underlying38 Tryd.underlying22 Tryd.underlying3 (by kernel_rfl) (by kernel_rfl) hf with ⟨hv, _⟩ | ⟨a, len, cap, A, Ln, C, Z, hv, _, hl, hml, _, hc⟩
  · have hv' : [Value.slice a0 n0 k0] = [.slice none 0 0] := hv
    injection hv' with hv'
    exact ⟨none, [], 0, hv', Ill.nil _ _, Nat.zero_le _, fun x hx => by cases hx⟩
  · have hv' : [Value.slice a0 n0 k0] = [.slice (some a) len cap] := hv
    injection hv' with hv'
    have hL : ((List.range len).map fun r => (Z r).take (Ln r)).length = len := by simp
    have hg : ∀ j, j < len → ((List.range len).map fun r => (Z r).take (Ln r)).getD j [] = (Z j).take (Ln j) := fun j hj => by
      rw [gotD (by rw [hL]; exact hj)]; simp
    have hz : ∀ j, j < cap → ((Z j).take (Ln j)).length = Ln j := fun j hj => by
      obtain ⟨_, c2, _, c4, _⟩ := hc j hj
      rw [List.length_take]; omega
    refine ⟨some a, (List.range len).map fun r => (Z r).take (Ln r), cap, by rw [hL]; exact hv', ⟨fun hn => ?_, (fun h => by cases h), by rw [hL]; exact hl⟩, hml, fun c hcm => ?_⟩
    · rw [hL] at hn ⊢
      have h0 := (hc 0 (by omega)).1
      refine ⟨a.block, a.off, ?_, ?_, fun j hj => ?_⟩
      · have := add_spot h0 0
        rw [show a.add 0 = a from rfl] at this
        rw [this]
      · have := cell_lt h0
        rwa [add_block] at this
      · obtain ⟨c1, c2, c3, c4, c5, c6, c7⟩ := hc j (by omega)
        refine ⟨A j, C j, ?_, ?_⟩
        · rw [hg j hj, hz j (by omega), ← add_spot h0 j]; exact c1
        · rw [hg j hj]
          refine ⟨fun hn => ?_, fun e => ?_, by rw [hz j (by omega)]; exact c2⟩
          · rw [hz j (by omega)] at hn ⊢
            cases hA : A j with
            | none => have := c6 hA; omega
            | some a' =>
              obtain ⟨_, c8⟩ := c7 a' hA
              refine ⟨a', rfl, ?_, fun i hi => ?_⟩
              · have := cell_lt (c8 0 (by omega))
                rwa [add_block] at this
              · rw [c8 i (by omega)]
                show some (Value.int .i64 ((Z j).getD i 0)) = some (Value.int .i64 (((Z j).take (Ln j)).getD i 0))
                rw [List.getD_eq_getElem?_getD, List.getD_eq_getElem?_getD, List.getElem?_take, if_pos hi]
          · have := c6 e
            refine ⟨?_, this⟩
            have h1 : Ln j = 0 := by omega
            rw [h1]; rfl
    · obtain ⟨j, hj, rfl⟩ := List.mem_map.1 hcm
      have hj' := List.mem_range.1 hj
      obtain ⟨c1, c2, c3, c4, c5, c6, c7⟩ := hc j (by omega)
      exact ⟨fun x hx => i64_of (c5 x (List.mem_of_mem_take hx)), by rw [hz j (by omega)]; omega⟩
end

end Go.Proofs.YtecmldnigohjfabDoor

namespace Go.Proofs.YtecmldnigohjfabDoor
open Go Go.RowKit
set_option linter.unusedVariables false
set_option linter.unusedSimpArgs false

set_option maxHeartbeats 1000000 in
theorem tz_core (x k idx : Nat) (w : World) (hx0 : ((x : Int) == 0) = false)
    (key : IntKind.u64.wrap (bits BinOp.and IntKind.u64 (x : Int) (IntKind.u64.wrap (-(x : Int))) * 285870213051353865) / 288230376151711744 = (idx : Int))
    (hi : idx < 64) (hk : k < 64) (hcell : w.cell? ⟨0, idx, none⟩ = some (.int .u8 k)) :
    Calls Tryd.prog 39 #[.int .u64 x] w fun e w' => e = .returned (.int .i64 k) ∧ w' = w := by
  go_enter Tryd.func39, Tryd.ntmps39
  go_wp2_with (simp only [key])
  go_ret
  exact ⟨rfl, rfl⟩
theorem tz_key (x a : Nat) (hx : x < 18446744073709551616) (hx0 : x ≠ 0) (hlow : x &&& (18446744073709551616 - x) = a) :
    IntKind.u64.wrap (bits BinOp.and IntKind.u64 (x : Int) (IntKind.u64.wrap (-(x : Int))) * 285870213051353865) / 288230376151711744 = ((a * 285870213051353865 % 18446744073709551616 / 288230376151711744 : Nat) : Int) := by
  have e1 : IntKind.u64.wrap (-(x : Int)) = ((18446744073709551616 - x : Nat) : Int) := by rw [IntKind.wrap_u64]; omega
  rw [e1, bits_and_u64_nat x _ hx (by omega), hlow, IntKind.wrap_u64]
  omega
theorem tz_any (x : Nat) (hx : x < 18446744073709551616) (h0 : x ≠ 0) (w : World) (B : Nat) (hT : Tab B w) :
    Calls Tryd.prog 39 #[.int .u64 x] w fun e w' => e = .returned (.int .i64 (Lib.ctz 64 x : Nat)) ∧ w' = w := by
  obtain ⟨hlow, hk⟩ := Lib.lowest_bit 64 x h0 hx
  obtain ⟨hi, htab⟩ := Lib.deBruijn64_at _ hk
  have hcell := hT.cell hi
  rw [htab] at hcell
  exact tz_core x _ _ w (by simp; omega) (tz_key x _ hx h0 hlow) hi hk hcell

/-! ### bits -/
theorem bit_or (x i b : Nat) : (x ||| 2 ^ i).testBit b = (x.testBit b || decide (b = i)) := by
  rw [Nat.testBit_or, Nat.testBit_two_pow]
  by_cases h : b = i
  · subst h; simp
  · have : ¬ i = b := fun e => h e.symm
    simp [h, this]
theorem ctz_split (x : Nat) (h0 : x ≠ 0) (hx : x < 18446744073709551616) : ∃ m, x = 2 ^ Lib.ctz 64 x * (2 * m + 1) ∧ Lib.ctz 64 x < 64 := by
  unfold Lib.ctz
  rw [if_neg h0]
  exact Lib.ctzFrom_spec 64 x (by omega) hx
theorem bit_low (c m b : Nat) : (2 ^ c * (2 * m + 1)).testBit b = (decide (b = c) || (decide (c < b) && m.testBit (b - c - 1))) := by
  rw [Nat.testBit_two_pow_mul]
  rcases Nat.lt_trichotomy b c with h | h | h
  · have h1 : ¬ c ≤ b := by omega
    have h2 : ¬ b = c := by omega
    have h3 : ¬ c < b := by omega
    simp [h1, h2, h3]
  · subst h
    simp [Nat.testBit_zero] <;> omega
  · have h1 : c ≤ b := by omega
    have h2 : ¬ b = c := by omega
    obtain ⟨d, rfl⟩ : ∃ d, b = c + d + 1 := ⟨b - c - 1, by omega⟩
    have h3 : c + d + 1 - c = d + 1 := by omega
    have h4 : c + d + 1 - c - 1 = d := by omega
    rw [h4, h3, Nat.testBit_succ, show (2 * m + 1) / 2 = m by omega]
    simp [h1, h2] <;> omega
/-- the lowest bit taken away -/
theorem bit_pred (c m b : Nat) : ((2 ^ c * (2 * m + 1)) &&& (2 ^ c * (2 * m + 1) - 1)).testBit b = ((2 ^ c * (2 * m + 1)).testBit b && !decide (b = c)) := by
  rw [Nat.testBit_and]
  have e : 2 ^ c * (2 * m + 1) - 1 = 2 ^ (c + 1) * m + (2 ^ c - 1) := by
    have : 0 < 2 ^ c := Nat.two_pow_pos c
    rw [Nat.pow_succ, Nat.mul_add, ← Nat.mul_assoc]
    omega
  rw [e, Nat.testBit_two_pow_mul_add _ (by rw [Nat.pow_succ]; have := Nat.two_pow_pos c; omega), bit_low]
  rcases Nat.lt_trichotomy b c with h | h | h
  · have h2 : ¬ b = c := by omega
    have h3 : ¬ c < b := by omega
    simp [h2, h3]
  · subst h
    simp
  · have h2 : ¬ b = c := by omega
    have h5 : ¬ b < c + 1 := by omega
    simp [h2, h, h5, show b - (c + 1) = b - c - 1 by omega]
theorem u64_shl (i : Nat) (hi : i < 64) : IntKind.u64.wrap (1 * 2 ^ i) = ((2 ^ i : Nat) : Int) := by
  rw [IntKind.wrap_u64]
  have h : (2 : Nat) ^ i < 18446744073709551616 := Nat.pow_lt_pow_right (by decide) hi
  have e : ((1 : Int) * 2 ^ i) = ((2 ^ i : Nat) : Int) := by simp
  rw [e]
  generalize (2 : Nat) ^ i = z at h ⊢
  omega


/-! ### the queue -/
/-- the words of a queue -/
def QAt (W : World) (g K : Nat) (q : Nat → Bool) : Prop := ∃ wd : Nat → Nat, W.rowIs g 70 K (fun j => .int .u64 (wd j : Int)) ∧ ∀ j, j < K → wd j < 18446744073709551616 ∧ ∀ b, b < 64 → (wd j).testBit b = q (64 * j + b)
theorem QAt.of_block {W W' : World} {g K : Nat} {q : Nat → Bool} (h : QAt W g K q) (e : W'.heap[g]? = W.heap[g]?) : QAt W' g K q := by
  obtain ⟨wd, h1, h2⟩ := h
  exact ⟨wd, h1.of_block e, h2⟩
theorem QAt.lt {W : World} {g K : Nat} {q : Nat → Bool} (h : QAt W g K q) : g < W.heap.size := by
  obtain ⟨wd, h1, h2⟩ := h
  exact h1.lt
abbrev pcs8 (x0 x1 x2 x3 x4 x5 : Value) (g K : Nat) (f : Int) : Array Value := #[x0, x1, x2, x3, x4, x5, .slice (some ⟨g, 0, none⟩) K K, .int .i64 f]
/-- nothing else has changed -/
def Only (W W' : World) (b g : Nat) : Prop := (∀ k, k ≠ b → k ≠ g → W'.heap[k]? = W.heap[k]?) ∧ W'.heap.size = W.heap.size ∧ ∀ B, B ≤ b → B ≤ g → Below B W W'
theorem Only.refl (W : World) (b g : Nat) : Only W W b g := ⟨fun _ _ _ => rfl, rfl, fun _ _ _ => Below.refl _ _⟩
theorem Only.trans {W W' X : World} {b g : Nat} (h : Only W W' b g) (k : Only W' X b g) : Only W X b g := ⟨fun j h1 h2 => (k.1 j h1 h2).trans (h.1 j h1 h2), k.2.1.trans h.2.1, fun B h1 h2 => (h.2.2 B h1 h2).trans (k.2.2 B h1 h2)⟩
theorem Only.set (W : World) {b g : Nat} {q : Addr} (hq : q.block = b ∨ q.block = g) (v : Value) : Only W (W.setCell q v) b g :=
  ⟨fun j h1 h2 => Below.heap_setCell _ _ _ _ (by rcases hq with h | h <;> rw [h] <;> assumption), by simp [World.setCell], fun B h1 h2 => (Below.refl B W).setCell (by rcases hq with h | h <;> rw [h] <;> assumption) v⟩
theorem Only.drew (W : World) (b g : Nat) : Only W W.drew b g := ⟨fun _ _ _ => rfl, rfl, fun B _ _ => below_dn (Below.refl _ _) 1⟩
/-- one index more -/
def qset (q : Nat → Bool) (i : Nat) : Nat → Bool := fun j => decide (j = i) || q j
def qdel (q : Nat → Bool) (i : Nat) : Nat → Bool := fun j => !decide (j = i) && q j

end Go.Proofs.YtecmldnigohjfabDoor

namespace Go.Proofs.YtecmldnigohjfabDoor
open Go Go.RowKit
set_option linter.unusedVariables false
set_option linter.unusedSimpArgs false

set_option maxRecDepth 100000 in
set_option maxHeartbeats 4000000 in
theorem qput_any (b g K i f : Nat) (x0 x1 x2 x3 x4 x5 : Value) (q : Nat → Bool) (w : World) (hH : Has w b 60 (pcs8 x0 x1 x2 x3 x4 x5 g K f)) (hQ : QAt w g K q) (hi : i < 64 * K) (hi2 : i ≤ 100000) (hne : b ≠ g) :
    Calls Tryd.prog 41 #[.pointer (some ⟨b, 6, none⟩), .int .i64 (i : Int)] w fun e w' => (∃ v, e = .returned v) ∧ Has w' b 60 (pcs8 x0 x1 x2 x3 x4 x5 g K (min f (i / 64) : Nat)) ∧ QAt w' g K (qset q i) ∧ Only w w' b g := by
  obtain ⟨wd, hR, hw⟩ := hQ
  have hk : i / 64 < K := by omega
  have y6 : w.cell? ⟨b, 6, none⟩ = some (.slice (some ⟨g, 0, none⟩) K K) := hH.cell 6
  have y7 : w.cell? ⟨b, 7, none⟩ = some (.int .i64 (f : Int)) := hH.cell 7
  have f7 : w.frozen? ⟨b, 7, none⟩ = false := hH.fz 7
  have z := hR.cell hk
  have fz := hR.frozen (i / 64)
  have h1 : (i : Int).tdiv 64 = ((i / 64 : Nat) : Int) := rfl
  have h2 : (i : Int).tmod 64 = ((i % 64 : Nat) : Int) := rfl
  have k0 : (0 : Int) ≤ ((i / 64 : Nat) : Int) := by omega
  have k1 : ((i / 64 : Nat) : Int) < (K : Int) := by omega
  have r0 : (0 : Int) ≤ ((i % 64 : Nat) : Int) := by omega
  have r1 : ((i % 64 : Nat) : Int) < 64 := by omega
  obtain ⟨k, hkk⟩ : ∃ k, k = i / 64 := ⟨_, rfl⟩
  obtain ⟨r, hrr⟩ : ∃ r, r = i % 64 := ⟨_, rfl⟩
  rw [← hkk] at h1 k0 k1 z fz hk ⊢
  rw [← hrr] at h2 r0 r1
  have HI := Lib.hid (And.intro hkk hrr)
  obtain ⟨x, hx⟩ : ∃ x, x = wd k := ⟨_, rfl⟩
  rw [← hx] at z
  have HX := Lib.hid hx
  have hne' : ¬ g = b := fun e => hne e.symm
  have hk2 : k ≤ 100000 := by omega
  have hr2 : r < 64 := by omega
  clear hkk hrr hx hi
  go_enter Tryd.func41, Tryd.ntmps41
  go_wp2
  go_region
  go_wp2
  go_end0
  have hxk : x < 18446744073709551616 := by rw [HX.out]; exact (hw k hk).1
  have hr3 : (2 : Nat) ^ r < 18446744073709551616 := Nat.pow_lt_pow_right (by decide) hr2
  have e1 : bits BinOp.or IntKind.u64 (x : Int) (IntKind.u64.wrap (2 ^ r)) = ((x ||| 2 ^ r : Nat) : Int) := by
    have := u64_shl r hr2
    rw [Int.one_mul] at this
    rw [this, bits_or_u64_nat x _ hxk hr3]
  have e2 : min (f : Int) (k : Int) = ((min f k : Nat) : Int) := by omega
  rw [e1, e2]
  refine ⟨⟨_, rfl⟩, ?_, ?_, ?_⟩
  · exact (hH.far (q := ⟨g, k, none⟩) hne _).set 7 _
  · refine ⟨fun j => if j = k then x ||| 2 ^ r else wd j, ?_, fun j hj => ?_⟩
    · refine (((hR.set k _).setOther (a := ⟨b, 7, none⟩) hne' _).congr fun j _ => ?_).drew
      by_cases e : j = k
      · subst e; simp
      · simp [e]
    · obtain ⟨g1, g2⟩ := hw j hj
      show (if j = k then x ||| 2 ^ r else wd j) < 18446744073709551616 ∧ ∀ c, c < 64 → (if j = k then x ||| 2 ^ r else wd j).testBit c = qset q i (64 * j + c)
      by_cases e : j = k
      · subst e
        rw [if_pos rfl]
        refine ⟨Nat.or_lt_two_pow (n := 64) hxk hr3, fun c hc => ?_⟩
        rw [bit_or, HX.out, g2 c hc]
        unfold qset
        have h3 := HI.out
        have h4 : (c = r) ↔ (64 * j + c = i) := by omega
        rw [Bool.or_comm]
        congr 1
        exact decide_eq_decide.2 h4
      · rw [if_neg e]
        refine ⟨g1, fun c hc => ?_⟩
        rw [g2 c hc]
        unfold qset
        have h3 := HI.out
        rw [decide_eq_false (show ¬ 64 * j + c = i by omega), Bool.false_or]
  · exact ((Only.set w (q := ⟨g, k, none⟩) (Or.inr rfl) _).trans (Only.set _ (q := ⟨b, 7, none⟩) (Or.inl rfl) _)).trans (Only.drew _ _ _)

theorem Has.drewN {W : World} {b : Nat} {ty : TypeId} {cs : Array Value} (h : Has W b ty cs) {n : Nat} : Has (W.drewN n) b ty cs := h
theorem Only.drewN (W : World) (b g n : Nat) : Only W (W.drewN n) b g := ⟨fun _ _ _ => rfl, rfl, fun B _ _ => below_dn (Below.refl _ _) n⟩
theorem info_u64 : (Tryd.prog.info? 70).map (fun i => (i.zero, i.size, i.bytes)) = some (some (.int .u64 0), 1, 8) := by kernel_rfl
/-- a cell's number -/
def cInt (W : World) (p : Addr) : Int := match W.cell? p with | some (.int _ z) => z | _ => 0
theorem cInt_of {W : World} {p : Addr} {k : IntKind} {z : Int} (h : W.cell? p = some (.int k z)) : cInt W p = z := by unfold cInt; rw [h]

set_option maxRecDepth 100000 in
set_option maxHeartbeats 4000000 in
theorem qtake_any (b g K f B : Nat) (x0 x1 x2 x3 x4 x5 : Value) (q : Nat → Bool) (w : World) (hH : Has w b 60 (pcs8 x0 x1 x2 x3 x4 x5 g K f)) (hQ : QAt w g K q) (hK : K ≤ 1000) (hf : f ≤ K) (hlo : ∀ j, j < 64 * f → q j = false) (hne : b ≠ g) (hT : Tab B w) (hB : B ≤ b ∧ B ≤ g) :
    Calls Tryd.prog 34 #[.pointer (some ⟨b, 6, none⟩)] w fun e w' => ∃ (r : Int) (f' : Nat) (q' : Nat → Bool), e = .returned (.int .i64 r) ∧ f' ≤ K ∧ Has w' b 60 (pcs8 x0 x1 x2 x3 x4 x5 g K f') ∧ QAt w' g K q' ∧ Only w w' b g ∧ (∀ j, j < 64 * f' → q' j = false) ∧
      ((∃ i : Nat, r = (i : Int) ∧ i < 64 * K ∧ q i = true ∧ (∀ j, j < i → q j = false) ∧ q' = qdel q i) ∨ (r = -1 ∧ (∀ j, j < 64 * K → q j = false) ∧ q' = q)) := by
  have hne' : ¬ g = b := fun e => hne e.symm
  have HT := Lib.hid (And.intro hT hB)
  have H0 := Lib.hid (And.intro hH (And.intro hQ hlo))
  clear hT hB hH hQ hlo
  go_enter Tryd.func34, Tryd.ntmps34
  go_wp2
  go_loopw [] (fun wr => ∃ f' : Nat, f' ≤ K ∧ Has wr b 60 (pcs8 x0 x1 x2 x3 x4 x5 g K f') ∧ QAt wr g K q ∧ Only w wr b g ∧ ∀ j, j < 64 * f' → q j = false) (fun wr => ((K : Int) - cInt wr ⟨b, 7, none⟩).toNat)
  case atStart => exact ⟨f, hf, H0.out.1, H0.out.2.1, Only.refl _ _ _, H0.out.2.2⟩
  case round =>
    obtain ⟨f', hf', hH, hQ, hO, hlo⟩ := hrel
    have y6 : wr.cell? ⟨b, 6, none⟩ = some (.slice (some ⟨g, 0, none⟩) K K) := hH.cell 6
    have y7 : wr.cell? ⟨b, 7, none⟩ = some (.int .i64 (f' : Int)) := hH.cell 7
    have f7 : wr.frozen? ⟨b, 7, none⟩ = false := hH.fz 7
    have HM := Lib.hid (cInt_of y7)
    by_cases hlt : f' < K
    · obtain ⟨wd, hR, hw⟩ := hQ
      have z := hR.cell hlt
      have fz := hR.frozen f'
      have k0 : (0 : Int) ≤ (f' : Int) := by omega
      have k1 : (f' : Int) < (K : Int) := by omega
      obtain ⟨x, hx⟩ : ∃ x, x = wd f' := ⟨_, rfl⟩
      rw [← hx] at z
      have HX := Lib.hid hx
      have HS := Lib.hid (And.intro hH (And.intro hR (And.intro hw (And.intro hO hlo))))
      have hx64 : x < 18446744073709551616 := by rw [hx]; exact (hw f' hlt).1
      clear hx hH hR hw hO hlo
      by_cases hx0 : x = 0
      · have e0 : ((x : Int) != 0) = false := by subst hx0; rfl
        go_wp2
        go_quiet (fail)
        go_wp2
        go_quiet (fail)
        go_wp2
        refine ⟨⟨f' + 1, by omega, ?_, ?_, ?_, ?_⟩, ?_⟩
        · exact HS.out.1.drewN.set 7 _
        · exact ⟨wd, (show (wr.drewN _).rowIs g 70 K (fun j => .int .u64 (wd j : Int)) from HS.out.2.1).setOther (a := ⟨b, 7, none⟩) hne' _, HS.out.2.2.1⟩
        · exact (HS.out.2.2.2.1.trans (Only.drewN _ _ _ _)).trans (Only.set _ (q := ⟨b, 7, none⟩) (Or.inl rfl) _)
        · intro j hj
          rcases Nat.lt_or_ge j (64 * f') with h | h
          · exact HS.out.2.2.2.2 j h
          · obtain ⟨g1, g2⟩ := HS.out.2.2.1 f' hlt
            have := g2 (j - 64 * f') (by omega)
            rw [← HX.out, hx0, show 64 * f' + (j - 64 * f') = j by omega] at this
            rw [← this]; simp
        · have h7 : ∀ n, ((wr.drewN n).setCell ⟨b, 7, none⟩ (.int .i64 ((f' : Int) + 1))).cell? ⟨b, 7, none⟩ = some (.int .i64 ((f' : Int) + 1)) := fun n => (HS.out.1.drewN.set 7 _).cell 7
          rw [HM.out, cInt_of (h7 _)]
          omega
      · have e0 : ((x : Int) != 0) = true := by simp; omega
        go_wp2
        go_quiet (fail)
        go_wp2
        go_quiet (fail)
        go_wp2
        go_region
        go_wp2
        have hA : bits BinOp.and IntKind.u64 (x : Int) ((x : Int) - 1) = ((x &&& (x - 1) : Nat) : Int) := by
          rw [show (x : Int) - 1 = ((x - 1 : Nat) : Int) by omega, bits_and_u64_nat x (x - 1) hx64 (by omega)]
        rw [hA]
        clear hA
        generalize hW5 : (World.setCell (World.drewN wr _) ⟨g, f', none⟩ (.int .u64 ((x &&& (x - 1) : Nat) : Int))) = W5
        have hQ5 : W5.rowIs g 70 K (fun j => .int .u64 ((if j = f' then x &&& (x - 1) else wd j : Nat) : Int)) := by
          rw [← hW5]
          refine ((show (World.drewN wr _).rowIs g 70 K (fun j => .int .u64 (wd j : Int)) from HS.out.2.1).set f' _).congr fun j _ => ?_
          by_cases e : j = f'
          · subst e; simp
          · simp [e]
        have hO5 : Only w W5 b g := by rw [← hW5]; exact (HS.out.2.2.2.1.trans (Only.drewN _ _ _ _)).trans (Only.set _ (q := ⟨g, f', none⟩) (Or.inr rfl) _)
        have hH5 : Has W5 b 60 (pcs8 x0 x1 x2 x3 x4 x5 g K f') := by rw [← hW5]; exact HS.out.1.drewN.far (q := ⟨g, f', none⟩) hne _
        clear hW5
        obtain ⟨m, hm, hc⟩ := ctz_split x hx0 hx64
        have DZ := fun n => tz_any x hx64 hx0 (W5.drewN n) B (((HT.out.1).on (hO5.2.2 B HT.out.2.1 HT.out.2.2)).on (below_dn (Below.refl _ _) n))
        obtain ⟨c, hcE⟩ : ∃ c, c = Lib.ctz 64 x := ⟨_, rfl⟩
        rw [← hcE] at hm hc DZ
        have HZ := Lib.hid (And.intro hm (And.intro hQ5 (And.intro hO5 hH5)))
        have y7' : W5.cell? ⟨b, 7, none⟩ = some (.int .i64 (f' : Int)) := hH5.cell 7
        clear hm hQ5 hO5 hH5 hcE y6 y7 f7 z fz
        go_quiet ((go_at_call 39; exact (DZ _).mono (fun e w'' h => ⟨h.1, _, h.2⟩)))
        go_wp2
        go_ret
        obtain ⟨hm, hQ5, hO5, hH5⟩ := HZ.out
        obtain ⟨_, _, hw, _, hlo⟩ := HS.out
        have hwk := hw f' hlt
        have hqc : ∀ a, a < 64 → q (64 * f' + a) = (decide (a = c) || (decide (c < a) && m.testBit (a - c - 1))) := fun a ha => by
          rw [← (hwk.2 a ha), ← HX.out, hm, bit_low]
        refine ⟨_, f', qdel q (64 * f' + c), rfl, hf', hH5.drewN, ?_, hO5.trans (Only.drewN _ _ _ _), fun j hj => ?_, Or.inl ⟨64 * f' + c, by omega, by omega, by rw [hqc c hc]; simp, fun j hj => ?_, rfl⟩⟩
        · refine ⟨fun j => if j = f' then x &&& (x - 1) else wd j, hQ5, fun j hj => ?_⟩
          obtain ⟨g1, g2⟩ := hw j hj
          show (if j = f' then x &&& (x - 1) else wd j) < 18446744073709551616 ∧ ∀ a, a < 64 → (if j = f' then x &&& (x - 1) else wd j).testBit a = qdel q (64 * f' + c) (64 * j + a)
          by_cases e : j = f'
          · subst e
            rw [if_pos rfl]
            refine ⟨Nat.lt_of_le_of_lt Nat.and_le_left hx64, fun a ha => ?_⟩
            rw [hm, bit_pred, ← hm, HX.out, g2 a ha]
            unfold qdel
            rw [Bool.and_comm]
            congr 2
            exact decide_eq_decide.2 (by omega)
          · rw [if_neg e]
            refine ⟨g1, fun a ha => ?_⟩
            rw [g2 a ha]
            unfold qdel
            rw [decide_eq_false (show ¬ 64 * j + a = 64 * f' + c by omega)]
            rfl
        · unfold qdel; rw [hlo j hj, Bool.and_false]
        · rcases Nat.lt_or_ge j (64 * f') with h | h
          · exact hlo j h
          · have := hqc (j - 64 * f') (by omega)
            rw [show 64 * f' + (j - 64 * f') = j by omega] at this
            rw [this, decide_eq_false (show ¬ j - 64 * f' = c by omega), decide_eq_false (show ¬ c < j - 64 * f' by omega)]
            rfl
    · obtain rfl : f' = K := by omega
      have hjn : ¬ (f' : Int) < (f' : Int) := by omega
      have HS := Lib.hid (And.intro hH (And.intro hQ (And.intro hO hlo)))
      clear hH hQ hO hlo
      go_wp2
      go_quiet (fail)
      go_wp2
      go_ret
      obtain ⟨hH, hQ, hO, hlo⟩ := HS.out
      exact ⟨_, f', q, rfl, Nat.le_refl _, hH.drewN, hQ.of_block rfl, hO.trans (Only.drewN _ _ _ _), hlo, Or.inr ⟨rfl, hlo, rfl⟩⟩

/-- a new queue -/
theorem queueOf_any (m : Nat) (hm : m ≤ 100000) (w : World) : Calls Tryd.prog 36 #[.int .i64 (m : Int)] w fun e w' => ∃ g, e = .returned (.agg #[.slice (some ⟨g, 0, none⟩) ((m + 63) / 64) ((m + 63) / 64), .int .i64 0]) ∧ w.heap.size ≤ g ∧ QAt w' g ((m + 63) / 64) (fun _ => false) ∧ Below w.heap.size w w' := by
  obtain ⟨K, hK⟩ : ∃ K, K = (m + 63) / 64 := ⟨_, rfl⟩
  have h1 : ((m : Int) + 63).tdiv 64 = (K : Int) := by rw [hK]; rfl
  have hK1 : K ≤ 100000 := by omega
  have hmk : ∀ w : World, (Instr.makeSlice 56 (.int .i64 (K : Int)) (.int .i64 (K : Int))).run Tryd.prog w = .ok (.slice (some ⟨w.heap.size, 0, none⟩) K K) (w.alloc (.cells (madeCells #[.int .u64 0] K) 70)) := fun w =>
    run_make_row' 56 70 (.int .u64 0) 8 Tryd.underlying56 info_u64 rfl _ _ K (by omega) (by omega) w
  rw [← hK]
  clear hK
  go_enter Tryd.func36, Tryd.ntmps36
  go_wp2
  refine bodyPost_ret (v := .agg #[.slice (some ⟨w.heap.size + 1, 0, none⟩) K K, .int .i64 0]) (by simp [results, Tryd.results36, go_sem]) rfl ?_
  have hR := World.rowIs_made (w.alloc (.cells #[.slice (some ⟨w.heap.size + 1, 0, none⟩) K K, .int .i64 0] 58)) (.int .u64 0) K 70
  rw [World.size_alloc] at hR
  exact ⟨_, rfl, Nat.le_succ _, ⟨fun _ => 0, hR, fun j _ => ⟨show (0 : Nat) < 18446744073709551616 by decide, fun c _ => Nat.zero_testBit c⟩⟩, (bx_on _ _).trans ((bx_on _ _).mono (by simp))⟩

end Go.Proofs.YtecmldnigohjfabDoor

namespace Go.Proofs.YtecmldnigohjfabDoor
open Go Go.RowKit Go.Shelf
set_option linter.unusedVariables false
set_option linter.unusedSimpArgs false

attribute [local go_sem] Oper.semAt_some

/-- how a round ends -/
def rdEnd (B : Nat) (Kp : World → World → Prop) (I : Nat → World → Prop) (i : Nat) (W : World) : Exit → Act → World → Prop
  | .normal, _, W' => KeepsFrom B W W' ∧ Kp W W' ∧ I i W'
  | _, _, _ => False

/-- the rounds of a range over a function have numbers: each one is met with the values of its own number -/
theorem range_num {F : Fence} {n : Nat} {P : Program} {g : Operand} {ps : Array Tmp} {assign body : Code} {Q : Exit → Act → World → Prop} {a : Act} {w : World}
    (hro : F.round = none) (h1 : 1 ≤ n) {gf : Nat} {lb : Array Value} (hg : a.eval g = .func (.func gf) #[] lb) (hF : F.fn gf) (eg : ∀ args w, (callFunc gf args).run P w = .ok (.enter gf args) w)
    (encs : Nat → Array Value) (hps : ∀ i, (encs i).size = ps.size) (N : Nat) (Kp : World → World → Prop) (hKt : ∀ {A B C : World}, Kp A B → Kp B C → Kp A C)
    (hKb : ∀ (W : World) (l : Nat) (o o' : Obj), w.heap.size ≤ l → W.heap[l]? = some o → o.isCells = false → o.isWalk = false → Kp W (W.putObj l o'))
    (I : Nat → World → Prop) (hI : OwnFrom w.heap.size I) (h0 : I 0 w) (fr : Nat → Act)
    (hseq : ∀ (l : Nat) (J : Nat → World → Prop) (W : World), Below w.heap.size w W → (∀ i W1, i < N → J i W1 → YieldAt F (n - 1 - 1) P l (encs i) W1 fun e W' => e = .returned (.bool true) ∧ J (i + 1) W' ∧ Kp W1 W') → J 0 W →
      CallsIn F (n - 1) P gf (#[.func (.yield l) #[] #[]] ++ lb) W fun e W' => (∃ v, e = .returned v) ∧ J N W')
    (hassign : ∀ (l i : Nat) (W : World), assign.wpIn (F.inRound l) (n - 1 - 1) P (Exit.then (fun a₁ W₁ => a₁ = fr i ∧ W₁ = W) (fun _ _ _ => False)) { tmps := (ps.zip (encs i)).foldl (fun t (p, v) => t.setIfInBounds p v) a.tmps, defers := [] } W)
    (hbody : ∀ (l i : Nat) (W : World), w.heap.size ≤ l → (∃ r, W.heap[l]? = some (.loop r)) → I i W → i < N → body.wpIn (F.inRound l) (n - 1 - 1) P (rdEnd w.heap.size Kp I (i + 1) W) (fr i) W)
    (hdone : ∀ (D : Nat) (W : World), w.heap.size ≤ D → I N W → W.heap[D]? = some (.deferred (some [])) → Q .normal { a with defers := { target := .collected D, args := #[] } :: a.defers } W) :
    (Code.rangeFunc g ps assign body).wpIn F n P Q a w := by
  refine wpIn_rangeFunc fun fn hfn => ?_
  rw [hro]
  let rc : LoopState → Loop := fun st => { state := st, pending := none, fn, tmps := a.tmps, params := ps, assign, body, defers := w.heap.size }
  have hz : (w.alloc (.deferred (some []))).heap.size = w.heap.size + 1 := World.size_alloc _ _
  have hB : Below w.heap.size w ((w.alloc (.deferred (some []))).alloc (.loop (rc .ready))) := ((Below.refl _ w).alloc (Nat.le_refl _) _).alloc (by omega) _
  have hL : ((w.alloc (.deferred (some []))).alloc (.loop (rc .ready))).heap[w.heap.size + 1]? = some (.loop (rc .ready)) := by
    have := World.alloc_heap_new (w.alloc (.deferred (some []))) (.loop (rc .ready)); rwa [hz] at this
  have hK : ((w.alloc (.deferred (some []))).alloc (.loop (rc .ready))).heap[w.heap.size]? = some (.deferred (some [])) := (Below.heap_alloc _ _ _ (by omega)).trans (World.alloc_heap_new w _)
  have hI0 : I 0 ((w.alloc (.deferred (some []))).alloc (.loop (rc .ready))) := hI.alloc _ (hI.alloc _ h0)
  have he := run_enterLoop_outer (P := P) (w := w) fn a.tmps ps assign body
  obtain ⟨W1, hW1⟩ : ∃ W1, W1 = (w.alloc (.deferred (some []))).alloc (.loop (rc .ready)) := ⟨_, rfl⟩
  rw [← hW1] at hB hL hK hI0
  refine ⟨w.heap.size + 1, [{ target := .collected w.heap.size, args := #[] }], W1, { target := .fn (.func gf) lb, args := #[.func (.yield (w.heap.size + 1)) #[] #[]] }, W1, gf, #[.func (.yield (w.heap.size + 1)) #[] #[]] ++ lb, W1, ?_, ?_, ?_, ?_, fun _ => h1, ?_⟩
  · rw [hW1]; exact he
  · simp only [resolve, hg]
    simp [go_sem]
  · intro f' hf'; simp [Target.leads] at hf'; subst hf'; exact hF
  · simp [invoke, go_sem, eg]
  refine (hseq (w.heap.size + 1) (fun i W => I i W ∧ W.heap[w.heap.size + 1]? = some (.loop (rc .ready)) ∧ W.heap[w.heap.size]? = some (.deferred (some []))) _ hB (fun i W hlt hJ => ?_) ⟨hI0, hL, hK⟩).mono ?_
  · obtain ⟨hi, hl, hk⟩ := hJ
    have hy := run_yield (P := P) (args := encs i) hl (hps i)
    refine ⟨fn, _, assign, body, hy, roundIn_of_wpIn hfn (wpIn_mono (hassign _ i W) fun e a₁ W₁ hp => ?_)⟩
    cases e with
    | normal =>
      obtain ⟨rfl, rfl⟩ := hp
      have hlW : w.heap.size + 1 < W₁.heap.size := (Array.getElem?_eq_some_iff.1 hl).1
      refine ⟨_, run_beginRound hl rfl, ?_⟩
      have hl2 : (W₁.putObj (w.heap.size + 1) (.loop { rc .ready with state := .busy })).heap[w.heap.size + 1]? = some (.loop { rc .ready with state := .busy }) := World.putObj_heap_same hlW
      have hk2 : (W₁.putObj (w.heap.size + 1) (.loop { rc .ready with state := .busy })).heap[w.heap.size]? = some (.deferred (some [])) := (World.putObj_heap_other (by omega)).trans hk
      refine wpIn_mono (hbody _ i _ (by omega) ⟨_, hl2⟩ (hI.putObj _ hi (by omega) hl rfl) hlt) fun e a₂ W₂ hp => ?_
      cases e with
      | normal =>
        obtain ⟨hk3, hkp3, hi3⟩ := hp
        have hl3 := hk3.same _ _ (Nat.le_succ _) hl2 rfl
        have hk4 := hk3.same _ _ (Nat.le_refl _) hk2 rfl
        exact ⟨_, _, run_endRound none hl3, rfl, ⟨hI.putObj _ hi3 (by omega) hl3 rfl, World.putObj_heap_same (Array.getElem?_eq_some_iff.1 hl3).1, (World.putObj_heap_other (by omega)).trans hk4⟩,
          hKt (hKb _ _ _ _ (by omega) hl rfl rfl) (hKt hkp3 (hKb _ _ _ _ (by omega) hl3 rfl rfl))⟩
      | _ => exact hp.elim
    | _ => exact hp.elim
  · rintro e W2 ⟨⟨v, rfl⟩, hi, hl, hk⟩
    refine ⟨none, _, run_endLoop hl (by simp [rc]), ?_⟩
    exact hdone _ _ (Nat.le_refl _) (hI.putObj _ hi (by omega) hl rfl) ((World.putObj_heap_other (by omega)).trans hk)

/-- where two variables of the function get the values -/
theorem range_num2 {F : Fence} {n : Nat} {P : Program} {g : Operand} {ps : Array Tmp} {assign body : Code} {Q : Exit → Act → World → Prop} {a : Act} {w : World}
    (hro : F.round = none) (h1 : 1 ≤ n) {gf : Nat} {lb : Array Value} (hg : a.eval g = .func (.func gf) #[] lb) (hF : F.fn gf) (eg : ∀ args w, (callFunc gf args).run P w = .ok (.enter gf args) w)
    (encs : Nat → Array Value) (hps : ∀ i, (encs i).size = ps.size) (N : Nat) (Kp : World → World → Prop) (hKt : ∀ {A B C : World}, Kp A B → Kp B C → Kp A C)
    (hKb : ∀ (W : World) (l : Nat) (o o' : Obj), w.heap.size ≤ l → W.heap[l]? = some o → o.isCells = false → o.isWalk = false → Kp W (W.putObj l o'))
    (I : Nat → World → Prop) (hI : OwnFrom w.heap.size I) (h0 : I 0 w) (p1 p2 : Nat) (v1 v2 : Nat → Value)
    (hseq : ∀ (l : Nat) (J : Nat → World → Prop) (W : World), Below w.heap.size w W → (∀ i W1, i < N → J i W1 → YieldAt F (n - 1 - 1) P l (encs i) W1 fun e W' => e = .returned (.bool true) ∧ J (i + 1) W' ∧ Kp W1 W') → J 0 W →
      CallsIn F (n - 1) P gf (#[.func (.yield l) #[] #[]] ++ lb) W fun e W' => (∃ v, e = .returned v) ∧ J N W')
    (hassign : ∀ (l i : Nat) (W : World), assign.wpIn (F.inRound l) (n - 1 - 1) P (Exit.then (fun a₁ W₁ => a₁ = { tmps := (((ps.zip (encs i)).foldl (fun t (p, v) => t.setIfInBounds p v) a.tmps).setIfInBounds p1 (v1 i)).setIfInBounds p2 (v2 i), defers := [] } ∧ W₁ = W) (fun _ _ _ => False)) { tmps := (ps.zip (encs i)).foldl (fun t (p, v) => t.setIfInBounds p v) a.tmps, defers := [] } W)
    (hbody : ∀ (l i : Nat) (W : World), w.heap.size ≤ l → (∃ r, W.heap[l]? = some (.loop r)) → I i W → i < N → body.wpIn (F.inRound l) (n - 1 - 1) P (rdEnd w.heap.size Kp I (i + 1) W) { tmps := (((ps.zip (encs i)).foldl (fun t (p, v) => t.setIfInBounds p v) a.tmps).setIfInBounds p1 (v1 i)).setIfInBounds p2 (v2 i), defers := [] } W)
    (hdone : ∀ (D : Nat) (W : World), w.heap.size ≤ D → I N W → W.heap[D]? = some (.deferred (some [])) → Q .normal { a with defers := { target := .collected D, args := #[] } :: a.defers } W) :
    (Code.rangeFunc g ps assign body).wpIn F n P Q a w :=
  range_num hro h1 hg hF eg encs hps N Kp hKt hKb I hI h0 (fun i => { tmps := (((ps.zip (encs i)).foldl (fun t (p, v) => t.setIfInBounds p v) a.tmps).setIfInBounds p1 (v1 i)).setIfInBounds p2 (v2 i), defers := [] }) hseq hassign hbody hdone
theorem kept15 {W W' : World} {row : Option Nat} {b : Nat} {cs : Array Value} {t : TypeId} {fr : Nat × Nat} (h : W.heap[b]? = some (.cells cs t fr)) (hg : W.grownBy W' row) (hr : ∀ r, row = some r → ∃ o : Obj, W.heap[r]? = some o ∧ o.isCells = false) : W'.heap[b]? = W.heap[b]? :=
  hg.block b (Array.getElem?_eq_some_iff.1 h).1 fun e => by
    obtain ⟨o, ho, hc⟩ := hr b e.symm
    rw [h] at ho
    cases ho
    cases hc
theorem has_own15 (b : Nat) (t : TypeId) (cs : Array Value) : Own (fun (_ : Nat) W => Has W b t cs) := fun s X Y row hs hg hr => (kept15 hs hg hr).trans hs
theorem row_own15 (b : Nat) (t : TypeId) (n : Nat) (f : Nat → Nat → Value) : Own (fun s W => W.rowIs b t n (f s)) := fun s X Y row hs hg hr => by
  obtain ⟨c, hc, _⟩ := id hs
  exact hs.of_block (kept15 hc hg hr)

/-- nothing below block n has turned, nor has the block b -/
def Kb15 (n b : Nat) (W W' : World) : Prop := Below n W W' ∧ W'.heap[b]? = W.heap[b]?
theorem Kb15.refl (n b : Nat) (W : World) : Kb15 n b W W := ⟨Below.refl _ _, rfl⟩
theorem Kb15.trans {n b : Nat} {A B C : World} (h : Kb15 n b A B) (k : Kb15 n b B C) : Kb15 n b A C := ⟨h.1.trans k.1, k.2.trans h.2⟩
theorem Kb15.put {n b : Nat} {w : World} (hn : n ≤ w.heap.size) (hb : b < w.heap.size) : ∀ (W : World) (l : Nat) (o o' : Obj), w.heap.size ≤ l → W.heap[l]? = some o → o.isCells = false → o.isWalk = false → Kb15 n b W (W.putObj l o') := fun W l o o' hl ho hc hw =>
  ⟨belowK_b (w := w) hn W l o o' hl ho hc hw, World.putObj_heap_other (by omega)⟩

set_option maxRecDepth 100000 in
set_option maxHeartbeats 2000000 in
theorem bk1_in (n : Nat) (hn : 1 ≤ n) (l Bq n₀ m k : Nat) (hm2 : m ≤ 20000) (b o : Nat) (hb : b < n₀) (CA : Nat → Option Addr) (CN CK : Nat → Nat) (J : Nat → World → Prop)
    (hY : ∀ i W1, i < m → J i W1 → YieldAt Fence.wide (n - 1) Tryd.prog l #[.int .i64 (((m - 1 - i : Nat)) : Int), .slice (CA (m - 1 - i)) (CN (m - 1 - i)) (CK (m - 1 - i))] W1 fun e W' => e = .returned (.bool true) ∧ J (i + 1) W' ∧ Kb15 n₀ Bq W1 W')
    (W : World) (hBs : W.cell? ⟨Bq, 0, none⟩ = some (.slice (some ⟨b, o, none⟩) m k)) (hc : ∀ j, j < m → W.cell? ⟨b, o + j, none⟩ = some (.slice (CA j) (CN j) (CK j))) (h0 : J 0 W) :
    CallsIn Fence.wide n Tryd.prog 42 #[.func (.yield l) #[] #[], .pointer (some ⟨Bq, 0, none⟩)] W fun e W' => (∃ v, e = .returned v) ∧ J m W' := by
  refine callsIn_of_wp Tryd.func42 rfl trivial ?_ rfl
  simp only [Tryd.ntmps42, List.size_toArray, List.length_cons, List.length_nil, Nat.reduceAdd, Nat.reduceSub, Array.replicate_succ, Array.replicate_zero, List.push_toArray, List.append_toArray, List.nil_append, List.cons_append]
  gi_wp2
  gi_loopw [3] (fun i wr => ∃ q : Nat, q ≤ m ∧ i = .int .i64 ((m : Int) - 1 - q) ∧ J q wr ∧ Kb15 n₀ Bq W wr)
    (fun i _ => (intOf i + 1).toNat)
  case atStart => exact ⟨0, Nat.zero_le _, by simp, h0, Kb15.refl _ _ _⟩
  case round =>
    obtain ⟨q, hq, rfl, hJs, hnx⟩ := hrel
    have x0 : wr.cell? ⟨Bq, 0, none⟩ = _ := (World.cell?_of_block (w := W) hnx.2).trans hBs
    by_cases hlt : q < m
    · have y0 := hc (m - 1 - q) (by omega)
      have y0 := (hnx.1.cell (p := ⟨b, o + (m - 1 - q), none⟩) hb).trans y0
      obtain ⟨fn, tmps, assign, body, hy, hR⟩ := hY q wr hlt hJs
      have e1 : (((m : Int) - 1 - q).toNat) = m - 1 - q := by omega
      have e2 : ((m - 1 - q : Nat) : Int) = (m : Int) - 1 - q := by omega
      rw [e2] at hy
      have E2 := Lib.hid e2
      clear e2
      gi_wp2
      refine hR.mono ?_
      rintro e W3 ⟨rfl, hJ3, hk3⟩
      gi_wp2
      go_roundw
      case rel => exact ⟨q + 1, by omega, by congr 1; omega, hJ3, hnx.trans hk3⟩
      case measure => simp [intOf]; omega
    · obtain rfl : q = m := by omega
      have e3 : ((q : Int) - 1 - q) = -1 := by omega
      rw [e3]
      clear e3
      gi_wp2
      go_end0
      exact ⟨⟨_, rfl⟩, hJs⟩

set_option maxRecDepth 100000 in
set_option maxHeartbeats 2000000 in
theorem bk0_in (n : Nat) (l Bq k : Nat) (A : Option Addr) (J : Nat → World → Prop) (W : World) (hBs : W.cell? ⟨Bq, 0, none⟩ = some (.slice A 0 k)) (h0 : J 0 W) :
    CallsIn Fence.wide n Tryd.prog 42 #[.func (.yield l) #[] #[], .pointer (some ⟨Bq, 0, none⟩)] W fun e W' => (∃ v, e = .returned v) ∧ J 0 W' := by
  refine callsIn_of_wp Tryd.func42 rfl trivial ?_ rfl
  simp only [Tryd.ntmps42, List.size_toArray, List.length_cons, List.length_nil, Nat.reduceAdd, Nat.reduceSub, Array.replicate_succ, Array.replicate_zero, List.push_toArray, List.append_toArray, List.nil_append, List.cons_append]
  gi_wp2
  gi_loopw [3] (fun i wr => i = .int .i64 (-1) ∧ J 0 wr) (fun _ _ => 0)
  case atStart => exact ⟨rfl, h0⟩
  case round =>
    obtain ⟨rfl, hJs⟩ := hrel
    gi_wp2
    go_end0
    exact ⟨⟨_, rfl⟩, hJs⟩

set_option maxHeartbeats 1000000 in
theorem bk_any (a : Option Addr) (len cap : Nat) (w : World) :
    Calls Tryd.prog 38 #[.slice a len cap] w fun e w' => e = .returned (.func (.func 42) #[] #[.pointer (some ⟨w.heap.size, 0, none⟩)]) ∧ w.alloc (.cells #[.slice a len cap] 38) = w' := by
  go_enter Tryd.func38, Tryd.ntmps38
  go_wp2
  go_ret
  exact ⟨rfl, rfl⟩

end Go.Proofs.YtecmldnigohjfabDoor

namespace Go.Proofs.YtecmldnigohjfabDoor
open Go Go.RowKit
set_option linter.unusedVariables false
set_option linter.unusedSimpArgs false

/-- operations that call nothing -/
def plainOp (o : Oper) : Bool := match o.op with | .move _ => true | .load _ _ => true | .store _ _ _ => true | .fieldAddr _ _ _ => true | .indexAddr _ _ _ => true | _ => false
def Nm (Q : Exit → Act → World → Prop) : Exit → Act → World → Prop := fun e a w => e = .normal ∧ Q .normal a w
section
variable {F : Fence} {k : Nat} {P : Program} {ops : Array Oper} {Q : Exit → Act → World → Prop} {md : Region.Mode}
theorem plain_in {o : Oper} (h : plainOp o = true) {a : Act} {w : World} {K : Act → World → Prop} (hw : o.wp P a w K (NoPanic (Nm Q))) : o.wpIn F k P a w K Q := by
  have hnc : ∀ c, o.op ≠ .call c := fun c e => by unfold plainOp at h; rw [e] at h; cases h
  have hnd : ∀ c, o.op ≠ .defer c := fun c e => by unfold plainOp at h; rw [e] at h; cases h
  refine ⟨fun f hf => ?_, ?_⟩
  · unfold Oper.about at hf
    cases ho : o.op <;> simp only [ho] at hf <;> first | cases hf | exact absurd ho (hnc _)
  · rw [Oper.semAt_eq _ _ _ hnd]
    unfold Oper.wp at hw
    have hres : (∃ v w', (execOp a.eval o).run P w = .ok (.value v) w') ∨ (∃ w', (execOp a.eval o).run P w = .ok .skip w') ∨ ∃ x w', (execOp a.eval o).run P w = .halt x w' := by
      unfold execOp
      unfold plainOp at h
      cases ho : o.op <;> simp only [ho] at h <;> first | cases h | skip
      all_goals simp only [ho, Sem.run_bind, Sem.run_pure]
      all_goals first
        | exact Or.inl ⟨_, _, rfl⟩
        | skip
      all_goals (generalize Sem.run _ _ _ = r; cases r <;> simp [Result.andThen])
    rcases hres with ⟨v, w', hr⟩ | ⟨w', hr⟩ | ⟨x, w', hr⟩
    · rw [hr] at hw ⊢; exact hw
    · rw [hr] at hw ⊢; exact hw
    · rw [hr] at hw
      cases x <;> first | exact hw.elim | (simp [Oper.upon, NoPanic, Nm] at hw)
theorem plain_op_in (hp : ∀ (i : Nat) (o : Oper), ops[i]? = some o → plainOp o = true) {i : Nat} {a : Act} {w : World} {K K' : Act → World → Prop} (hK : ∀ a w, K a w → K' a w) (h : wpOp P ops (NoPanic (Nm Q)) i K a w) : wpOpIn F k P ops Q i K' a w := by
  unfold wpOp at h
  unfold wpOpIn
  cases ho : ops[i]? with
  | none => rw [ho] at h; exact hK _ _ h
  | some o =>
    rw [ho] at h
    simp only at h ⊢
    split
    · next hw =>
      rw [if_pos hw] at h
      rcases h with h | ⟨_, a', w', h⟩
      · exact Oper.wpIn_mono hK (plain_in (hp i o ho) h)
      · exact absurd h.1 (by simp)
    · next hw =>
      rw [if_neg hw] at h
      refine ⟨fun f hf => ?_, hK _ _ h⟩
      have h1 := hp i o ho
      unfold plainOp at h1
      unfold Oper.about at hf
      cases ho' : o.op <;> simp only [ho'] at hf h1 <;> first | cases hf | cases h1
theorem any_in (hp : ∀ (i : Nat) (o : Oper), ops[i]? = some o → plainOp o = true) : ∀ (fuel : Nat) (listed : Array Bool) (a : Act) (w : World), wpAny P md ops (NoPanic (Nm Q)) fuel listed a w → wpAnyIn F k P md ops Q fuel listed a w
  | 0, _, _, _, h => ⟨h.1, h.2.2⟩
  | fuel + 1, listed, a, w, h => ⟨fun h0 => (h.1 h0).2, fun i hi => plain_op_in hp (fun a' w' h' => any_in hp fuel _ a' w' h') (h.2 i hi)⟩
/-- the beginning of such a region -/
theorem wpIn_region_T (S : World → Prop) (n : Nat) {id : Nat} {a : Act} {w : World} (hm : P.follows .mixedOrders = true) (hp : ops.toList.all plainOp = true)
    (h : wpT P .any ops (NoPanic (Nm Q)) S n ops.size (Array.replicate ops.size false) a w.drew) : (Code.region id ops true).wpIn F k P Q a w :=
  wpIn_region_any hm (any_in (fun i o ho => List.all_eq_true.1 hp o (by
    have := Array.mem_of_getElem? ho
    exact Array.mem_toList_iff.2 this)) _ _ _ _ (wpT_any _ _ _ _ h))
theorem wpIn_slots {c : Code} {a : Act} {w : World} (R : Act → Prop) (hR : R a) (h : ∀ b, b = a → R b → c.wpIn F k P Q b w) : c.wpIn F k P Q a w := h a rfl hR
end

end Go.Proofs.YtecmldnigohjfabDoor

namespace Go.Proofs.YtecmldnigohjfabDoor
open Go Go.RowKit
set_option linter.unusedVariables false
set_option linter.unusedSimpArgs false

theorem xor1 (x : Nat) : x ^^^ 1 = if x % 2 = 0 then x + 1 else x - 1 := by
  have h : ∀ b, (x ^^^ 1).testBit b = (if x % 2 = 0 then x + 1 else x - 1).testBit b := by
    intro b
    cases b with
    | zero =>
      rw [Nat.testBit_xor, Nat.testBit_zero, Nat.testBit_zero, Nat.testBit_zero]
      by_cases h : x % 2 = 0
      · rw [if_pos h]; simp [h]; omega
      · rw [if_neg h]
        have h1 : x % 2 = 1 := by omega
        have h2 : (x - 1) % 2 = 0 := by omega
        simp [h1, h2]
    | succ b =>
      rw [Nat.testBit_xor, Nat.testBit_succ, Nat.testBit_succ, Nat.testBit_succ]
      by_cases h : x % 2 = 0
      · rw [if_pos h, show (x + 1) / 2 = x / 2 by omega]; simp
      · rw [if_neg h, show (x - 1) / 2 = x / 2 by omega]; simp
  exact Nat.eq_of_testBit_eq h
theorem negation_any (x : Int) (h0 : 0 ≤ x) (h1 : x ≤ 10000) (w : World) : Calls Tryd.prog 27 #[.int .i64 x] w fun e w' => e = .returned (.int .i64 (ng x)) ∧ w = w' := by
  go_enter Tryd.func27, Tryd.ntmps27
  go_wp2
  go_ret
  refine ⟨?_, rfl⟩
  obtain ⟨n, rfl⟩ : ∃ n : Nat, x = n := ⟨x.toNat, by omega⟩
  have e : bits BinOp.xor IntKind.i64 (n : Int) 1 = ((n ^^^ 1 : Nat) : Int) := by
    have ha' : n % 2 ^ 64 = n := Nat.mod_eq_of_lt (by omega)
    have h1 : n ^^^ 1 < 100000 := by rw [xor1]; split <;> omega
    show IntKind.i64.wrap ((BitVec.ofInt 64 (n : Int) ^^^ BitVec.ofInt 64 ((1 : Nat) : Int)).toNat : Int) = _
    rw [BitVec.toNat_xor, BitVec.ofInt_natCast, BitVec.ofInt_natCast, BitVec.toNat_ofNat, BitVec.toNat_ofNat, ha', show 1 % 2 ^ 64 = 1 from rfl]
    generalize n ^^^ 1 = z at h1
    simp [IntKind.wrap, IntKind.bits, IntKind.signed]
    omega
  rw [e, xor1]
  unfold ng
  by_cases h : n % 2 = 0
  · rw [if_pos h, if_pos (by omega)]; rfl
  · rw [if_neg h, if_neg (by omega), show ((n - 1 : Nat) : Int) = (n : Int) - 1 by omega]; rfl


/-- a truth value for each literal, of those that are true -/
abbrev tT (t : List Int) : Nat → Value := fun j => .bool (decide ((j : Int) ∈ t))
/-- how many of the first ones are not false, and the last one -/
def cnt (t c : List Int) (j : Nat) : Nat := (nf t (c.take j)).length
def lst15 (t c : List Int) (j : Nat) : Int := (nf t (c.take j)).getLastD 0
theorem nf_take_succ {t c : List Int} {j : Nat} (hj : j < c.length) : nf t (c.take (j + 1)) = if ng (c.getD j 0) ∈ t then nf t (c.take j) else nf t (c.take j) ++ [c.getD j 0] := by
  unfold nf
  rw [List.take_succ_eq_append_getElem hj, List.filter_append, getD_at hj]
  by_cases h : ng c[j] ∈ t
  · rw [if_pos h]; simp [h]
  · rw [if_neg h]; simp [h]
theorem cnt_le (t c : List Int) (j : Nat) : cnt t c j ≤ j := by
  unfold cnt nf
  refine Nat.le_trans (List.length_filter_le _ _) ?_
  rw [List.length_take]; omega
theorem tru_take {t c : List Int} {j : Nat} (hj : j < c.length) (h : c.getD j 0 ∈ t) : tru t c = true := tru_iff.2 ⟨_, getD_mem hj, h⟩
theorem tru_no {t c : List Int} (h : ∀ j, j < c.length → c.getD j 0 ∉ t) : tru t c = false := by
  rw [← Bool.not_eq_true, tru_iff]
  rintro ⟨l, hl, hlt⟩
  obtain ⟨j, hj, rfl⟩ := mem_getD hl
  exact h j hj hlt

set_option maxRecDepth 100000 in
set_option maxHeartbeats 4000000 in
theorem stateOf_any (A : Option Addr) (c : List Int) (k : Nat) (g m v : Nat) (t : List Int) (w : World) (h : Ia w w.heap.size A c k) (hl : c.length ≤ 100000) (hv : v ≤ 4000) (hm : m = 2 * v + 2) (hc : ∀ x ∈ c, isL v x = true) (hR : w.rowIs g 4 m (tT t)) :
    Calls Tryd.prog 17 #[.slice A c.length k, .slice (some ⟨g, 0, none⟩) m m] w fun e w' => e = .returned (.tuple #[.int .u8 (stC t c), .int .i64 (stX t c)]) ∧ w = w' := by
  obtain ⟨n, hn⟩ : ∃ n, n = c.length := ⟨_, rfl⟩
  rw [← hn]
  have hl' : n ≤ 100000 := by rw [hn]; exact hl
  have HH := Lib.hid (And.intro h (And.intro hn (And.intro hc (And.intro hR hm))))
  have hmb : m ≤ 8002 := by omega
  clear h hl hn hc hR hm
  go_enter Tryd.func17, Tryd.ntmps17
  go_wp2
  go_loopw [6, 5, 11] (fun a b i wr => ∃ j : Nat, j ≤ n ∧ i = .int .i64 (j : Int) ∧ a = .int .i64 (cnt t c j : Nat) ∧ b = .int .i64 (lst15 t c j) ∧ (∀ p, p < j → c.getD p 0 ∉ t) ∧ w = wr) (fun _ _ i _ => n - (intOf i).toNat)
  case atStart => exact ⟨0, Nat.zero_le _, rfl, rfl, rfl, fun q hq => absurd hq (Nat.not_lt_zero _), rfl⟩
  case round =>
    obtain ⟨j, hj, rfl, rfl, rfl, hok, rfl⟩ := hrel
    by_cases hlt : j < n
    · obtain ⟨b, o, rfl, hb0, hcs⟩ := HH.out.1.cells (by have := HH.out.2.1; omega)
      have hjl : j < c.length := by have := HH.out.2.1; omega
      have y := hcs j hjl
      have hj1 : (j : Int) < (n : Int) := by omega
      have hj0 : (0 : Int) ≤ (j : Int) := by omega
      have hx := isL_iff.1 (HH.out.2.2.1 _ (getD_mem hjl))
      have HN := Lib.hid (nf_take_succ (t := t) hjl)
      have hcn := cnt_le t c j
      obtain ⟨x, hx0⟩ : ∃ x, x = c.getD j 0 := ⟨_, rfl⟩
      rw [← hx0] at y hx HN
      have HX := Lib.hid hx0
      obtain ⟨u, rfl⟩ : ∃ u : Nat, x = u := ⟨x.toNat, by omega⟩
      have u0 : (0 : Int) ≤ (u : Int) := by omega
      have hme := HH.out.2.2.2.2
      have u1 : (u : Int) < (m : Int) := by omega
      have u2 : u < m := by omega
      have z : w.cell? ⟨g, u, none⟩ = some (.bool (decide ((u : Int) ∈ t))) := HH.out.2.2.2.1.cell u2
      clear hcs hx0 hme
      by_cases e1 : (u : Int) ∈ t
      · rw [show decide ((u : Int) ∈ t) = true from decide_eq_true e1] at z
        have HT := Lib.hid (tru_take hjl (by rw [← HX.out]; exact e1))
        clear hok e1
        go_wp2
        go_ret2
        refine ⟨?_, rfl⟩
        unfold stX stC
        rw [if_pos HT.out]
        rfl
      · rw [show decide ((u : Int) ∈ t) = false from decide_eq_false e1] at z
        have HK := Lib.hid (And.intro hok e1)
        have g0 : 0 ≤ ng (u : Int) := by unfold ng; split <;> omega
        have g1 : ng (u : Int) < (m : Int) := by have := HH.out.2.2.2.2; unfold ng; split <;> omega
        have z2 : w.cell? ⟨g, (ng (u : Int)).toNat, none⟩ = some (.bool (decide (ng (u : Int) ∈ t))) := by
          have h := HH.out.2.2.2.1.cell (i := (ng (u : Int)).toNat) (by omega)
          rw [show tT t (ng (u : Int)).toNat = .bool (decide (((ng (u : Int)).toNat : Int) ∈ t)) from rfl, Int.toNat_of_nonneg g0] at h
          exact h
        have DN := fun W => negation_any (u : Int) (by omega) (by omega) W
        clear hok e1
        by_cases e2 : ng (u : Int) ∈ t
        · rw [show decide (ng (u : Int) ∈ t) = true from decide_eq_true e2] at z2
          rw [if_pos e2] at HN
          clear e2
          obtain ⟨y', hy'⟩ : ∃ y', y' = ng (u : Int) := ⟨_, rfl⟩
          rw [← hy'] at g0 g1 z2 DN
          clear hy'
          go_wp2_with (first | (go_at_call 27; (with_reducible refine (DN _).mono ?_); rintro e w1 ⟨rfl, hw1⟩; obtain rfl := hw1))
          go_roundw
          case rel => exact ⟨j + 1, by omega, by go_num, by unfold cnt; rw [HN.out], by unfold lst15; rw [HN.out], fun p hp => by
            rcases Nat.lt_succ_iff_lt_or_eq.1 hp with h' | h'
            · exact HK.out.1 p h'
            · subst h'; rw [← HX.out]; exact HK.out.2, by trivial⟩
          case measure => simp [intOf]; omega
        · rw [show decide (ng (u : Int) ∈ t) = false from decide_eq_false e2] at z2
          rw [if_neg e2] at HN
          clear e2
          obtain ⟨y', hy'⟩ : ∃ y', y' = ng (u : Int) := ⟨_, rfl⟩
          rw [← hy'] at g0 g1 z2 DN
          clear hy'
          obtain ⟨cn, hcn'⟩ : ∃ cn, cn = cnt t c j := ⟨_, rfl⟩
          rw [← hcn'] at hcn ⊢
          have HC := Lib.hid hcn'
          clear hcn'
          go_wp2_with (first | (go_at_call 27; (with_reducible refine (DN _).mono ?_); rintro e w1 ⟨rfl, hw1⟩; obtain rfl := hw1))
          go_roundw
          case rel => exact ⟨j + 1, by omega, by go_num, by rw [HC.out]; unfold cnt; rw [HN.out, List.length_append]; simp, by unfold lst15; rw [HN.out]; simp, fun p hp => by
            rcases Nat.lt_succ_iff_lt_or_eq.1 hp with h' | h'
            · exact HK.out.1 p h'
            · subst h'; rw [← HX.out]; exact HK.out.2, by trivial⟩
          case measure => simp [intOf]; omega
    · have HR := Lib.hid (tru_no (t := t) (c := c) fun q hq => hok q (by have := HH.out.2.1; omega))
      have hjn : ¬ (j : Int) < (n : Int) := by omega
      have hE : c.take j = c := List.take_of_length_le (by have := HH.out.2.1; omega)
      have h1 : cnt t c j = (nf t c).length := by unfold cnt; rw [hE]
      have h2 : lst15 t c j = (nf t c).getLastD 0 := by unfold lst15; rw [hE]
      have hcl : (nf t c).length ≤ 100000 := by rw [← h1]; have := cnt_le t c j; omega
      rw [h1, h2]
      have HQ := Lib.hid (show stC t c = (if (nf t c).length = 0 then 0 else if (nf t c).length = 1 then 3 else 2) by unfold stC; rw [if_neg (by rw [HR.out]; simp)])
      have HQ2 := Lib.hid (show (nf t c).length = 1 → (nf t c).getLastD 0 = (nf t c).headD 0 from fun h => by
        obtain ⟨x, hx⟩ := List.length_eq_one_iff.1 h
        rw [hx]; rfl)
      have HQ3 := Lib.hid (show stX t c = if stC t c = 3 then (nf t c).headD 0 else 0 from rfl)
      generalize (nf t c).getLastD 0 = la at HQ2 ⊢
      generalize (nf t c).headD 0 = fi at HQ2 HQ3
      generalize (nf t c).length = le at hcl HQ HQ2 ⊢
      clear hok hE h1 h2
      by_cases g0 : le = 0
      · subst g0
        go_wp2
        go_ret2
        refine ⟨?_, rfl⟩
        rw [HQ3.out, HQ.out]; rfl
      · by_cases g1 : le = 1
        · subst g1
          go_wp2
          go_ret2
          refine ⟨?_, rfl⟩
          rw [HQ3.out, HQ.out, ← (show la = fi by first | exact HQ2.out rfl | exact HQ2.out trivial)]; rfl
        · have b0 : ((le : Int) == 0) = false := by simp; omega
          have b1 : ((le : Int) == 1) = false := by simp; omega
          go_wp2
          go_ret2
          refine ⟨?_, rfl⟩
          rw [HQ3.out, HQ.out, if_neg g0, if_neg g1]; rfl


theorem mem_take_succ {t : List Int} {j : Nat} (hj : j < t.length) (y : Int) : y ∈ t.take (j + 1) ↔ y ∈ t.take j ∨ y = t.getD j 0 := by
  rw [List.take_succ_eq_append_getElem hj, getD_at hj, List.mem_append, List.mem_singleton]
theorem info_b15 : (Tryd.prog.info? 4).map (fun i => (i.zero, i.size, i.bytes)) = some (some (.bool false), 1, 1) := by kernel_rfl

set_option maxRecDepth 100000 in
set_option maxHeartbeats 4000000 in
theorem truths_any (v : Nat) (hv : v ≤ 4000) (A : Option Addr) (t : List Int) (k : Nat) (Y : Option Addr) (my qy : Nat) (m : Nat) (hm : m = 2 * v + 2) (w : World) (h : Ia w w.heap.size A t k) (hl : t.length ≤ 100000) (ht : ∀ x ∈ t, isL v x = true) :
    Calls Tryd.prog 18 #[asv (v : Int) A t.length k Y my qy] w fun e w' => ∃ g, e = .returned (.slice (some ⟨g, 0, none⟩) m m) ∧ w.heap.size ≤ g ∧ w'.rowIs g 4 m (tT t) ∧ Below w.heap.size w w' := by
  obtain ⟨n, hn⟩ : ∃ n, n = t.length := ⟨_, rfl⟩
  rw [← hn]
  have hl' : n ≤ 100000 := by rw [hn]; exact hl
  have hmk : ∀ w : World, (Instr.makeSlice 46 (.int .i64 (m : Int)) (.int .i64 (m : Int))).run Tryd.prog w = .ok (.slice (some ⟨w.heap.size, 0, none⟩) m m) (w.alloc (.cells (madeCells #[.bool false] m) 4)) := fun w =>
    run_make_row' 46 4 (.bool false) 1 Tryd.underlying46 info_b15 rfl _ _ m (by omega) (by omega) w
  have e1 : 2 * (v : Int) + 2 = (m : Int) := by omega
  have hmb : m ≤ 8002 := by omega
  have HH := Lib.hid (And.intro h (And.intro hn (And.intro ht hm)))
  clear h hl hn ht hm
  go_enter Tryd.func18, Tryd.ntmps18
  go_wp2
  go_loopw [14] (fun i wr => ∃ j : Nat, j ≤ n ∧ i = .int .i64 (j : Int) ∧ wr.rowIs (w.heap.size + 1) 4 m (tT (t.take j)) ∧ Below w.heap.size w wr) (fun i _ => n - (intOf i).toNat)
  case atStart =>
    refine ⟨0, Nat.zero_le _, rfl, ?_, (bx_on _ _).trans ((bx_on _ _).mono (by simp))⟩
    have hR := World.rowIs_made (w.alloc (.cells #[.int .i64 (v : Int), .slice A n k, .slice Y my qy] 24)) (.bool false) m 4
    rw [World.size_alloc] at hR
    exact hR.congr fun j _ => by simp [tT]
  case round =>
    obtain ⟨j, hj, rfl, hR, hB⟩ := hrel
    by_cases hlt : j < n
    · obtain ⟨b, o, rfl, hb0, hcs⟩ := HH.out.1.cells (by have := HH.out.2.1; omega)
      have hjl : j < t.length := by have := HH.out.2.1; omega
      have y0 := hcs j hjl
      have y : wr.cell? ⟨b, o + j, none⟩ = some (.int .i64 (t.getD j 0)) := (hB.cell (cell_lt y0)).trans y0
      have hj1 : (j : Int) < (n : Int) := by omega
      have hj0 : (0 : Int) ≤ (j : Int) := by omega
      have hx := isL_iff.1 (HH.out.2.2.1 _ (getD_mem hjl))
      have HM := Lib.hid (mem_take_succ hjl)
      obtain ⟨x, hx0⟩ : ∃ x, x = t.getD j 0 := ⟨_, rfl⟩
      rw [← hx0] at y hx HM
      obtain ⟨u, rfl⟩ : ∃ u : Nat, x = u := ⟨x.toNat, by omega⟩
      have hme := HH.out.2.2.2
      have u0 : (0 : Int) ≤ (u : Int) := by omega
      have u1 : (u : Int) < (m : Int) := by omega
      have u2 : u < m := by omega
      have z := hR.cell u2
      have fz := hR.frozen u
      have HR := Lib.hid (And.intro hR hB)
      clear hcs hx0 hme hR hB y0
      go_wp2
      go_roundw
      case rel => exact ⟨j + 1, by omega, by go_num, (HR.out.1.set u (.bool true)).congr fun i _ => by
        show (if i = u then Value.bool true else .bool (decide ((i : Int) ∈ t.take j))) = .bool (decide ((i : Int) ∈ t.take (j + 1)))
        have hm := HM.out (i : Int)
        by_cases e : i = u
        · rw [if_pos e, decide_eq_true (hm.2 (Or.inr (by omega)))]
        · rw [if_neg e]
          congr 1
          exact decide_eq_decide.2 ⟨fun h => hm.2 (Or.inl h), fun h => (hm.1 h).resolve_right (by omega)⟩, HR.out.2.setCell (p := ⟨w.heap.size + 1, u, none⟩) (Nat.le_succ _) _⟩
      case measure => simp [intOf]; omega
    · have hjn : ¬ (j : Int) < (n : Int) := by omega
      have hE : t.take j = t := List.take_of_length_le (by have := HH.out.2.1; omega)
      rw [hE] at hR
      have HR := Lib.hid (And.intro hR hB)
      clear hR hB hE
      go_wp2
      go_ret
      exact ⟨_, rfl, Nat.le_succ _, HR.out.1, HR.out.2⟩

end Go.Proofs.YtecmldnigohjfabDoor

namespace Go.Proofs.YtecmldnigohjfabDoor
open Go Go.RowKit
set_option linter.unusedVariables false
set_option linter.unusedSimpArgs false

/-- the error of clauses -/
def wrE (v : Int) : List (List Int) → Int
  | [] => 0
  | c :: L => if ckE v c ≠ 0 then ckE v c else wrE v L
theorem wrE_0 {v : Int} : ∀ {L : List (List Int)}, wrE v L = 0 ↔ ∀ c ∈ L, ckE v c = 0
  | [] => by simp [wrE]
  | c :: L => by
    unfold wrE
    by_cases h : ckE v c = 0
    · rw [if_neg (by simpa using h), wrE_0 (L := L)]; simp [h]
    · rw [if_pos h]; simp [h]
theorem wrE_at {v : Int} : ∀ {L : List (List Int)} {j : Nat}, j < L.length → (∀ i, i < j → ckE v (L.getD i []) = 0) → ckE v (L.getD j []) ≠ 0 → wrE v L = ckE v (L.getD j [])
  | [], j, hj, _, _ => absurd hj (Nat.not_lt_zero _)
  | c :: L, 0, hj, _, h1 => by unfold wrE; rw [if_pos (by simpa using h1)]; rfl
  | c :: L, j + 1, hj, h0, h1 => by
    have hc : ckE v c = 0 := by simpa using h0 0 (Nat.succ_pos _)
    unfold wrE
    rw [if_neg (by simpa using hc)]
    have := wrE_at (v := v) (L := L) (j := j) (by simpa using hj) (fun i hi => by have := h0 (i + 1) (by omega); simpa using this) (by simpa using h1)
    rw [this]; simp
theorem wrE_end {v : Int} {L : List (List Int)} (h : ∀ i, i < L.length → ckE v (L.getD i []) = 0) : wrE v L = 0 := wrE_0.2 fun c hc => by
  obtain ⟨j, hj, rfl⟩ := List.getElem_of_mem hc
  have := h j hj
  rwa [gotD hj] at this
/-- what check says -/
def cE (v : Int) (t s : List Int) (L : List (List Int)) : Int := if aE v t s ≠ 0 then aE v t s else if 20000 < L.length then 4 else wrE v L
theorem cE_0 {v : Int} {t s : List Int} {L : List (List Int)} : cE v t s L = 0 ↔ OkA v t s ∧ L.length ≤ 20000 ∧ ∀ c ∈ L, OkC v c := by
  unfold cE
  by_cases h : aE v t s = 0
  · rw [if_neg (by simpa using h)]
    have h1 := aE_0.1 h
    by_cases h2 : 20000 < L.length
    · rw [if_pos h2]; simp; omega
    · rw [if_neg h2, wrE_0]
      constructor
      · intro h3; exact ⟨h1, by omega, fun c hc => (ckE_0 (h3 c hc)).2.2⟩
      · rintro ⟨_, _, h3⟩ c hc
        have := h1.1
        exact ckE_yes (by omega) (by omega) (h3 c hc)
  · rw [if_pos h]
    constructor
    · intro h1; exact absurd h1 h
    · rintro ⟨h1, _⟩; exact absurd (aE_0.2 h1) h
/-- what State says -/
def sE (v : Int) (t s c : List Int) : Int := if aE v t s ≠ 0 then aE v t s else ckE v c
def sS (v : Int) (t s c : List Int) : Int := if sE v t s c = 0 then stC t c else 0
def sX (v : Int) (t s c : List Int) : Int := if sE v t s c = 0 then stX t c else 0
theorem sE_0 {v : Int} {t s c : List Int} : sE v t s c = 0 ↔ OkA v t s ∧ OkC v c := by
  unfold sE
  by_cases h : aE v t s = 0
  · rw [if_neg (by simpa using h)]
    have h1 := aE_0.1 h
    constructor
    · intro h3; exact ⟨h1, (ckE_0 h3).2.2⟩
    · rintro ⟨_, h3⟩; have := h1.1; exact ckE_yes (by omega) (by omega) h3
  · rw [if_pos h]
    constructor
    · intro h1; exact absurd h1 h
    · rintro ⟨h1, _⟩; exact absurd (aE_0.2 h1) h

set_option maxRecDepth 100000 in
set_option maxHeartbeats 4000000 in
theorem state_any (v : Int) (A : Option Addr) (t : List Int) (k : Nat) (B : Option Addr) (s : List Int) (q : Nat) (C : Option Addr) (c : List Int) (kc : Nat) (w : World) (h : Ia w w.heap.size A t k) (hl : t.length ≤ 100000) (hr : ∀ x ∈ t, I64 x) (h' : Ia w w.heap.size B s q) (hl' : s.length ≤ 100000) (hc : Ia w w.heap.size C c kc) (hcl : c.length ≤ 100000) (hcr : ∀ x ∈ c, I64 x) :
    Calls Tryd.prog 8 #[asv v A t.length k B s.length q, .slice C c.length kc] w fun e w' => e = .returned (.tuple #[.int .u8 (sS v t s c), .int .i64 (sX v t s c), .int .i64 (sE v t s c)]) ∧ Below w.heap.size w w' := by
  have H0 := Bs.new w (.int .i64 v) (.slice A t.length k) (.slice B s.length q)
  have hb0 := bx_on w (.cells #[.int .i64 v, .slice A t.length k, .slice B s.length q] 24)
  have DC := aCheck_any v A t k B s q (w.alloc (.cells #[.int .i64 v, .slice A t.length k, .slice B s.length q] 24)) (h.on hb0) hl hr (h'.on hb0) hl'
  have DK := fun (W : World) (hb : Below w.heap.size w W) => check_any v C c kc W (hc.on hb) hcl hcr
  have HB := Lib.hid (And.intro H0 hb0)
  by_cases ea : aE v t s = 0
  · have hO := aE_0.1 ea
    obtain ⟨y, rfl⟩ : ∃ y : Nat, v = y := ⟨v.toNat, by have := hO.1; omega⟩
    have hy : y ≤ 4000 := by have := hO.1; omega
    by_cases ec : ckE (y : Int) c = 0
    · have e0 : sE (y : Int) t s c = 0 := by unfold sE; rw [if_neg (by simpa using ea)]; exact ec
      have hOc := (ckE_0 ec).2.2
      obtain ⟨m, hm⟩ : ∃ m, m = 2 * y + 2 := ⟨_, rfl⟩
      have DT := fun (W : World) (hb : Below w.heap.size w W) => truths_any y hy A t k B s.length q m hm W (h.on hb) hl hO.2.1.1
      have DS := fun (g : Nat) (W : World) (hb : Below w.heap.size w W) (hR : W.rowIs g 4 m (tT t)) => stateOf_any C c kc g m y t W (hc.on hb) hcl hy hm hOc.1 hR
      rw [show sS (y : Int) t s c = stC t c from if_pos e0, show sX (y : Int) t s c = stX t c from if_pos e0, e0]
      rw [ea] at DC
      rw [ec] at DK
      generalize stC t c = sc at DS ⊢
      generalize stX t c = sx at DS ⊢
      obtain ⟨n, hn⟩ : ∃ n, n = t.length := ⟨_, rfl⟩
      obtain ⟨m', hm'⟩ : ∃ m, m = s.length := ⟨_, rfl⟩
      obtain ⟨nc, hnc⟩ : ∃ m, m = c.length := ⟨_, rfl⟩
      rw [← hn, ← hm'] at DC DT HB ⊢
      rw [← hnc] at DK DS ⊢
      clear h hl hr h' hl' hc hcl hcr H0 hb0 ea hO ec e0 hOc hn hm' hnc hm
      go_enter Tryd.func8, Tryd.ntmps8
      go_wp2_with (first
        | (go_at_call 15; (with_reducible refine DC.mono ?_); rintro e w1 ⟨rfl, hb1⟩
           have H1 := HB.out.1.on hb1
           obtain ⟨c0, c1, c2⟩ := H1.c
           have HB1 := Lib.hid (And.intro H1 (bn HB.out.2 hb1))
           clear H1 hb1)
        | (go_at_call 16; (with_reducible refine (DK _ HB1.out.2).mono ?_); rintro e w2 ⟨rfl, d2, rfl⟩
           have hb2 := below_dn (Below.refl w1.heap.size w1) d2
           have H2 := HB1.out.1.on hb2
           obtain ⟨d0, d1, d2⟩ := H2.c
           have HB2 := Lib.hid (And.intro H2 (bn HB1.out.2 hb2))
           clear H2 hb2)
        | (go_at_call 18; (with_reducible refine (DT _ HB2.out.2).mono ?_); rintro e w3 ⟨g, rfl, hg3, hR3, hb3⟩
           have HB3 := Lib.hid (And.intro hR3 (bn HB2.out.2 hb3))
           clear hR3 hb3 hg3)
        | (go_at_call 17; (with_reducible refine (DS g _ HB3.out.2 HB3.out.1).mono ?_); rintro e w4 ⟨rfl, hw4⟩; obtain rfl := hw4))
      go_ret3
      exact ⟨rfl, HB3.out.2⟩
    · have e0 : sE (y : Int) t s c = ckE (y : Int) c := by unfold sE; rw [if_neg (by simpa using ea)]
      rw [show sS (y : Int) t s c = 0 from if_neg (by rw [e0]; exact ec), show sX (y : Int) t s c = 0 from if_neg (by rw [e0]; exact ec), e0]
      rw [ea] at DC
      generalize ckE (y : Int) c = ck at DK ec ⊢
      have e1 : (ck != 0) = true := by simpa using ec
      obtain ⟨n, hn⟩ : ∃ n, n = t.length := ⟨_, rfl⟩
      obtain ⟨m', hm'⟩ : ∃ m, m = s.length := ⟨_, rfl⟩
      obtain ⟨nc, hnc⟩ : ∃ m, m = c.length := ⟨_, rfl⟩
      rw [← hn, ← hm'] at DC HB ⊢
      rw [← hnc] at DK ⊢
      clear h hl hr h' hl' hc hcl hcr H0 hb0 ea hO ec e0 hn hm' hnc
      go_enter Tryd.func8, Tryd.ntmps8
      go_wp2_with (first
        | (go_at_call 15; (with_reducible refine DC.mono ?_); rintro e w1 ⟨rfl, hb1⟩
           have H1 := HB.out.1.on hb1
           obtain ⟨c0, c1, c2⟩ := H1.c
           have HB1 := Lib.hid (And.intro H1 (bn HB.out.2 hb1))
           clear H1 hb1)
        | (go_at_call 16; (with_reducible refine (DK _ HB1.out.2).mono ?_); rintro e w2 ⟨rfl, d2, rfl⟩
           have hb2 := below_dn (Below.refl w1.heap.size w1) d2
           have HB2 := Lib.hid (bn HB1.out.2 hb2)
           clear hb2))
      go_ret3
      exact ⟨rfl, HB2.out⟩
  · have e0 : sE v t s c = aE v t s := if_pos ea
    rw [show sS v t s c = 0 from if_neg (by rw [e0]; exact ea), show sX v t s c = 0 from if_neg (by rw [e0]; exact ea), e0]
    generalize aE v t s = ae at DC ea ⊢
    have e1 : (ae != 0) = true := by simpa using ea
    obtain ⟨n, hn⟩ : ∃ n, n = t.length := ⟨_, rfl⟩
    obtain ⟨m', hm'⟩ : ∃ m, m = s.length := ⟨_, rfl⟩
    rw [← hn, ← hm'] at DC HB ⊢
    clear h hl hr h' hl' hc hcl hcr H0 hb0 ea e0 hn hm' DK
    go_enter Tryd.func8, Tryd.ntmps8
    go_wp2_with (first
      | (go_at_call 15; (with_reducible refine DC.mono ?_); rintro e w1 ⟨rfl, hb1⟩
         have HB1 := Lib.hid (bn HB.out.2 hb1)
         clear hb1))
    go_ret3
    exact ⟨rfl, HB1.out⟩

set_option maxRecDepth 100000 in
set_option maxHeartbeats 4000000 in
theorem ucheck_any (v : Int) (A : Option Addr) (t : List Int) (k : Nat) (B : Option Addr) (s : List Int) (q : Nat) (C : Option Addr) (L : List (List Int)) (kc : Nat) (w : World) (h : Ia w w.heap.size A t k) (hl : t.length ≤ 100000) (hr : ∀ x ∈ t, I64 x) (h' : Ia w w.heap.size B s q) (hl' : s.length ≤ 100000) (hc : Ill w w.heap.size C L kc) (hcl : L.length ≤ 100000) (hcr : ∀ c ∈ L, c.length ≤ 100000 ∧ ∀ x ∈ c, I64 x) :
    Calls Tryd.prog 28 #[asv v A t.length k B s.length q, .slice C L.length kc] w fun e w' => e = .returned (.int .i64 (cE v t s L)) ∧ Below w.heap.size w w' := by
  have H0 := Bs.new w (.int .i64 v) (.slice A t.length k) (.slice B s.length q)
  have hb0 := bx_on w (.cells #[.int .i64 v, .slice A t.length k, .slice B s.length q] 24)
  have DC := aCheck_any v A t k B s q (w.alloc (.cells #[.int .i64 v, .slice A t.length k, .slice B s.length q] 24)) (h.on hb0) hl hr (h'.on hb0) hl'
  have HB := Lib.hid (And.intro H0 hb0)
  obtain ⟨n, hn⟩ : ∃ n, n = t.length := ⟨_, rfl⟩
  obtain ⟨m', hm'⟩ : ∃ m, m = s.length := ⟨_, rfl⟩
  rw [← hn, ← hm'] at DC HB ⊢
  by_cases ea : aE v t s = 0
  · rw [ea] at DC
    obtain ⟨nc, hnc⟩ : ∃ m, m = L.length := ⟨_, rfl⟩
    rw [← hnc]
    have hnc1 : nc ≤ 100000 := by omega
    by_cases hb : 20000 < nc
    · have e0 : cE v t s L = 4 := by unfold cE; rw [if_neg (by simpa using ea), if_pos (by omega)]
      rw [e0]
      have g1 : (20000 : Int) < (nc : Int) := by omega
      clear h hl hr h' hl' hc hcl hcr H0 hb0 ea hb e0 hn hm' hnc
      go_enter Tryd.func28, Tryd.ntmps28
      go_wp2_with (first
        | (go_at_call 15; (with_reducible refine DC.mono ?_); rintro e w1 ⟨rfl, hb1⟩
           have HB1 := Lib.hid (bn HB.out.2 hb1)
           clear hb1))
      go_ret
      exact ⟨rfl, HB1.out⟩
    · have e0 : cE v t s L = wrE v L := by unfold cE; rw [if_neg (by simpa using ea), if_neg (by omega)]
      rw [e0]
      have g1 : ¬ (20000 : Int) < (nc : Int) := by omega
      have HC := Lib.hid (And.intro hc (And.intro hnc hcr))
      clear h hl hr h' hl' hc hcl hcr H0 hb0 ea hb e0 hn hm' hnc
      go_enter Tryd.func28, Tryd.ntmps28
      go_wp2_with (first
        | (go_at_call 15; (with_reducible refine DC.mono ?_); rintro e w1 ⟨rfl, hb1⟩
           have HB1 := Lib.hid (And.intro (HB.out.1.on hb1) (bn HB.out.2 hb1))
           clear hb1))
      go_loopw [19] (fun i wr => ∃ j : Nat, j ≤ nc ∧ i = .int .i64 (j : Int) ∧ (∀ p, p < j → ckE v (L.getD p []) = 0) ∧ Bs w.heap.size wr (.int .i64 v) (.slice A n k) (.slice B m' q) ∧ Below w.heap.size w wr) (fun i _ => nc - (intOf i).toNat)
      case atStart => exact ⟨0, Nat.zero_le _, rfl, fun p hp => absurd hp (Nat.not_lt_zero _), HB1.out.1, HB1.out.2⟩
      case round =>
        obtain ⟨j, hj, rfl, hok, hS, hB⟩ := hrel
        by_cases hlt : j < nc
        · have hjl : j < L.length := by have := HC.out.2.1; omega
          obtain ⟨b, o, rfl, hb0, hcs⟩ := HC.out.1.h (by omega)
          obtain ⟨C', kc', y0, hIc⟩ := hcs j hjl
          have hcm := HC.out.2.2 _ (gotD_mem hjl)
          have y : wr.cell? ⟨b, o + j, none⟩ = some (.slice C' (L.getD j []).length kc') := (hB.cell (p := ⟨b, o + j, none⟩) hb0).trans y0
          have DK := fun (W : World) (hb : Below w.heap.size w W) => check_any v C' (L.getD j []) kc' W (hIc.on hb) hcm.1 hcm.2
          have hj1 : (j : Int) < (nc : Int) := by omega
          have hj0 : (0 : Int) ≤ (j : Int) := by omega
          have HE := Lib.hid (And.intro (wrE_at (v := v) hjl hok) hok)
          obtain ⟨c0, c1, c2⟩ := hS.c
          have HR := Lib.hid (And.intro hS hB)
          generalize hck : ckE v (L.getD j []) = ck at DK HE
          have HCK := Lib.hid hck
          obtain ⟨lc, hlc⟩ : ∃ x, x = (L.getD j []).length := ⟨_, rfl⟩
          rw [← hlc] at y DK
          clear hcs y0 hIc hcm hok hS hB hck hlc
          by_cases e1 : ck = 0
          · subst e1
            go_wp2_with (first
              | (go_at_call 16; (with_reducible refine (DK _ HR.out.2).mono ?_); rintro e w2 ⟨rfl, d2, rfl⟩))
            go_roundw
            case rel => exact ⟨j + 1, by omega, by go_num, fun p hp => by
              rcases Nat.lt_succ_iff_lt_or_eq.1 hp with h' | h'
              · exact HE.out.2 p h'
              · subst h'; exact HCK.out, HR.out.1.on (below_dn (Below.refl _ _) _), below_dn HR.out.2 _⟩
            case measure => simp [intOf]; omega
          · have e2 : (ck != 0) = true := by simpa using e1
            go_wp2_with (first
              | (go_at_call 16; (with_reducible refine (DK _ HR.out.2).mono ?_); rintro e w2 ⟨rfl, d2, rfl⟩))
            go_ret
            exact ⟨by rw [HE.out.1 e1]; rfl, below_dn HR.out.2 _⟩
        · have HE := Lib.hid (wrE_end (v := v) (L := L) fun p hp => hok p (by have := HC.out.2.1; omega))
          have hjn : ¬ (j : Int) < (nc : Int) := by omega
          have HR := Lib.hid hB
          clear hok hS hB
          go_wp2
          go_ret
          exact ⟨by rw [HE.out]; rfl, HR.out⟩
  · have e0 : cE v t s L = aE v t s := if_pos ea
    rw [e0]
    generalize aE v t s = ae at DC ea ⊢
    have e1 : (ae != 0) = true := by simpa using ea
    clear h hl hr h' hl' hc hcl hcr H0 hb0 ea e0 hn hm'
    go_enter Tryd.func28, Tryd.ntmps28
    go_wp2_with (first
      | (go_at_call 15; (with_reducible refine DC.mono ?_); rintro e w1 ⟨rfl, hb1⟩
         have HB1 := Lib.hid (bn HB.out.2 hb1)
         clear hb1))
    go_ret
    exact ⟨rfl, HB1.out⟩

end Go.Proofs.YtecmldnigohjfabDoor
