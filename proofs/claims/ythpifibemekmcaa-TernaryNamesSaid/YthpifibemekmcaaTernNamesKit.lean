/- The calls of TernaryNames: what each returns. -/
import Derived.Test.YthpifibemekmcaaTernCovKit
namespace Go.Proofs.Ythpifibemekmcaa
open Go.RowKit
set_option linter.unusedVariables false
set_option linter.unusedSimpArgs false

/-- a circuit with a number of inputs and nothing else; the law's circuit of an input and a latch -/
abbrev mI (i : Int) : Cr := ⟨i, 0, 0, 0, 0, fun _ => 0, fun _ => 0, fun _ => 0, fun _ => 0, fun _ => 0, fun _ => 0⟩
abbrev oneC : Cr := ⟨1, 1, 0, 0, 0, fun _ => 5, fun _ => 1, fun _ => 0, fun _ => 0, fun _ => 0, fun _ => 0⟩
abbrev mQ : Pl := ⟨none, none, none, none, 0, 0, 0, 0⟩
theorem m64 : I64 0 := i64_k 0 (by decide) (by decide)
theorem mI_sm (i : Int) (h : I64 i) : Sm (mI i) := ⟨h, Nat.zero_le _, Nat.zero_le _, Nat.zero_le _, Nat.zero_le _, fun _ => m64, fun _ => m64, fun _ => m64, fun _ => m64, fun _ => m64, fun _ => m64⟩
theorem mI_sm1 : Sm (mI (-1)) := mI_sm _ (i64_k (-1) (by decide) (by decide))
theorem mI_sm2 : Sm (mI 1001) := mI_sm _ (i64_k 1001 (by decide) (by decide))
theorem oneC_sm : Sm oneC := ⟨i64_k 1 (by decide) (by decide), by decide, Nat.zero_le _, Nat.zero_le _, Nat.zero_le _, fun _ => i64_k 5 (by decide) (by decide), fun _ => i64_k 1 (by decide) (by decide), fun _ => m64, fun _ => m64, fun _ => m64, fun _ => m64⟩
theorem mI_mem (i : Int) (X : World) : Mem X X.heap.size (mI i) mQ := ⟨fun h => absurd h (Nat.not_lt_zero _), fun h => absurd h (Nat.not_lt_zero _), fun h => absurd h (Nat.not_lt_zero _), fun h => absurd h (Nat.not_lt_zero _)⟩
abbrev oP (g : Nat) : Pl := ⟨some ⟨g, 0, none⟩, none, none, none, 1, 0, 0, 0⟩
theorem oneC_mem {X : World} {g : Nat} (h : Has X g 33 #[.int .i64 5, .int .i64 1]) : Mem X X.heap.size oneC (oP g) := ⟨pairs_of_has h (fun j hj => by rw [Nat.lt_one_iff.1 hj]; exact ⟨rfl, rfl⟩), fun h => absurd h (Nat.not_lt_zero _), fun h => absurd h (Nat.not_lt_zero _), fun h => absurd h (Nat.not_lt_zero _)⟩
/-- arguments: none; a list just laid; two -/
theorem tArg0 {X : World} {c : Cr} {p : Pl} (hm : Mem X X.heap.size c p) (hs : Sm c) : TArg X X.heap.size c p none 0 0 (fun _ => 0) none 0 0 (fun _ => 0) :=
  ⟨hm, hs, trNil, trNil, fun _ => ⟨rfl, rfl⟩, fun _ => ⟨rfl, rfl⟩, by omega, by omega, no0r, no0r⟩
theorem tArg1 {X : World} {c : Cr} {p : Pl} (hm : Mem X X.heap.size c p) (hs : Sm c) (x : Int) (h0 : 0 ≤ x) (h1 : x ≤ 255) :
    TArg (X.alloc (.cells #[.int .u8 x] 5)) (X.alloc (.cells #[.int .u8 x] 5)).heap.size c p (some ⟨X.heap.size, 0, none⟩) 1 1 (fun _ => x) none 0 0 (fun _ => 0) :=
  ⟨hm.to ((Below.refl _ _).alloc (Nat.le_refl _) _) (by simp), hs, tr_of_has (Has.new _ _ _) (uAt1 x), trNil, (fun h => by cases h), fun _ => ⟨rfl, rfl⟩, by omega, by omega, fun _ _ => ⟨h0, h1⟩, no0r⟩
theorem tArg2 {X : World} {c : Cr} {p : Pl} (hm : Mem X X.heap.size c p) (hs : Sm c) (x y : Int) (h0 : 0 ≤ x) (h1 : x ≤ 255) (h2 : 0 ≤ y) (h3 : y ≤ 255) :
    TArg ((X.alloc (.cells #[.int .u8 x] 5)).alloc (.cells #[.int .u8 y] 5)) ((X.alloc (.cells #[.int .u8 x] 5)).alloc (.cells #[.int .u8 y] 5)).heap.size c p (some ⟨X.heap.size, 0, none⟩) 1 1 (fun _ => x) (some ⟨X.heap.size + 1, 0, none⟩) 1 1 (fun _ => y) :=
  ⟨hm.to (((Below.refl _ _).alloc (Nat.le_refl _) _).alloc (by simp) _) (by simp; omega), hs, tr_of_has ((Has.new _ _ _).al _) (uAt1 x), tr_of_has (Has.new' _ _ (by simp)) (uAt1 y), (fun h => by cases h), (fun h => by cases h), by omega, by omega, fun _ _ => ⟨h0, h1⟩, fun _ _ => ⟨h2, h3⟩⟩
theorem tArg1g {X : World} {c : Cr} {p : Pl} (hm : Mem X X.heap.size c p) (hs : Sm c) (x : Int) (h0 : 0 ≤ x) (h1 : x ≤ 255) (g : Nat) (hg : X.heap.size = g) :
    TArg (X.alloc (.cells #[.int .u8 x] 5)) (X.alloc (.cells #[.int .u8 x] 5)).heap.size c p (some ⟨g, 0, none⟩) 1 1 (fun _ => x) none 0 0 (fun _ => 0) := hg ▸ tArg1 hm hs x h0 h1
section
variable {c : Cr} {p : Pl} {As At : Option Addr} {ns ks ni ki : Nat} {s t : Nat → Int}
theorem tAllE {x : Int} (hx : c.tsk ns ni s t = x) (h0 : x ≠ 0) (w : World) (h : TArg w w.heap.size c p As ns ks s At ni ki t) :
    Calls Try.prog 16 #[cv c p, .slice As ns ks, .slice At ni ki] w (TrsErr 0 (fun _ => 0) x w) := by
  have := tAll_any w h
  rw [Cr.tn_no hx h0, hx] at this
  exact this.mono fun e w' ⟨A, k, he, hi, hb⟩ => ⟨A, k, he, trNil, hb⟩
theorem tNextE {x : Int} (hx : c.tsk ns ni s t = x) (h0 : x ≠ 0) (w : World) (h : TArg w w.heap.size c p As ns ks s At ni ki t) :
    Calls Try.prog 17 #[cv c p, .slice As ns ks, .slice At ni ki] w (TrsErr 0 (fun _ => 0) x w) := by
  have := tNext_any w h
  rw [Cr.tnn_no hx h0, hx] at this
  exact this.mono fun e w' ⟨A, k, he, hi, hb⟩ => ⟨A, k, he, trNil, hb⟩
theorem tFirstE {x : Int} (hx : c.chk = x) (h0 : x ≠ 0) (w : World) (hm : Mem w w.heap.size c p) (hs : Sm c) :
    Calls Try.prog 18 #[cv c p] w (TrsErr 0 (fun _ => 0) x w) := by
  have := tFirst_any w hm hs
  rw [show c.rsn = 0 from if_neg (by omega), hx] at this
  exact this.mono fun e w' ⟨A, k, he, hi, hb⟩ => ⟨A, k, he, trNil, hb⟩
theorem tNextV {n : Nat} {f : Nat → Int} (hx : c.tsk ns ni s t = 0) (hn : c.nl = n) (hf : ∀ j, j < n → c.tnv s t j = f j) (w : World) (h : TArg w w.heap.size c p As ns ks s At ni ki t) :
    Calls Try.prog 17 #[cv c p, .slice As ns ks, .slice At ni ki] w (TrsErr n f 0 w) := by
  have := tNext_yes hx w h
  rw [hn] at this
  exact this.mono fun e w' ⟨A, k, he, hi, hb⟩ => ⟨A, k, he, hi.congr hf, hb⟩
theorem tFirstV {n : Nat} {f : Nat → Int} (hx : c.chk = 0) (hn : c.nl = n) (hf : ∀ j, j < n → c.rs j = f j) (w : World) (hm : Mem w w.heap.size c p) (hs : Sm c) :
    Calls Try.prog 18 #[cv c p] w (TrsErr n f 0 w) := by
  have := tFirst_any w hm hs
  rw [show c.rsn = n from (if_pos hx).trans hn, hx] at this
  exact this.mono fun e w' ⟨A, k, he, hi, hb⟩ => ⟨A, k, he, hi.congr hf, hb⟩
end
theorem qA : oneC.tsk 1 0 (fun _ => 3) (fun _ => 0) = 2 := by decide +kernel
theorem qB : oneC.tsk 1 1 (fun _ => 3) (fun _ => 0) = 8 := by decide +kernel
theorem qC : oneC.tsk 1 1 (fun _ => 0) (fun _ => 4) = 8 := by decide +kernel
theorem qD : (mI (-1)).tsk 0 0 (fun _ => 0) (fun _ => 0) = 8 := by decide +kernel
theorem qE : (mI 1001).chk = 4 := by decide +kernel
theorem qF : oneC.chk = 0 := by decide +kernel
theorem qF1 : oneC.nl = 1 := rfl
theorem qF2 : ∀ j, j < 1 → oneC.rs j = (fun _ => 1) j := fun _ _ => rfl
theorem qG : oneC.tsk 1 1 (fun _ => 2) (fun _ => 0) = 0 := by decide +kernel
theorem qG2 : ∀ j, j < 1 → oneC.tnv (fun _ => 2) (fun _ => 0) j = (fun _ => 2) j := by decide +kernel
theorem ne2 : (2 : Int) ≠ 0 := by decide
theorem ne8 : (8 : Int) ≠ 0 := by decide
theorem ne4 : (4 : Int) ≠ 0 := by decide
/-- And, Not and Covers with an error -/
theorem and30 (w : World) : Calls Try.prog 15 #[.int .u8 3, .int .u8 0] w fun e w' => e = .returned (.tuple #[.int .u8 0, .int .i64 8]) ∧ w = w' := tAnd_no (by decide) (by decide) (by decide) w
theorem and0 (w : World) : Calls Try.prog 15 #[.int .u8 0, .int .u8 255] w fun e w' => e = .returned (.tuple #[.int .u8 0, .int .i64 8]) ∧ w = w' := tAnd_no (by decide) (by decide) (by decide) w
theorem not3 (w : World) : Calls Try.prog 12 #[.int .u8 3] w fun e w' => e = .returned (.tuple #[.int .u8 0, .int .i64 8]) ∧ w = w' := tNot_no (by decide) w
theorem covN {x y : Int} {n m k k' : Nat} {b : Bool} {z : Int} (hv : covV n m (fun _ => x) (fun _ => y) = b) (hz : covE n m (fun _ => x) (fun _ => y) = z) (h0 : 0 ≤ x ∧ x ≤ 255) (h1 : 0 ≤ y ∧ y ≤ 255) (hn : n ≤ 100000) (hm : m ≤ 100000) (A A' : Option Addr) (B : Nat) (w : World) (hA : TrAt w B A n (fun _ => x)) (hA' : TrAt w B A' m (fun _ => y)) :
    Calls Try.prog 13 #[.slice A n k, .slice A' m k'] w fun e w' => e = .returned (.tuple #[.bool b, .int .i64 z]) ∧ w = w' := by
  have := tCovers_any A A' n m k k' (fun _ => x) (fun _ => y) B w hn hm hA hA' (fun _ _ => h0) (fun _ _ => h1)
  rwa [hv, hz] at this
theorem one_tr (X : World) (x : Int) : TrAt (X.alloc (.cells #[.int .u8 x] 5)) (X.alloc (.cells #[.int .u8 x] 5)).heap.size (some ⟨X.heap.size, 0, none⟩) 1 (fun _ => x) := tr_of_has (Has.new _ _ _) (uAt1 x)
theorem cA (w : World) (g : Nat) (hg : w.heap.size = g) : Calls Try.prog 13 #[.slice (some ⟨g, 0, none⟩) 1 1, .slice none 0 0] (w.alloc (.cells #[.int .u8 3] 5)) fun e w' => e = .returned (.tuple #[.bool false, .int .i64 8]) ∧ (w.alloc (.cells #[.int .u8 3] 5)) = w' := hg ▸
  covN (x := 3) (y := 0) (by decide +kernel) (by decide +kernel) (by decide) (by decide) (by decide) (by decide) _ none _ _ (one_tr w 3) trNil
theorem cB (w : World) (g : Nat) (hg : w.heap.size = g) : Calls Try.prog 13 #[.slice none 0 0, .slice (some ⟨g, 0, none⟩) 1 1] (w.alloc (.cells #[.int .u8 3] 5)) fun e w' => e = .returned (.tuple #[.bool false, .int .i64 8]) ∧ (w.alloc (.cells #[.int .u8 3] 5)) = w' := hg ▸
  covN (x := 0) (y := 3) (by decide +kernel) (by decide +kernel) (by decide) (by decide) (by decide) (by decide) none _ _ _ trNil (one_tr w 3)
theorem cC (w : World) (g : Nat) (hg : w.heap.size = g) : Calls Try.prog 13 #[.slice (some ⟨g, 0, none⟩) 1 1, .slice none 0 0] (w.alloc (.cells #[.int .u8 0] 5)) fun e w' => e = .returned (.tuple #[.bool false, .int .i64 2]) ∧ (w.alloc (.cells #[.int .u8 0] 5)) = w' := hg ▸
  covN (x := 0) (y := 0) (by decide +kernel) (by decide +kernel) (by decide) (by decide) (by decide) (by decide) _ none _ _ (one_tr w 0) trNil
/-- the two tables of the law -/
def wantL : Array Value := #[.int .u8 0, .int .u8 0, .int .u8 0, .int .u8 0, .int .u8 1, .int .u8 2, .int .u8 0, .int .u8 2, .int .u8 2]
def notL : Array Value := #[.int .u8 1, .int .u8 0, .int .u8 2]
theorem lt9 {q : Nat} (h : q < 9) : q = 0 ∨ q = 1 ∨ q = 2 ∨ q = 3 ∨ q = 4 ∨ q = 5 ∨ q = 6 ∨ q = 7 ∨ q = 8 := by omega
theorem want_at {q : Nat} (h : q < 9) : wantL[q]? = some (.int .u8 (tand ((q : Int) / 3) ((q : Int) % 3))) := by
  rcases lt9 h with rfl | rfl | rfl | rfl | rfl | rfl | rfl | rfl | rfl <;> rfl
theorem not_at {a : Int} (h : isT a) : notL[a.toNat]? = some (.int .u8 (tneg a)) := by
  rcases h with rfl | rfl | rfl <;> rfl
theorem u8w {a : Int} (h : isT a) : IntKind.u8.wrap a = a := by
  rcases h with rfl | rfl | rfl <;> rfl
/-- what Covers says of two values -/
theorem cov_one (a b : Int) : covL (fun _ => a) (fun _ => b) 1 = (a == 2 || a == b) := by
  rw [Bool.eq_iff_iff]
  constructor
  · intro h
    have := covL_at h 0 (by omega)
    simpa [tcov] using this
  · intro h
    exact covL_yes fun j _ => by simpa [tcov] using h
theorem two_tr (X : World) (a b : Int) : TrAt ((X.alloc (.cells #[.int .u8 a] 5)).alloc (.cells #[.int .u8 b] 5)) ((X.alloc (.cells #[.int .u8 a] 5)).alloc (.cells #[.int .u8 b] 5)).heap.size (some ⟨X.heap.size, 0, none⟩) 1 (fun _ => a) ∧ TrAt ((X.alloc (.cells #[.int .u8 a] 5)).alloc (.cells #[.int .u8 b] 5)) ((X.alloc (.cells #[.int .u8 a] 5)).alloc (.cells #[.int .u8 b] 5)).heap.size (some ⟨X.heap.size + 1, 0, none⟩) 1 (fun _ => b) :=
  ⟨tr_of_has ((Has.new _ _ _).al _) (uAt1 a), tr_of_has (Has.new' _ _ (by simp)) (uAt1 b)⟩
theorem covW {a b : Int} (ha : isT a) (hb : isT b) (X : World) : Calls Try.prog 13 #[.slice (some ⟨X.heap.size, 0, none⟩) 1 1, .slice (some ⟨X.heap.size + 1, 0, none⟩) 1 1] ((X.alloc (.cells #[.int .u8 a] 5)).alloc (.cells #[.int .u8 b] 5)) fun e w' => e = .returned (.tuple #[.bool (a == 2 || a == b), .int .i64 0]) ∧ ((X.alloc (.cells #[.int .u8 a] 5)).alloc (.cells #[.int .u8 b] 5)) = w' :=
  tCov_at (cov_one a b) (by decide) (fun _ _ => ha) (fun _ _ => hb) _ _ 1 1 _ _ (two_tr X a b).1 (two_tr X a b).2
end Go.Proofs.Ythpifibemekmcaa
