/- The calls of ValuesNames: what each returns. -/
import Derived.Test.YtoocghecmpnjeaaValuesMoreKit
import Derived.Test.YtoocghecmpnjeaaValuesConeKit
namespace Go.Proofs.Ytoocghecmpnjeaa
open Go.RowKit
set_option linter.unusedVariables false

theorem blsNil {w : World} {B : Nat} {A : Option Addr} {f : Nat → Bool} : BlsAt w B A 0 f := fun h => absurd h (Nat.not_lt_zero _)
/-- an argument that is empty -/
theorem argN {X : World} {c : Cr} {p : Pl} (hm : Mem X X.heap.size c p) (hs : Sm c) : Arg X X.heap.size c p none 0 0 (fun _ => false) none 0 0 (fun _ => false) :=
  ⟨hm, hs, fun h => absurd h (Nat.not_lt_zero _), fun h => absurd h (Nat.not_lt_zero _), fun _ => ⟨rfl, rfl⟩, fun _ => ⟨rfl, rfl⟩, by omega, by omega⟩
/-- a circuit with a number of inputs and nothing else; with one bad literal; with two constraints -/
abbrev nI (i : Int) : Cr := ⟨i, 0, 0, 0, 0, fun _ => 0, fun _ => 0, fun _ => 0, fun _ => 0, fun _ => 0, fun _ => 0⟩
abbrev nB : Cr := ⟨0, 0, 0, 1, 0, fun _ => 0, fun _ => 0, fun _ => 0, fun _ => 0, fun _ => 2, fun _ => 0⟩
abbrev nC (y : Int) : Cr := ⟨0, 0, 0, 0, 2, fun _ => 0, fun _ => 0, fun _ => 0, fun _ => 0, fun _ => 0, fun j => if j = 0 then 1 else y⟩
theorem i64z : I64 0 := i64_k 0 (by decide) (by decide)
theorem nI_sm (i : Int) (h : I64 i) : Sm (nI i) := ⟨h, Nat.zero_le _, Nat.zero_le _, Nat.zero_le _, Nat.zero_le _, fun _ => i64z, fun _ => i64z, fun _ => i64z, fun _ => i64z, fun _ => i64z, fun _ => i64z⟩
theorem nB_sm : Sm nB := ⟨i64z, Nat.zero_le _, Nat.zero_le _, by decide, Nat.zero_le _, fun _ => i64z, fun _ => i64z, fun _ => i64z, fun _ => i64z, fun _ => i64_k 2 (by decide) (by decide), fun _ => i64z⟩
theorem nC_sm (y : Int) (h : I64 y) : Sm (nC y) := ⟨i64z, Nat.zero_le _, Nat.zero_le _, Nat.zero_le _, show 2 ≤ 1000 by decide, fun _ => i64z, fun _ => i64z, fun _ => i64z, fun _ => i64z, fun _ => i64z, fun _ => ite_bd (i64_k 1 (by decide) (by decide)) h⟩
abbrev nP : Pl := ⟨none, none, none, none, 0, 0, 0, 0⟩
theorem nI_mem (i : Int) (X : World) : Mem X X.heap.size (nI i) nP := ⟨fun h => absurd h (Nat.not_lt_zero _), fun h => absurd h (Nat.not_lt_zero _), fun h => absurd h (Nat.not_lt_zero _), fun h => absurd h (Nat.not_lt_zero _)⟩
theorem nB_mem {X : World} {g : Nat} (h : Has X g 3 #[.int .i64 2]) : Mem X X.heap.size nB ⟨none, none, some ⟨g, 0, none⟩, none, 0, 0, 1, 0⟩ := ⟨fun h => absurd h (Nat.not_lt_zero _), fun h => absurd h (Nat.not_lt_zero _), ints_of_has h (fun j hj => by rw [Nat.lt_one_iff.1 hj]; rfl), fun h => absurd h (Nat.not_lt_zero _)⟩
theorem nC_mem {X : World} {g : Nat} {y : Int} (h : Has X g 3 #[.int .i64 1, .int .i64 y]) : Mem X X.heap.size (nC y) ⟨none, none, none, some ⟨g, 0, none⟩, 0, 0, 0, 2⟩ := ⟨fun h => absurd h (Nat.not_lt_zero _), fun h => absurd h (Nat.not_lt_zero _), fun h => absurd h (Nat.not_lt_zero _), ints_of_has h (fun j hj => by rcases lt2 hj with rfl | rfl <;> rfl)⟩

section
variable {p : Pl} {As At : Option Addr} {ns ks ni ki : Nat} {s t : Nat → Bool}
/-- All, Next and Props with an error -/
theorem allE {c : Cr} {x : Int} (hx : c.ask ns ni = x) (h0 : x ≠ 0) (w : World) (h : Arg w w.heap.size c p As ns ks s At ni ki t) :
    Calls Try.prog 34 #[cv c p, .slice As ns ks, .slice At ni ki] w (BoolsErr 0 (fun _ => false) x w) := by
  have := all_any w h
  rw [Cr.fn_no hx h0, hx] at this
  exact this.mono fun e w' ⟨A, k, he, hi, hb⟩ => ⟨A, k, he, fun h => absurd h (Nat.not_lt_zero _), hb⟩
theorem nextE {c : Cr} {x : Int} (hx : c.ask ns ni = x) (h0 : x ≠ 0) (w : World) (h : Arg w w.heap.size c p As ns ks s At ni ki t) :
    Calls Try.prog 36 #[cv c p, .slice As ns ks, .slice At ni ki] w (BoolsErr 0 (fun _ => false) x w) := by
  have := next_any w h
  rw [show c.nn ns ni = 0 from if_neg (by omega), hx] at this
  exact this.mono fun e w' ⟨A, k, he, hi, hb⟩ => ⟨A, k, he, fun h => absurd h (Nat.not_lt_zero _), hb⟩
theorem propsE {c : Cr} {x : Int} (hx : c.ask ns ni = x) (h0 : x ≠ 0) (w : World) (h : Arg w w.heap.size c p As ns ks s At ni ki t) :
    Calls Try.prog 37 #[cv c p, .slice As ns ks, .slice At ni ki] w (PropsIs false 0 (fun _ => false) x w) := by
  have := props_any w h
  rw [show c.bn ns ni = 0 from if_neg (by omega), show c.hd s t ns ni = false from if_neg (by omega), hx] at this
  exact this.mono fun e w' ⟨A, k, he, hi, hb⟩ => ⟨A, k, he, fun h => absurd h (Nat.not_lt_zero _), hb⟩
/-- Props without -/
theorem propsV {c : Cr} {b : Bool} {n : Nat} {f : Nat → Bool} (hx : c.ask ns ni = 0) (hb : c.hol s t = b) (hn : c.nb = n) (hf : ∀ j, j < n → c.bv s t j = f j) (w : World) (h : Arg w w.heap.size c p As ns ks s At ni ki t) :
    Calls Try.prog 37 #[cv c p, .slice As ns ks, .slice At ni ki] w (PropsIs b n f 0 w) := by
  have := props_any w h
  rw [show c.bn ns ni = n from (if_pos hx).trans hn, show c.hd s t ns ni = b from (if_pos hx).trans hb, hx] at this
  exact this.mono fun e w' ⟨A, k, he, hi, hb⟩ => ⟨A, k, he, hi.congr hf, hb⟩
theorem allV {c : Cr} {n : Nat} {f : Nat → Bool} (hx : c.ask ns ni = 0) (hn : c.fg + c.na = n) (hf : ∀ j, j < n → c.fr s t j = f j) (w : World) (h : Arg w w.heap.size c p As ns ks s At ni ki t) :
    Calls Try.prog 34 #[cv c p, .slice As ns ks, .slice At ni ki] w (BoolsErr n f 0 w) := by
  have := all_any w h
  rw [show c.fn ns ni = n from (if_pos hx).trans hn, hx] at this
  exact this.mono fun e w' ⟨A, k, he, hi, hb⟩ => ⟨A, k, he, hi.congr hf, hb⟩
end
theorem kA : exV.ask 0 2 = 2 := by decide +kernel
theorem kB : exV.ask 2 2 = 2 := by decide +kernel
theorem kC : exV.ask 1 1 = 2 := by decide +kernel
theorem kD : (nI (-1)).ask 1 1 = 8 := by decide +kernel
theorem kE : nB.ask 0 0 = 8 := by decide +kernel
theorem kF : (nI 1001).ask 0 0 = 4 := by decide +kernel
def tf : Nat → Bool := fun j => if j = 0 then true else false
def ft2 : Nat → Bool := fun j => if j = 0 then false else true
theorem kG : exV.hol (fun _ => true) tf = true := by decide +kernel
theorem kG2 : ∀ j, j < 1 → exV.bv (fun _ => true) tf j = (fun _ => true) j := by decide +kernel
theorem kH : exV.hol (fun _ => false) ft2 = false := by decide +kernel
theorem kH2 : ∀ j, j < 1 → exV.bv (fun _ => false) ft2 j = (fun _ => true) j := by decide +kernel
theorem kV : exV.nb = 1 := rfl
theorem kI : (nI 0).ask 0 0 = 0 := by decide +kernel
theorem kI2 : (nI 0).fg + (nI 0).na = 1 := by decide +kernel
theorem kI3 : ∀ j, j < 1 → (nI 0).fr (fun _ => false) (fun _ => false) j = (fun _ => false) j := by decide +kernel
theorem kJ : (nC 1).ask 0 0 = 0 := by decide +kernel
theorem kJ2 : (nC 1).hol (fun _ => false) (fun _ => false) = true := by decide +kernel
theorem kK : (nC 0).ask 0 0 = 0 := by decide +kernel
theorem kK2 : (nC 0).hol (fun _ => false) (fun _ => false) = false := by decide +kernel
theorem kN (y : Int) : (nC y).nb = 0 := rfl
theorem no0 (f g : Nat → Bool) : ∀ j, j < 0 → f j = g j := fun _ h => absurd h (Nat.not_lt_zero _)
theorem tf_at : ∀ j, j < 2 → (#[Value.bool true, Value.bool false] : Array Value)[j]? = some (.bool (tf j)) := fun j hj => by rcases lt2 hj with rfl | rfl <;> rfl
theorem ft_at : ∀ j, j < 2 → (#[Value.bool false, Value.bool true] : Array Value)[j]? = some (.bool (ft2 j)) := fun j hj => by rcases lt2 hj with rfl | rfl <;> rfl
theorem vL : vlo ft2 3 = false := by decide +kernel
