/- The kinds of variables, and their values. -/
import Derived.Test.YthpifibemekmcaaValuesMoreKit
import Derived.Test.YthpifibemekmcaaValuesConeKit
import Derived.Test.YthpifibemekmcaaGatesKind
namespace Go.Proofs.Ythpifibemekmcaa
open Go.RowKit
set_option linter.unusedVariables false

namespace Cr
theorem kd_ways {c : Cr} (h : c.chk = 0) {s t : Nat → Bool} {ni v : Nat} (hi : (ni : Int) = c.i) (h1 : 1 ≤ v) (h2 : v < c.fg + c.na) :
    (∃ m : Nat, m < ni ∧ c.kd v = (1, (m : Int), 0) ∧ c.fr s t v = t m) ∨ (∃ m : Nat, m < c.nl ∧ c.kd v = (2, (m : Int), 0) ∧ c.fr s t v = s m) ∨ (∃ m : Nat, m < c.na ∧ c.kd v = (3, (m : Int), 0) ∧ c.fr s t v = (vlo (c.fr s t) (c.ga m) && vlo (c.fr s t) (c.gb m))) := by
  have hz : c.sz = c.i + c.nl + c.na := rfl
  have hfg : c.fg = 1 + c.i.toNat + c.nl := rfl
  by_cases e1 : v < 1 + ni
  · refine Or.inl ⟨v - 1, by omega, ?_, ?_⟩
    · rw [kd_1 h (by omega) (by omega) (by omega)]
      have : ((v - 1 : Nat) : Int) = (v : Int) - 1 := by omega
      rw [this]
    · exact fr_in h1 (by omega)
  · by_cases e2 : v < c.fg
    · refine Or.inr (Or.inl ⟨v - 1 - ni, by omega, ?_, ?_⟩)
      · rw [kd_2 h (by omega) (by omega) (by omega) (by omega)]
        have : ((v - 1 - ni : Nat) : Int) = (v : Int) - 1 - c.i := by omega
        rw [this]
      · rw [fr_st (by omega) e2]
        congr 1
        omega
    · refine Or.inr (Or.inr ⟨v - c.fg, by omega, ?_, ?_⟩)
      · rw [kd_3 h (by omega) (by omega) (by omega) (by omega)]
        have : ((v - c.fg : Nat) : Int) = (v : Int) - 1 - c.i - c.nl := by omega
        rw [this]
      · have := fr_gate (s := s) (t := t) h (k := v - c.fg) (by omega)
        rwa [show c.fg + (v - c.fg) = v by omega] at this
end Cr
theorem kindAt {c : Cr} {v k x : Int} (h : c.kd v = (k, x, 0)) (p : Pl) (w : World) (hm : Mem w w.heap.size c p) (hs : Sm c) (hv : v ≤ 9223372036854775807) : Calls Try.prog 40 #[cv c p, .int .i64 v] w fun e w' => e = .returned (.tuple #[.int .i64 k, .int .i64 x, .int .i64 0]) ∧ Below w.heap.size w w' := by
  have := gKind_any c p v w hm hs hv
  rwa [h] at this
theorem propsB {c : Cr} {p : Pl} {As At : Option Addr} {ns ks ni ki : Nat} {s t : Nat → Bool} {b : Bool} (hb : c.hol s t = b) (hk : c.ask ns ni = 0) (w : World) (h : Arg w w.heap.size c p As ns ks s At ni ki t) :
    Calls Try.prog 38 #[cv c p, .slice As ns ks, .slice At ni ki] w (PropsIs b c.nb (c.bv s t) 0 w) := by
  subst hb
  exact props_yes hk w h
theorem isQ {A : Option Addr} {n k : Nat} {F : Nat → Bool} {l : Int} {x : Bool} (hx : vlo F l = x) {B : Nat} {w : World} (hA : BlsAt w B A n F) (h0 : 0 ≤ l) (h1 : l ≤ 2001) (hn : l / 2 < (n : Int)) :
    Calls Try.prog 41 #[.slice A n k, .int .i64 l] w fun e w' => e = .returned (.bool x) ∧ w = w' := by
  subst hx
  exact is_any A n k F l B w hA h0 h1 hn
theorem BlsAt.dn {w : World} {B : Nat} {A : Option Addr} {n : Nat} {f : Nat → Bool} (h : BlsAt w B A n f) (k : Nat) : BlsAt (w.drewN k) B A n f := h
