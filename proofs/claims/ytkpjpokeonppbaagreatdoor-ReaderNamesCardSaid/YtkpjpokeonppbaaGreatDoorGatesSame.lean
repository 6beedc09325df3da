/- The contracts of the reference's comparisons and copies. -/
import Derived.Test.YtkpjpokeonppbaaGreatDoorGatesMem
import Derived.Deep.AppendLies
import Derived.Maps.AppendAt
namespace Go.Proofs.YtkpjpokeonppbaaGreatDoor
open Go.RowKit
set_option linter.unusedVariables false

theorem below_dn {B : Nat} {a w : World} (h : Below B a w) (n : Nat) : Below B a (w.drewN n) := ⟨h.os, h.tape, h.output, h.size, h.block⟩

/-- two lists of numbers that agree -/
def sameB (n m : Nat) (f g : Nat → Int) : Bool := decide (n = m ∧ ∀ j, j < n → f j = g j)
theorem sameB_no {n m : Nat} {f g : Nat → Int} (h : n ≠ m) : sameB n m f g = false := decide_eq_false fun h' => h h'.1
theorem sameB_no2 {n m k : Nat} {f g : Nat → Int} (hk : k < n) (h : f k ≠ g k) : sameB n m f g = false := decide_eq_false fun h' => h (h'.2 k hk)
theorem sameB_yes {n : Nat} {f g : Nat → Int} (h : ∀ j, j < n → f j = g j) : sameB n n f g = true := decide_eq_true ⟨rfl, h⟩

set_option maxRecDepth 100000 in
set_option maxHeartbeats 2000000 in
theorem sameInts_any (A A' : Option Addr) (n m k k' : Nat) (f g : Nat → Int) (B : Nat) (w : World) (hn : n ≤ 100000) (hm : m ≤ 100000) (hA : IntsAt w B A n f) (hA' : IntsAt w B A' m g) :
    Calls Tryz.prog 13 #[.slice A n k, .slice A' m k'] w fun e w' => e = .returned (.bool (sameB n m f g)) ∧ Below w.heap.size w w' := by
  by_cases hnm : n = m
  · subst hnm
    go_enter Tryz.func13, Tryz.ntmps13
    go_wp2
    go_loopw [5] (fun i wr => ∃ q : Nat, q ≤ n ∧ i = .int .i64 q ∧ Hid (∀ j, j < q → f j = g j) ∧ ∃ d, wr = w.drewN d) (fun i _ => n - (intOf i).toNat)
    case atStart => exact ⟨0, Nat.zero_le _, rfl, fun j hj => absurd hj (Nat.not_lt_zero _), 0, rfl⟩
    case round =>
      obtain ⟨q, hq, rfl, hL, d, rfl⟩ := hrel
      by_cases hlt : q < n
      · obtain ⟨a, rfl, hb, hc⟩ := hA (by omega)
        obtain ⟨a', rfl, hb', hc'⟩ := hA' (by omega)
        have y := hc q hlt
        have y' := hc' q hlt
        clear hc hc'
        have hb1 : (0 : Int) ≤ (q : Int) := by omega
        have hb2 : (q : Int) < (n : Int) := by omega
        by_cases he : f q = g q
        · have h1 : (f q != g q) = false := by simp [he]
          have HE := Lib.hid he
          clear he
          go_wp2
          go_quiet (fail)
          go_wp2
          go_roundw
          case rel => exact ⟨q + 1, by omega, by go_num, fun j hj => by
            rcases Nat.lt_succ_iff_lt_or_eq.1 hj with h' | h'
            · exact hL.out j h'
            · subst h'; exact HE.out, _, rfl⟩
          case measure => simp [intOf]; omega
        · have h1 : (f q != g q) = true := by simp [he]
          have HR := Lib.hid (Li.ret_bool (sameB_no2 (m := n) hlt he))
          clear he
          go_wp2
          go_quiet (fail)
          go_wp2
          go_ret
          exact ⟨HR.out.symm, below_dn (below_dn (Below.refl _ _) _) _⟩
      · obtain rfl : q = n := by omega
        have HR := Lib.hid (Li.ret_bool (sameB_yes hL.out))
        clear hq hlt
        go_wp2
        go_ret
        exact ⟨HR.out.symm, below_dn (Below.refl _ _) _⟩
  · have HR := Lib.hid (Li.ret_bool (sameB_no (f := f) (g := g) hnm))
    have h1 : ((n : Int) != (m : Int)) = true := by simp; omega
    clear hnm
    go_enter Tryz.func13, Tryz.ntmps13
    go_wp2
    go_ret
    exact ⟨HR.out.symm, Below.refl _ _⟩

theorem sameInts_self (A A' : Option Addr) (n k k' : Nat) (f : Nat → Int) (B : Nat) (w : World) (hn : n ≤ 100000) (hA : IntsAt w B A n f) (hA' : IntsAt w B A' n f) :
    Calls Tryz.prog 13 #[.slice A n k, .slice A' n k'] w fun e w' => e = .returned (.bool true) ∧ Below w.heap.size w w' := by
  have h := sameInts_any A A' n n k k' f f B w hn hn hA hA'
  rw [sameB_yes (fun _ _ => rfl)] at h
  exact h

set_option maxRecDepth 100000 in
set_option maxHeartbeats 4000000 in
theorem same_self (c : Cr) (p p' : Pl) (w : World) (hs : Sm c) (hm : Mem w w.heap.size c p) (hm' : Mem w w.heap.size c p') :
    Calls Tryz.prog 18 #[cv c p, cv c p'] w fun e w' => e = .returned (.bool true) ∧ Below w.heap.size w w' := by
  have g1 := hs.nl
  have g2 := hs.na
  have g3 := hs.nb
  have g4 := hs.nc
  have hB0 : Below w.heap.size w w := Below.refl _ _
  have q0 := Has.new w 41 (cc c p)
  have q1 := (q0.keep (Below.alloc (Below.refl (w.heap.size + 1) _) (by simp) (.cells (cc c p') 41)) (Nat.lt_succ_self _))
  have q2 := Has.new (w.alloc (.cells (cc c p) 41)) 41 (cc c p')
  rw [World.size_alloc] at q2
  unfold cc at q1 q2
  have HH := Lib.hid (And.intro q1 q2)
  clear q0 q1 q2
  go_enter Tryz.func18, Tryz.ntmps18
  go_wp2_with (first
    | (go_at_call 13; (with_reducible refine (sameInts_self p.A3 p'.A3 c.nb p.k3 p'.k3 c.bd w.heap.size _ (by omega) (hm.bd.keep (by go_grown)) (hm'.bd.keep (by go_grown))).mono ?_); rintro e w1 ⟨rfl, hb1⟩; obtain ⟨hc1, hf1⟩ := bcell hb1; have hz1 : w.heap.size + 1 < w1.heap.size := (by have := hb1.size; (try simp at this); omega); have hy1 : w.heap.size < w1.heap.size := (by omega); have hB1 : Below w.heap.size w w1 := Below.step (by go_grown) (by go_size) hb1)
    | (go_at_call 13; (with_reducible refine (sameInts_self p.A4 p'.A4 c.nc p.k4 p'.k4 c.cn w.heap.size _ (by omega) (hm.cn.keep (by assumption)) (hm'.cn.keep (by assumption))).mono ?_); rintro e w2 ⟨rfl, hb2⟩; obtain ⟨hc2, hf2⟩ := bcell hb2; have hz2 : w.heap.size + 1 < w2.heap.size := (by have := hb2.size; omega); have hy2 : w.heap.size < w2.heap.size := (by omega); have hB2 : Below w.heap.size w w2 := Below.step (by assumption) (by go_size) hb2))
  have HH1 := HH.out.1.keep hb1 (by simp; omega)
  have HH2 := HH.out.2.keep hb1 (by simp)
  have HH1 : Has w2 w.heap.size 41 (cc c p) := HH1.keep hb2 hy1
  have HH2 : Has w2 (w.heap.size + 1) 41 (cc c p') := HH2.keep hb2 hz1
  clear hc1 hf1 hc2 hf2 HH hb1 hb2
  go_loopw [5] (fun i wr => ∃ q : Nat, q ≤ c.nl ∧ i = .int .i64 q ∧ Below w.heap.size w wr ∧ Has wr w.heap.size 41 (cc c p) ∧ Has wr (w.heap.size + 1) 41 (cc c p')) (fun i _ => c.nl - (intOf i).toNat)
  case atStart => exact ⟨0, Nat.zero_le _, rfl, hB2, HH1, HH2⟩
  case round =>
    obtain ⟨q, hq, rfl, hBr, hH1, hH2⟩ := hrel
    have x1 : wr.cell? ⟨w.heap.size, 1, none⟩ = some (.slice p.A1 c.nl p.k1) := hH1.cell 1
    have x1' : wr.cell? ⟨w.heap.size + 1, 1, none⟩ = some (.slice p'.A1 c.nl p'.k1) := hH2.cell 1
    have hl1 := hH2.lt
    by_cases hlt : q < c.nl
    · obtain ⟨a, hA, hab, hcs⟩ := (hm.la.keep hBr) (by omega)
      obtain ⟨a', hA', hab', hcs'⟩ := (hm'.la.keep hBr) (by omega)
      obtain ⟨y0, y1⟩ := hcs q hlt
      obtain ⟨y0', y1'⟩ := hcs' q hlt
      rw [hA] at x1
      rw [hA'] at x1'
      clear hcs hcs' hA hA'
      have hi1 : (0 : Int) ≤ (q : Int) := by omega
      have hi2 : (q : Int) < (c.nl : Int) := by omega
      go_wp2
      go_quiet (fail)
      go_wp2
      go_roundw
      case rel => exact ⟨q + 1, by omega, by go_num, below_dn hBr _, hH1, hH2⟩
      case measure => simp [intOf]; omega
    · clear hl1
      obtain rfl : q = c.nl := by omega
      clear hq hlt
      have hM := hH2.lt
      go_wp2
      go_loopw [6] (fun i wr => ∃ q : Nat, q ≤ c.na ∧ i = .int .i64 q ∧ Below w.heap.size w wr ∧ Has wr w.heap.size 41 (cc c p) ∧ Has wr (w.heap.size + 1) 41 (cc c p')) (fun i _ => c.na - (intOf i).toNat)
      case atStart => exact ⟨0, Nat.zero_le _, rfl, hBr, hH1, hH2⟩
      case round =>
        clear hBr hH1 hH2 hM x1 x1' HH1 HH2 hB2
        obtain ⟨q, hq, rfl, hBr, hH1, hH2⟩ := hrel
        rename_i wr _ _ _ _
        have x1 := hH1.cell 2
        have x1' := hH2.cell 2
        simp only [cc, List.getElem?_toArray, List.getElem?_cons_zero, List.getElem?_cons_succ] at x1 x1'
        have hl1 := hH2.lt
        by_cases hlt : q < c.na
        · obtain ⟨a, hA, hab, hcs⟩ := (hm.an.keep hBr) (by omega)
          obtain ⟨a', hA', hab', hcs'⟩ := (hm'.an.keep hBr) (by omega)
          obtain ⟨y0, y1⟩ := hcs q hlt
          obtain ⟨y0', y1'⟩ := hcs' q hlt
          rw [hA] at x1
          rw [hA'] at x1'
          clear hcs hcs' hA hA'
          have hi1 : (0 : Int) ≤ (q : Int) := by omega
          have hi2 : (q : Int) < (c.na : Int) := by omega
          go_wp2
          go_quiet (fail)
          go_wp2
          go_roundw
          case rel => exact ⟨q + 1, by omega, by go_num, below_dn hBr _, hH1, hH2⟩
          case measure => simp [intOf]; omega
        · obtain rfl : q = c.na := by omega
          clear hq hlt
          go_wp2
          go_ret
          exact ⟨rfl, hBr⟩
