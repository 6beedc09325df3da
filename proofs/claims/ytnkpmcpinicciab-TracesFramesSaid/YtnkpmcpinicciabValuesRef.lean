/- The reference of layer 4: its check, the frame, All. -/
import Derived.Test.YtnkpmcpinicciabValuesOf
import Derived.Test.YtnkpmcpinicciabGatesDep
namespace Go.Proofs.Ytnkpmcpinicciab
open Go.RowKit
set_option linter.unusedVariables false
set_option linter.unusedSimpArgs false

namespace Cr
/-- the error of a circuit, a state and inputs -/
def ask (c : Cr) (ns ni : Nat) : Int := if c.chk ≠ 0 then c.chk else if ns ≠ c.nl ∨ (ni : Int) ≠ c.i then 2 else 0
theorem ask_bad {c : Cr} {ns ni : Nat} (h : c.chk ≠ 0) : c.ask ns ni = c.chk := if_pos h
theorem ask_arg {c : Cr} {ns ni : Nat} (h : c.chk = 0) (h1 : ns ≠ c.nl ∨ (ni : Int) ≠ c.i) : c.ask ns ni = 2 := by unfold ask; rw [if_neg (by omega), if_pos h1]
theorem ask_ok {c : Cr} {ns ni : Nat} (h : c.chk = 0) (h1 : ns = c.nl) (h2 : (ni : Int) = c.i) : c.ask ns ni = 0 := by unfold ask; rw [if_neg (by omega), if_neg (by omega)]
theorem ask_zero {c : Cr} {ns ni : Nat} (h : c.ask ns ni = 0) : c.chk = 0 ∧ ns = c.nl ∧ (ni : Int) = c.i := by
  unfold ask at h
  split at h
  · omega
  · split at h
    · omega
    · omega
/-- the three ways of it -/
theorem ask_ways (c : Cr) (ns ni : Nat) : (c.chk ≠ 0 ∧ c.ask ns ni = c.chk) ∨ (c.chk = 0 ∧ ns ≠ c.nl ∧ c.ask ns ni = 2) ∨ (c.chk = 0 ∧ ns = c.nl ∧ (ni : Int) ≠ c.i ∧ c.ask ns ni = 2) ∨ (c.chk = 0 ∧ ns = c.nl ∧ (ni : Int) = c.i ∧ c.ask ns ni = 0) := by
  by_cases h : c.chk = 0
  · by_cases h1 : ns = c.nl
    · by_cases h2 : (ni : Int) = c.i
      · exact Or.inr (Or.inr (Or.inr ⟨h, h1, h2, ask_ok h h1 h2⟩))
      · exact Or.inr (Or.inr (Or.inl ⟨h, h1, h2, ask_arg h (Or.inr h2)⟩))
    · exact Or.inr (Or.inl ⟨h, h1, ask_arg h (Or.inl h1)⟩)
  · exact Or.inl ⟨h, ask_bad h⟩
theorem frA_first {c : Cr} {s t : Nat → Bool} {ni ns : Nat} (hi : (ni : Int) = c.i) (hs : ns = c.nl) : [Value.bool false] ++ bL t ni ++ bL s ns = bL (c.frA s t 0) (c.fg + 0) := by
  have e1 : [Value.bool false] = bL (fun _ => false) 1 := rfl
  have e2 : c.fg + 0 = 1 + ni + ns := by unfold fg; omega
  rw [e1, bL_app, bL_app, e2]
  refine bL_congr _ fun j hj => ?_
  have e3 : c.i.toNat = ni := by omega
  unfold frA
  rw [e3]
  by_cases h0 : j = 0
  · subst h0; simp
  · rw [if_neg h0]
    by_cases h1 : j < 1 + ni
    · rw [if_pos h1, if_pos h1, if_neg (by omega)]
    · rw [if_neg h1, if_neg h1, if_pos (by unfold fg; omega)]
theorem frA_next (c : Cr) (s t : Nat → Bool) (q : Nat) : bL (c.frA s t (q + 1)) (c.fg + (q + 1)) = bL (c.frA s t q) (c.fg + q) ++ [.bool (vlo (c.frA s t q) (c.ga q) && vlo (c.frA s t q) (c.gb q))] := by
  rw [← Nat.add_assoc, bL]
  congr 1
  · exact bL_congr _ fun j hj => by rw [frA_succ]; exact if_neg (by omega)
  · rw [frA_succ]; simp
end Cr

/-- a list of truth values in memory of the call's own -/
def BoolsIs (n : Nat) (f : Nat → Bool) (w : World) (e : Ending) (w' : World) : Prop :=
  ∃ v, e = .returned v ∧ w'.ownsRow w.heap.size 4 1 v n (bL f n) ∧ Below w.heap.size w w'
/-- a list of truth values somewhere -/
def BoolsAt (n : Nat) (f : Nat → Bool) (w : World) (e : Ending) (w' : World) : Prop :=
  ∃ A k, e = .returned (.slice A n k) ∧ BlsAt w' w'.heap.size A n f ∧ Below w.heap.size w w'
theorem BoolsIs.at {n : Nat} {f : Nat → Bool} {w w' : World} {e : Ending} (h : BoolsIs n f w e w') : BoolsAt n f w e w' := by
  obtain ⟨v, rfl, ho, hb⟩ := h
  obtain ⟨A, k, rfl, hi, _⟩ := own_bools ho
  exact ⟨A, k, rfl, hi, hb⟩
/-- the same with an error behind it -/
def BoolsErr (n : Nat) (f : Nat → Bool) (x : Int) (w : World) (e : Ending) (w' : World) : Prop :=
  ∃ A k, e = .returned (.tuple #[.slice A n k, .int .i64 x]) ∧ BlsAt w' w'.heap.size A n f ∧ Below w.heap.size w w'
/-- the same, in memory that was not there before -/
def BoolsNew (n : Nat) (f : Nat → Bool) (x : Int) (w : World) (e : Ending) (w' : World) : Prop :=
  ∃ A k, e = .returned (.tuple #[.slice A n k, .int .i64 x]) ∧ BlsAt w' w'.heap.size A n f ∧ Below w.heap.size w w' ∧ (A = none → n = 0 ∧ k = 0) ∧ ∀ a, A = some a → w.heap.size ≤ a.block
theorem BoolsNew.err {n : Nat} {f : Nat → Bool} {x : Int} {w w' : World} {e : Ending} (h : BoolsNew n f x w e w') : BoolsErr n f x w e w' := by
  obtain ⟨A, k, he, hi, hb, _⟩ := h
  exact ⟨A, k, he, hi, hb⟩
/-- a list of truth values in memory that was not there before -/
def BoolsIn (n : Nat) (f : Nat → Bool) (w : World) (e : Ending) (w' : World) : Prop :=
  ∃ A k, e = .returned (.slice A n k) ∧ BlsAt w' w'.heap.size A n f ∧ Below w.heap.size w w' ∧ (A = none → n = 0 ∧ k = 0) ∧ ∀ a, A = some a → w.heap.size ≤ a.block
theorem BoolsIn.at {n : Nat} {f : Nat → Bool} {w w' : World} {e : Ending} (h : BoolsIn n f w e w') : BoolsAt n f w e w' := by
  obtain ⟨A, k, he, hi, hb, _⟩ := h
  exact ⟨A, k, he, hi, hb⟩
theorem own_new1 (W : World) (x : Value) (t : TypeId) (base : Nat) (h : base ≤ W.heap.size) : (W.alloc (.cells #[x] t)).ownsRow base t 1 (.slice (some ⟨W.heap.size, 0, none⟩) 1 1) 1 [x] :=
  ⟨by simp, Or.inr ⟨W.heap.size, 1, #[x], rfl, h, heap_alloc_new W _, Nat.le_refl _, by simp [maxLen], by simp, by simp⟩⟩

set_option maxRecDepth 100000 in
set_option maxHeartbeats 4000000 in
theorem rFrame_any (c : Cr) (p : Pl) (As At : Option Addr) (ns ks ni ki : Nat) (s t : Nat → Bool) (w : World) (hm : Mem w w.heap.size c p) (hs : Sm c) (hS : BlsAt w w.heap.size As ns s) (hT : BlsAt w w.heap.size At ni t) (nS : As = none → ns = 0 ∧ ks = 0) (nT : At = none → ni = 0 ∧ ki = 0)
    (hk : c.ask ns ni = 0) : Calls Try.prog 69 #[cv c p, .slice As ns ks, .slice At ni ki] w (BoolsIs (c.fg + c.na) (c.fr s t) w) := by
  obtain ⟨hc, hns, hni⟩ := Cr.ask_zero hk
  have g1 := hs.nl
  have g2 := hs.na
  have hb := Cr.chk_i (c := c) (by simpa using hc) hs
  obtain ⟨i0, hi0, hzz0, hs0, hy0⟩ := info_parts info_bool
  have hbox2 : Has ((w.alloc (.cells (cc c p) 28)).alloc (.cells #[.bool false] 4)) w.heap.size 28 (cc c p) := (Has.new _ _ _).al _
  have hBox2 : Below w.heap.size w ((w.alloc (.cells (cc c p) 28)).alloc (.cells #[.bool false] 4)) := by go_grown
  have hown1 : ((w.alloc (.cells (cc c p) 28)).alloc (.cells #[.bool false] 4)).ownsRow (w.heap.size + 1) 4 1 (.slice (some ⟨w.heap.size + 1, 0, none⟩) 1 1) 1 [.bool false] := by
    have := own_new1 (w.alloc (.cells (cc c p) 28)) (.bool false) 4 (w.heap.size + 1) (by simp)
    rwa [World.size_alloc] at this
  have hfirst := Lib.hid (Cr.frA_first (s := s) (t := t) hni hns)
  have hfg : c.fg ≤ 1001 ∧ c.fg + c.na ≤ 2001 ∧ 1 + ni + ns = c.fg + 0 := by have : c.sz = c.i + c.nl + c.na := rfl; unfold Cr.fg; omega
  have HC := Lib.hid hc
  have HN := Lib.hid hns
  have HI := Lib.hid hni
  have hns1 : ns ≤ 1000 := by omega
  have hni1 : ni ≤ 1000 := by omega
  clear hc hns hni hk
  go_enter Try.func69, Try.ntmps69
  go_wp2_with (first
    | (at_builtin
       (refine append_more rfl (.tmp 9) (.tmp 10) _ rfl (w.heap.size + 1) 4 i0 _ 1 1 Try.underlying29 hi0 hzz0 hs0 hy0 rfl (by decide) _ 1 [.bool false] rfl hown1 At ni ki (bL t ni) rfl (bL_len _ _) ((hT.keep hBox2).src nT) (bL_one _ _) (by simp only [maxLen]; omega) (by omega) (by go_size) ?_)
       intro v1 w1 ho1 hg1
       have hH1 : Has w1 w.heap.size 28 (cc c p) := app_has0 hbox2 hown1 hg1 (by omega)
       have hB1 : Below w.heap.size w w1 := app_below0 hBox2 hBox2.size (by omega) hown1 hg1
       have hz1 := hH1.lt)
    | (at_builtin
       (refine append_more rfl (.tmp 12) (.tmp 13) _ rfl (w.heap.size + 1) 4 i0 _ 1 1 Try.underlying29 hi0 hzz0 hs0 hy0 rfl (by decide) v1 (1 + ni) ([.bool false] ++ bL t ni) rfl ho1 As ns ks (bL s ns) rfl (bL_len _ _) ((hS.keep hB1).src nS) (bL_one _ _) (by simp only [maxLen]; omega) (by omega) (by omega) ?_)
       intro v2 w2 ho2 hg2
       have hH2 : Has w2 w.heap.size 28 (cc c p) := app_has0 hH1 ho1 hg2 (by omega)
       have hB2 : Below w.heap.size w w2 := app_below0 hB1 hB1.size (by omega) ho1 hg2))
  clear hg1 hg2 hbox2 hBox2 hown1
  rw [hfirst.out] at ho2
  rw [hfg.2.2] at ho2
  have hsz1 : w.heap.size < w2.heap.size := hH2.lt
  go_loopw [7, 8] (fun v i wr => ∃ q : Nat, q ≤ c.na ∧ i = .int .i64 q ∧ wr.ownsRow (w.heap.size + 1) 4 1 v (c.fg + q) (bL (c.frA s t q) (c.fg + q)) ∧ Has wr w.heap.size 28 (cc c p) ∧ Below w.heap.size w wr) (fun _ i _ => c.na - (intOf i).toNat)
  case atStart => exact ⟨0, Nat.zero_le _, rfl, ho2, hH2, hB2⟩
  case round =>
    clear ho1 ho2 hH1 hH2 hB1 hB2
    obtain ⟨q, hq, rfl, hown, hHr, hBr⟩ := hrel
    obtain ⟨x0, x1, x2, x3, x4⟩ := hHr.box
    by_cases hlt : q < c.na
    · obtain ⟨k1, k2, k3, k4, k5⟩ := Cr.gate_ok HC.out hlt
      obtain ⟨a, hA, hab, hcs⟩ := (hm.an.keep hBr) (by omega)
      obtain ⟨y0, y1⟩ := hcs q hlt
      rw [hA] at x2
      clear hcs hA
      obtain ⟨A, k, rfl, hi, _⟩ := own_bools hown
      have HX := Lib.hid (Cr.frA_next c s t q)
      have efg : (c.fg : Int) = 1 + c.i + c.nl := by unfold Cr.fg; omega
      have b1 : c.ga q / 2 < ((c.fg + q : Nat) : Int) := by omega
      have b2 : c.gb q / 2 < ((c.fg + q : Nat) : Int) := by omega
      have b3 : c.ga q ≤ 2001 := by omega
      have b4 : c.gb q ≤ 2001 := by omega
      have b5 : 0 ≤ c.ga q := by omega
      have hq0 : (q : Int) < c.na := by omega
      clear efg
      cases hv : vlo (c.frA s t q) (c.ga q)
      all_goals
        have HX2 := HX.out
        rw [hv] at HX2
        have HX3 := Lib.hid HX2
        have HV := Lib.hid hv
        clear HX2 HX hv
        go_wp2_with (first
          | (go_at_call 70; (with_reducible refine (rValue_any A (c.fg + q) k (c.frA s t q) (c.ga q) wr.heap.size wr hi b5 b3 b1).mono ?_); rw [HV.out]; rintro e w3 ⟨rfl, rfl⟩)
          | (go_at_call 70; (with_reducible refine (rValue_any A (c.fg + q) k (c.frA s t q) (c.gb q) wr.heap.size wr hi k1 b4 b2).mono ?_); rintro e w3 ⟨rfl, rfl⟩)
          | (at_builtin; refine wpList_append_own _ rfl _ _ 29 rfl (w.heap.size + 1) 4 i0 (.bool false) 1 1 Try.underlying29 hi0 hzz0 hs0 hy0 rfl (by decide) _ _ _ rfl (hown.alloc _) ⟨wr.heap.size, 0, none⟩ 1 1 [_] rfl rfl (cell_one_new _ _ _) (by simp [Value.oneCell']) (by simp only [maxLen]; omega) (by omega) (by have := hHr.lt; simp; omega) ?_; intro v' w8 hown' hgrow _))
        go_roundw
        case rel => exact ⟨q + 1, by omega, by go_num, by rw [HX3.out]; simpa [Nat.add_assoc] using hown', app_has hHr hown hgrow (by omega), app_below hBr hBr.size (by omega) hown hgrow⟩
        case measure => simp [intOf]; omega
    · obtain rfl : q = c.na := by omega
      clear hq hlt
      go_wp2
      go_ret
      exact ⟨_, rfl, own_base hown (by omega), hBr⟩
