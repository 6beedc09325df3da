/- The reference's check, where the lists are not too long. -/
import Derived.Test.YtmholdmcmbbdgaaGatesRef
namespace Go.Proofs.Ytmholdmcmbbdgaa
open Go.RowKit
set_option linter.unusedVariables false

/-- the first latches are right -/
def LatTo (c : Cr) (q : Nat) : Prop := ∀ j, j < q → 0 ≤ c.nx j ∧ c.nx j / 2 ≤ c.sz ∧ 0 ≤ c.rs j ∧ c.rs j ≤ 2
theorem LatTo.snoc {c : Cr} {q : Nat} (h : LatTo c q) (h1 : 0 ≤ c.nx q ∧ c.nx q / 2 ≤ c.sz ∧ 0 ≤ c.rs q ∧ c.rs q ≤ 2) : LatTo c (q + 1) := fun j hj => by
  rcases Nat.lt_succ_iff_lt_or_eq.1 hj with h' | h'
  · exact h j h'
  · subst h'; exact h1
/-- the first gates are right -/
def GatTo (c : Cr) (q : Nat) : Prop := ∀ j, j < q → 0 ≤ c.gb j ∧ c.gb j ≤ c.ga j ∧ c.ga j / 2 ≤ c.i + c.nl + j
theorem GatTo.snoc {c : Cr} {q : Nat} (h : GatTo c q) (h1 : 0 ≤ c.gb q ∧ c.gb q ≤ c.ga q ∧ c.ga q / 2 ≤ c.i + c.nl + q) : GatTo c (q + 1) := fun j hj => by
  rcases Nat.lt_succ_iff_lt_or_eq.1 hj with h' | h'
  · exact h j h'
  · subst h'; exact h1

/-- what rCheck_rest returns -/
def Cr.rest (c : Cr) : Int := if c.latB = true ∧ c.gatB = true then 0 else 8
theorem Cr.rest_l {c : Cr} {q : Nat} (hk : q < c.nl) (h : ¬ (0 ≤ c.nx q ∧ c.nx q / 2 ≤ c.sz ∧ 0 ≤ c.rs q ∧ c.rs q ≤ 2)) : c.rest = 8 := by
  unfold Cr.rest; rw [if_neg (fun h' => by rw [Cr.latB_no hk h] at h'; cases h'.1)]
theorem Cr.rest_g {c : Cr} {q : Nat} (hk : q < c.na) (h : ¬ (0 ≤ c.gb q ∧ c.gb q ≤ c.ga q ∧ c.ga q / 2 ≤ c.i + c.nl + q)) : c.rest = 8 := by
  unfold Cr.rest; rw [if_neg (fun h' => by rw [Cr.gatB_no hk h] at h'; cases h'.2)]
theorem Cr.rest_0 {c : Cr} (h : LatTo c c.nl) (h' : GatTo c c.na) : c.rest = 0 := by
  unfold Cr.rest; rw [if_pos ⟨Cr.latB_yes h, Cr.gatB_yes h'⟩]

set_option maxRecDepth 100000 in
set_option maxHeartbeats 2000000 in
theorem rCheck_rest (c : Cr) (p : Pl) (w : World) (hm : Mem w w.heap.size c p) (hs : Sm c) (h : 0 ≤ c.i) (h1 : c.sz ≤ 1000) (h2 : c.nb ≤ 100) (h3 : c.nc ≤ 100)
    (h4 : Cr.allB c.sz c.bd c.nb = true) (h5 : Cr.allB c.sz c.cn c.nc = true) : Calls Try.prog 26 #[cv c p] w fun e w' => e = .returned (.int .i64 c.rest) ∧ Below w.heap.size w w' := by
  have g1 := hs.nl
  have g2 := hs.na
  have hz : c.i ≤ 1000 := by have : c.sz = c.i + c.nl + c.na := rfl; omega
  have hB0 : Below w.heap.size w w := Below.refl _ _
  go_enter Try.func26, Try.ntmps26
  go_wp2_with (first
    | (go_at_call 27; refine (rSize_any c p _ (by assumption) (by assumption) (by assumption) (by assumption)).mono ?_; rintro e w1 ⟨rfl, hb1⟩; obtain ⟨hc1, hf1⟩ := bcell hb1; have hz1 : w.heap.size < w1.heap.size := (by have := hb1.size; (try simp at this); omega); have hB1 : Below w.heap.size w w1 := Below.step (by go_grown) (by go_size) hb1;
       have hH1 : Has w1 w.heap.size 26 (cc c p) := (by first | exact Has.keep (by assumption) hb1 (by assumption) | exact Has.keep (Has.new _ _ _) hb1 (by go_size)))
    | (go_at_call 57; (with_reducible refine (rLiterals_any p.A3 c.nb p.k3 c.bd _ w.heap.size _ hs.bd hs.nb (hm.bd.keep (by assumption))).mono ?_); rintro e w1 ⟨rfl, rfl⟩)
    | (go_at_call 57; (with_reducible refine (rLiterals_any p.A4 c.nc p.k4 c.cn _ w.heap.size _ hs.cn hs.nc (hm.cn.keep (by assumption))).mono ?_); rintro e w1 ⟨rfl, rfl⟩))
  clear hc1 hf1
  go_loopw [4] (fun i wr => ∃ q : Nat, q ≤ c.nl ∧ i = .int .i64 q ∧ LatTo c q ∧ Below w.heap.size w wr ∧ Has wr w.heap.size 26 (cc c p)) (fun i _ => c.nl - (intOf i).toNat)
  case atStart => exact ⟨0, Nat.zero_le _, rfl, fun j hj => absurd hj (Nat.not_lt_zero _), hB1, hH1⟩
  case round =>
    obtain ⟨q, hq, rfl, hL, hBr, hH⟩ := hrel
    have x0 := hH.cell 0
    have x1 := hH.cell 1
    have x2 := hH.cell 2
    simp only [cc, List.getElem?_toArray, List.getElem?_cons_zero, List.getElem?_cons_succ] at x0 x1 x2
    by_cases hlt : q < c.nl
    · obtain ⟨a, hA, hab, hcs⟩ := (hm.la.keep hBr) (by omega)
      obtain ⟨y0, y1⟩ := hcs q hlt
      rw [hA] at x1
      have hbd := hs.nx q
      have hbe := hs.rs q
      unfold I64 at hbd hbe
      clear hcs hA
      have x1' := ca x1
      have y0' := ca y0
      have y1' := ca y1
      have hz2 := hH.lt
      by_cases hg : 0 ≤ c.nx q ∧ c.nx q / 2 ≤ c.sz ∧ 0 ≤ c.rs q ∧ c.rs q ≤ 2
      · obtain ⟨b1, b2, b3, b4⟩ := hg
        have hv : Cr.allB c.sz (fun _ => c.nx q) 1 = true := Cr.allB_yes fun _ _ => ⟨b1, b2⟩
        go_wp2_with (go_at_call 57; (with_reducible refine (rLiterals_any (some ⟨wr.heap.size, 0, none⟩) 1 1 (fun _ => c.nx q) _ (wr.heap.size + 1) _ (fun _ => hs.nx q) (by omega) (IntsAt.one wr _ _)).mono ?_); rintro e w1 ⟨rfl, rfl⟩)
        go_roundw
        case rel => exact ⟨q + 1, by omega, by go_num, hL.snoc ⟨b1, b2, b3, b4⟩, hBr.alloc (by omega) _, hH.keep (Below.alloc (Below.refl _ _) (Nat.le_refl _) _) hz2⟩
        case measure => simp [intOf]; omega
      · have HR := Lib.hid (ret_int (k := .i64) (Cr.rest_l hlt hg))
        by_cases hg1 : 0 ≤ c.nx q ∧ c.nx q / 2 ≤ c.sz
        · have hv : Cr.allB c.sz (fun _ => c.nx q) 1 = true := Cr.allB_yes fun _ _ => hg1
          have hg2 : c.rs q < 0 ∨ (¬ c.rs q < 0 ∧ 2 < c.rs q) := by omega
          clear hg hg1
          rcases hg2 with hg2 | ⟨hg2, hg3⟩
          all_goals
            go_wp2_with (go_at_call 57; (with_reducible refine (rLiterals_any (some ⟨wr.heap.size, 0, none⟩) 1 1 (fun _ => c.nx q) _ (wr.heap.size + 1) _ (fun _ => hs.nx q) (by omega) (IntsAt.one wr _ _)).mono ?_); rintro e w1 ⟨rfl, rfl⟩)
            go_ret
            exact ⟨HR.out.symm, hBr.alloc (by omega) _⟩
        · have hv : Cr.allB c.sz (fun _ => c.nx q) 1 = false := Cr.allB_no (k := 0) (by omega) (by omega)
          clear hg hg1
          go_wp2_with (go_at_call 57; (with_reducible refine (rLiterals_any (some ⟨wr.heap.size, 0, none⟩) 1 1 (fun _ => c.nx q) _ (wr.heap.size + 1) _ (fun _ => hs.nx q) (by omega) (IntsAt.one wr _ _)).mono ?_); rintro e w1 ⟨rfl, rfl⟩)
          go_ret
          exact ⟨HR.out.symm, hBr.alloc (by omega) _⟩
    · obtain rfl : q = c.nl := by omega
      clear hq hlt
      have HL := Lib.hid hL
      clear hL hH1 hB1
      go_wp2
      go_loopw [5] (fun i wr => ∃ q : Nat, q ≤ c.na ∧ i = .int .i64 q ∧ GatTo c q ∧ Below w.heap.size w wr ∧ Has wr w.heap.size 26 (cc c p)) (fun i _ => c.na - (intOf i).toNat)
      case atStart => exact ⟨0, Nat.zero_le _, rfl, fun j hj => absurd hj (Nat.not_lt_zero _), hBr, hH⟩
      case round =>
        clear x0 x1 x2 hH hBr
        obtain ⟨q, hq, rfl, hG, hBr, hH⟩ := hrel
        have x0 := hH.cell 0
        have x1 := hH.cell 1
        have x2 := hH.cell 2
        simp only [cc, List.getElem?_toArray, List.getElem?_cons_zero, List.getElem?_cons_succ] at x0 x1 x2
        by_cases hlt : q < c.na
        · obtain ⟨a, hA, hab, hcs⟩ := (hm.an.keep hBr) (by omega)
          obtain ⟨y0, y1⟩ := hcs q hlt
          rw [hA] at x2
          have hbd := hs.ga q
          have hbe := hs.gb q
          unfold I64 at hbd hbe
          clear hcs hA
          have x1' := ca x1
          have x0' := ca x0
          have x2' := ca x2
          have y0' := ca y0
          have y1' := ca y1
          have hz2 := hH.lt
          by_cases hg : 0 ≤ c.gb q ∧ c.gb q ≤ c.ga q ∧ c.ga q / 2 ≤ c.i + c.nl + q
          · obtain ⟨b1, b2, b3⟩ := hg
            go_wp2
            go_roundw
            case rel => exact ⟨q + 1, by omega, by go_num, hG.snoc ⟨b1, b2, b3⟩, hBr.alloc (by omega) _, hH.keep (Below.alloc (Below.refl _ _) (Nat.le_refl _) _) hz2⟩
            case measure => simp [intOf]; omega
          · have HR := Lib.hid (ret_int (k := .i64) (Cr.rest_g hlt hg))
            have hg2 : c.gb q < 0 ∨ (¬ c.gb q < 0 ∧ c.ga q < c.gb q) ∨ (¬ c.gb q < 0 ∧ ¬ c.ga q < c.gb q ∧ c.i + c.nl + q < c.ga q / 2) := by omega
            clear hg
            rcases hg2 with hg2 | ⟨hg2, hg3⟩ | ⟨hg2, hg3, hg4⟩
            all_goals
              go_wp2
              go_ret
              exact ⟨HR.out.symm, hBr.alloc (by omega) _⟩
        · obtain rfl : q = c.na := by omega
          have HR := Lib.hid (ret_int (k := .i64) (Cr.rest_0 HL.out hG))
          clear hG hq hlt
          go_wp2
          go_ret
          exact ⟨HR.out.symm, hBr⟩

/-- the reference's check, of any circuit with lists that are not long -/
theorem rCheck_any (c : Cr) (p : Pl) (w : World) (hm : Mem w w.heap.size c p) (hs : Sm c) : Calls Try.prog 26 #[cv c p] w fun e w' => e = .returned (.int .i64 c.chk) ∧ Below w.heap.size w w' := by
  by_cases h : c.i < 0
  · rw [Cr.chk_neg h]; exact rCheck_neg c p w h
  · by_cases h1 : 1000 < c.sz ∨ 100 < c.nb ∨ 100 < c.nc
    · rw [Cr.chk_many h h1]; exact rCheck_many c p w hs (by omega) h1
    · by_cases h2 : Cr.allB c.sz c.bd c.nb = true ∧ Cr.allB c.sz c.cn c.nc = true
      · have : c.chk = c.rest := by
          unfold Cr.rest
          by_cases h3 : c.latB = true ∧ c.gatB = true
          · rw [if_pos h3, Cr.chk_ok h h1 ⟨h2.1, h2.2, h3.1, h3.2⟩]
          · rw [if_neg h3, Cr.chk_bad h h1 (fun h' => h3 ⟨h'.2.2.1, h'.2.2.2⟩)]
        rw [this]
        exact rCheck_rest c p w hm hs (by omega) (by omega) (by omega) (by omega) h2.1 h2.2
      · rw [Cr.chk_bad h h1 (fun h' => h2 ⟨h'.1, h'.2.1⟩)]
        refine rCheck_lits c p w hm hs (by omega) (by omega) (by omega) (by omega) ?_
        cases hq : Cr.allB c.sz c.bd c.nb
        · exact Or.inl rfl
        · exact Or.inr (by cases hq2 : Cr.allB c.sz c.cn c.nc
                           · rfl
                           · exact absurd ⟨hq, hq2⟩ h2)
