/- The rows of a text, and the run that they tell. -/
import Derived.Test.YtbppdifghkkooaaGreatDoorWitProg
import Derived.Test.YtbppdifghkkooaaGreatDoorWitChk
import Derived.Test.YtbppdifghkkooaaGreatDoorTraceProps
namespace Go.Proofs.YtbppdifghkkooaaGreatDoor
open Go Go.RowKit
set_option linter.unusedVariables false
set_option linter.unusedSimpArgs false

theorem cut_yes {s : List UInt8} (h1 : Lib.hasPrefix s [49, 10, 98] = true) (h2 : Lib.hasSuffix (Lib.trimPrefix s [49, 10, 98]) [10, 46, 10] = true) : okM s = true ∧ mid s = Lib.trimSuffix (Lib.trimPrefix s [49, 10, 98]) [10, 46, 10] := by
  unfold Lib.hasPrefix at h1
  obtain ⟨r, hr⟩ := List.isPrefixOf_iff_prefix.1 h1
  subst hr
  have e1 : Lib.trimPrefix ([49, 10, 98] ++ r) [49, 10, 98] = r := by
    unfold Lib.trimPrefix Lib.hasPrefix
    rw [if_pos h1]; rfl
  rw [e1] at h2 ⊢
  have h2' := h2
  unfold Lib.hasSuffix at h2
  obtain ⟨m, hm⟩ := List.isSuffixOf_iff_suffix.1 h2
  subst hm
  refine ⟨okM_of m, (mid_of m).trans ?_⟩
  unfold Lib.trimSuffix
  rw [if_pos h2']
  exact (List.take_left' (by simp)).symm
theorem cut_no {s : List UInt8} (h : ¬ (Lib.hasPrefix s [49, 10, 98] = true ∧ Lib.hasSuffix (Lib.trimPrefix s [49, 10, 98]) [10, 46, 10] = true)) : okM s = false := by
  cases e : okM s
  · rfl
  · refine absurd ?_ h
    have he := okM_eq e
    obtain ⟨m, hm⟩ : ∃ m, m = mid s := ⟨_, rfl⟩
    rw [← hm] at he
    subst he
    have h1 : Lib.hasPrefix ([49, 10, 98] ++ (m ++ [10, 46, 10])) [49, 10, 98] = true := List.isPrefixOf_iff_prefix.2 ⟨_, rfl⟩
    refine ⟨h1, ?_⟩
    have e1 : Lib.trimPrefix ([49, 10, 98] ++ (m ++ [10, 46, 10])) [49, 10, 98] = m ++ [10, 46, 10] := by
      unfold Lib.trimPrefix
      rw [if_pos h1]; rfl
    rw [e1]
    exact List.isSuffixOf_iff_suffix.2 ⟨_, rfl⟩
theorem trim_short (s p : List UInt8) : (Lib.trimPrefix s p).length ≤ s.length := by
  unfold Lib.trimPrefix
  split
  · rw [List.length_drop]; omega
  · exact Nat.le_refl _
theorem trims_short (s p : List UInt8) : (Lib.trimSuffix s p).length ≤ s.length := by
  unfold Lib.trimSuffix
  split
  · rw [List.length_take]; omega
  · exact Nat.le_refl _

/-- what SplitN returns: all pieces, or too many -/
def SpnIs (l : List UInt8) (w : World) (e : Ending) (w' : World) : Prop :=
  ∃ L : List (List UInt8), ∃ k, e = .returned (.slice (some ⟨w.heap.size, 0, none⟩) L.length k) ∧ L.length ≤ 103 ∧ ((pcs 10 l).length ≤ 103 → L = pcs 10 l) ∧ (103 < (pcs 10 l).length → L.length = 103) ∧ StrsAt w' w'.heap.size (some ⟨w.heap.size, 0, none⟩) L.length (lnA L) ∧ Below w.heap.size w w' ∧ L.length ≤ k ∧ k ≤ 103
theorem at_add (g j : Nat) : (⟨g, 0, none⟩ : Addr).add j = ⟨g, j, none⟩ := by unfold Addr.add; split <;> simp_all
theorem splitN_any (l : List UInt8) (hl : l.length ≤ 100000) (B : Nat) (w : World) (hE : Env B w) : Calls Tryz.prog 142 #[.string (str l), .string ⟨#[10]⟩, .int .i64 103] w (SpnIs l w) := by
  obtain ⟨m, hm⟩ := hE.m
  obtain ⟨L, h1, h2, h3, h4⟩ := splitN_rows l
  have h := Tryz.strings_SplitN (str l) ⟨#[10]⟩ 103 m w (by rw [str_size]; omega) hm (Nat.le_refl 1) (by decide) (by decide)
  rw [h1] at h
  refine h.mono fun e w' ⟨he, hw⟩ => ?_
  have hlen : (L.map str).length = L.length := List.length_map _
  rw [hlen] at he
  have hle : L.length ≤ min 103 ((str l).size + 1) := by
    have := Lib.splitB_length_le ⟨#[10]⟩ 0 (min 103 ((str l).size + 1) - 1) (str l)
    rw [h1, hlen] at this
    omega
  refine ⟨L, _, he, h2, h3, h4, fun hn => ⟨_, rfl, by rw [hw]; simp, fun j hj => ?_⟩, by rw [hw]; exact (Below.refl _ _).alloc (Nat.le_refl _) _, hle, Nat.min_le_left _ _⟩
  rw [at_add, hw, (Has.new w 9 _).cell]
  unfold Lib.cellsOf
  rw [List.getElem?_toArray, List.getElem?_append_left (by simpa using hj), List.getElem?_map, List.getElem?_map, List.getElem?_eq_getElem hj]
  show some (Value.string (str L[j])) = some (.string (str (lnA L j)))
  unfold lnA
  rw [List.getD_eq_getElem?_getD, List.getElem?_eq_getElem hj]; rfl

theorem spn_103 {n m : Nat} {L P : List (List UInt8)} (hn : n = L.length) (hm : m = P.length) (h1 : P.length ≤ 103 → L = P) (h2 : 103 < P.length → n = 103) (h : ¬ m ≤ 102) : n = 103 := by
  by_cases q : P.length ≤ 103
  · rw [hn, h1 q]; omega
  · exact h2 (by omega)
/-- the rows are as many as a text has -/
def rwB (s : List UInt8) : Bool := okM s && decide (3 ≤ (mL s).length ∧ (mL s).length ≤ 102)
/-- what rowsOf returns -/
def RowsOfIs (s : List UInt8) (w : World) (e : Ending) (w' : World) : Prop :=
  ∃ L : List (List UInt8), ∃ g k, e = .returned (.tuple #[.slice (some ⟨g, 0, none⟩) L.length k, .bool (rwB s)]) ∧ (rwB s = true → L = mL s) ∧ StrsAt w' w'.heap.size (some ⟨g, 0, none⟩) L.length (lnA L) ∧ w.heap.size ≤ g ∧ Below w.heap.size w w' ∧ L.length ≤ k ∧ k ≤ 103

set_option maxRecDepth 100000 in
set_option maxHeartbeats 4000000 in
theorem rowsOf_any (s : List UInt8) (hs : s.length ≤ 100000) (B : Nat) (w : World) (hE : Env B w) :
    Calls Tryz.prog 95 #[.string (str s)] w (RowsOfIs s w) := by
  have hdat : ∀ l, (str l).data.toList = l := fun l => by simp [str]
  obtain ⟨s1, hs1⟩ : ∃ s1, s1 = Lib.trimPrefix s [49, 10, 98] := ⟨_, rfl⟩
  obtain ⟨s2, hs2⟩ : ∃ s2, s2 = Lib.trimSuffix s1 [10, 46, 10] := ⟨_, rfl⟩
  have l1 := trim_short s [49, 10, 98]
  have l2 := trims_short s1 [10, 46, 10]
  rw [← hs1] at l1
  rw [← hs2] at l2
  obtain ⟨b1, hb1⟩ : ∃ b1, b1 = Lib.hasPrefix s [49, 10, 98] := ⟨_, rfl⟩
  obtain ⟨b2, hb2⟩ : ∃ b2, b2 = Lib.hasSuffix s1 [10, 46, 10] := ⟨_, rfl⟩
  have D1 : Hid (Calls Tryz.prog 140 #[.string (str s), .string ⟨#[49, 10, 98]⟩] w fun e w' => e = .returned (.tuple #[.string (str s1), .bool b1]) ∧ w = w') := Lib.hid (by
    have h := Tryz.strings_CutPrefix (str s) ⟨#[49, 10, 98]⟩ w
    rw [hdat] at h
    have e : (⟨#[49, 10, 98]⟩ : ByteArray).data.toList = [49, 10, 98] := rfl
    rw [e, ← hs1, ← hb1] at h
    exact h.mono fun e w' h => ⟨h.1, h.2.symm⟩)
  have D2 : Hid (Calls Tryz.prog 141 #[.string (str s1), .string ⟨#[10, 46, 10]⟩] w fun e w' => e = .returned (.tuple #[.string (str s2), .bool b2]) ∧ w = w') := Lib.hid (by
    have h := Tryz.strings_CutSuffix (str s1) ⟨#[10, 46, 10]⟩ w (by rw [str_size]; omega)
    rw [hdat] at h
    have e : (⟨#[10, 46, 10]⟩ : ByteArray).data.toList = [10, 46, 10] := rfl
    rw [e, ← hs2, ← hb2] at h
    exact h.mono fun e w' h => ⟨h.1, h.2.symm⟩)
  have D3 := Lib.hid (splitN_any s2 (by omega) B w hE)
  have HN : Hid (b1 = false ∨ b2 = false → rwB s = false) := Lib.hid fun h => by
    unfold rwB
    rw [cut_no fun hh => by
      rw [← hb1, ← hs1, ← hb2] at hh
      rcases h with h | h
      · rw [h] at hh; cases hh.1
      · rw [h] at hh; cases hh.2]
    rfl
  have HY : Hid (b1 = true → b2 = true → rwB s = decide (3 ≤ (pcs 10 s2).length ∧ (pcs 10 s2).length ≤ 102) ∧ mL s = pcs 10 s2) := Lib.hid fun h1 h2 => by
    obtain ⟨g1, g2⟩ := cut_yes (s := s) (hb1.symm.trans h1) (by rw [← hs1]; exact hb2.symm.trans h2)
    rw [← hs1, ← hs2] at g2
    unfold rwB mL
    rw [g1, g2]
    exact ⟨rfl, rfl⟩
  have HE := Lib.hid (And.intro hs1 (And.intro hs2 (And.intro hb1 hb2)))
  clear hs1 hs2 hb1 hb2 hE hdat l1 l2
  cases b1
  · have HR := Lib.hid (HN.out (Or.inl rfl))
    clear HN HY
    go_enter Tryz.func95, Tryz.ntmps95
    go_wp2_with (first
      | (go_at_call 140; (with_reducible refine D1.out.mono ?_); rintro e w1 ⟨rfl, rfl⟩)
      | (go_at_call 141; (with_reducible refine D2.out.mono ?_); rintro e w1 ⟨rfl, rfl⟩)
      | (go_at_call 142; (with_reducible refine D3.out.mono ?_); rintro e w1 ⟨L, k, rfl, h103, hL1, hL2, hS1, hb1, hk1, hk2⟩; obtain ⟨n, hn⟩ : ∃ n, n = L.length := ⟨_, rfl⟩; rw [← hn] at h103 hL2 hk1 hS1 ⊢; have HX := Lib.hid (And.intro hn (And.intro hL1 (And.intro hL2 hS1))); clear hn hL1 hL2 hS1))
    go_ret2
    exact ⟨L, w.heap.size, k, by rw [HR.out, ← HX.out.1]; rfl, (fun h => by rw [HR.out] at h; cases h), by rw [← HX.out.1]; exact HX.out.2.2.2, Nat.le_refl _, hb1, by rw [← HX.out.1]; exact hk1, hk2⟩
  · cases b2
    · have HR := Lib.hid (HN.out (Or.inr rfl))
      clear HN HY
      go_enter Tryz.func95, Tryz.ntmps95
      go_wp2_with (first
        | (go_at_call 140; (with_reducible refine D1.out.mono ?_); rintro e w1 ⟨rfl, rfl⟩)
        | (go_at_call 141; (with_reducible refine D2.out.mono ?_); rintro e w1 ⟨rfl, rfl⟩)
        | (go_at_call 142; (with_reducible refine D3.out.mono ?_); rintro e w1 ⟨L, k, rfl, h103, hL1, hL2, hS1, hb1, hk1, hk2⟩; obtain ⟨n, hn⟩ : ∃ n, n = L.length := ⟨_, rfl⟩; rw [← hn] at h103 hL2 hk1 hS1 ⊢; have HX := Lib.hid (And.intro hn (And.intro hL1 (And.intro hL2 hS1))); clear hn hL1 hL2 hS1))
      go_ret2
      exact ⟨L, w.heap.size, k, by rw [HR.out, ← HX.out.1]; rfl, (fun h => by rw [HR.out] at h; cases h), by rw [← HX.out.1]; exact HX.out.2.2.2, Nat.le_refl _, hb1, by rw [← HX.out.1]; exact hk1, hk2⟩
    · have HR := Lib.hid (HY.out rfl rfl)
      clear HN HY
      obtain ⟨m, hm⟩ : ∃ m, m = (pcs 10 s2).length := ⟨_, rfl⟩
      have HM := Lib.hid hm
      clear hm
      by_cases h3 : m < 3
      · have HR2 : Hid (rwB s = false) := Lib.hid (HR.out.1.trans (decide_eq_false (by rw [← HM.out]; omega)))
        go_enter Tryz.func95, Tryz.ntmps95
        go_wp2_with (first
          | (go_at_call 140; (with_reducible refine D1.out.mono ?_); rintro e w1 ⟨rfl, rfl⟩)
          | (go_at_call 141; (with_reducible refine D2.out.mono ?_); rintro e w1 ⟨rfl, rfl⟩)
          | (go_at_call 142; (with_reducible refine D3.out.mono ?_); rintro e w1 ⟨L, k, rfl, h103, hL1, hL2, hS1, hb1, hk1, hk2⟩; obtain ⟨n, hn⟩ : ∃ n, n = L.length := ⟨_, rfl⟩; rw [← hn] at h103 hL2 hk1 hS1 ⊢; have HX := Lib.hid (And.intro hn (And.intro hL1 (And.intro hL2 hS1))); clear hn hL1 hL2 hS1; have hnm : n = m := (by have := HX.out.2.1 (by rw [← HM.out]; omega); rw [HX.out.1, this, ← HM.out]); have e3 : decide ((3 : Int) ≤ (n : Int)) = false := (decide_eq_false (by omega)); clear hnm))
        go_ret2
        exact ⟨L, w.heap.size, k, by rw [HR2.out, ← HX.out.1]; rfl, (fun h => by rw [HR2.out] at h; cases h), by rw [← HX.out.1]; exact HX.out.2.2.2, Nat.le_refl _, hb1, by rw [← HX.out.1]; exact hk1, hk2⟩
      · by_cases h4 : m ≤ 102
        · have HR2 : Hid (rwB s = true) := Lib.hid (HR.out.1.trans (decide_eq_true (by rw [← HM.out]; omega)))
          go_enter Tryz.func95, Tryz.ntmps95
          go_wp2_with (first
            | (go_at_call 140; (with_reducible refine D1.out.mono ?_); rintro e w1 ⟨rfl, rfl⟩)
            | (go_at_call 141; (with_reducible refine D2.out.mono ?_); rintro e w1 ⟨rfl, rfl⟩)
            | (go_at_call 142; (with_reducible refine D3.out.mono ?_); rintro e w1 ⟨L, k, rfl, h103, hL1, hL2, hS1, hb1, hk1, hk2⟩; obtain ⟨n, hn⟩ : ∃ n, n = L.length := ⟨_, rfl⟩; rw [← hn] at h103 hL2 hk1 hS1 ⊢; have HX := Lib.hid (And.intro hn (And.intro hL1 (And.intro hL2 hS1))); clear hn hL1 hL2 hS1; have hnm : n = m := (by have := HX.out.2.1 (by rw [← HM.out]; omega); rw [HX.out.1, this, ← HM.out]); have e3 : decide ((3 : Int) ≤ (n : Int)) = true := (decide_eq_true (by omega)); have e4 : decide ((n : Int) ≤ 102) = true := (decide_eq_true (by omega)); clear hnm))
          go_ret2
          exact ⟨L, w.heap.size, k, by rw [HR2.out, ← HX.out.1]; rfl, (fun _ => (HX.out.2.1 (by rw [← HM.out]; omega)).trans HR.out.2.symm), by rw [← HX.out.1]; exact HX.out.2.2.2, Nat.le_refl _, hb1, by rw [← HX.out.1]; exact hk1, hk2⟩
        · have HR2 : Hid (rwB s = false) := Lib.hid (HR.out.1.trans (decide_eq_false (by rw [← HM.out]; omega)))
          go_enter Tryz.func95, Tryz.ntmps95
          go_wp2_with (first
            | (go_at_call 140; (with_reducible refine D1.out.mono ?_); rintro e w1 ⟨rfl, rfl⟩)
            | (go_at_call 141; (with_reducible refine D2.out.mono ?_); rintro e w1 ⟨rfl, rfl⟩)
            | (go_at_call 142; (with_reducible refine D3.out.mono ?_); rintro e w1 ⟨L, k, rfl, h103, hL1, hL2, hS1, hb1, hk1, hk2⟩; obtain ⟨n, hn⟩ : ∃ n, n = L.length := ⟨_, rfl⟩; rw [← hn] at h103 hL2 hk1 hS1 ⊢; have HX := Lib.hid (And.intro hn (And.intro hL1 (And.intro hL2 hS1))); clear hn hL1 hL2 hS1; have hnm := spn_103 HX.out.1 HM.out HX.out.2.1 HX.out.2.2.1 h4; have e3 : decide ((3 : Int) ≤ (n : Int)) = true := (decide_eq_true (by omega)); have e4 : decide ((n : Int) ≤ 102) = false := (decide_eq_false (by omega)); clear hnm))
          go_ret2
          exact ⟨L, w.heap.size, k, by rw [HR2.out, ← HX.out.1]; rfl, (fun h => by rw [HR2.out] at h; cases h), by rw [← HX.out.1]; exact HX.out.2.2.2, Nat.le_refl _, hb1, by rw [← HX.out.1]; exact hk1, hk2⟩

end Go.Proofs.YtbppdifghkkooaaGreatDoor
