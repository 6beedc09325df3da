/- Valid raw circuits have the same text just where they are the same. -/
import Derived.Test.YtmholdmcmbbdgaaDoorAsciiRaw
import Derived.Test.YtmholdmcmbbdgaaDoorOrderTwin
namespace Go.Proofs.YtmholdmcmbbdgaaDoor
open Go.RowKit
set_option linter.unusedVariables false
set_option linter.unusedSimpArgs false

theorem lat_bd {r : Rw} (h : r.chk = 0) {j : Nat} (hj : j < r.nl) : 2 ≤ r.ll j ∧ 0 ≤ r.lb j ∧ r.lb j ≤ 2 := by
  obtain ⟨h0, h1, h2⟩ := chk_num h
  unfold Rw.num at h2
  simp only [Bool.and_eq_true] at h2
  have hd := of_decide_eq_true (List.all_eq_true.1 h2.1.1 (r.ll j) (by unfold Rw.dL; simp only [List.mem_append]; exact Or.inl (Or.inr (mem_lst.2 ⟨j, hj, rfl⟩))))
  have hb := of_decide_eq_true (List.all_eq_true.1 h2.2 (r.lb j) (mem_lst.2 ⟨j, hj, rfl⟩))
  exact ⟨hd.1, hb.1, hb.2⟩
theorem one_line {x y : Int} {s t : List UInt8} (hx : 0 ≤ x) (hy : 0 ≤ y) (h : lin (one x) 1 ++ s = lin (one y) 1 ++ t) : x = y ∧ s = t := by
  obtain ⟨_, h1, h2⟩ := lin_inj (f := one x) (g := one y) (fun _ _ => hx) (fun _ _ => hy) (Nat.le_refl _) (Nat.le_refl _) h
  exact ⟨h1 0 (by omega), h2⟩
theorem tri_nn {x y z : Int} (hx : 0 ≤ x) (hy : 0 ≤ y) (hz : 0 ≤ z) (j : Nat) : 0 ≤ tri x y z j := by
  unfold tri; split
  · exact hx
  · split
    · exact hy
    · exact hz
theorem tri_line {x y z x' y' z' : Int} {n m : Nat} {s t : List UInt8} (hx : 0 ≤ x) (hy : 0 ≤ y) (hz : 0 ≤ z) (hx' : 0 ≤ x') (hy' : 0 ≤ y') (hz' : 0 ≤ z') (hn : 2 ≤ n) (hm : 2 ≤ m) (h : lin (tri x y z) n ++ s = lin (tri x' y' z') m ++ t) : n = m ∧ x = x' ∧ y = y' ∧ (3 ≤ n → z = z') ∧ s = t := by
  obtain ⟨h0, h1, h2⟩ := lin_inj (f := tri x y z) (g := tri x' y' z') (fun j _ => tri_nn hx hy hz j) (fun j _ => tri_nn hx' hy' hz' j) (by omega) (by omega) h
  exact ⟨h0, h1 0 (by omega), h1 1 (by omega), fun h3 => h1 2 (by omega), h2⟩
theorem ech_inj {f g : Nat → Int} {n : Nat} {s t : List UInt8} (hf : ∀ j, j < n → 0 ≤ f j) (hg : ∀ j, j < n → 0 ≤ g j) (h : ech f n ++ s = ech g n ++ t) : (∀ j, j < n → f j = g j) ∧ s = t := by
  rw [ech_flt, ech_flt] at h
  obtain ⟨h1, h2⟩ := flt_inj (X := Unit) (fun _ => True) n _ _ s t (fun j hj s t h => by obtain ⟨a, b⟩ := one_line (hf j hj) (hg j hj) h; exact ⟨by rw [a], b⟩) h
  exact ⟨fun j hj => (one_line (s := []) (t := []) (hf j hj) (hg j hj) (by rw [h1 j hj])).1, h2⟩
theorem gts_inj {f g h f' g' h' : Nat → Int} {n : Nat} {s t : List UInt8} (h1 : ∀ j, j < n → 0 ≤ f j) (h2 : ∀ j, j < n → 0 ≤ g j) (h3 : ∀ j, j < n → 0 ≤ h j) (h1' : ∀ j, j < n → 0 ≤ f' j) (h2' : ∀ j, j < n → 0 ≤ g' j) (h3' : ∀ j, j < n → 0 ≤ h' j)
    (he : gts f g h n ++ s = gts f' g' h' n ++ t) : (∀ j, j < n → f j = f' j ∧ g j = g' j ∧ h j = h' j) ∧ s = t := by
  rw [gts_flt, gts_flt] at he
  obtain ⟨k1, k2⟩ := flt_inj (X := Unit) (fun _ => True) n _ _ s t (fun j hj s t h => by obtain ⟨_, a, b, d, e⟩ := tri_line (h1 j hj) (h2 j hj) (h3 j hj) (h1' j hj) (h2' j hj) (h3' j hj) (show 2 ≤ 3 by omega) (show 2 ≤ 3 by omega) h; exact ⟨by rw [a, b, d (by omega)], e⟩) he
  refine ⟨fun j hj => ?_, k2⟩
  obtain ⟨_, a, b, d, e⟩ := tri_line (s := []) (t := []) (h1 j hj) (h2 j hj) (h3 j hj) (h1' j hj) (h2' j hj) (h3' j hj) (show 2 ≤ 3 by omega) (show 2 ≤ 3 by omega) (by rw [k1 j hj])
  exact ⟨a, b, d (by omega)⟩
theorem lt3_nn {l b : Int} (h : 0 ≤ l) : 0 ≤ lt3 l b := by unfold lt3; split <;> omega
theorem lat_line {l a b l' a' b' : Int} {s t : List UInt8} (hl : 2 ≤ l) (ha : 0 ≤ a) (hb : 0 ≤ b ∧ b ≤ 2) (hl' : 2 ≤ l') (ha' : 0 ≤ a') (hb' : 0 ≤ b' ∧ b' ≤ 2)
    (h : lin (tri l a (lt3 l b)) (ltn b) ++ s = lin (tri l' a' (lt3 l' b')) (ltn b') ++ t) : (l = l' ∧ a = a' ∧ b = b') ∧ s = t := by
  have n1 := ltn_le b
  have n2 := ltn_le b'
  obtain ⟨h0, h1, h2, h3, h4⟩ := tri_line (by omega) ha (lt3_nn (by omega)) (by omega) ha' (lt3_nn (by omega)) n1.1 n2.1 h
  refine ⟨⟨h1, h2, ?_⟩, h4⟩
  unfold ltn at h0 h3
  unfold lt3 at h3
  by_cases b1 : b = 1
  · rw [if_pos b1] at h0 h3
    rw [if_pos b1] at h3
    by_cases b2 : b' = 1
    · omega
    · rw [if_neg b2] at h0 h3
      have := h3 (Nat.le_refl _)
      omega
  · rw [if_neg b1] at h0 h3
    rw [if_neg b1] at h3
    by_cases b2 : b' = 1
    · rw [if_pos b2] at h0 h3
      by_cases b3 : b = 2
      · rw [if_pos b3] at h0 h3
        have := h3 (Nat.le_refl _)
        omega
      · rw [if_neg b3] at h0; omega
    · rw [if_neg b2] at h0
      by_cases b3 : b = 2
      · rw [if_pos b3] at h0
        by_cases b4 : b' = 2
        · omega
        · rw [if_neg b4] at h0; omega
      · rw [if_neg b3] at h0
        by_cases b4 : b' = 2
        · rw [if_pos b4] at h0; omega
        · omega
theorem lts_inj {f g h f' g' h' : Nat → Int} {n : Nat} {s t : List UInt8} (h1 : ∀ j, j < n → 2 ≤ f j) (h2 : ∀ j, j < n → 0 ≤ g j) (h3 : ∀ j, j < n → 0 ≤ h j ∧ h j ≤ 2) (h1' : ∀ j, j < n → 2 ≤ f' j) (h2' : ∀ j, j < n → 0 ≤ g' j) (h3' : ∀ j, j < n → 0 ≤ h' j ∧ h' j ≤ 2)
    (he : lts f g h n ++ s = lts f' g' h' n ++ t) : (∀ j, j < n → f j = f' j ∧ g j = g' j ∧ h j = h' j) ∧ s = t := by
  rw [lts_flt, lts_flt] at he
  obtain ⟨k1, k2⟩ := flt_inj (X := Unit) (fun _ => True) n _ _ s t (fun j hj s t h => by obtain ⟨⟨a, b, d⟩, e⟩ := lat_line (h1 j hj) (h2 j hj) (h3 j hj) (h1' j hj) (h2' j hj) (h3' j hj) h; exact ⟨by rw [a, b, d], e⟩) he
  refine ⟨fun j hj => ?_, k2⟩
  exact (lat_line (s := []) (t := []) (h1 j hj) (h2 j hj) (h3 j hj) (h1' j hj) (h2' j hj) (h3' j hj) (by rw [k1 j hj])).1
theorem txt_inj {r s : Rw} (hr : r.chk = 0) (hs : s.chk = 0) (h : r.txt = s.txt) : sameR r s = true := by
  have br := Bd.of hr
  have bs := Bd.of hs
  unfold Rw.txt at h
  simp only [List.append_assoc] at h
  have h := List.append_cancel_left h
  obtain ⟨_, e1, h⟩ := lin_inj (fun j hj => (hd_bd br j hj).1) (fun j hj => (hd_bd bs j hj).1) (by omega) (by omega) h
  have m1 : r.m = s.m := e1 0 (by omega)
  have m2 : (r.ni : Int) = s.ni := e1 1 (by omega)
  have m3 : (r.nl : Int) = s.nl := e1 2 (by omega)
  have m4 : (r.na : Int) = s.na := e1 4 (by omega)
  have m5 : (r.nb : Int) = s.nb := e1 5 (by omega)
  have m6 : (r.nc : Int) = s.nc := e1 6 (by omega)
  have m2 : r.ni = s.ni := by omega
  have m3 : r.nl = s.nl := by omega
  have m4 : r.na = s.na := by omega
  have m5 : r.nb = s.nb := by omega
  have m6 : r.nc = s.nc := by omega
  clear e1
  rw [← m2, ← m3, ← m4, ← m5, ← m6] at h
  obtain ⟨i1, h⟩ := ech_inj (fun j hj => (br.ip j hj).1) (fun j hj => (bs.ip j (by omega)).1) h
  obtain ⟨i2, h⟩ := lts_inj (fun j hj => (lat_bd hr hj).1) (fun j hj => (br.la j hj).1) (fun j hj => (lat_bd hr hj).2) (fun j hj => (lat_bd hs (by omega)).1) (fun j hj => (bs.la j (by omega)).1) (fun j hj => (lat_bd hs (j := j) (by omega)).2) h
  obtain ⟨i3, h⟩ := ech_inj (fun j hj => (br.bd j hj).1) (fun j hj => (bs.bd j (by omega)).1) h
  obtain ⟨i4, h⟩ := ech_inj (fun j hj => (br.cn j hj).1) (fun j hj => (bs.cn j (by omega)).1) h
  obtain ⟨i5, _⟩ := gts_inj (s := []) (t := []) (fun j hj => (br.gl j hj).1) (fun j hj => (br.ga j hj).1) (fun j hj => (br.gb j hj).1) (fun j hj => (bs.gl j (by omega)).1) (fun j hj => (bs.ga j (by omega)).1) (fun j hj => (bs.gb j (by omega)).1) (by rw [h])
  simp only [sameR, sameB, sameD, Bool.and_eq_true, decide_eq_true_eq]
  exact ⟨m1, ⟨m2, i1⟩, ⟨m3, i2⟩, ⟨m4, i5⟩, ⟨m5, i3⟩, m6, i4⟩
theorem ech_congr {f g : Nat → Int} : ∀ {n : Nat}, (∀ j, j < n → f j = g j) → ech f n = ech g n
  | 0, _ => rfl
  | n + 1, h => by rw [ech, ech, ech_congr (n := n) fun j hj => h j (by omega), h n (by omega)]
theorem gts_congr {f g h f' g' h' : Nat → Int} : ∀ {n : Nat}, (∀ j, j < n → f j = f' j ∧ g j = g' j ∧ h j = h' j) → gts f g h n = gts f' g' h' n
  | 0, _ => rfl
  | n + 1, e => by rw [gts, gts, gts_congr (n := n) fun j hj => e j (by omega), (e n (by omega)).1, (e n (by omega)).2.1, (e n (by omega)).2.2]
theorem lts_congr {f g h f' g' h' : Nat → Int} : ∀ {n : Nat}, (∀ j, j < n → f j = f' j ∧ g j = g' j ∧ h j = h' j) → lts f g h n = lts f' g' h' n
  | 0, _ => rfl
  | n + 1, e => by rw [lts, lts, lts_congr (n := n) fun j hj => e j (by omega), (e n (by omega)).1, (e n (by omega)).2.1, (e n (by omega)).2.2]
theorem txt_congr {r s : Rw} (h : sameR r s = true) : r.txt = s.txt := by
  simp only [sameR, sameB, sameD, Bool.and_eq_true, decide_eq_true_eq] at h
  obtain ⟨m1, ⟨m2, i1⟩, ⟨m3, i2⟩, ⟨m4, i5⟩, ⟨m5, i3⟩, m6, i4⟩ := h
  have eh : r.hd = s.hd := by
    funext j
    unfold Rw.hd
    rw [m1, m2, m3, m4, m5, m6]
  unfold Rw.txt
  rw [eh, ech_congr i1, lts_congr i2, ech_congr i3, ech_congr i4, gts_congr i5, m2, m3, m4, m5, m6]
theorem str_inj {l m : List UInt8} (h : (⟨l.toArray⟩ : ByteArray) = ⟨m.toArray⟩) : l = m := by
  injection h with h
  simpa using h
theorem txt_same {r s : Rw} (hr : r.chk = 0) (hs : s.chk = 0) : decide ((⟨r.txt.toArray⟩ : ByteArray) = ⟨s.txt.toArray⟩) = sameR r s := by
  cases h : sameR r s
  · refine decide_eq_false fun e => ?_
    rw [txt_inj hr hs (str_inj e)] at h
    cases h
  · exact decide_eq_true (by rw [txt_congr h])
end Go.Proofs.YtmholdmcmbbdgaaDoor
