/- The raw circuit of a valid circuit: it is valid, its gates stand in their order, and no variable changes its number. -/
import Derived.Test.YtmholdmcmbbdgaaOrderRaw
namespace Go.Proofs.Ytmholdmcmbbdgaa
open Go.RowKit
set_option linter.unusedVariables false
set_option linter.unusedSimpArgs false

theorem lst_add (f : Nat → Int) (n : Nat) : ∀ m, lst f (n + m) = lst f n ++ lst (fun j => f (n + j)) m
  | 0 => by simp [lst]
  | m + 1 => by
    rw [← Nat.add_assoc, lst_succ, lst_add f n m, lst_succ, List.append_assoc]
theorem lst_congr {f g : Nat → Int} {n : Nat} (h : ∀ j, j < n → f j = g j) : lst f n = lst g n := by
  unfold lst
  exact List.map_congr_left fun j hj => h j (List.mem_range.1 hj)

theorem gate_ok7 {c : Cr} (h : c.chk = 0) {k : Nat} (hk : k < c.na) : 0 ≤ c.gb k ∧ c.gb k ≤ c.ga k ∧ c.ga k / 2 ≤ c.i + c.nl + k ∧ c.i + c.nl + k < 1000 ∧ 0 ≤ c.i := by
  have h1 := Cr.chk_zero h
  have h2 : c.sz = c.i + c.nl + c.na := rfl
  have h3 := (of_decide_eq_true h1.2.2.2.2.2.2.2 : ∀ j, j < c.na → _) k hk
  exact ⟨h3.1, h3.2.1, h3.2.2, by omega, h1.1⟩

section
variable {c : Cr}
/-- how many variables a valid circuit has -/
def Cr.szN (c : Cr) : Nat := c.i.toNat + c.nl + c.na
theorem szN_eq (h : c.chk = 0) : (c.szN : Int) = c.sz ∧ c.i = (c.i.toNat : Int) ∧ c.sz ≤ 1000 ∧ c.szN ≤ 1000 := by
  obtain ⟨h0, h1, _⟩ := Cr.chk_zero h
  unfold Cr.szN
  unfold Cr.sz at h1 ⊢
  omega
theorem raw_dL (h : c.chk = 0) : c.raw.dL = lst (fun j => 2 * (1 + (j : Int))) c.szN := by
  obtain ⟨h1, h2, h3, h4⟩ := szN_eq h
  unfold Rw.dL Cr.raw Cr.szN
  rw [lst_add, lst_add]
  congr 1
  · congr 1
    exact lst_congr fun j hj => by show 2 * (1 + c.i + (j : Int)) = 2 * (1 + ((c.i.toNat + j : Nat) : Int)); omega
  · exact lst_congr fun j hj => by show 2 * (1 + c.i + (c.nl : Int) + (j : Int)) = 2 * (1 + ((c.i.toNat + c.nl + j : Nat) : Int)); omega
theorem raw_dV (h : c.chk = 0) : c.raw.dL.map (· / 2) = lst (fun j => 1 + (j : Int)) c.szN := by
  rw [raw_dL h]
  unfold lst
  rw [List.map_map]
  exact List.map_congr_left fun j hj => by show 2 * (1 + (j : Int)) / 2 = 1 + (j : Int); omega
theorem mem_dV (h : c.chk = 0) (v : Int) : v ∈ c.raw.dL.map (· / 2) ↔ 1 ≤ v ∧ v ≤ c.sz := by
  obtain ⟨h1, h2, h3, h4⟩ := szN_eq h
  rw [raw_dV h, mem_lst]
  constructor
  · rintro ⟨j, hj, rfl⟩; omega
  · rintro ⟨a, b⟩; exact ⟨(v - 1).toNat, by omega, by omega⟩
theorem raw_twi (h : c.chk = 0) : c.raw.twi = false := by
  unfold Rw.twi
  rw [raw_dV h]
  refine decide_eq_false (fun hn => hn ?_)
  unfold lst
  exact List.pairwise_map.2 (List.pairwise_lt_range.imp fun hab => by omega)
/-- all that is used -/
theorem raw_uL (h : c.chk = 0) : ∀ x ∈ c.raw.uL, 0 ≤ x ∧ x / 2 ≤ c.sz := by
  obtain ⟨h0, h1, h2, h3, h4, h5, h6, h7⟩ := Cr.chk_zero h
  have h4 := of_decide_eq_true h4
  have h5 := of_decide_eq_true h5
  have h6 := of_decide_eq_true h6
  intro x hx
  unfold Rw.uL at hx
  simp only [List.mem_append] at hx
  rcases hx with ((hx | hx) | hx) | hx
  · obtain ⟨j, hj, rfl⟩ := mem_lst.1 hx
    exact h4 j hj
  · obtain ⟨j, hj, rfl⟩ := mem_lst.1 hx
    exact h5 j hj
  · obtain ⟨j, hj, rfl⟩ := mem_lst.1 hx
    have := h6 j hj
    exact ⟨this.1, this.2.1⟩
  · obtain ⟨j, hj, hx⟩ := mem_twos.1 hx
    have hj : j < c.na := hj
    obtain ⟨k1, k2, k3, k4, k5⟩ := gate_ok7 h hj
    unfold Cr.sz
    have e1 : c.raw.ga j = c.ga j := rfl
    have e2 : c.raw.gb j = c.gb j := rfl
    rw [e1, e2] at hx
    rcases hx with rfl | rfl <;> omega
theorem raw_num (h : c.chk = 0) : c.raw.num = true := by
  obtain ⟨h0, h1, h2, h3, h4, h5, h6, h7⟩ := Cr.chk_zero h
  have h6 := of_decide_eq_true h6
  obtain ⟨s1, s2, s3, s4⟩ := szN_eq h
  unfold Rw.num
  simp only [Bool.and_eq_true]
  refine ⟨⟨List.all_eq_true.2 fun x hx => ?_, List.all_eq_true.2 fun x hx => ?_⟩, List.all_eq_true.2 fun x hx => ?_⟩
  · rw [raw_dL h] at hx
    obtain ⟨j, hj, rfl⟩ := mem_lst.1 hx
    refine decide_eq_true ?_
    show 2 ≤ 2 * (1 + (j : Int)) ∧ 2 * (1 + (j : Int)) % 2 = 0 ∧ 2 * (1 + (j : Int)) ≤ 2 * c.sz + 1
    omega
  · have := raw_uL h x hx
    refine decide_eq_true ?_
    show 0 ≤ x ∧ x ≤ 2 * c.sz + 1
    omega
  · obtain ⟨j, hj, rfl⟩ := mem_lst.1 hx
    have := h6 j hj
    exact decide_eq_true ⟨this.2.2.1, this.2.2.2⟩
theorem raw_opn (h : c.chk = 0) : c.raw.opn = false := by
  unfold Rw.opn
  rw [List.any_eq_false]
  intro x hx
  have hb := raw_uL h x hx
  simp only [decide_eq_true_eq, mem_dV h]
  omega
theorem raw_st (h : c.chk = 0) : ∀ k, k ≤ c.na → (∀ v, (c.raw.st k).1 v = decide (¬ (1 + c.i + c.nl + (k : Int) ≤ v ∧ v ≤ c.sz))) ∧ (c.raw.st k).2 = List.range k
  | 0, _ => by
    refine ⟨fun v => ?_, rfl⟩
    show decide (v ∉ (lst (fun j => 2 * (1 + c.i + c.nl + (j : Int))) c.na).map (· / 2)) = _
    refine decide_eq_decide.2 (not_congr ?_)
    simp only [List.mem_map, mem_lst]
    unfold Cr.sz
    constructor
    · rintro ⟨x, ⟨j, hj, rfl⟩, rfl⟩; omega
    · rintro ⟨a, b⟩; exact ⟨2 * v, ⟨(v - (1 + c.i + c.nl)).toNat, by omega, by omega⟩, by omega⟩
  | k + 1, hk => by
    obtain ⟨ih1, ih2⟩ := raw_st h k (by omega)
    obtain ⟨k1, k2, k3, k4, k5⟩ := gate_ok7 h (k := k) (by omega)
    have hf : c.raw.fnd (c.raw.st k).1 = k := by
      refine Rw.fnd_is (show k < c.na by omega) ?_ (fun j hj => ?_)
      · unfold Rw.may
        rw [ih1, ih1, ih1]
        have e1 : c.raw.gl k = 2 * (1 + c.i + c.nl + (k : Int)) := rfl
        have e2 : c.raw.ga k = c.ga k := rfl
        have e3 : c.raw.gb k = c.gb k := rfl
        rw [e1, e2, e3, decide_eq_false (by unfold Cr.sz; omega), decide_eq_true (by omega), decide_eq_true (by omega)]
        rfl
      · unfold Rw.may
        rw [ih1 (c.raw.gl j / 2)]
        have e1 : c.raw.gl j = 2 * (1 + c.i + c.nl + (j : Int)) := rfl
        rw [e1, decide_eq_true (by omega)]
        rfl
    have hlt : c.raw.fnd (c.raw.st k).1 < c.raw.na := by rw [hf]; show k < c.na; omega
    rw [Rw.st_go hlt, hf]
    refine ⟨fun v => ?_, by rw [ih2, List.range_succ]⟩
    show (if v = c.raw.gl k / 2 then true else (c.raw.st k).1 v) = _
    have e1 : c.raw.gl k / 2 = 1 + c.i + c.nl + (k : Int) := by show 2 * (1 + c.i + c.nl + (k : Int)) / 2 = _; omega
    rw [e1, ih1]
    by_cases hv : v = 1 + c.i + c.nl + (k : Int)
    · rw [if_pos hv]; exact (decide_eq_true (by omega)).symm
    · rw [if_neg hv]; exact decide_eq_decide.2 (by omega)
theorem raw_ord (h : c.chk = 0) : c.raw.ord = List.range c.na := (raw_st h c.na (Nat.le_refl _)).2
theorem raw_chk (h : c.chk = 0) : c.raw.chk = 0 := by
  obtain ⟨h0, h1, h2, h3, _⟩ := Cr.chk_zero h
  obtain ⟨s1, s2, s3, s4⟩ := szN_eq h
  have hb : c.raw.big = false := by
    refine decide_eq_false ?_
    show ¬ (1000 < c.sz ∨ 1000 < ((c.i.toNat : Nat) + c.nl + c.na : Int) ∨ 100 < c.nb ∨ 100 < c.nc)
    unfold Cr.sz at h1 ⊢
    omega
  have hl : ¬ c.raw.ord.length < c.raw.na := by rw [raw_ord h, List.length_range]; exact Nat.lt_irrefl _
  have hm : ¬ c.raw.m < 0 := by show ¬ c.sz < 0; omega
  unfold Rw.chk
  rw [if_neg hm, if_neg (by rw [hb]; decide), if_neg (by rw [raw_num h]; decide), if_neg (by rw [raw_twi h]; decide), if_neg (by rw [raw_opn h]; decide), if_neg hl]
theorem raw_oL (h : c.chk = 0) : c.raw.oL = lst (fun j => 2 * (1 + (j : Int))) c.szN := by
  rw [← raw_dL h]
  unfold Rw.oL Rw.dL
  rw [raw_ord h]
  rfl
theorem raw_nwk (h : c.chk = 0) : ∀ k, k ≤ c.szN → ∀ v, c.raw.nwk k v = if v = 0 then 0 else if 1 ≤ v ∧ v ≤ k then v else -1
  | 0, _, v => by
    show (if v = 0 then (0 : Int) else -1) = _
    by_cases hv : v = 0
    · rw [if_pos hv, if_pos hv]
    · rw [if_neg hv, if_neg hv, if_neg (by omega)]
  | k + 1, hk, v => by
    have ih := raw_nwk h k (by omega) v
    have e : c.raw.oL.getD k 0 = 2 * (1 + (k : Int)) := by
      rw [raw_oL h, List.getD_eq_getElem?_getD, lst_at _ _ _ (by omega)]; rfl
    show (if v = c.raw.oL.getD k 0 / 2 then (k : Int) + 1 else c.raw.nwk k v) = _
    rw [e, ih]
    by_cases hv : v = 2 * (1 + (k : Int)) / 2
    · rw [if_pos hv, if_neg (by omega), if_pos (by omega)]; omega
    · rw [if_neg hv]
      by_cases h0 : v = 0
      · rw [if_pos h0, if_pos h0]
      · rw [if_neg h0, if_neg h0]
        by_cases h1 : 1 ≤ v ∧ v ≤ k
        · rw [if_pos h1, if_pos (by omega)]
        · rw [if_neg h1, if_neg (by omega)]
theorem raw_nw (h : c.chk = 0) {v : Int} (h0 : 0 ≤ v) (h1 : v ≤ c.sz) : c.raw.nw v = v := by
  obtain ⟨s1, s2, s3, s4⟩ := szN_eq h
  have e : c.raw.oL.length = c.szN := by rw [raw_oL h, lst_len]
  unfold Rw.nw
  rw [e, raw_nwk h _ (Nat.le_refl _)]
  by_cases hv : v = 0
  · rw [if_pos hv, hv]
  · rw [if_neg hv, if_pos (by omega)]
theorem raw_told (h : c.chk = 0) {x : Int} (h0 : 0 ≤ x) (h1 : x / 2 ≤ c.sz) : c.raw.told x = x := by
  unfold Rw.told
  rw [raw_nw h (by omega) h1]
  omega
end
end Go.Proofs.Ytmholdmcmbbdgaa
