/- The raw circuit of a valid circuit: it is valid, its gates stand in their order, and no variable changes its number. -/
import Derived.Test.YtpdfdbnmohippaaOrderRaw
import Derived.Test.YtpdfdbnmohippaaOrderCirc
import Derived.Test.YtpdfdbnmohippaaOrderOf
namespace Go.Proofs.Ytpdfdbnmohippaa
open Go.RowKit
set_option linter.unusedVariables false
set_option linter.unusedSimpArgs false

theorem lst_add (f : Nat → Int) (n : Nat) : ∀ m, lst f (n + m) = lst f n ++ lst (fun j => f (n + j)) m
  | 0 => by simp [lst]
  | m + 1 => by
    rw [← Nat.add_assoc, lst_succ, lst_add f n m, lst_succ, List.append_assoc]
theorem lst_congr {f g : Nat → Int} {n : Nat} (h : ∀ j, j < n → f j = g j) : lst f n = lst g n := by
  unfold lst
  exact List.map_congr_left fun j hj => h j (List.mem_range.1 hj)

theorem gate_ok7 {c : Cr} (h : c.chk = 0) {k : Nat} (hk : k < c.na) : 0 ≤ c.gb k ∧ c.gb k ≤ c.ga k ∧ c.ga k / 2 ≤ c.i + c.nl + k ∧ c.i + c.nl + k < 1000 ∧ 0 ≤ c.i := by
  have h1 := Cr.chk_zero h
  have h2 : c.sz = c.i + c.nl + c.na := rfl
  have h3 := (of_decide_eq_true h1.2.2.2.2.2.2.2 : ∀ j, j < c.na → _) k hk
  exact ⟨h3.1, h3.2.1, h3.2.2, by omega, h1.1⟩

section
variable {c : Cr}
/-- how many variables a valid circuit has -/
def Cr.szN (c : Cr) : Nat := c.i.toNat + c.nl + c.na
theorem szN_eq (h : c.chk = 0) : (c.szN : Int) = c.sz ∧ c.i = (c.i.toNat : Int) ∧ c.sz ≤ 1000 ∧ c.szN ≤ 1000 := by
  obtain ⟨h0, h1, _⟩ := Cr.chk_zero h
  unfold Cr.szN
  unfold Cr.sz at h1 ⊢
  omega
theorem raw_dL (h : c.chk = 0) : c.raw.dL = lst (fun j => 2 * (1 + (j : Int))) c.szN := by
  obtain ⟨h1, h2, h3, h4⟩ := szN_eq h
  unfold Rw.dL Cr.raw Cr.szN
  rw [lst_add, lst_add]
  congr 1
  · congr 1
    exact lst_congr fun j hj => by show 2 * (1 + c.i + (j : Int)) = 2 * (1 + ((c.i.toNat + j : Nat) : Int)); omega
  · exact lst_congr fun j hj => by show 2 * (1 + c.i + (c.nl : Int) + (j : Int)) = 2 * (1 + ((c.i.toNat + c.nl + j : Nat) : Int)); omega
theorem raw_dV (h : c.chk = 0) : c.raw.dL.map (· / 2) = lst (fun j => 1 + (j : Int)) c.szN := by
  rw [raw_dL h]
  unfold lst
  rw [List.map_map]
  exact List.map_congr_left fun j hj => by show 2 * (1 + (j : Int)) / 2 = 1 + (j : Int); omega
theorem mem_dV (h : c.chk = 0) (v : Int) : v ∈ c.raw.dL.map (· / 2) ↔ 1 ≤ v ∧ v ≤ c.sz := by
  obtain ⟨h1, h2, h3, h4⟩ := szN_eq h
  rw [raw_dV h, mem_lst]
  constructor
  · rintro ⟨j, hj, rfl⟩; omega
  · rintro ⟨a, b⟩; exact ⟨(v - 1).toNat, by omega, by omega⟩
theorem raw_twi (h : c.chk = 0) : c.raw.twi = false := by
  unfold Rw.twi
  rw [raw_dV h]
  refine decide_eq_false (fun hn => hn ?_)
  unfold lst
  exact List.pairwise_map.2 (List.pairwise_lt_range.imp fun hab => by omega)
/-- all that is used -/
theorem raw_uL (h : c.chk = 0) : ∀ x ∈ c.raw.uL, 0 ≤ x ∧ x / 2 ≤ c.sz := by
  obtain ⟨h0, h1, h2, h3, h4, h5, h6, h7⟩ := Cr.chk_zero h
  have h4 := of_decide_eq_true h4
  have h5 := of_decide_eq_true h5
  have h6 := of_decide_eq_true h6
  intro x hx
  unfold Rw.uL at hx
  simp only [List.mem_append] at hx
  rcases hx with ((hx | hx) | hx) | hx
  · obtain ⟨j, hj, rfl⟩ := mem_lst.1 hx
    exact h4 j hj
  · obtain ⟨j, hj, rfl⟩ := mem_lst.1 hx
    exact h5 j hj
  · obtain ⟨j, hj, rfl⟩ := mem_lst.1 hx
    have := h6 j hj
    exact ⟨this.1, this.2.1⟩
  · obtain ⟨j, hj, hx⟩ := mem_twos.1 hx
    have hj : j < c.na := hj
    obtain ⟨k1, k2, k3, k4, k5⟩ := gate_ok7 h hj
    unfold Cr.sz
    have e1 : c.raw.ga j = c.ga j := rfl
    have e2 : c.raw.gb j = c.gb j := rfl
    rw [e1, e2] at hx
    rcases hx with rfl | rfl <;> omega
theorem raw_num (h : c.chk = 0) : c.raw.num = true := by
  obtain ⟨h0, h1, h2, h3, h4, h5, h6, h7⟩ := Cr.chk_zero h
  have h6 := of_decide_eq_true h6
  obtain ⟨s1, s2, s3, s4⟩ := szN_eq h
  unfold Rw.num
  simp only [Bool.and_eq_true]
  refine ⟨⟨List.all_eq_true.2 fun x hx => ?_, List.all_eq_true.2 fun x hx => ?_⟩, List.all_eq_true.2 fun x hx => ?_⟩
  · rw [raw_dL h] at hx
    obtain ⟨j, hj, rfl⟩ := mem_lst.1 hx
    refine decide_eq_true ?_
    show 2 ≤ 2 * (1 + (j : Int)) ∧ 2 * (1 + (j : Int)) % 2 = 0 ∧ 2 * (1 + (j : Int)) ≤ 2 * c.sz + 1
    omega
  · have := raw_uL h x hx
    refine decide_eq_true ?_
    show 0 ≤ x ∧ x ≤ 2 * c.sz + 1
    omega
  · obtain ⟨j, hj, rfl⟩ := mem_lst.1 hx
    have := h6 j hj
    exact decide_eq_true ⟨this.2.2.1, this.2.2.2⟩
theorem raw_opn (h : c.chk = 0) : c.raw.opn = false := by
  unfold Rw.opn
  rw [List.any_eq_false]
  intro x hx
  have hb := raw_uL h x hx
  simp only [decide_eq_true_eq, mem_dV h]
  omega
theorem raw_st (h : c.chk = 0) : ∀ k, k ≤ c.na → (∀ v, (c.raw.st k).1 v = decide (¬ (1 + c.i + c.nl + (k : Int) ≤ v ∧ v ≤ c.sz))) ∧ (c.raw.st k).2 = List.range k
  | 0, _ => by
    refine ⟨fun v => ?_, rfl⟩
    show decide (v ∉ (lst (fun j => 2 * (1 + c.i + c.nl + (j : Int))) c.na).map (· / 2)) = _
    refine decide_eq_decide.2 (not_congr ?_)
    simp only [List.mem_map, mem_lst]
    unfold Cr.sz
    constructor
    · rintro ⟨x, ⟨j, hj, rfl⟩, rfl⟩; omega
    · rintro ⟨a, b⟩; exact ⟨2 * v, ⟨(v - (1 + c.i + c.nl)).toNat, by omega, by omega⟩, by omega⟩
  | k + 1, hk => by
    obtain ⟨ih1, ih2⟩ := raw_st h k (by omega)
    obtain ⟨k1, k2, k3, k4, k5⟩ := gate_ok7 h (k := k) (by omega)
    have hf : c.raw.fnd (c.raw.st k).1 = k := by
      refine Rw.fnd_is (show k < c.na by omega) ?_ (fun j hj => ?_)
      · unfold Rw.may
        rw [ih1, ih1, ih1]
        have e1 : c.raw.gl k = 2 * (1 + c.i + c.nl + (k : Int)) := rfl
        have e2 : c.raw.ga k = c.ga k := rfl
        have e3 : c.raw.gb k = c.gb k := rfl
        rw [e1, e2, e3, decide_eq_false (by unfold Cr.sz; omega), decide_eq_true (by omega), decide_eq_true (by omega)]
        rfl
      · unfold Rw.may
        rw [ih1 (c.raw.gl j / 2)]
        have e1 : c.raw.gl j = 2 * (1 + c.i + c.nl + (j : Int)) := rfl
        rw [e1, decide_eq_true (by omega)]
        rfl
    have hlt : c.raw.fnd (c.raw.st k).1 < c.raw.na := by rw [hf]; show k < c.na; omega
    rw [Rw.st_go hlt, hf]
    refine ⟨fun v => ?_, by rw [ih2, List.range_succ]⟩
    show (if v = c.raw.gl k / 2 then true else (c.raw.st k).1 v) = _
    have e1 : c.raw.gl k / 2 = 1 + c.i + c.nl + (k : Int) := by show 2 * (1 + c.i + c.nl + (k : Int)) / 2 = _; omega
    rw [e1, ih1]
    by_cases hv : v = 1 + c.i + c.nl + (k : Int)
    · rw [if_pos hv]; exact (decide_eq_true (by omega)).symm
    · rw [if_neg hv]; exact decide_eq_decide.2 (by omega)
theorem raw_ord (h : c.chk = 0) : c.raw.ord = List.range c.na := (raw_st h c.na (Nat.le_refl _)).2
theorem raw_chk (h : c.chk = 0) : c.raw.chk = 0 := by
  obtain ⟨h0, h1, h2, h3, _⟩ := Cr.chk_zero h
  obtain ⟨s1, s2, s3, s4⟩ := szN_eq h
  have hb : c.raw.big = false := by
    refine decide_eq_false ?_
    show ¬ (1000 < c.sz ∨ 1000 < ((c.i.toNat : Nat) + c.nl + c.na : Int) ∨ 100 < c.nb ∨ 100 < c.nc)
    unfold Cr.sz at h1 ⊢
    omega
  have hl : ¬ c.raw.ord.length < c.raw.na := by rw [raw_ord h, List.length_range]; exact Nat.lt_irrefl _
  have hm : ¬ c.raw.m < 0 := by show ¬ c.sz < 0; omega
  unfold Rw.chk
  rw [if_neg hm, if_neg (by rw [hb]; decide), if_neg (by rw [raw_num h]; decide), if_neg (by rw [raw_twi h]; decide), if_neg (by rw [raw_opn h]; decide), if_neg hl]
theorem raw_oL (h : c.chk = 0) : c.raw.oL = lst (fun j => 2 * (1 + (j : Int))) c.szN := by
  rw [← raw_dL h]
  unfold Rw.oL Rw.dL
  rw [raw_ord h]
  rfl
theorem raw_nwk (h : c.chk = 0) : ∀ k, k ≤ c.szN → ∀ v, c.raw.nwk k v = if v = 0 then 0 else if 1 ≤ v ∧ v ≤ k then v else -1
  | 0, _, v => by
    show (if v = 0 then (0 : Int) else -1) = _
    by_cases hv : v = 0
    · rw [if_pos hv, if_pos hv]
    · rw [if_neg hv, if_neg hv, if_neg (by omega)]
  | k + 1, hk, v => by
    have ih := raw_nwk h k (by omega) v
    have e : c.raw.oL.getD k 0 = 2 * (1 + (k : Int)) := by
      rw [raw_oL h, List.getD_eq_getElem?_getD, lst_at _ _ _ (by omega)]; rfl
    show (if v = c.raw.oL.getD k 0 / 2 then (k : Int) + 1 else c.raw.nwk k v) = _
    rw [e, ih]
    by_cases hv : v = 2 * (1 + (k : Int)) / 2
    · rw [if_pos hv, if_neg (by omega), if_pos (by omega)]; omega
    · rw [if_neg hv]
      by_cases h0 : v = 0
      · rw [if_pos h0, if_pos h0]
      · rw [if_neg h0, if_neg h0]
        by_cases h1 : 1 ≤ v ∧ v ≤ k
        · rw [if_pos h1, if_pos (by omega)]
        · rw [if_neg h1, if_neg (by omega)]
theorem raw_nw (h : c.chk = 0) {v : Int} (h0 : 0 ≤ v) (h1 : v ≤ c.sz) : c.raw.nw v = v := by
  obtain ⟨s1, s2, s3, s4⟩ := szN_eq h
  have e : c.raw.oL.length = c.szN := by rw [raw_oL h, lst_len]
  unfold Rw.nw
  rw [e, raw_nwk h _ (Nat.le_refl _)]
  by_cases hv : v = 0
  · rw [if_pos hv, hv]
  · rw [if_neg hv, if_pos (by omega)]
theorem raw_told (h : c.chk = 0) {x : Int} (h0 : 0 ≤ x) (h1 : x / 2 ≤ c.sz) : c.raw.told x = x := by
  unfold Rw.told
  rw [raw_nw h (by omega) h1]
  omega
end

end Go.Proofs.Ytpdfdbnmohippaa

namespace Go.Proofs.Ytpdfdbnmohippaa
open Go Go.RowKit
set_option linter.unusedVariables false
set_option linter.unusedSimpArgs false

theorem gate3_any (a b c : Int) (w : World) : Calls Try.prog 40 #[.int .i64 a, .int .i64 b, .int .i64 c] w fun e w' => e = .returned (.agg #[.int .i64 a, .int .i64 b, .int .i64 c]) ∧ Below w.heap.size w w' := by
  go_enter Try.func40, Try.ntmps40
  go_wp2
  refine bodyPost_ret (v := .agg #[.int .i64 a, .int .i64 b, .int .i64 c]) (by simp [results, Try.results40, go_sem]) rfl ⟨rfl, by go_grown⟩

def aR : Rw := ⟨4, 2, 0, 2, 0, 0, fun j => if j = 0 then 2 else 4, fun _ => 0, fun _ => 0, fun _ => 0, fun j => if j = 0 then 6 else 8, fun j => if j = 0 then 4 else 2, fun j => if j = 0 then 8 else 4, fun _ => 0, fun _ => 0⟩
def aR2 : Rw := ⟨4, 2, 0, 2, 0, 0, fun j => if j = 0 then 2 else 4, fun _ => 0, fun _ => 0, fun _ => 0, fun j => if j = 0 then 6 else 8, fun j => if j = 0 then 8 else 6, fun j => 2, fun _ => 0, fun _ => 0⟩
def aC3 : Cr := ⟨2, 0, 2, 0, 0, fun _ => 0, fun _ => 0, fun j => if j = 0 then 4 else 6, fun j => if j = 0 then 2 else 4, fun _ => 0, fun _ => 0⟩
theorem aR_chk : aR.chk = 0 := by decide +kernel
theorem aR2_chk : aR2.chk = 41 := by decide +kernel
theorem aR_len : aR.ord.length = 2 := by decide +kernel
theorem aR_g0 : aR.cir.ga 0 = 4 ∧ aR.cir.gb 0 = 2 ∧ aR.cir.ga 1 = 6 ∧ aR.cir.gb 1 = 4 := by decide +kernel
theorem aR_nw : ∀ j : Nat, j < 5 → aR.nw (j : Int) = [0, 1, 2, 4, 3].getD j 0 := by decide +kernel
theorem k3 (k : Int) (h : decide (-100000 ≤ k ∧ k ≤ 100000) = true) : I64 k := by have := of_decide_eq_true h; exact i64_k k this.1 this.2
theorem aR_sm : RSm aR := ⟨k3 4 rfl, by decide, by decide, by decide, by decide, by decide, fun _ _ => ite_bd (k3 2 rfl) (k3 4 rfl), fun _ _ => k3 0 rfl, fun _ _ => k3 0 rfl, fun _ _ => k3 0 rfl, fun _ _ => ite_bd (k3 6 rfl) (k3 8 rfl), fun _ _ => ite_bd (k3 4 rfl) (k3 2 rfl), fun _ _ => ite_bd (k3 8 rfl) (k3 4 rfl), fun _ _ => k3 0 rfl, fun _ _ => k3 0 rfl⟩
theorem aR2_sm : RSm aR2 := ⟨k3 4 rfl, by decide, by decide, by decide, by decide, by decide, fun _ _ => ite_bd (k3 2 rfl) (k3 4 rfl), fun _ _ => k3 0 rfl, fun _ _ => k3 0 rfl, fun _ _ => k3 0 rfl, fun _ _ => ite_bd (k3 6 rfl) (k3 8 rfl), fun _ _ => ite_bd (k3 8 rfl) (k3 6 rfl), fun _ _ => k3 2 rfl, fun _ _ => k3 0 rfl, fun _ _ => k3 0 rfl⟩
theorem aC3_sm : Sm aC3 := ⟨k3 2 rfl, (show 0 ≤ 1000 by decide), (show 2 ≤ 1000 by decide), (show 0 ≤ 1000 by decide), (show 0 ≤ 1000 by decide), fun _ => k3 0 rfl, fun _ => k3 0 rfl, fun _ => ite_bd (k3 4 rfl) (k3 6 rfl), fun _ => ite_bd (k3 2 rfl) (k3 4 rfl), fun _ => k3 0 rfl, fun _ => k3 0 rfl⟩
theorem trips_has {w : World} {g : Nat} {t : TypeId} {cs : Array Value} {n : Nat} {f h k : Nat → Int} (hh : Has w g t cs) (hc : ∀ j, j < n → cs[j * 3]? = some (.int .i64 (f j)) ∧ cs[j * 3 + 1]? = some (.int .i64 (h j)) ∧ cs[j * 3 + 2]? = some (.int .i64 (k j))) : TripsAt w w.heap.size (some ⟨g, 0, none⟩) n f h k := fun _ =>
  ⟨_, rfl, hh.lt, fun j hj => by
    have e : ∀ i, (⟨g, 0, none⟩ : Addr).add i = ⟨g, i, none⟩ := fun i => by unfold Addr.add; split <;> simp_all
    rw [e, hh.cell, (hc j hj).1, hh.cell, (hc j hj).2.1, hh.cell, (hc j hj).2.2]
    exact ⟨rfl, rfl, rfl⟩⟩
abbrev aP (b0 b1 : Nat) : Rp := ⟨some ⟨b0, 0, none⟩, none, some ⟨b1, 0, none⟩, none, none, 2, 0, 2, 0, 0⟩
theorem aP_nils (r : Rw) (b0 b1 : Nat) (h1 : r.nl = 0) (h2 : r.nb = 0) (h3 : r.nc = 0) : RNils r (aP b0 b1) := ⟨(fun h => by cases h), fun _ => ⟨h1, rfl⟩, (fun h => by cases h), fun _ => ⟨h2, rfl⟩, fun _ => ⟨h3, rfl⟩⟩
section
variable {X : World} {b0 b1 : Nat}
theorem aR_mem (h0 : Has X b0 3 #[.int .i64 2, .int .i64 4]) (h1 : Has X b1 41 #[.int .i64 6, .int .i64 4, .int .i64 8, .int .i64 8, .int .i64 2, .int .i64 4]) : RMem X X.heap.size aR (aP b0 b1) :=
  ⟨ints_of_has h0 (fun j hj => by rcases lt2 hj with rfl | rfl <;> rfl), fun h => absurd h (Nat.not_lt_zero _), trips_has h1 (fun j hj => by rcases lt2 hj with rfl | rfl <;> exact ⟨rfl, rfl, rfl⟩), fun h => absurd h (Nat.not_lt_zero _), fun h => absurd h (Nat.not_lt_zero _)⟩
theorem aR2_mem (h0 : Has X b0 3 #[.int .i64 2, .int .i64 4]) (h1 : Has X b1 41 #[.int .i64 6, .int .i64 8, .int .i64 2, .int .i64 8, .int .i64 6, .int .i64 2]) : RMem X X.heap.size aR2 (aP b0 b1) :=
  ⟨ints_of_has h0 (fun j hj => by rcases lt2 hj with rfl | rfl <;> rfl), fun h => absurd h (Nat.not_lt_zero _), trips_has h1 (fun j hj => by rcases lt2 hj with rfl | rfl <;> exact ⟨rfl, rfl, rfl⟩), fun h => absurd h (Nat.not_lt_zero _), fun h => absurd h (Nat.not_lt_zero _)⟩
/-- the circuit of the chapter's raw circuit -/
theorem aCirc (h0 : Has X b0 3 #[.int .i64 2, .int .i64 4]) (h1 : Has X b1 41 #[.int .i64 6, .int .i64 4, .int .i64 8, .int .i64 8, .int .i64 2, .int .i64 4]) :
    Calls Try.prog 9 #[.agg #[.int .i64 4, .slice (some ⟨b0, 0, none⟩) 2 2, .slice none 0 0, .slice (some ⟨b1, 0, none⟩) 2 2, .slice none 0 0, .slice none 0 0]] X fun e w' => ∃ A1 A2 A3 A4 k1 k2 k3 k4 g, e = .returned (.tuple #[.agg #[.int .i64 2, .slice A1 0 k1, .slice A2 2 k2, .slice A3 0 k3, .slice A4 0 k4], .slice (some ⟨g, 0, none⟩) 5 5, .int .i64 0]) ∧ Mem w' w'.heap.size aC3 ⟨A1, A2, A3, A4, k1, k2, k3, k4⟩ ∧ IntsAt w' w'.heap.size (some ⟨g, 0, none⟩) 5 (fun j => [0, 1, 2, 4, 3].getD j 0) ∧ Below X.heap.size X w' ∧ X.heap.size ≤ g ∧ ∀ a, A2 = some a → X.heap.size ≤ a.block := by
  refine (circ_yes aR (aP b0 b1) X 4 rfl aR_sm (aR_mem h0 h1) (aP_nils aR b0 b1 rfl rfl rfl) aR_chk).mono fun e w' => ?_
  rintro ⟨⟨A1, A2, A3, A4, k1, k2, k3, k4⟩, g, he, hm, _, hr, hb, hgX, hnew⟩
  refine ⟨A1, A2, A3, A4, k1, k2, k3, k4, g, ?_, ⟨fun h => absurd h (Nat.not_lt_zero _), ?_, fun h => absurd h (Nat.not_lt_zero _), fun h => absurd h (Nat.not_lt_zero _)⟩, ?_, hb, hgX, fun a e => hnew a (Or.inr (Or.inl e))⟩
  · rw [he]
    show Ending.returned (.tuple #[.agg #[.int .i64 2, .slice A1 0 k1, .slice A2 aR.ord.length k2, .slice A3 0 k3, .slice A4 0 k4], .slice (some ⟨g, 0, none⟩) 5 5, .int .i64 0]) = _
    rw [aR_len]
  · have ha : PairsAt w' w'.heap.size A2 aR.ord.length aR.cir.ga aR.cir.gb := hm.an
    rw [aR_len] at ha
    obtain ⟨g0, g1, g2, g3⟩ := aR_g0
    intro hn
    obtain ⟨a, e, hl, hc⟩ := ha hn
    refine ⟨a, e, hl, fun j hj => ?_⟩
    have hj : j < 2 := hj
    have hcj := hc j hj
    rcases lt2 hj with rfl | rfl
    · rw [g0, g1] at hcj; exact hcj
    · rw [g2, g3] at hcj; exact hcj
  · intro _
    refine ⟨_, rfl, hr.lt, fun j hj => ?_⟩
    have e : (⟨g, 0, none⟩ : Addr).add j = ⟨g, j, none⟩ := by unfold Addr.add; split <;> simp_all
    rw [e, hr.cell (by omega)]
    show some (Value.int .i64 (aR.nw (j : Int))) = _
    rw [aR_nw j hj]
theorem aCheck (h0 : Has X b0 3 #[.int .i64 2, .int .i64 4]) (h1 : Has X b1 41 #[.int .i64 6, .int .i64 8, .int .i64 2, .int .i64 8, .int .i64 6, .int .i64 2]) :
    Calls Try.prog 13 #[.agg #[.int .i64 4, .slice (some ⟨b0, 0, none⟩) 2 2, .slice none 0 0, .slice (some ⟨b1, 0, none⟩) 2 2, .slice none 0 0, .slice none 0 0]] X fun e w' => e = .returned (.int .i64 41) ∧ Below X.heap.size X w' := by
  have h := pCheck_any aR2 (aP b0 b1) X aR2_sm (aR2_mem h0 h1) (aP_nils aR2 b0 b1 rfl rfl rfl)
  rw [aR2_chk] at h
  exact h
end

set_option maxRecDepth 100000 in
set_option maxHeartbeats 8000000 in
theorem alive3_any (w : World) : Calls Try.prog 15 #[] w fun e w' => e = .returned (.bool true) ∧ Below w.heap.size w w' := by
  have hI0 : Has (w.alloc (.cells #[.int .i64 2, .int .i64 4] 3)) w.heap.size 3 #[.int .i64 2, .int .i64 4] := Has.new _ _ _
  have hB0 : Below w.heap.size w (w.alloc (.cells #[.int .i64 2, .int .i64 4] 3)) := by go_grown
  go_enter Try.func15, Try.ntmps15
  go_wp2_with (go_at_call 40; (with_reducible refine (gate3_any 6 4 8 _).mono ?_); rintro e w1 ⟨rfl, hb1⟩; have hB1 := Below.step hB0 hB0.size hb1; have hI1 := hI0.keep hb1 hI0.lt)
  go_wp2_with (go_at_call 40; (with_reducible refine (gate3_any 8 2 4 _).mono ?_); rintro e w2 ⟨rfl, hb2⟩; have hB2 := Below.step hB1 hB1.size hb2; have hI2 := hI1.keep hb2 hI1.lt)
  have hBa : Below w.heap.size w ((w2.alloc (.cells #[.int .i64 6, .int .i64 4, .int .i64 8, .int .i64 8, .int .i64 2, .int .i64 4] 41)).alloc (.cells #[.int .i64 4, .slice (some ⟨w.heap.size, 0, none⟩) 2 2, .slice none 0 0, .slice (some ⟨w2.heap.size, 0, none⟩) 2 2, .slice none 0 0, .slice none 0 0] 32)) := (hB2.alloc hB2.size _).alloc (by have := hB2.size; simp; omega) _
  have hIa : Has ((w2.alloc (.cells #[.int .i64 6, .int .i64 4, .int .i64 8, .int .i64 8, .int .i64 2, .int .i64 4] 41)).alloc (.cells #[.int .i64 4, .slice (some ⟨w.heap.size, 0, none⟩) 2 2, .slice none 0 0, .slice (some ⟨w2.heap.size, 0, none⟩) 2 2, .slice none 0 0, .slice none 0 0] 32)) w.heap.size 3 #[.int .i64 2, .int .i64 4] := (hI2.al _).al _
  have hDa : Has ((w2.alloc (.cells #[.int .i64 6, .int .i64 4, .int .i64 8, .int .i64 8, .int .i64 2, .int .i64 4] 41)).alloc (.cells #[.int .i64 4, .slice (some ⟨w.heap.size, 0, none⟩) 2 2, .slice none 0 0, .slice (some ⟨w2.heap.size, 0, none⟩) 2 2, .slice none 0 0, .slice none 0 0] 32)) w2.heap.size 41 #[.int .i64 6, .int .i64 4, .int .i64 8, .int .i64 8, .int .i64 2, .int .i64 4] := (Has.new _ _ _).al _
  have hXa : Has ((w2.alloc (.cells #[.int .i64 6, .int .i64 4, .int .i64 8, .int .i64 8, .int .i64 2, .int .i64 4] 41)).alloc (.cells #[.int .i64 4, .slice (some ⟨w.heap.size, 0, none⟩) 2 2, .slice none 0 0, .slice (some ⟨w2.heap.size, 0, none⟩) 2 2, .slice none 0 0, .slice none 0 0] 32)) (w2.heap.size + 1) 32 #[.int .i64 4, .slice (some ⟨w.heap.size, 0, none⟩) 2 2, .slice none 0 0, .slice (some ⟨w2.heap.size, 0, none⟩) 2 2, .slice none 0 0, .slice none 0 0] := Has.new' _ _ (by simp)
  have HA := Lib.hid (And.intro hBa (And.intro hIa (And.intro hDa hXa)))
  have hl2 := hI2.lt
  clear hBa hIa hDa hXa hI0 hB0 hI1 hB1 hI2 hB2 hb1 hb2
  go_wp2_with (go_at_call 9; (with_reducible refine (aCirc HA.out.2.1 HA.out.2.2.1).mono ?_); rintro e w3 ⟨A1, A2, A3, A4, k1, k2, k3, k4, g, rfl, hm3, hi3, hb3, hg3, hA3⟩; have hB3 := Below.step HA.out.1 HA.out.1.size hb3; have hI3 := HA.out.2.1.keep hb3 HA.out.2.1.lt; have hX3 := HA.out.2.2.2.keep hb3 HA.out.2.2.2.lt)
  have hCb : Has (w3.alloc (.cells #[.int .i64 2, .slice A1 0 k1, .slice A2 2 k2, .slice A3 0 k3, .slice A4 0 k4] 26)) w3.heap.size 26 #[.int .i64 2, .slice A1 0 k1, .slice A2 2 k2, .slice A3 0 k3, .slice A4 0 k4] := Has.new _ _ _
  have hB3b : Below w.heap.size w (w3.alloc (.cells #[.int .i64 2, .slice A1 0 k1, .slice A2 2 k2, .slice A3 0 k3, .slice A4 0 k4] 26)) := hB3.alloc hB3.size _
  have hIb := hI3.al (.cells #[.int .i64 2, .slice A1 0 k1, .slice A2 2 k2, .slice A3 0 k3, .slice A4 0 k4] 26)
  have hXb := hX3.al (.cells #[.int .i64 2, .slice A1 0 k1, .slice A2 2 k2, .slice A3 0 k3, .slice A4 0 k4] 26)
  have hmb : Mem (w3.alloc (.cells #[.int .i64 2, .slice A1 0 k1, .slice A2 2 k2, .slice A3 0 k3, .slice A4 0 k4] 26)) (w3.alloc (.cells #[.int .i64 2, .slice A1 0 k1, .slice A2 2 k2, .slice A3 0 k3, .slice A4 0 k4] 26)).heap.size aC3 ⟨A1, A2, A3, A4, k1, k2, k3, k4⟩ := hm3.to ((Below.refl _ _).alloc (Nat.le_refl _) _) (by simp)
  have hib : IntsAt (w3.alloc (.cells #[.int .i64 2, .slice A1 0 k1, .slice A2 2 k2, .slice A3 0 k3, .slice A4 0 k4] 26)) (w3.alloc (.cells #[.int .i64 2, .slice A1 0 k1, .slice A2 2 k2, .slice A3 0 k3, .slice A4 0 k4] 26)).heap.size (some ⟨g, 0, none⟩) 5 (fun j => [0, 1, 2, 4, 3].getD j 0) := hi3.to ((Below.refl _ _).alloc (Nat.le_refl _) _) (by simp)
  clear hm3 hi3 hB3 hI3 hX3 hb3
  go_wp2_with (go_at_call 40; (with_reducible refine (gate3_any 6 8 2 _).mono ?_); rintro e w4 ⟨rfl, hb4⟩; have hB4 := Below.step hB3b hB3b.size hb4; have hI4 := hIb.keep hb4 hIb.lt; have hX4 := hXb.keep hb4 hXb.lt; have hC4 := hCb.keep hb4 hCb.lt; have hm4 := hmb.to hb4 hb4.size; have hi4 := hib.to hb4 hb4.size)
  clear hB3b hIb hXb hCb hmb hib hb4
  go_wp2_with (go_at_call 40; (with_reducible refine (gate3_any 8 6 2 _).mono ?_); rintro e w5 ⟨rfl, hb5⟩; have hB5 := Below.step hB4 hB4.size hb5; have hI5 := hI4.keep hb5 hI4.lt; have hX5 := hX4.keep hb5 hX4.lt; have hC5 := hC4.keep hb5 hC4.lt; have hm5 := hm4.to hb5 hb5.size; have hi5 := hi4.to hb5 hb5.size; have q3 : ∀ o : Obj, (w5.alloc o).cell? ⟨w2.heap.size + 1, 3, none⟩ = some (.slice (some ⟨w2.heap.size, 0, none⟩) 2 2) := ca (hX5.cell 3); have q3f : ∀ o : Obj, (w5.alloc o).frozen? ⟨w2.heap.size + 1, 3, none⟩ = false := fun o => (hX5.al o).fz 3)
  have hbl := hX5.lt
  have hgb : g ≠ w2.heap.size + 1 := by have := hg3; simp at this; omega
  have hAb : ∀ a, A2 = some a → a.block ≠ w2.heap.size + 1 := fun a e => by have := hA3 a e; simp at this; omega
  have hV1 : Has ((w5.alloc (.cells #[.int .i64 6, .int .i64 8, .int .i64 2, .int .i64 8, .int .i64 6, .int .i64 2] 41)).setCell ⟨w2.heap.size + 1, 3, none⟩ (.slice (some ⟨w5.heap.size, 0, none⟩) 2 2)) (w.heap.size) 3 #[.int .i64 2, .int .i64 4] := (hI5.al _).far (by simp; omega) _
  have hV2 : Has ((w5.alloc (.cells #[.int .i64 6, .int .i64 8, .int .i64 2, .int .i64 8, .int .i64 6, .int .i64 2] 41)).setCell ⟨w2.heap.size + 1, 3, none⟩ (.slice (some ⟨w5.heap.size, 0, none⟩) 2 2)) w5.heap.size 41 #[.int .i64 6, .int .i64 8, .int .i64 2, .int .i64 8, .int .i64 6, .int .i64 2] := (Has.new w5 _ _).far (by simp; omega) _
  have hV3 : Has ((w5.alloc (.cells #[.int .i64 6, .int .i64 8, .int .i64 2, .int .i64 8, .int .i64 6, .int .i64 2] 41)).setCell ⟨w2.heap.size + 1, 3, none⟩ (.slice (some ⟨w5.heap.size, 0, none⟩) 2 2)) (w2.heap.size + 1) 32 #[.int .i64 4, .slice (some ⟨w.heap.size, 0, none⟩) 2 2, .slice none 0 0, .slice (some ⟨w5.heap.size, 0, none⟩) 2 2, .slice none 0 0, .slice none 0 0] := by
    have := (hX5.al (.cells #[.int .i64 6, .int .i64 8, .int .i64 2, .int .i64 8, .int .i64 6, .int .i64 2] 41)).set 3 (.slice (some ⟨w5.heap.size, 0, none⟩) 2 2)
    exact this
  have hV4 : Has ((w5.alloc (.cells #[.int .i64 6, .int .i64 8, .int .i64 2, .int .i64 8, .int .i64 6, .int .i64 2] 41)).setCell ⟨w2.heap.size + 1, 3, none⟩ (.slice (some ⟨w5.heap.size, 0, none⟩) 2 2)) w3.heap.size 26 #[.int .i64 2, .slice A1 0 k1, .slice A2 2 k2, .slice A3 0 k3, .slice A4 0 k4] := (hC5.al _).far (fun e => Has.ne hC5 hX5 (by decide) e) _
  have hV5 : IntsAt ((w5.alloc (.cells #[.int .i64 6, .int .i64 8, .int .i64 2, .int .i64 8, .int .i64 6, .int .i64 2] 41)).setCell ⟨w2.heap.size + 1, 3, none⟩ (.slice (some ⟨w5.heap.size, 0, none⟩) 2 2)) ((w5.alloc (.cells #[.int .i64 6, .int .i64 8, .int .i64 2, .int .i64 8, .int .i64 6, .int .i64 2] 41)).setCell ⟨w2.heap.size + 1, 3, none⟩ (.slice (some ⟨w5.heap.size, 0, none⟩) 2 2)).heap.size (some ⟨g, 0, none⟩) 5 (fun j => [0, 1, 2, 4, 3].getD j 0) := (setB (b := w2.heap.size + 1) (j := 3) (hi5.to ((Below.refl _ _).alloc (Nat.le_refl _) (.cells #[.int .i64 6, .int .i64 8, .int .i64 2, .int .i64 8, .int .i64 6, .int .i64 2] 41)) (by simp)) (fun a e => by cases e; exact hgb) _).more (by simp [World.setCell])
  have hV6 : PairsAt ((w5.alloc (.cells #[.int .i64 6, .int .i64 8, .int .i64 2, .int .i64 8, .int .i64 6, .int .i64 2] 41)).setCell ⟨w2.heap.size + 1, 3, none⟩ (.slice (some ⟨w5.heap.size, 0, none⟩) 2 2)) ((w5.alloc (.cells #[.int .i64 6, .int .i64 8, .int .i64 2, .int .i64 8, .int .i64 6, .int .i64 2] 41)).setCell ⟨w2.heap.size + 1, 3, none⟩ (.slice (some ⟨w5.heap.size, 0, none⟩) 2 2)).heap.size A2 2 aC3.ga aC3.gb := by
    intro hn
    obtain ⟨a, e, hl, hc⟩ := (hm5.an.keep ((Below.refl w5.heap.size w5).alloc (Nat.le_refl _) (.cells #[.int .i64 6, .int .i64 8, .int .i64 2, .int .i64 8, .int .i64 6, .int .i64 2] 41))) hn
    have hne := hAb a e
    refine ⟨a, e, by simp [World.setCell]; omega, fun j hj => ?_⟩
    obtain ⟨c1, c2⟩ := hc j hj
    have hh := Below.heap_setCell (w5.alloc (.cells #[.int .i64 6, .int .i64 8, .int .i64 2, .int .i64 8, .int .i64 6, .int .i64 2] 41)) ⟨w2.heap.size + 1, 3, none⟩ (.slice (some ⟨w5.heap.size, 0, none⟩) 2 2) a.block hne
    have hb := add_block a (j * 2)
    refine ⟨?_, ?_⟩
    · rw [← c1]; unfold World.cell?; rw [hb, hh]
    · rw [← c2]; unfold World.cell?; simp only [hb, hh]
  have hVB : Below w.heap.size w ((w5.alloc (.cells #[.int .i64 6, .int .i64 8, .int .i64 2, .int .i64 8, .int .i64 6, .int .i64 2] 41)).setCell ⟨w2.heap.size + 1, 3, none⟩ (.slice (some ⟨w5.heap.size, 0, none⟩) 2 2)) := (hB5.alloc hB5.size _).setCell (by simp; omega) _
  have HV := Lib.hid (And.intro hVB (And.intro hV1 (And.intro hV2 (And.intro hV3 (And.intro hV4 (And.intro hV5 hV6))))))
  clear hVB hV1 hV2 hV3 hV4 hV5 hV6 hI4 hI5 hX4 hX5 hC4 hC5 hm4 hm5 hi4 hi5 hB4 hB5 hb5 q3 q3f
  have HVs := Lib.hid (show ((w5.alloc (.cells #[.int .i64 6, .int .i64 8, .int .i64 2, .int .i64 8, .int .i64 6, .int .i64 2] 41)).setCell ⟨w2.heap.size + 1, 3, none⟩ (.slice (some ⟨w5.heap.size, 0, none⟩) 2 2)).heap.size = w5.heap.size + 1 by simp [World.setCell])
  generalize hVV : ((w5.alloc (.cells #[.int .i64 6, .int .i64 8, .int .i64 2, .int .i64 8, .int .i64 6, .int .i64 2] 41)).setCell ⟨w2.heap.size + 1, 3, none⟩ (.slice (some ⟨w5.heap.size, 0, none⟩) 2 2)) = V at HV HVs ⊢
  clear hVV
  have KV : Hid (∀ W, Below V.heap.size V W → Has W w.heap.size 3 #[.int .i64 2, .int .i64 4] ∧ Has W w5.heap.size 41 #[.int .i64 6, .int .i64 8, .int .i64 2, .int .i64 8, .int .i64 6, .int .i64 2] ∧ Has W (w2.heap.size + 1) 32 #[.int .i64 4, .slice (some ⟨w.heap.size, 0, none⟩) 2 2, .slice none 0 0, .slice (some ⟨w5.heap.size, 0, none⟩) 2 2, .slice none 0 0, .slice none 0 0] ∧ Has W w3.heap.size 26 #[.int .i64 2, .slice A1 0 k1, .slice A2 2 k2, .slice A3 0 k3, .slice A4 0 k4] ∧ Mem W W.heap.size aC3 ⟨A1, A2, A3, A4, k1, k2, k3, k4⟩ ∧ Below w.heap.size w W) := fun W hb => by
    obtain ⟨v0, v1, v2, v3, v4, v5, v6⟩ := HV.out
    have hm : Mem V V.heap.size aC3 ⟨A1, A2, A3, A4, k1, k2, k3, k4⟩ := ⟨fun h => absurd h (Nat.not_lt_zero _), v6, fun h => absurd h (Nat.not_lt_zero _), fun h => absurd h (Nat.not_lt_zero _)⟩
    exact ⟨v1.keep hb v1.lt, v2.keep hb v2.lt, v3.keep hb v3.lt, v4.keep hb v4.lt, hm.to hb hb.size, Below.step v0 v0.size hb⟩
  have hbN : Below V.heap.size V (V.alloc (.cells #[.int .i64 0, .int .i64 1, .int .i64 2, .int .i64 4, .int .i64 3] 3)) := (Below.refl _ _).alloc (Nat.le_refl _) _
  have SI := Lib.hid (sameInts_self (some ⟨g, 0, none⟩) (some ⟨w5.heap.size + 1, 0, none⟩) 5 5 5 (fun j => [0, 1, 2, 4, 3].getD j 0) _ (V.alloc (.cells #[.int .i64 0, .int .i64 1, .int .i64 2, .int .i64 4, .int .i64 3] 3)) (by omega) (HV.out.2.2.2.2.2.1.to hbN hbN.size) (ints_of_has (Has.new' _ _ HVs.out) (fun j hj => by rcases lt5 hj with rfl | rfl | rfl | rfl | rfl <;> rfl)))
  clear HA hl2 hbl hgb hAb hg3 hA3
  go_wp2_with (go_at_call 12; (with_reducible refine SI.out.mono ?_); rintro e w6 ⟨rfl, hb6⟩; have hb6' := Below.step hbN hbN.size hb6; obtain ⟨_, _, _, hC6, _, _⟩ := KV.out _ hb6'; have x0 := hC6.cell 0; have x1 := hC6.cell 1; have x2 := hC6.cell 2; have x3 := hC6.cell 3; have x4 := hC6.cell 4; simp only [List.getElem?_toArray, List.getElem?_cons_zero, List.getElem?_cons_succ] at x0 x1 x2 x3 x4)
  have hbG : Below V.heap.size V (w6.alloc (.cells #[.int .i64 4, .int .i64 2, .int .i64 6, .int .i64 4] 37)) := hb6'.alloc hb6'.size _
  have SM := Lib.hid (same_self aC3 ⟨A1, A2, A3, A4, k1, k2, k3, k4⟩ ⟨none, some ⟨w6.heap.size, 0, none⟩, none, none, 0, 2, 0, 0⟩ (w6.alloc (.cells #[.int .i64 4, .int .i64 2, .int .i64 6, .int .i64 4] 37)) aC3_sm (KV.out _ hbG).2.2.2.2.1 ⟨fun h => absurd h (Nat.not_lt_zero _), pairs_of_has (Has.new _ _ _) (fun j hj => by rcases lt2 hj with rfl | rfl <;> exact ⟨rfl, rfl⟩), fun h => absurd h (Nat.not_lt_zero _), fun h => absurd h (Nat.not_lt_zero _)⟩)
  have SM2 : Hid (Calls Try.prog 11 #[.agg #[.int .i64 2, .slice A1 0 k1, .slice A2 2 k2, .slice A3 0 k3, .slice A4 0 k4], .agg #[.int .i64 2, .slice none 0 0, .slice (some ⟨w6.heap.size, 0, none⟩) 2 2, .slice none 0 0, .slice none 0 0]] (w6.alloc (.cells #[.int .i64 4, .int .i64 2, .int .i64 6, .int .i64 4] 37)) fun e w' => e = .returned (.bool true) ∧ Below (w6.alloc (.cells #[.int .i64 4, .int .i64 2, .int .i64 6, .int .i64 4] 37)).heap.size (w6.alloc (.cells #[.int .i64 4, .int .i64 2, .int .i64 6, .int .i64 4] 37)) w') := SM.out
  clear x0 x1 x2 x3 x4 hC6
  go_wp2_with (go_at_call 11; (with_reducible refine SM2.out.mono ?_); rintro e w7 ⟨rfl, hb7⟩; have hb7' := Below.step hbG hbG.size hb7; obtain ⟨hI7, hD7, hX7, _, _, hB7⟩ := KV.out _ hb7'; have x0 := hX7.cell 0; have x1 := hX7.cell 1; have x2 := hX7.cell 2; have x3 := hX7.cell 3; have x4 := hX7.cell 4; have x5 := hX7.cell 5; simp only [List.getElem?_toArray, List.getElem?_cons_zero, List.getElem?_cons_succ] at x0 x1 x2 x3 x4 x5)
  go_wp2_with (go_at_call 13; (with_reducible refine (aCheck hI7 hD7).mono ?_); rintro e w8 ⟨rfl, hb8⟩; have hB8 := Below.step hB7 hB7.size hb8)
  go_ret
  exact ⟨by simp, hB8⟩

end Go.Proofs.Ytpdfdbnmohippaa

namespace Go.Proofs.Ytpdfdbnmohippaa
open Go Go.RowKit
set_option linter.unusedVariables false
set_option linter.unusedSimpArgs false

theorem PairsAt.congr {w : World} {B : Nat} {A : Option Addr} {n : Nat} {f g f' g' : Nat → Int} (h : PairsAt w B A n f g) (e : ∀ j, j < n → f j = f' j ∧ g j = g' j) : PairsAt w B A n f' g' := fun hn => by
  obtain ⟨a, ea, hl, hc⟩ := h hn
  exact ⟨a, ea, hl, fun j hj => by rw [← (e j hj).1, ← (e j hj).2]; exact hc j hj⟩
theorem IntsAt.congr {w : World} {B : Nat} {A : Option Addr} {n : Nat} {f f' : Nat → Int} (h : IntsAt w B A n f) (e : ∀ j, j < n → f j = f' j) : IntsAt w B A n f' := fun hn => by
  obtain ⟨a, ea, hl, hc⟩ := h hn
  exact ⟨a, ea, hl, fun j hj => by rw [← e j hj]; exact hc j hj⟩
theorem circ_self {c : Cr} {p : Rp} (w : World) (hk : c.chk = 0) (hr : RSm c.raw) (hm : RMem w w.heap.size c.raw p) (hN : RNils c.raw p) :
    Calls Try.prog 9 #[rv c.raw p] w fun e w' => ∃ p' g, e = .returned (.tuple #[cv c p', .slice (some ⟨g, 0, none⟩) (c.szN + 1) (c.szN + 1), .int .i64 0]) ∧ Mem w' w'.heap.size c p' ∧ w'.rowIs g 3 (c.szN + 1) (fun v => .int .i64 (v : Int)) ∧ Below w.heap.size w w' := by
  obtain ⟨s1, s2, s3, s4⟩ := szN_eq hk
  obtain ⟨h0, h1, h2, h3, h4, h5, h6, h7⟩ := Cr.chk_zero hk
  have h4 := of_decide_eq_true h4
  have h5 := of_decide_eq_true h5
  have h6 := of_decide_eq_true h6
  refine (circ_yes c.raw p w c.szN s1.symm hr hm hN (raw_chk hk)).mono fun e w' => ?_
  rintro ⟨p', g, he, hm', _, hR, hb, _, _⟩
  have ho := raw_ord hk
  have hol : c.raw.ord.length = c.na := by rw [ho, List.length_range]
  refine ⟨p', g, ?_, ⟨?_, ?_, ?_, ?_⟩, ?_, hb⟩
  · rw [he]
    show Ending.returned (.tuple #[.agg #[.int .i64 ((c.i.toNat : Nat) : Int), .slice p'.A1 c.nl p'.k1, .slice p'.A2 c.raw.ord.length p'.k2, .slice p'.A3 c.nb p'.k3, .slice p'.A4 c.nc p'.k4], _, _]) = _
    rw [hol, ← s2]
  · exact (show PairsAt w' w'.heap.size p'.A1 c.nl (fun j => c.raw.told (c.nx j)) c.rs from hm'.la).congr fun j hj => ⟨raw_told hk (h6 j hj).1 (h6 j hj).2.1, rfl⟩
  · have ha : PairsAt w' w'.heap.size p'.A2 c.raw.ord.length c.raw.cir.ga c.raw.cir.gb := hm'.an
    rw [hol] at ha
    refine ha.congr fun j hj => ?_
    obtain ⟨k1, k2, k3, k4, k5⟩ := gate_ok7 hk hj
    have ej : c.raw.ord.getD j 0 = j := by rw [ho, List.getD_eq_getElem?_getD, List.getElem?_range hj]; rfl
    have t1 : c.raw.told (c.ga j) = c.ga j := raw_told hk (by omega) (by unfold Cr.sz; omega)
    have t2 : c.raw.told (c.gb j) = c.gb j := raw_told hk (by omega) (by unfold Cr.sz; omega)
    show max (c.raw.told (c.ga (c.raw.ord.getD j 0))) (c.raw.told (c.gb (c.raw.ord.getD j 0))) = c.ga j ∧ min (c.raw.told (c.ga (c.raw.ord.getD j 0))) (c.raw.told (c.gb (c.raw.ord.getD j 0))) = c.gb j
    rw [ej, t1, t2]
    omega
  · exact (show IntsAt w' w'.heap.size p'.A3 c.nb (fun j => c.raw.told (c.bd j)) from hm'.bd).congr fun j hj => raw_told hk (h4 j hj).1 (h4 j hj).2
  · exact (show IntsAt w' w'.heap.size p'.A4 c.nc (fun j => c.raw.told (c.cn j)) from hm'.cn).congr fun j hj => raw_told hk (h5 j hj).1 (h5 j hj).2
  · exact hR.congr fun j hj => by rw [raw_nw hk (by omega) (by omega)]
/-- the three boxes of the law -/
def S3 (b1 b5 b3 : Nat) (c : Cr) (p q : Pl) (rp : Rp) (W : World) : Prop :=
  (W.cell? ⟨b1, 0, none⟩ = some (.int .i64 c.i) ∧ W.cell? ⟨b1, 1, none⟩ = some (.slice p.A1 c.nl p.k1) ∧ W.cell? ⟨b1, 2, none⟩ = some (.slice p.A2 c.na p.k2) ∧ W.cell? ⟨b1, 3, none⟩ = some (.slice p.A3 c.nb p.k3) ∧ W.cell? ⟨b1, 4, none⟩ = some (.slice p.A4 c.nc p.k4)) ∧
  (W.cell? ⟨b5, 0, none⟩ = some (.int .i64 c.i) ∧ W.cell? ⟨b5, 1, none⟩ = some (.slice q.A1 c.nl q.k1) ∧ W.cell? ⟨b5, 2, none⟩ = some (.slice q.A2 c.na q.k2) ∧ W.cell? ⟨b5, 3, none⟩ = some (.slice q.A3 c.nb q.k3) ∧ W.cell? ⟨b5, 4, none⟩ = some (.slice q.A4 c.nc q.k4)) ∧
  W.cell? ⟨b3, 0, none⟩ = some (.int .i64 c.sz) ∧ W.cell? ⟨b3, 1, none⟩ = some (.slice rp.A1 c.raw.ni rp.k1) ∧ W.cell? ⟨b3, 2, none⟩ = some (.slice rp.A2 c.raw.nl rp.k2) ∧ W.cell? ⟨b3, 3, none⟩ = some (.slice rp.A3 c.raw.na rp.k3) ∧ W.cell? ⟨b3, 4, none⟩ = some (.slice rp.A4 c.raw.nb rp.k4) ∧ W.cell? ⟨b3, 5, none⟩ = some (.slice rp.A5 c.raw.nc rp.k5)
/-- the boxes in a later world -/
structure H3 (w W : World) (b5 b3 : Nat) (c : Cr) (p q : Pl) (rp : Rp) : Prop where
  B : Below w.heap.size w W
  h1 : Has W w.heap.size 26 (cc c p)
  h5 : Has W b5 26 (cc c q)
  h3 : Has W b3 32 (rc c.raw rp)
  m5 : Mem W W.heap.size c q
  m3 : RMem W W.heap.size c.raw rp
theorem H3.s {w W : World} {b5 b3 : Nat} {c : Cr} {p q : Pl} {rp : Rp} (h : H3 w W b5 b3 c p q rp) : S3 w.heap.size b5 b3 c p q rp W := ⟨h.h1.box, h.h5.box, h.h3.rbox⟩
theorem H3.on {w W W' : World} {b5 b3 : Nat} {c : Cr} {p q : Pl} {rp : Rp} (h : H3 w W b5 b3 c p q rp) (hb : Below W.heap.size W W') : H3 w W' b5 b3 c p q rp :=
  ⟨Below.step h.B h.B.size hb, h.h1.keep hb h.h1.lt, h.h5.keep hb h.h5.lt, h.h3.keep hb h.h3.lt, h.m5.to hb hb.size, h.m3.to hb hb.size⟩

end Go.Proofs.Ytpdfdbnmohippaa
