/- A valid raw circuit: the places of its new variables, and that its circuit is valid. -/
import Derived.Test.YtpdfdbnmohippaaOrderUse
import Derived.Test.YtpdfdbnmohippaaOrderTm
import Derived.Test.YtpdfdbnmohippaaGatesChk
import Derived.Test.YtpdfdbnmohippaaOrderRCirc2
import Derived.Test.YtpdfdbnmohippaaOrderSameKit
namespace Go.Proofs.Ytpdfdbnmohippaa
open Go.RowKit
set_option linter.unusedVariables false
set_option linter.unusedSimpArgs false

namespace Rw
variable {r : Rw}
theorem chk_twi (h : r.chk = 0) : r.twi = false := by
  unfold chk at h
  split at h
  · omega
  · split at h
    · omega
    · split at h
      · omega
      · split at h
        · omega
        · simpa using ‹¬ r.twi = true›
theorem st_pre (k : Nat) : ∀ d, ∃ t, (r.st (k + d)).2 = (r.st k).2 ++ t ∧ t.length ≤ d
  | 0 => ⟨[], by simp⟩
  | d + 1 => by
    obtain ⟨t, ht, hl⟩ := st_pre k d
    show ∃ t, (r.st (k + d + 1)).2 = _ ∧ _
    rw [st]
    split
    · exact ⟨t ++ [r.fnd (r.st (k + d)).1], by simp [ht], by simp; omega⟩
    · exact ⟨t, ht, by omega⟩
theorem st_full (h : r.ord.length = r.na) {k : Nat} (hk : k ≤ r.na) : (r.st k).2.length = k := by
  obtain ⟨t, ht, hl⟩ := st_pre (r := r) k (r.na - k)
  rw [Nat.add_sub_cancel' hk] at ht
  have h2 : r.ord = (r.st k).2 ++ t := ht
  have h3 := st_len (r := r) k
  rw [h2, List.length_append] at h
  omega
theorem st_ord (h : r.ord.length = r.na) {k j : Nat} (hk : k ≤ r.na) (hj : j < k) : (r.st k).2.getD j 0 = r.ord.getD j 0 := by
  obtain ⟨t, ht, hl⟩ := st_pre (r := r) k (r.na - k)
  rw [Nat.add_sub_cancel' hk] at ht
  have h2 : r.ord = (r.st k).2 ++ t := ht
  have h3 := st_full h hk
  rw [h2, List.getD_eq_getElem?_getD, List.getD_eq_getElem?_getD, List.getElem?_append_left (by omega)]
theorem st_at (h : r.ord.length = r.na) {k : Nat} (hk : k < r.na) : r.fnd (r.st k).1 < r.na ∧ r.ord.getD k 0 = r.fnd (r.st k).1 := by
  have h1 := st_full h (k := k) (by omega)
  have h2 := st_full h (k := k + 1) (by omega)
  have h3 := st_ord h (k := k + 1) (j := k) (by omega) (by omega)
  rw [st] at h2 h3
  split at h2
  · rename_i hf
    rw [if_pos hf] at h3
    refine ⟨hf, ?_⟩
    rw [← h3]
    show ((r.st k).2 ++ [r.fnd (r.st k).1]).getD k 0 = _
    rw [List.getD_eq_getElem?_getD, List.getElem?_append_right (by omega), h1]
    simp
  · omega
theorem st_rdy : ∀ (k : Nat) (v : Int), (r.st k).1 v = true → r.rd0 v = true ∨ ∃ i, i ∈ (r.st k).2 ∧ r.gl i / 2 = v
  | 0, v, h => Or.inl h
  | k + 1, v, h => by
    rw [st] at h ⊢
    split at h
    · rename_i hf
      rw [if_pos hf]
      have h' : (if v = r.gl (r.fnd (r.st k).1) / 2 then true else (r.st k).1 v) = true := h
      by_cases e : v = r.gl (r.fnd (r.st k).1) / 2
      · exact Or.inr ⟨_, List.mem_append_right _ (List.mem_singleton.2 rfl), e.symm⟩
      · rw [if_neg e] at h'
        rcases st_rdy k v h' with h1 | ⟨i, hi, e1⟩
        · exact Or.inl h1
        · exact Or.inr ⟨i, List.mem_append_left _ hi, e1⟩
    · rename_i hf
      rw [if_neg hf]
      exact st_rdy k v h
/-- the variables are all different -/
theorem dL_inj (h : r.twi = false) {i j : Nat} (hi : i < r.dL.length) (hj : j < r.dL.length) (e : r.dL.getD i 0 / 2 = r.dL.getD j 0 / 2) : i = j := by
  have hn : (r.dL.map (· / 2)).Nodup := by
    have := of_decide_eq_false h
    exact Classical.byContradiction this
  have h1 := List.pairwise_iff_getElem.1 hn
  have hg : ∀ k, (hk : k < r.dL.length) → r.dL.getD k 0 = r.dL[k] := fun k hk => by rw [List.getD_eq_getElem?_getD, List.getElem?_eq_getElem hk]; rfl
  rw [hg i hi, hg j hj] at e
  rcases Nat.lt_trichotomy i j with hlt | heq | hlt
  · exact absurd (by rw [List.getElem_map, List.getElem_map]; exact e) (h1 i j (by simpa using hi) (by simpa using hj) hlt)
  · exact heq
  · exact absurd (by rw [List.getElem_map, List.getElem_map]; exact e.symm) (h1 j i (by simpa using hj) (by simpa using hi) hlt)
theorem dL_i (r : Rw) {k : Nat} (h : k < r.ni) : r.dL.getD k 0 = r.ip k := by
  unfold dL
  rw [List.getD_eq_getElem?_getD, List.getElem?_append_left (by simp [lst_len]; omega), List.getElem?_append_left (by simp [lst_len]; omega), lst_at _ _ _ h]; rfl
theorem dL_l (r : Rw) {k : Nat} (h : k < r.nl) : r.dL.getD (r.ni + k) 0 = r.ll k := by
  unfold dL
  rw [List.getD_eq_getElem?_getD, List.getElem?_append_left (by rw [List.length_append, lst_len, lst_len]; omega), List.getElem?_append_right (by simp [lst_len]), lst_len, Nat.add_sub_cancel_left, lst_at _ _ _ h]; rfl
theorem dL_g (r : Rw) {k : Nat} (h : k < r.na) : r.dL.getD (r.ni + r.nl + k) 0 = r.gl k := by
  unfold dL
  rw [List.getD_eq_getElem?_getD, List.getElem?_append_right (by simp [lst_len])]
  simp only [List.length_append, lst_len]
  rw [Nat.add_sub_cancel_left, lst_at _ _ _ h]; rfl
/-- where the literal of a place in the new order stands -/
def sig (r : Rw) (k : Nat) : Nat := if k < r.ni + r.nl then k else r.ni + r.nl + r.ord.getD (k - r.ni - r.nl) 0
theorem sig_dL {k : Nat} (hk : k < r.oL.length) : r.sig k < r.dL.length ∧ r.oL.getD k 0 = r.dL.getD (r.sig k) 0 := by
  rw [oL_len] at hk
  rw [dL_len]
  unfold sig
  rcases Nat.lt_or_ge k r.ni with h1 | h1
  · rw [if_pos (by omega), oL_i r h1, dL_i r h1]; exact ⟨by omega, rfl⟩
  · rcases Nat.lt_or_ge k (r.ni + r.nl) with h2 | h2
    · have e := oL_l r (k := k - r.ni) (by omega)
      have e2 := dL_l r (k := k - r.ni) (by omega)
      rw [show r.ni + (k - r.ni) = k by omega] at e e2
      rw [if_pos h2, e, e2]; exact ⟨by omega, rfl⟩
    · have ho := ord_at (r := r) (j := k - r.ni - r.nl) (by omega)
      have e := oL_g r (k := k - r.ni - r.nl) (by omega)
      rw [show r.ni + r.nl + (k - r.ni - r.nl) = k by omega] at e
      rw [if_neg (by omega), e, dL_g r ho]; exact ⟨by omega, rfl⟩
theorem ord_inj {i j : Nat} (hi : i < r.ord.length) (hj : j < r.ord.length) (e : r.ord.getD i 0 = r.ord.getD j 0) : i = j := by
  have hn : r.ord.Nodup := (st_nodup (r := r) r.na).1
  have h1 := List.pairwise_iff_getElem.1 hn
  have hg : ∀ k, (hk : k < r.ord.length) → r.ord.getD k 0 = r.ord[k] := fun k hk => by rw [List.getD_eq_getElem?_getD, List.getElem?_eq_getElem hk]; rfl
  rw [hg i hi, hg j hj] at e
  rcases Nat.lt_trichotomy i j with hlt | heq | hlt
  · exact absurd e (h1 i j hi hj hlt)
  · exact heq
  · exact absurd e.symm (h1 j i hj hi hlt)
theorem sig_inj {i j : Nat} (hi : i < r.oL.length) (hj : j < r.oL.length) (e : r.sig i = r.sig j) : i = j := by
  rw [oL_len] at hi hj
  unfold sig at e
  by_cases h1 : i < r.ni + r.nl
  · rw [if_pos h1] at e
    by_cases h2 : j < r.ni + r.nl
    · rw [if_pos h2] at e; exact e
    · rw [if_neg h2] at e; omega
  · rw [if_neg h1] at e
    by_cases h2 : j < r.ni + r.nl
    · rw [if_pos h2] at e; omega
    · rw [if_neg h2] at e
      have := ord_inj (r := r) (i := i - r.ni - r.nl) (j := j - r.ni - r.nl) (by omega) (by omega) (by omega)
      omega
theorem nwk_hit : ∀ (k : Nat) (j : Nat), j < k → (∀ i, j < i → i < k → r.oL.getD i 0 / 2 ≠ r.oL.getD j 0 / 2) → r.nwk k (r.oL.getD j 0 / 2) = j + 1
  | 0, j, h, _ => absurd h (Nat.not_lt_zero _)
  | k + 1, j, h, hne => by
    show (if r.oL.getD j 0 / 2 = r.oL.getD k 0 / 2 then (k : Int) + 1 else r.nwk k (r.oL.getD j 0 / 2)) = j + 1
    by_cases e : j = k
    · subst e; rw [if_pos rfl]
    · rw [if_neg (fun e2 => hne k (by omega) (by omega) e2.symm)]
      exact nwk_hit k j (by omega) fun i h1 h2 => hne i h1 (by omega)
/-- the new variable of a literal that is defined -/
theorem nw_at (h : r.chk = 0) {k : Nat} (hk : k < r.oL.length) : r.nw (r.oL.getD k 0 / 2) = k + 1 := by
  have ht := chk_twi h
  refine nwk_hit r.oL.length k hk fun i h1 h2 e => ?_
  obtain ⟨a1, a2⟩ := sig_dL hk
  obtain ⟨b1, b2⟩ := sig_dL (r := r) h2
  rw [a2, b2] at e
  have := sig_inj h2 hk (dL_inj ht b1 a1 e)
  omega
theorem nw_i (h : r.chk = 0) {k : Nat} (hk : k < r.ni) : r.nw (r.ip k / 2) = k + 1 := by
  have := nw_at h (k := k) (by rw [oL_len]; omega)
  rwa [oL_i r hk] at this
theorem nw_l (h : r.chk = 0) {k : Nat} (hk : k < r.nl) : r.nw (r.ll k / 2) = r.ni + k + 1 := by
  have := nw_at h (k := r.ni + k) (by rw [oL_len]; omega)
  rw [oL_l r hk] at this
  omega
theorem nw_g (h : r.chk = 0) {k : Nat} (hk : k < r.na) : r.nw (r.gl (r.ord.getD k 0) / 2) = r.ni + r.nl + k + 1 := by
  have := nw_at h (k := r.ni + r.nl + k) (by rw [oL_len, (ord_all h).1]; omega)
  rw [oL_g r (by rw [(ord_all h).1]; exact hk)] at this
  omega
theorem nw_0 (h : r.chk = 0) : r.nw 0 = 0 := by
  obtain ⟨h0, hb, hnum, ho⟩ := chk_parts h
  exact nwk_nul r.oL.length fun j hj => by have := oL_big hnum j hj; omega
/-- the place of a gate in the new order -/
theorem pos_of (h : r.chk = 0) {i : Nat} (hi : i < r.na) : ∃ j, j < r.na ∧ r.ord.getD j 0 = i ∧ r.nw (r.gl i / 2) = r.ni + r.nl + j + 1 := by
  obtain ⟨h1, h2⟩ := ord_all h
  obtain ⟨j, hj, e⟩ := h2 i hi
  have := nw_g h (k := j) (by omega)
  rw [e] at this
  exact ⟨j, by omega, e, this⟩
/-- what is used and is no gate's variable comes before the gates -/
theorem used_low (h : r.chk = 0) {x : Int} (hx : x ∈ r.uL) (hr : r.rd0 (x / 2) = true) : r.nw (x / 2) ≤ r.ni + r.nl := by
  obtain ⟨h0, hb, hnum, ho⟩ := chk_parts h
  unfold opn at ho
  rw [List.any_eq_false] at ho
  have hxo := ho x hx
  simp only [decide_eq_true_eq] at hxo
  by_cases e0 : x / 2 = 0
  · rw [e0, nw_0 h]; omega
  · have hm : x / 2 ∈ r.dL.map (· / 2) := Classical.byContradiction fun hno => hxo ⟨e0, hno⟩
    obtain ⟨y, hy, ey⟩ := List.mem_map.1 hm
    have ey : y / 2 = x / 2 := ey
    unfold dL at hy
    simp only [List.mem_append] at hy
    rcases hy with (hy | hy) | hy
    · obtain ⟨j, hj, rfl⟩ := mem_lst.1 hy
      rw [← ey, nw_i h hj]; omega
    · obtain ⟨j, hj, rfl⟩ := mem_lst.1 hy
      rw [← ey, nw_l h hj]; omega
    · have := of_decide_eq_true hr
      exact absurd (List.mem_map.2 ⟨y, hy, ey⟩) this
theorem told_half (r : Rw) (x : Int) : r.told x / 2 = r.nw (x / 2) := by unfold told; omega
/-- what a gate uses comes before it -/
theorem gate_low (h : r.chk = 0) {k : Nat} (hk : k < r.na) {x : Int} (hx : x = r.ga (r.ord.getD k 0) ∨ x = r.gb (r.ord.getD k 0)) : 0 ≤ r.told x ∧ r.told x / 2 ≤ r.ni + r.nl + k := by
  obtain ⟨hol, hor⟩ := ord_all h
  obtain ⟨hf, e⟩ := st_at hol hk
  have hm := fnd_may hf
  rw [← e] at hm
  have hlt := ord_at (r := r) (j := k) (by omega)
  unfold may at hm
  simp only [Bool.and_eq_true, Bool.not_eq_true'] at hm
  have hu : x ∈ r.uL := by
    unfold uL
    simp only [List.mem_append]
    refine Or.inr (mem_twos.2 ⟨_, hlt, ?_⟩)
    rcases hx with e | e
    · exact Or.inl e.symm
    · exact Or.inr e.symm
  have hrd : (r.st k).1 (x / 2) = true := by
    rcases hx with e | e
    · rw [e]; exact hm.1.2
    · rw [e]; exact hm.2
  have hus := used_nw h hu
  rw [told_half]
  refine ⟨by unfold told; omega, ?_⟩
  rcases st_rdy k _ hrd with h1 | ⟨i, hi, ei⟩
  · have := used_low h hu h1; omega
  · obtain ⟨j, hj, e1⟩ := List.getElem_of_mem hi
    have hjl : j < k := by rw [st_full hol (by omega)] at hj; exact hj
    have e2 : r.ord.getD j 0 = i := by
      rw [← st_ord hol (k := k) (by omega) hjl, List.getD_eq_getElem?_getD, List.getElem?_eq_getElem hj]; exact e1
    have := nw_g h (k := j) (by omega)
    rw [e2, ei] at this
    omega
theorem used_told (h : r.chk = 0) {x : Int} (hx : x ∈ r.uL) : 0 ≤ r.told x ∧ r.told x / 2 ≤ r.cir.sz := by
  have hu := used_nw h hx
  have hb := nwk_bd (r := r) r.oL.length (x / 2)
  have hl := oL_len r
  rw [told_half]
  refine ⟨by unfold told; omega, ?_⟩
  show r.nwk r.oL.length (x / 2) ≤ ((r.ni : Nat) : Int) + (r.nl : Nat) + (r.ord.length : Nat)
  omega
/-- its circuit is valid -/
theorem cir_chk (h : r.chk = 0) : r.cir.chk = 0 := by
  obtain ⟨h0, hb, hnum, ho⟩ := chk_parts h
  obtain ⟨hol, hor⟩ := ord_all h
  have hbg := of_decide_eq_false hb
  have hn2 := hnum
  unfold num at hn2
  simp only [Bool.and_eq_true] at hn2
  have hsz : r.cir.sz = (r.ni : Int) + r.nl + r.na := by rw [← hol]; rfl
  have A : ∀ (n : Nat) (f : Nat → Int), (∀ j, j < n → f j ∈ r.uL) → Cr.allB r.cir.sz (fun j => r.told (f j)) n = true := fun n f hf => decide_eq_true fun j hj => used_told h (hf j hj)
  unfold Cr.chk
  rw [if_neg (show ¬ r.cir.i < 0 from (show ¬ ((r.ni : Nat) : Int) < 0 by omega)), if_neg (show ¬ (1000 < r.cir.sz ∨ 100 < r.cir.nb ∨ 100 < r.cir.nc) from (show ¬ (1000 < r.cir.sz ∨ 100 < r.nb ∨ 100 < r.nc) by rw [hsz]; omega)), if_pos ?_]
  refine ⟨A r.nb r.bd (fun j hj => ?_), A r.nc r.cn (fun j hj => ?_), decide_eq_true fun j hj => ?_, decide_eq_true fun k hk => ?_⟩
  · unfold uL; simp only [List.mem_append]; exact Or.inl (Or.inl (Or.inl (mem_lst.2 ⟨j, hj, rfl⟩)))
  · unfold uL; simp only [List.mem_append]; exact Or.inl (Or.inl (Or.inr (mem_lst.2 ⟨j, hj, rfl⟩)))
  · have hj : j < r.nl := hj
    have hm : r.la j ∈ r.uL := by unfold uL; simp only [List.mem_append]; exact Or.inl (Or.inr (mem_lst.2 ⟨j, hj, rfl⟩))
    have h1 := used_told h hm
    have h2 := of_decide_eq_true (List.all_eq_true.1 hn2.2 (r.lb j) (mem_lst.2 ⟨j, hj, rfl⟩))
    exact ⟨h1.1, h1.2, h2.1, h2.2⟩
  · have hk : k < r.ord.length := hk
    obtain ⟨a1, a2⟩ := gate_low h (k := k) (by omega) (Or.inl rfl)
    obtain ⟨b1, b2⟩ := gate_low h (k := k) (by omega) (Or.inr rfl)
    show 0 ≤ min (r.told (r.ga (r.ord.getD k 0))) (r.told (r.gb (r.ord.getD k 0))) ∧ min (r.told (r.ga (r.ord.getD k 0))) (r.told (r.gb (r.ord.getD k 0))) ≤ max (r.told (r.ga (r.ord.getD k 0))) (r.told (r.gb (r.ord.getD k 0))) ∧ max (r.told (r.ga (r.ord.getD k 0))) (r.told (r.gb (r.ord.getD k 0))) / 2 ≤ ((r.ni : Nat) : Int) + r.nl + k
    omega
end Rw

end Go.Proofs.Ytpdfdbnmohippaa

namespace Go.Proofs.Ytpdfdbnmohippaa
open Go Go.RowKit
set_option linter.unusedVariables false
set_option linter.unusedSimpArgs false

/-- the same circuit, with zeros behind its lists -/
def Cr.cut (c : Cr) : Cr := ⟨c.i, c.nl, c.na, c.nb, c.nc, fun j => if j < c.nl then c.nx j else 0, fun j => if j < c.nl then c.rs j else 0, fun j => if j < c.na then c.ga j else 0, fun j => if j < c.na then c.gb j else 0, fun j => if j < c.nb then c.bd j else 0, fun j => if j < c.nc then c.cn j else 0⟩
theorem cut_if {n : Nat} {f : Nat → Int} {j : Nat} (h : j < n) : (if j < n then f j else 0) = f j := if_pos h
theorem Cr.cut_mem {c : Cr} {p : Pl} {w : World} {B : Nat} (h : Mem w B c p) : Mem w B c.cut p :=
  ⟨h.la.congr fun j hj => ⟨(cut_if hj).symm, (cut_if hj).symm⟩, h.an.congr fun j hj => ⟨(cut_if hj).symm, (cut_if hj).symm⟩, h.bd.congr fun j hj => (cut_if hj).symm, h.cn.congr fun j hj => (cut_if hj).symm⟩
theorem allB_congr {s : Int} {f g : Nat → Int} {n : Nat} (h : ∀ j, j < n → f j = g j) : Cr.allB s f n = Cr.allB s g n := decide_eq_decide.2 ⟨fun a j hj => by rw [← h j hj]; exact a j hj, fun a j hj => by rw [h j hj]; exact a j hj⟩
theorem Cr.cut_chk (c : Cr) : c.cut.chk = c.chk := by
  have e1 : Cr.allB c.cut.sz c.cut.bd c.cut.nb = Cr.allB c.sz c.bd c.nb := allB_congr fun j hj => cut_if hj
  have e2 : Cr.allB c.cut.sz c.cut.cn c.cut.nc = Cr.allB c.sz c.cn c.nc := allB_congr fun j hj => cut_if hj
  have e3 : c.cut.latB = c.latB := decide_eq_decide.2 ⟨fun a j hj => by have := a j hj; rw [show c.cut.nx j = c.nx j from cut_if hj, show c.cut.rs j = c.rs j from cut_if hj] at this; exact this, fun a j hj => by rw [show c.cut.nx j = c.nx j from cut_if hj, show c.cut.rs j = c.rs j from cut_if hj]; exact a j hj⟩
  have e4 : c.cut.gatB = c.gatB := decide_eq_decide.2 ⟨fun a j hj => by have := a j hj; rw [show c.cut.ga j = c.ga j from cut_if hj, show c.cut.gb j = c.gb j from cut_if hj] at this; exact this, fun a j hj => by rw [show c.cut.ga j = c.ga j from cut_if hj, show c.cut.gb j = c.gb j from cut_if hj]; exact a j hj⟩
  unfold Cr.chk
  rw [e1, e2, e3, e4]
  rfl
theorem i64_if {P : Prop} [Decidable P] {x : Int} (h : P → 0 ≤ x ∧ x ≤ 100000) : I64 (if P then x else 0) := by
  by_cases hp : P
  · rw [if_pos hp]; have := h hp; exact i64_k x (by omega) this.2
  · rw [if_neg hp]; exact i64_k 0 (by decide) (by decide)
theorem Cr.cut_sm {c : Cr} (h : c.chk = 0) : Sm c.cut := by
  obtain ⟨h0, h1, h2, h3, h4, h5, h6, h7⟩ := Cr.chk_zero h
  have h4 := of_decide_eq_true h4
  have h5 := of_decide_eq_true h5
  have h6 := of_decide_eq_true h6
  have hz : c.sz = c.i + c.nl + c.na := rfl
  refine ⟨i64_k c.i (by omega) (by omega), (show c.nl ≤ 1000 by omega), (show c.na ≤ 1000 by omega), (show c.nb ≤ 1000 by omega), (show c.nc ≤ 1000 by omega), fun j => i64_if fun hj => ?_, fun j => i64_if fun hj => ?_, fun j => i64_if fun hj => ?_, fun j => i64_if fun hj => ?_, fun j => i64_if fun hj => ?_, fun j => i64_if fun hj => ?_⟩
  · have := h6 j hj; omega
  · have := h6 j hj; omega
  · have := gate_ok7 h hj; omega
  · have := gate_ok7 h hj; omega
  · have := h4 j hj; omega
  · have := h5 j hj; omega
theorem Cr.cut_nils {c : Cr} {p : Pl} (h : Nils c p) : Nils c.cut p := ⟨h.1, h.2, h.3, h.4⟩

/-- no circuit -/
def zeC : Cr := ⟨0, 0, 0, 0, 0, fun _ => 0, fun _ => 0, fun _ => 0, fun _ => 0, fun _ => 0, fun _ => 0⟩
theorem ze_i : I64 0 := i64_k 0 (by decide) (by decide)
theorem ze_sm : Sm zeC := ⟨ze_i, by decide, by decide, by decide, by decide, fun _ => ze_i, fun _ => ze_i, fun _ => ze_i, fun _ => ze_i, fun _ => ze_i, fun _ => ze_i⟩
theorem ze_chk : zeC.chk = 0 := by decide +kernel
theorem ze_mem (w : World) : Mem w w.heap.size zeC ⟨none, none, none, none, 0, 0, 0, 0⟩ := ⟨fun h => absurd h (Nat.not_lt_zero _), fun h => absurd h (Nat.not_lt_zero _), fun h => absurd h (Nat.not_lt_zero _), fun h => absurd h (Nat.not_lt_zero _)⟩
namespace Rw
/-- what Circuit returns: the circuit, and how many new variables there are in its list -/
def oc (r : Rw) : Cr := if r.chk = 0 then r.cir.cut else zeC
def on (r : Rw) : Nat := if r.chk = 0 then r.m.toNat + 1 else 0
theorem oc_yes {r : Rw} (h : r.chk = 0) : r.oc = r.cir.cut := if_pos h
theorem oc_no {r : Rw} (h : r.chk ≠ 0) : r.oc = zeC := if_neg h
theorem on_yes {r : Rw} (h : r.chk = 0) : r.on = r.m.toNat + 1 := if_pos h
theorem on_no {r : Rw} (h : r.chk ≠ 0) : r.on = 0 := if_neg h
theorem oc_chk (r : Rw) : r.oc.chk = 0 := by
  by_cases h : r.chk = 0
  · rw [oc_yes h, Cr.cut_chk]; exact cir_chk h
  · rw [oc_no h]; exact ze_chk
theorem oc_sm (r : Rw) : Sm r.oc := by
  by_cases h : r.chk = 0
  · rw [oc_yes h]; exact Cr.cut_sm (cir_chk h)
  · rw [oc_no h]; exact ze_sm
theorem on_le (r : Rw) : r.on ≤ 1001 := by
  by_cases h : r.chk = 0
  · obtain ⟨h0, hbig, _⟩ := chk_parts h
    have := of_decide_eq_false hbig
    rw [on_yes h]; omega
  · rw [on_no h]; omega
end Rw
/-- a call of Circuit, of the program or of the reference -/
def CircAll (r : Rw) (w : World) (e : Ending) (w' : World) : Prop :=
  ∃ (p' : Pl) (A : Option Addr) (k : Nat), e = .returned (.tuple #[cv r.oc p', .slice A r.on k, .int .i64 r.chk]) ∧ Mem w' w'.heap.size r.oc p' ∧ IntsAt w' w'.heap.size A r.on (fun v => r.nw (v : Int)) ∧ Below w.heap.size w w'
theorem row_intsAt {w : World} {g n : Nat} {f : Nat → Int} (h : w.rowIs g 3 n (fun v => .int .i64 (f v))) : IntsAt w w.heap.size (some ⟨g, 0, none⟩) n f := fun _ => ⟨_, rfl, h.lt, fun j hj => by
    have e : (⟨g, 0, none⟩ : Addr).add j = ⟨g, j, none⟩ := by unfold Addr.add; split <;> simp_all
    rw [e, h.cell hj]⟩
theorem ints_nil (w : World) (B : Nat) (A : Option Addr) (f : Nat → Int) : IntsAt w B A 0 f := fun h => absurd h (Nat.not_lt_zero _)
theorem circ_all (r : Rw) (p : Rp) (w : World) (hs : RSm r) (hm : RMem w w.heap.size r p) (hN : RNils r p) : Calls Try.prog 9 #[rv r p] w (CircAll r w) := by
  by_cases h : r.chk = 0
  · obtain ⟨h0, _⟩ := Rw.chk_parts h
    refine (circ_yes r p w r.m.toNat (by omega) hs hm hN h).mono fun e w' => ?_
    rintro ⟨p', g, rfl, hm', _, hR, hb, _, _⟩
    refine ⟨p', some ⟨g, 0, none⟩, r.m.toNat + 1, ?_, ?_, ?_, hb⟩
    · rw [Rw.oc_yes h, Rw.on_yes h, h]; rfl
    · rw [Rw.oc_yes h]; exact Cr.cut_mem hm'
    · rw [Rw.on_yes h]; exact row_intsAt hR
  · refine (circ_no r p w hs hm hN h).mono fun e w' => ?_
    rintro ⟨rfl, hb⟩
    refine ⟨⟨none, none, none, none, 0, 0, 0, 0⟩, none, 0, ?_, ?_, ?_, hb⟩
    · rw [Rw.oc_no h, Rw.on_no h]; rfl
    · rw [Rw.oc_no h]; exact ze_mem _
    · rw [Rw.on_no h]; exact ints_nil _ _ _ _

theorem rcirc_all (r : Rw) (p : Rp) (w : World) (hs : RSm r) (hm : RMem w w.heap.size r p) (hN : RNils r p) : Calls Try.prog 18 #[rv r p] w (CircAll r w) := by
  by_cases h : r.chk = 0
  · obtain ⟨h0, _⟩ := Rw.chk_parts h
    refine (rcirc_yes r p w r.m.toNat (by omega) hs hm hN h).mono fun e w' => ?_
    rintro ⟨p', g, rfl, hm', hR, hb⟩
    refine ⟨p', some ⟨g, 0, none⟩, r.m.toNat + 1, ?_, ?_, ?_, hb⟩
    · rw [Rw.oc_yes h, Rw.on_yes h, h]; rfl
    · rw [Rw.oc_yes h]; exact Cr.cut_mem hm'
    · rw [Rw.on_yes h]; exact row_intsAt hR
  · refine (rcirc_no r p w hs hm hN h).mono fun e w' => ?_
    rintro ⟨rfl, hb⟩
    refine ⟨⟨none, none, none, none, 0, 0, 0, 0⟩, none, 0, ?_, ?_, ?_, hb⟩
    · rw [Rw.oc_no h, Rw.on_no h]; rfl
    · rw [Rw.oc_no h]; exact ze_mem _
    · rw [Rw.on_no h]; exact ints_nil _ _ _ _

/-- the boxes of a law: two raw circuits, two circuits -/
def S4 (b1 b3 b4 b7 : Nat) (r s : Rw) (p q : Rp) (c d : Cr) (u v : Pl) (W : World) : Prop :=
  (W.cell? ⟨b1, 0, none⟩ = some (.int .i64 r.m) ∧ W.cell? ⟨b1, 1, none⟩ = some (.slice p.A1 r.ni p.k1) ∧ W.cell? ⟨b1, 2, none⟩ = some (.slice p.A2 r.nl p.k2) ∧ W.cell? ⟨b1, 3, none⟩ = some (.slice p.A3 r.na p.k3) ∧ W.cell? ⟨b1, 4, none⟩ = some (.slice p.A4 r.nb p.k4) ∧ W.cell? ⟨b1, 5, none⟩ = some (.slice p.A5 r.nc p.k5)) ∧
  (W.cell? ⟨b3, 0, none⟩ = some (.int .i64 s.m) ∧ W.cell? ⟨b3, 1, none⟩ = some (.slice q.A1 s.ni q.k1) ∧ W.cell? ⟨b3, 2, none⟩ = some (.slice q.A2 s.nl q.k2) ∧ W.cell? ⟨b3, 3, none⟩ = some (.slice q.A3 s.na q.k3) ∧ W.cell? ⟨b3, 4, none⟩ = some (.slice q.A4 s.nb q.k4) ∧ W.cell? ⟨b3, 5, none⟩ = some (.slice q.A5 s.nc q.k5)) ∧
  (W.cell? ⟨b4, 0, none⟩ = some (.int .i64 c.i) ∧ W.cell? ⟨b4, 1, none⟩ = some (.slice u.A1 c.nl u.k1) ∧ W.cell? ⟨b4, 2, none⟩ = some (.slice u.A2 c.na u.k2) ∧ W.cell? ⟨b4, 3, none⟩ = some (.slice u.A3 c.nb u.k3) ∧ W.cell? ⟨b4, 4, none⟩ = some (.slice u.A4 c.nc u.k4)) ∧
  (W.cell? ⟨b7, 0, none⟩ = some (.int .i64 d.i) ∧ W.cell? ⟨b7, 1, none⟩ = some (.slice v.A1 d.nl v.k1) ∧ W.cell? ⟨b7, 2, none⟩ = some (.slice v.A2 d.na v.k2) ∧ W.cell? ⟨b7, 3, none⟩ = some (.slice v.A3 d.nb v.k3) ∧ W.cell? ⟨b7, 4, none⟩ = some (.slice v.A4 d.nc v.k4))
/-- these boxes, and what they hold, in a later world -/
structure H4 (w W : World) (b3 b4 b7 : Nat) (r s : Rw) (p q : Rp) (c d : Cr) (u v : Pl) (A5 A8 : Option Addr) (n5 n8 : Nat) (f5 f8 : Nat → Int) : Prop where
  B : Below w.heap.size w W
  h1 : Has W w.heap.size 32 (rc r p)
  h3 : Has W b3 32 (rc s q)
  h4 : Has W b4 26 (cc c u)
  h7 : Has W b7 26 (cc d v)
  m3 : RMem W W.heap.size s q
  m4 : Mem W W.heap.size c u
  m7 : Mem W W.heap.size d v
  i5 : IntsAt W W.heap.size A5 n5 f5
  i8 : IntsAt W W.heap.size A8 n8 f8
section
variable {w W W' : World} {b3 b4 b7 : Nat} {r s : Rw} {p q : Rp} {c d : Cr} {u v : Pl} {A5 A8 : Option Addr} {n5 n8 : Nat} {f5 f8 : Nat → Int}
theorem H4.ss (h : H4 w W b3 b4 b7 r s p q c d u v A5 A8 n5 n8 f5 f8) : S4 w.heap.size b3 b4 b7 r s p q c d u v W := ⟨h.h1.rbox, h.h3.rbox, h.h4.box, h.h7.box⟩
theorem H4.on (h : H4 w W b3 b4 b7 r s p q c d u v A5 A8 n5 n8 f5 f8) (hb : Below W.heap.size W W') : H4 w W' b3 b4 b7 r s p q c d u v A5 A8 n5 n8 f5 f8 :=
  ⟨Below.step h.B h.B.size hb, h.h1.keep hb h.h1.lt, h.h3.keep hb h.h3.lt, h.h4.keep hb h.h4.lt, h.h7.keep hb h.h7.lt, h.m3.to hb hb.size, h.m4.to hb hb.size, h.m7.to hb hb.size, h.i5.to hb hb.size, h.i8.to hb hb.size⟩
end

end Go.Proofs.Ytpdfdbnmohippaa
