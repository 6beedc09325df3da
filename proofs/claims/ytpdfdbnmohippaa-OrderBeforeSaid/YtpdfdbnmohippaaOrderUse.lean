/- In a valid raw circuit all gates are taken, and what is used has a new variable. -/
import Derived.Test.YtpdfdbnmohippaaOrderRef8
namespace Go.Proofs.Ytpdfdbnmohippaa
open Go.RowKit
set_option linter.unusedVariables false
set_option linter.unusedSimpArgs false

theorem nodup_le : ∀ (m : Nat) (l : List Nat), l.Nodup → (∀ i ∈ l, i < m) → l.length ≤ m
  | 0, l, _, h => by
    cases l with
    | nil => exact Nat.le_refl _
    | cons a l => exact absurd (h a (by simp)) (Nat.not_lt_zero _)
  | m + 1, l, hn, h => by
    by_cases hm : m ∈ l
    · have h1 := nodup_le m (l.erase m) (hn.erase m) (fun i hi => by
        have h2 := (List.Nodup.mem_erase_iff hn).1 hi
        have := h i h2.2
        have := h2.1
        omega)
      rw [List.length_erase_of_mem hm] at h1
      omega
    · have := nodup_le m l hn (fun i hi => by
        have h1 := h i hi
        have h2 : i ≠ m := fun e => hm (e ▸ hi)
        omega)
      omega
namespace Rw
variable {r : Rw}
theorem st_nodup : ∀ k, (r.st k).2.Nodup ∧ ∀ i ∈ (r.st k).2, (r.st k).1 (r.gl i / 2) = true
  | 0 => ⟨List.nodup_nil, fun i hi => by cases hi⟩
  | k + 1 => by
    obtain ⟨h1, h2⟩ := st_nodup k
    by_cases hf : r.fnd (r.st k).1 < r.na
    · rw [st_go hf]
      have hm := fnd_may hf
      generalize r.fnd (r.st k).1 = f at hm hf
      unfold may at hm
      simp only [Bool.and_eq_true, Bool.not_eq_true'] at hm
      have hnot : f ∉ (r.st k).2 := fun hi => by rw [h2 f hi] at hm; exact absurd hm.1.1 (by decide)
      refine ⟨?_, fun i hi => ?_⟩
      · show ((r.st k).2 ++ [f]).Nodup
        rw [List.nodup_append]
        exact ⟨h1, by simp, fun a ha b hb => by rw [List.mem_singleton.1 hb]; exact fun e => hnot (e ▸ ha)⟩
      · show (if r.gl i / 2 = r.gl f / 2 then true else (r.st k).1 (r.gl i / 2)) = true
        have hi : i ∈ (r.st k).2 ++ [f] := hi
        rw [List.mem_append] at hi
        rcases hi with hi | hi
        · rw [h2 i hi]; split <;> rfl
        · rw [List.mem_singleton.1 hi, if_pos rfl]
    · rw [st, if_neg hf]
      exact ⟨h1, h2⟩
theorem ord_all (h : r.chk = 0) : r.ord.length = r.na ∧ ∀ i, i < r.na → ∃ j, j < r.ord.length ∧ r.ord.getD j 0 = i := by
  have hl : ¬ r.ord.length < r.na := by
    intro hlt
    unfold chk at h
    split at h
    · omega
    · split at h
      · omega
      · split at h
        · omega
        · split at h
          · omega
          · split at h
            · omega
            · first | omega | (rw [if_pos hlt] at h; omega)
  have hn := (st_nodup (r := r) r.na).1
  have hle := ord_len (r := r)
  refine ⟨by omega, fun i hi => ?_⟩
  have hmem : i ∈ r.ord := by
    refine Classical.byContradiction fun hno => ?_
    have := nodup_le r.na (i :: r.ord) (List.nodup_cons.2 ⟨hno, hn⟩) (fun a ha => by
      rcases List.mem_cons.1 ha with e | e
      · rw [e]; exact hi
      · exact ord_lt a e)
    rw [List.length_cons] at this
    omega
  obtain ⟨j, hj, e⟩ := List.getElem_of_mem hmem
  exact ⟨j, hj, by rw [List.getD_eq_getElem?_getD, List.getElem?_eq_getElem hj]; exact e⟩
theorem nwk_bd : ∀ k v, -1 ≤ r.nwk k v ∧ r.nwk k v ≤ k
  | 0, v => by
    show -1 ≤ (if v = 0 then (0 : Int) else -1) ∧ (if v = 0 then (0 : Int) else -1) ≤ 0
    split <;> omega
  | k + 1, v => by
    have := nwk_bd k v
    show -1 ≤ (if v = r.oL.getD k 0 / 2 then (k : Int) + 1 else r.nwk k v) ∧ (if v = r.oL.getD k 0 / 2 then (k : Int) + 1 else r.nwk k v) ≤ ((k + 1 : Nat) : Int)
    split <;> omega
theorem nwk_pos : ∀ k v, (∃ j, j < k ∧ r.oL.getD j 0 / 2 = v) → 1 ≤ r.nwk k v
  | 0, v, ⟨j, hj, _⟩ => absurd hj (Nat.not_lt_zero _)
  | k + 1, v, ⟨j, hj, e⟩ => by
    show 1 ≤ (if v = r.oL.getD k 0 / 2 then (k : Int) + 1 else r.nwk k v)
    by_cases h : v = r.oL.getD k 0 / 2
    · rw [if_pos h]; omega
    · rw [if_neg h]
      refine nwk_pos k v ⟨j, ?_, e⟩
      have : j ≠ k := fun ek => h (by rw [← ek, e])
      omega
theorem nwk_nul : ∀ k, (∀ j, j < k → 1 ≤ r.oL.getD j 0 / 2) → r.nwk k 0 = 0
  | 0, _ => rfl
  | k + 1, h => by
    show (if (0 : Int) = r.oL.getD k 0 / 2 then (k : Int) + 1 else r.nwk k 0) = 0
    have := h k (by omega)
    rw [if_neg (by omega)]
    exact nwk_nul k fun j hj => h j (by omega)
theorem chk_parts (h : r.chk = 0) : 0 ≤ r.m ∧ r.big = false ∧ r.num = true ∧ r.opn = false := by
  unfold chk at h
  split at h
  · omega
  · split at h
    · omega
    · split at h
      · omega
      · split at h
        · omega
        · split at h
          · omega
          · exact ⟨by omega, by simpa using ‹¬ r.big = true›, by simpa using ‹¬ r.num = false›, by simpa using ‹¬ r.opn = true›⟩
theorem oL_big (hnum : r.num = true) (j : Nat) (hj : j < r.oL.length) : 2 ≤ r.oL.getD j 0 ∧ r.oL.getD j 0 ≤ 2 * r.m + 1 := by
  rw [oL_len] at hj
  rcases Nat.lt_or_ge j r.ni with h1 | h1
  · rw [oL_i r h1]; exact num_i hnum h1
  · rcases Nat.lt_or_ge j (r.ni + r.nl) with h2 | h2
    · have e := oL_l r (k := j - r.ni) (by omega)
      rw [show r.ni + (j - r.ni) = j by omega] at e
      rw [e]; exact num_l hnum (by omega)
    · have e := oL_g r (k := j - r.ni - r.nl) (by omega)
      rw [show r.ni + r.nl + (j - r.ni - r.nl) = j by omega] at e
      rw [e]; exact (num_g hnum (ord_at (by omega))).1
/-- what is used has a new variable -/
theorem used_nw (h : r.chk = 0) {x : Int} (hx : x ∈ r.uL) : 0 ≤ x ∧ x ≤ 2 * r.m + 1 ∧ 0 ≤ r.nw (x / 2) ∧ r.nw (x / 2) ≤ 1000 := by
  obtain ⟨h0, hb, hnum, ho⟩ := chk_parts h
  have hub := nwk_bd (r := r) r.oL.length (x / 2)
  obtain ⟨hol, hor⟩ := ord_all h
  have hlen := oL_len r
  have hbig := of_decide_eq_false hb
  have hn2 := hnum
  unfold num at hn2
  simp only [Bool.and_eq_true] at hn2
  have hu := of_decide_eq_true (List.all_eq_true.1 hn2.1.2 x hx)
  unfold opn at ho
  rw [List.any_eq_false] at ho
  have hxo := ho x hx
  simp only [decide_eq_true_eq] at hxo
  refine ⟨hu.1, hu.2, ?_, ?_⟩
  · by_cases e0 : x / 2 = 0
    · rw [e0]
      unfold nw
      rw [nwk_nul r.oL.length fun j hj => by have := oL_big hnum j hj; omega]
      exact Int.le_refl _
    · have hm : x / 2 ∈ r.dL.map (· / 2) := Classical.byContradiction fun hno => hxo ⟨e0, hno⟩
      obtain ⟨y, hy, ey⟩ := List.mem_map.1 hm
      have hj : ∃ j, j < r.oL.length ∧ r.oL.getD j 0 / 2 = x / 2 := by
        unfold dL at hy
        simp only [List.mem_append] at hy
        rcases hy with (hy | hy) | hy
        · obtain ⟨j, hj, rfl⟩ := mem_lst.1 hy
          exact ⟨j, by omega, by rw [oL_i r hj]; exact ey⟩
        · obtain ⟨j, hj, rfl⟩ := mem_lst.1 hy
          exact ⟨r.ni + j, by omega, by rw [oL_l r hj]; exact ey⟩
        · obtain ⟨i, hi, rfl⟩ := mem_lst.1 hy
          obtain ⟨j, hj, e⟩ := hor i hi
          exact ⟨r.ni + r.nl + j, by omega, by rw [oL_g r hj, e]; exact ey⟩
      have := nwk_pos r.oL.length (x / 2) hj
      unfold nw
      omega
  · unfold nw
    omega
end Rw
end Go.Proofs.Ytpdfdbnmohippaa
