/- The numbers of a valid raw circuit are small. -/
import Derived.Test.YtbppdifghkkooaaDoorAsciiMath
namespace Go.Proofs.YtbppdifghkkooaaDoor
open Go Go.RowKit
set_option linter.unusedVariables false
set_option linter.unusedSimpArgs false

/-- the numbers of a valid raw circuit -/
structure Bd (r : Rw) : Prop where
  m : 0 ≤ r.m ∧ r.m ≤ 1000
  n : r.ni + r.nl + r.na ≤ 1000
  nb : r.nb ≤ 100
  nc : r.nc ≤ 100
  ip : ∀ j, j < r.ni → 0 ≤ r.ip j ∧ r.ip j ≤ 9999
  ll : ∀ j, j < r.nl → 0 ≤ r.ll j ∧ r.ll j ≤ 9999
  la : ∀ j, j < r.nl → 0 ≤ r.la j ∧ r.la j ≤ 9999
  gl : ∀ j, j < r.na → 0 ≤ r.gl j ∧ r.gl j ≤ 9999
  ga : ∀ j, j < r.na → 0 ≤ r.ga j ∧ r.ga j ≤ 9999
  gb : ∀ j, j < r.na → 0 ≤ r.gb j ∧ r.gb j ≤ 9999
  bd : ∀ j, j < r.nb → 0 ≤ r.bd j ∧ r.bd j ≤ 9999
  cn : ∀ j, j < r.nc → 0 ≤ r.cn j ∧ r.cn j ≤ 9999
theorem chk_num {r : Rw} (h : r.chk = 0) : 0 ≤ r.m ∧ r.big = false ∧ r.num = true := by
  unfold Rw.chk at h
  split at h
  · omega
  · split at h
    · omega
    · split at h
      · omega
      · exact ⟨by omega, by simpa using ‹¬ r.big = true›, by simpa using ‹¬ r.num = false›⟩
theorem Bd.of {r : Rw} (h : r.chk = 0) : Bd r := by
  obtain ⟨h0, h1, h2⟩ := chk_num h
  have h1 := of_decide_eq_false h1
  have hn := h2
  unfold Rw.num at hn
  simp only [Bool.and_eq_true] at hn
  have hd : ∀ x, x ∈ r.dL → 0 ≤ x ∧ x ≤ 9999 := fun x hx => by have := of_decide_eq_true (List.all_eq_true.1 hn.1.1 x hx); omega
  have hu : ∀ x, x ∈ r.uL → 0 ≤ x ∧ x ≤ 9999 := fun x hx => by have := of_decide_eq_true (List.all_eq_true.1 hn.1.2 x hx); omega
  refine ⟨by omega, by omega, by omega, by omega, fun j hj => hd _ ?_, fun j hj => hd _ ?_, fun j hj => hu _ ?_, fun j hj => hd _ ?_, fun j hj => hu _ ?_, fun j hj => hu _ ?_, fun j hj => hu _ ?_, fun j hj => hu _ ?_⟩
  · unfold Rw.dL; simp only [List.mem_append]; exact Or.inl (Or.inl (mem_lst.2 ⟨j, hj, rfl⟩))
  · unfold Rw.dL; simp only [List.mem_append]; exact Or.inl (Or.inr (mem_lst.2 ⟨j, hj, rfl⟩))
  · unfold Rw.uL; simp only [List.mem_append]; exact Or.inl (Or.inr (mem_lst.2 ⟨j, hj, rfl⟩))
  · unfold Rw.dL; simp only [List.mem_append]; exact Or.inr (mem_lst.2 ⟨j, hj, rfl⟩)
  · unfold Rw.uL; simp only [List.mem_append]; exact Or.inr (mem_twos.2 ⟨j, hj, Or.inl rfl⟩)
  · unfold Rw.uL; simp only [List.mem_append]; exact Or.inr (mem_twos.2 ⟨j, hj, Or.inr rfl⟩)
  · unfold Rw.uL; simp only [List.mem_append]; exact Or.inl (Or.inl (Or.inl (mem_lst.2 ⟨j, hj, rfl⟩)))
  · unfold Rw.uL; simp only [List.mem_append]; exact Or.inl (Or.inl (Or.inr (mem_lst.2 ⟨j, hj, rfl⟩)))

end Go.Proofs.YtbppdifghkkooaaDoor
