/- Rows of ints that a call owns: a store, an append; a number put into a list that increases. -/
import Derived.Test.YtcmdongdjacgbaaClRef2
import Derived.Laws.OwnMore
import Derived.Laws.AppendOwnNone
namespace Go.Proofs.Ytcmdongdjacgbaa
open Go Go.RowKit
set_option linter.unusedVariables false
set_option linter.unusedSimpArgs false

theorem Io.store {B g N cap : Nat} {w : World} {l : List Int} (h : Io B w (.slice (some ⟨g, 0, none⟩) N cap) l) (j : Nat) (y : Int) : Io B (w.setCell ⟨g, j, none⟩ (.int .i64 y)) (.slice (some ⟨g, 0, none⟩) N cap) (l.set j y) ∧ Below B w (w.setCell ⟨g, j, none⟩ (.int .i64 y)) := by
  rcases h.2 with ⟨h', _⟩ | ⟨g', cap', cur, h', hb, _⟩
  · cases h'
  · injection h' with h1 h2 h3
    injection h1 with h1
    injection h1 with h1
    subst h1 h2 h3
    obtain ⟨h4, h5⟩ := World.ownsRow.stored h j (.int .i64 y)
    refine ⟨Io.mk h4 (by simp) (by unfold iC; rw [List.map_set]), (Below.refl B w).setCell (p := ⟨g, j, none⟩) hb _⟩
theorem Io.slice {B : Nat} {w : World} {v : Value} {l : List Int} (h : Io B w v l) (hl : 0 < l.length) : ∃ g cap, v = .slice (some ⟨g, 0, none⟩) l.length cap ∧ B ≤ g ∧ g < w.heap.size ∧ cap ≤ maxLen ∧ (∀ j, j < l.length → w.cell? ⟨g, j, none⟩ = some (.int .i64 (l.getD j 0))) ∧ ∀ j, w.frozen? ⟨g, j, none⟩ = false := by
  rcases h.2 with ⟨_, hn⟩ | ⟨g, cap, cur, rfl, hg, hh, hk, hm, _⟩
  · omega
  · exact ⟨g, cap, rfl, hg, Has.lt (t := 3) (cs := cur) hh, hm, fun j hj => by
      have h1 := World.ownsRow.cells h (g := g) rfl _ _ (iC_at l j hj)
      rwa [show (⟨g, 0, none⟩ : Addr).add j = ⟨g, j, none⟩ by unfold Addr.add; split <;> simp_all] at h1, fun j => Has.fz (t := 3) (cs := cur) hh j⟩
theorem io_run {w : World} (B : Nat) (v : Value) (l : List Int) (hown : Io B w v l) (A : Option Addr) (n k : Nat) (m : List Int) (hn : n = m.length) (hsrc : Src w A m.length k (iC m)) (hle : l.length + m.length ≤ 1000000) (hB : B ≤ w.heap.size) (ty : TypeId) :
    ∃ v' w', (Builtin.append_ #[22, 22] ty #[v, .slice A n k]).run Try.prog w = .ok v' w' ∧ Io B w' v' (l ++ m) ∧ Below B w w' := by
  obtain ⟨i0, hi0, hzz0, hs0, hy0⟩ := info_parts info_int
  subst hn
  rcases hsrc with ⟨rfl, h1, rfl, h3⟩ | ⟨ad, rfl, hc⟩
  · have hm : m = [] := List.eq_nil_of_length_eq_zero h1
    subst hm
    exact ⟨v, w, run_append_owned_none (P := Try.prog) (w := w) B 22 ty 3 i0 1 Try.underlying22 hi0 v l.length (iC l) hown, by simpa using hown, Below.refl _ _⟩
  · obtain ⟨v', w', hr, h2, h3, _, h5⟩ := run_append_own_at (P := Try.prog) w B 22 ty 3 i0 (.int .i64 0) 1 8 Try.underlying22 hi0 hzz0 hs0 hy0 rfl (by decide) v l.length (iC l) hown ad m.length k (iC m) (by rw [iC_len]) hc (iC_one m) (by simp only [maxLen]; omega) (by omega) hB
    exact ⟨v', w', hr, Io.mk h2 (by rw [List.length_append]) (by rw [iC_app]), (Below.refl B w).grown h3 hB (fun k hk => hown.blk k hk)⟩
/-- append to what a call owns, at a list of operations -/
theorem io_append {w : World} {ops : Array Oper} {rest : List Oper} {o : Oper} {a : Act} {Q : Exit → Act → World → Prop} (hgd : o.guard = none) (s x : Operand)
    (ho : o.op = .call { callee := .builtin .append, args := #[s, x], argTypes := #[22, 22] })
    (B : Nat) (v : Value) (l : List Int) (hs : a.eval s = v) (hown : Io B w v l) (A : Option Addr) (n k : Nat) (m : List Int) (hx : a.eval x = .slice A n k) (hn : n = m.length) (hsrc : Src w A m.length k (iC m))
    (hle : l.length + m.length ≤ 1000000) (hB : B ≤ w.heap.size) (h : ∀ v' w', Io B w' v' (l ++ m) → Below B w w' → wpList Try.prog ops Q rest (a.put o.dst v') w') : wpList Try.prog ops Q (o :: rest) a w := by
  obtain ⟨v', w', hr, h2, h3⟩ := io_run B v l hown A n k m hn hsrc hle hB o.type
  refine wpList_plain hgd fun _ hK => ?_
  unfold Oper.wp execOp
  simp only [ho, resolve, invoke, builtin, Sem.run_bind, Sem.run_pure, Result.andThen_ok, List.map_toArray, List.map_cons, List.map_nil, hs, hx, hr]
  exact hK _ _ (h v' w' h2 h3)
theorem src_int (w : World) (c : Int) : Src (w.alloc (.cells #[.int .i64 c] 3)) (some ⟨w.heap.size, 0, none⟩) [c].length 1 (iC [c]) := Or.inr ⟨_, rfl, cell_one_new w (.int .i64 c) 3⟩

/-! ### put into a list -/
def insF (m : List Int) (x : Int) (k j : Nat) : Int := if j < k then m.getD j 0 else if j = k then x else m.getD (j - 1) 0
def ins (m : List Int) (x : Int) (k : Nat) : List Int := (List.range (m.length + 1)).map (insF m x k)
theorem ins_len (m : List Int) (x : Int) (k : Nat) : (ins m x k).length = m.length + 1 := by simp [ins]
theorem ins_at (m : List Int) (x : Int) (k : Nat) {j : Nat} (h : j < m.length + 1) : (ins m x k).getD j 0 = insF m x k j := by
  rw [getD_at (by rw [ins_len]; exact h)]; simp [ins]
theorem ins_get (m : List Int) (x : Int) (k : Nat) {j : Nat} (h : j < (ins m x k).length) : (ins m x k)[j] = insF m x k j := by simp [ins]
theorem ins_end (m : List Int) (x : Int) : ins m x m.length = m ++ [x] := by
  refine List.ext_getElem (by rw [ins_len]; simp) fun j h1 h2 => ?_
  rw [ins_len] at h1
  rw [ins_get]
  unfold insF
  rcases Nat.lt_or_ge j m.length with h | h
  · rw [if_pos h, getD_at h, List.getElem_append_left h]
  · have e : j = m.length := by omega
    subst e
    rw [if_neg (by omega), if_pos rfl, List.getElem_append_right (by omega)]
    simp
theorem ins_swap (m : List Int) (x : Int) {k : Nat} (h1 : 1 ≤ k) (h2 : k ≤ m.length) : ((ins m x k).set k (m.getD (k - 1) 0)).set (k - 1) x = ins m x (k - 1) := by
  refine List.ext_getElem (by simp [ins_len]) fun j g1 g2 => ?_
  have gj : j < m.length + 1 := by rw [ins_len] at g2; exact g2
  rw [List.getElem_set, ins_get]
  by_cases e1 : k - 1 = j
  · rw [if_pos e1]; unfold insF; rw [if_neg (by omega), if_pos (by omega)]
  · rw [if_neg e1, List.getElem_set]
    by_cases e2 : k = j
    · rw [if_pos e2]; unfold insF; rw [if_neg (by omega), if_neg (by omega), e2]
    · rw [if_neg e2, ins_get]
      unfold insF
      by_cases e3 : j < k
      · rw [if_pos e3, if_pos (by omega)]
      · rw [if_neg e3, if_neg (by omega), if_neg (by omega), if_neg (by omega)]
theorem mem_ins (m : List Int) (x : Int) {k : Nat} (hk : k ≤ m.length) (y : Int) : y ∈ ins m x k ↔ y ∈ m ∨ y = x := by
  constructor
  · intro h
    obtain ⟨j, hj, e⟩ := mem_getD h
    rw [ins_len] at hj
    rw [ins_at m x k hj] at e
    unfold insF at e
    split at e
    · exact Or.inl (e ▸ getD_mem (by omega))
    · split at e
      · exact Or.inr e.symm
      · exact Or.inl (e ▸ getD_mem (by omega))
  · rintro (h | h)
    · obtain ⟨j, hj, e⟩ := mem_getD h
      by_cases hjk : j < k
      · have := Go.Proofs.Ytcmdongdjacgbaa.getD_mem (show j < (ins m x k).length by rw [ins_len]; omega)
        rw [ins_at m x k (by omega)] at this
        unfold insF at this
        rw [if_pos hjk, e] at this
        exact this
      · have := Go.Proofs.Ytcmdongdjacgbaa.getD_mem (show j + 1 < (ins m x k).length by rw [ins_len]; omega)
        rw [ins_at m x k (by omega)] at this
        unfold insF at this
        rw [if_neg (by omega), if_neg (by omega), Nat.add_sub_cancel, e] at this
        exact this
    · have := Go.Proofs.Ytcmdongdjacgbaa.getD_mem (show k < (ins m x k).length by rw [ins_len]; omega)
      rw [ins_at m x k (by omega)] at this
      unfold insF at this
      rw [if_neg (by omega), if_pos rfl] at this
      rw [h]; exact this
theorem ins_ss {m : List Int} {x : Int} {k : Nat} (hm : m.Pairwise (· < ·)) (hk : k ≤ m.length) (hx : ∀ t, k ≤ t → t < m.length → x < m.getD t 0) (h0 : 0 < k → m.getD (k - 1) 0 < x) : (ins m x k).Pairwise (· < ·) := by
  have lo : ∀ a b, a < b → b < m.length → m.getD a 0 < m.getD b 0 := fun a b hab hb => by
    rw [getD_at (show a < m.length by omega), getD_at hb]
    exact List.pairwise_iff_getElem.1 hm a b (by omega) hb hab
  have lx : ∀ a, a < k → m.getD a 0 < x := fun a ha => by
    rcases Nat.lt_or_ge a (k - 1) with h | h
    · have := lo a (k - 1) h (by omega); have := h0 (by omega); omega
    · have e : a = k - 1 := by omega
      subst e
      exact h0 (by omega)
  refine List.pairwise_iff_getElem.2 fun i j hi hj hij => ?_
  rw [ins_get, ins_get]
  rw [ins_len] at hi hj
  unfold insF
  by_cases c1 : i < k
  · rw [if_pos c1]
    by_cases c2 : j < k
    · rw [if_pos c2]; exact lo i j hij (by omega)
    · rw [if_neg c2]
      by_cases c3 : j = k
      · rw [if_pos c3]; exact lx i c1
      · rw [if_neg c3]; exact lo i (j - 1) (by omega) (by omega)
  · rw [if_neg c1]
    by_cases c2 : i = k
    · rw [if_pos c2, if_neg (by omega), if_neg (by omega)]; exact hx (j - 1) (by omega) (by omega)
    · rw [if_neg c2, if_neg (by omega), if_neg (by omega)]; exact lo (i - 1) (j - 1) (by omega) (by omega)

end Go.Proofs.Ytcmdongdjacgbaa
