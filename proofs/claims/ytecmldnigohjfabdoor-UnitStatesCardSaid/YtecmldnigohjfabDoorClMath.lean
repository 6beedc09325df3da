/- Clauses: lists of literals, sorted; truth; what implies what; resolvents. -/
import Derived.Test.YtecmldnigohjfabDoorRows
import Derived.Lib.SlicesCompact
namespace Go.Proofs.YtecmldnigohjfabDoor
set_option linter.unusedVariables false
set_option linter.unusedSimpArgs false

/-- a literal of v variables -/
def isL (v x : Int) : Bool := decide (2 ≤ x ∧ x ≤ 2 * v + 1)
theorem isL_iff {v x : Int} : isL v x = true ↔ 2 ≤ x ∧ x ≤ 2 * v + 1 := by unfold isL; exact decide_eq_true_iff
/-- the negation of a literal -/
def ng (x : Int) : Int := if x % 2 = 0 then x + 1 else x - 1
/-- a list is a clause -/
def OkC (v : Int) (l : List Int) : Prop := (∀ x ∈ l, isL v x = true) ∧ l.Pairwise fun x y => x / 2 < y / 2
instance (v : Int) (l : List Int) : Decidable (OkC v l) := by unfold OkC; infer_instance
def okC (v : Int) (l : List Int) : Bool := decide (OkC v l)
theorem okC_iff {v : Int} {l : List Int} : okC v l = true ↔ OkC v l := decide_eq_true_iff
/-- at one place -/
def okJ (v : Int) (l : List Int) (j : Nat) : Prop := isL v (l.getD j 0) = true ∧ (j = 0 ∨ l.getD (j - 1) 0 / 2 < l.getD j 0 / 2)
/-- the variable ahead of a place -/
def bf (l : List Int) (j : Nat) : Int := if j = 0 then 0 else l.getD (j - 1) 0 / 2
theorem getD_at {l : List Int} {j : Nat} (h : j < l.length) : l.getD j 0 = l[j] := by rw [List.getD_eq_getElem?_getD, List.getElem?_eq_getElem h]; rfl
theorem getD_mem {l : List Int} {j : Nat} (h : j < l.length) : l.getD j 0 ∈ l := by rw [getD_at h]; exact List.getElem_mem h
theorem mem_getD {l : List Int} {x : Int} (h : x ∈ l) : ∃ j, j < l.length ∧ l.getD j 0 = x := by
  obtain ⟨j, hj, rfl⟩ := List.getElem_of_mem h
  exact ⟨j, hj, getD_at hj⟩
theorem OkC_iff {v : Int} {l : List Int} : OkC v l ↔ ∀ j, j < l.length → okJ v l j := by
  constructor
  · rintro ⟨h1, h2⟩ j hj
    refine ⟨h1 _ (getD_mem hj), ?_⟩
    rcases Nat.eq_zero_or_pos j with h | h
    · exact Or.inl h
    · refine Or.inr ?_
      rw [getD_at hj, getD_at (show j - 1 < l.length by omega)]
      exact List.pairwise_iff_getElem.1 h2 (j - 1) j (by omega) hj (by omega)
  · intro h
    refine ⟨fun x hx => ?_, List.pairwise_iff_getElem.2 fun i j hi hj hij => ?_⟩
    · obtain ⟨j, hj, rfl⟩ := mem_getD hx
      exact (h j hj).1
    · have key : ∀ d, i + 1 + d < l.length → l.getD i 0 / 2 < l.getD (i + 1 + d) 0 / 2 := by
        intro d
        induction d with
        | zero => intro hd; rcases (h (i + 1) hd).2 with h' | h'
                  · omega
                  · simpa using h'
        | succ d ih => intro hd
                       have h0 := ih (by omega)
                       rcases (h (i + 1 + (d + 1)) hd).2 with h' | h'
                       · omega
                       · rw [show i + 1 + (d + 1) - 1 = i + 1 + d by omega] at h'; omega
      have := key (j - i - 1) (by omega)
      rw [show i + 1 + (j - i - 1) = j by omega] at this
      rwa [getD_at hi, getD_at hj] at this
theorem okC_no {v : Int} {l : List Int} {j : Nat} (hj : j < l.length) (h : ¬ okJ v l j) : okC v l = false := decide_eq_false fun h' => h (OkC_iff.1 h' j hj)
theorem okC_yes {v : Int} {l : List Int} (h : ∀ j, j < l.length → okJ v l j) : okC v l = true := decide_eq_true (OkC_iff.2 h)
/-- what Check says -/
def ckE (v : Int) (l : List Int) : Int := if v < 0 ∨ 4000 < v then 2 else if okC v l = true then 0 else 8
theorem ckE_lo {v : Int} {l : List Int} (h : v < 0 ∨ 4000 < v) : ckE v l = 2 := by unfold ckE; rw [if_pos h]
theorem ckE_0 {v : Int} {l : List Int} (h : ckE v l = 0) : 0 ≤ v ∧ v ≤ 4000 ∧ OkC v l := by
  unfold ckE at h
  split at h
  · omega
  · split at h
    · next h1 h2 => exact ⟨by omega, by omega, okC_iff.1 h2⟩
    · omega
theorem ckE_yes {v : Int} {l : List Int} (h1 : 0 ≤ v) (h2 : v ≤ 4000) (h : OkC v l) : ckE v l = 0 := by
  unfold ckE; rw [if_neg (by omega), if_pos (okC_iff.2 h)]

/-! ### sorted, each one once -/
/-- lists that increase are the same if they have the same members -/
theorem ss_ext : ∀ (l m : List Int), l.Pairwise (· < ·) → m.Pairwise (· < ·) → (∀ x, x ∈ l ↔ x ∈ m) → l = m
  | [], [], _, _, _ => rfl
  | [], y :: m, _, _, h => absurd ((h y).2 (by simp)) (by simp)
  | x :: l, [], _, _, h => absurd ((h x).1 (by simp)) (by simp)
  | x :: l, y :: m, hl, hm, h => by
    obtain ⟨hl1, hl2⟩ := List.pairwise_cons.1 hl
    obtain ⟨hm1, hm2⟩ := List.pairwise_cons.1 hm
    have e : x = y := by
      rcases List.mem_cons.1 ((h x).1 (by simp)) with e | e
      · exact e
      · rcases List.mem_cons.1 ((h y).2 (by simp)) with e' | e'
        · exact e'.symm
        · have := hl1 y e'; have := hm1 x e; omega
    subst e
    rw [ss_ext l m hl2 hm2 fun z => ⟨fun hz => ?_, fun hz => ?_⟩]
    · have h1 := hl1 z hz
      rcases List.mem_cons.1 ((h z).1 (List.mem_cons_of_mem _ hz)) with e | e
      · omega
      · exact e
    · have h1 := hm1 z hz
      rcases List.mem_cons.1 ((h z).2 (List.mem_cons_of_mem _ hz)) with e | e
      · omega
      · exact e
/-- the literals of a list, each one once, in order -/
def srt (l : List Int) : List Int := Lib.compact (l.mergeSort fun x y => decide (x ≤ y))
theorem getB_at {l : List Int} {j : Nat} (h : j < l.length) : l.toArray[j]! = l[j] := by rw [getElem!_pos _ j (by simpa using h)]; simp
theorem mem_compact (l : List Int) (x : Int) : x ∈ Lib.compact l ↔ x ∈ l := by
  unfold Lib.compact Lib.compactUpTo
  rw [List.mem_map]
  constructor
  · rintro ⟨j, hj, rfl⟩
    obtain ⟨h1, _⟩ := List.mem_filter.1 hj
    rw [getB_at (List.mem_range.1 h1)]
    exact List.getElem_mem _
  · intro h
    obtain ⟨j, hj, rfl⟩ := List.getElem_of_mem h
    clear h
    induction j with
    | zero => exact ⟨0, List.mem_filter.2 ⟨List.mem_range.2 hj, by simp [Lib.keeps]⟩, getB_at hj⟩
    | succ j ih =>
      by_cases e : l.toArray[j + 1]! = l.toArray[j + 1 - 1]!
      · obtain ⟨k, hk, e2⟩ := ih (by omega)
        refine ⟨k, hk, e2.trans ?_⟩
        rw [Nat.add_sub_cancel, getB_at hj, getB_at (show j < l.length by omega)] at e
        exact e.symm
      · exact ⟨j + 1, List.mem_filter.2 ⟨List.mem_range.2 hj, Lib.keeps_pos e⟩, getB_at hj⟩
theorem compact_ss {l : List Int} (h : l.Pairwise (· ≤ ·)) : (Lib.compact l).Pairwise (· < ·) := by
  unfold Lib.compact Lib.compactUpTo
  rw [List.pairwise_map]
  refine List.Pairwise.imp_of_mem ?_ ((List.pairwise_lt_range (n := l.length)).filter _)
  intro i j hi hj hij
  obtain ⟨h1, _⟩ := List.mem_filter.1 hi
  obtain ⟨h2, h3⟩ := List.mem_filter.1 hj
  have h1 := List.mem_range.1 h1
  have h2 := List.mem_range.1 h2
  have h4 : j = 0 ∨ l.toArray[j]! ≠ l.toArray[j - 1]! := of_decide_eq_true h3
  rcases h4 with h4 | h4
  · omega
  · rw [getB_at h2, getB_at (show j - 1 < l.length by omega)] at h4
    rw [getB_at h1, getB_at h2]
    have a1 : l[j - 1]'(by omega) ≤ l[j] := List.pairwise_iff_getElem.1 h (j - 1) j (by omega) h2 (by omega)
    have a2 : l[i] ≤ l[j - 1]'(by omega) := by
      rcases Nat.lt_or_ge i (j - 1) with h' | h'
      · exact List.pairwise_iff_getElem.1 h i (j - 1) h1 (by omega) h'
      · have : i = j - 1 := by omega
        subst this
        exact Int.le_refl _
    omega
theorem srt_ss (l : List Int) : (srt l).Pairwise (· < ·) := compact_ss (by
  have := List.pairwise_mergeSort (le := fun x y : Int => decide (x ≤ y)) (by intro a b c; simp only [decide_eq_true_eq]; omega) (by intro a b; simp only [Bool.or_eq_true, decide_eq_true_eq]; omega) l
  exact this.imp fun h => of_decide_eq_true h)
theorem mem_srt (l : List Int) (x : Int) : x ∈ srt l ↔ x ∈ l := by unfold srt; rw [mem_compact, List.mem_mergeSort]
theorem srt_eq {l m : List Int} (hm : m.Pairwise (· < ·)) (h : ∀ x, x ∈ m ↔ x ∈ l) : m = srt l := ss_ext _ _ hm (srt_ss l) fun x => (h x).trans (mem_srt l x).symm
theorem srt_congr {l m : List Int} (h : ∀ x, x ∈ m ↔ x ∈ l) : srt m = srt l := srt_eq (srt_ss m) fun x => (mem_srt m x).trans (h x)
theorem OkC.ss {v : Int} {l : List Int} (h : OkC v l) : l.Pairwise (· < ·) := h.2.imp fun h => by omega
theorem srt_self {v : Int} {l : List Int} (h : OkC v l) : srt l = l := (srt_eq h.ss fun _ => Iff.rfl).symm
theorem compact_len (l : List Int) : (Lib.compact l).length ≤ l.length := by
  unfold Lib.compact Lib.compactUpTo
  rw [List.length_map]
  exact Nat.le_trans (List.length_filter_le _ _) (by simp)
theorem srt_len (l : List Int) : (srt l).length ≤ l.length := by
  unfold srt; exact Nat.le_trans (compact_len _) (by rw [List.length_mergeSort]; exact Nat.le_refl _)

/-! ### literals with their negations -/
def alw (l : List Int) : Bool := l.any fun x => l.contains (ng x)
theorem alw_iff {l : List Int} : alw l = true ↔ ∃ x ∈ l, ng x ∈ l := by unfold alw; simp
theorem alw_no {l : List Int} : alw l = false ↔ ∀ x ∈ l, ng x ∉ l := by
  rw [← Bool.not_eq_true, alw_iff]
  simp
theorem alw_congr {l m : List Int} (h : ∀ x, x ∈ m ↔ x ∈ l) : alw m = alw l := by
  rw [Bool.eq_iff_iff, alw_iff, alw_iff]
  constructor
  · rintro ⟨x, h1, h2⟩; exact ⟨x, (h x).1 h1, (h _).1 h2⟩
  · rintro ⟨x, h1, h2⟩; exact ⟨x, (h x).2 h1, (h _).2 h2⟩
theorem ng_half (x : Int) : ng x / 2 = x / 2 := by unfold ng; split <;> omega
theorem ng_ne (x : Int) : ng x ≠ x := by unfold ng; split <;> omega
theorem ng_of {x y : Int} (h : x / 2 = y / 2) (hne : x ≠ y) : y = ng x := by unfold ng; split <;> omega
theorem pw_tri {l : List Int} (h : l.Pairwise fun x y => x / 2 < y / 2) {x y : Int} (hx : x ∈ l) (hy : y ∈ l) (e : x / 2 = y / 2) : x = y := by
  obtain ⟨i, hi, rfl⟩ := List.getElem_of_mem hx
  obtain ⟨j, hj, rfl⟩ := List.getElem_of_mem hy
  rcases Nat.lt_trichotomy i j with h' | h' | h'
  · have := List.pairwise_iff_getElem.1 h i j hi hj h'; omega
  · subst h'; rfl
  · have := List.pairwise_iff_getElem.1 h j i hj hi h'; omega
theorem OkC.one {v : Int} {l : List Int} (h : OkC v l) {x y : Int} (hx : x ∈ l) (hy : y ∈ l) (e : x / 2 = y / 2) : x = y := pw_tri h.2 hx hy e
theorem OkC.alw {v : Int} {l : List Int} (h : OkC v l) : alw l = false := alw_no.2 fun x hx hn => ng_ne x (h.one hn hx (ng_half x))
theorem OkC_srt {v : Int} {l : List Int} (hl : ∀ x ∈ l, isL v x = true) : OkC v (srt l) ↔ alw l = false := by
  constructor
  · intro h
    have := h.alw
    rwa [alw_congr (mem_srt l)] at this
  · intro h
    refine ⟨fun x hx => hl x ((mem_srt l x).1 hx), List.Pairwise.imp_of_mem ?_ (srt_ss l)⟩
    intro x y hx hy hxy
    rcases Int.lt_trichotomy (x / 2) (y / 2) with h' | h' | h'
    · exact h'
    · refine absurd ?_ (alw_no.1 h x ((mem_srt l x).1 hx))
      rw [← ng_of h' (by omega)]
      exact (mem_srt l y).1 hy
    · omega

/-- a clause is no longer than there are variables -/
theorem OkC.len {v : Int} {l : List Int} (h : OkC v l) : (l.length : Int) ≤ v ∨ l = [] := by
  have key : ∀ j, j < l.length → (j : Int) + 1 ≤ l.getD j 0 / 2 := by
    intro j
    induction j with
    | zero => intro hj; have := isL_iff.1 (h.1 _ (getD_mem hj)); omega
    | succ j ih =>
      intro hj
      have h1 := ih (by omega)
      rcases (OkC_iff.1 h (j + 1) hj).2 with h2 | h2
      · omega
      · rw [Nat.add_sub_cancel] at h2; omega
  rcases Nat.eq_zero_or_pos l.length with h0 | h0
  · exact Or.inr (List.eq_nil_of_length_eq_zero h0)
  · refine Or.inl ?_
    have h1 := key (l.length - 1) (by omega)
    have h2 := isL_iff.1 (h.1 _ (getD_mem (show l.length - 1 < l.length by omega)))
    omega
theorem OkC.len2 {v : Int} {l : List Int} (h : OkC v l) (hv : 0 ≤ v) : (l.length : Int) ≤ v := by
  rcases h.len with h | h
  · exact h
  · rw [h]; exact hv

/-! ### Make -/
def allL (v : Int) (l : List Int) : Bool := l.all (isL v)
theorem allL_iff {v : Int} {l : List Int} : allL v l = true ↔ ∀ x ∈ l, isL v x = true := List.all_eq_true
def mkE (v : Int) (l : List Int) : Int := if v < 0 ∨ 4000 < v then 2 else if allL v l = true then 0 else 8
def mkA (v : Int) (l : List Int) : Bool := decide (mkE v l = 0) && alw l
def mkL (v : Int) (l : List Int) : List Int := if mkE v l = 0 ∧ alw l = false then srt l else []
theorem mkE_lo {v : Int} {l : List Int} (h : v < 0 ∨ 4000 < v) : mkE v l = 2 := by unfold mkE; rw [if_pos h]
theorem mkE_no {v : Int} {l : List Int} (h : ¬ (v < 0 ∨ 4000 < v)) (h2 : allL v l = false) : mkE v l = 8 := by unfold mkE; rw [if_neg h, if_neg (by rw [h2]; decide)]
theorem mkE_yes {v : Int} {l : List Int} (h : ¬ (v < 0 ∨ 4000 < v)) (h2 : allL v l = true) : mkE v l = 0 := by unfold mkE; rw [if_neg h, if_pos h2]
theorem mk_err {v : Int} {l : List Int} (h : mkE v l ≠ 0) : mkL v l = [] ∧ mkA v l = false := by
  unfold mkL mkA; rw [if_neg (fun h' => h h'.1)]; exact ⟨rfl, by simp [h]⟩
theorem mk_alw {v : Int} {l : List Int} (h : mkE v l = 0) (h2 : alw l = true) : mkL v l = [] ∧ mkA v l = true := by
  unfold mkL mkA; rw [if_neg (fun h' => by rw [h2] at h'; exact absurd h'.2 (by decide))]; exact ⟨rfl, by simp [h, h2]⟩
theorem mk_yes {v : Int} {l : List Int} (h : mkE v l = 0) (h2 : alw l = false) : mkL v l = srt l ∧ mkA v l = false := by
  unfold mkL mkA; rw [if_pos ⟨h, h2⟩]; exact ⟨rfl, by simp [h2]⟩
theorem mk_congr {v : Int} {l m : List Int} (h : ∀ x, x ∈ m ↔ x ∈ l) : mkE v m = mkE v l ∧ mkA v m = mkA v l ∧ mkL v m = mkL v l := by
  have e1 : allL v m = allL v l := by
    rw [Bool.eq_iff_iff, allL_iff, allL_iff]
    exact ⟨fun h' x hx => h' x ((h x).2 hx), fun h' x hx => h' x ((h x).1 hx)⟩
  have e2 : mkE v m = mkE v l := by unfold mkE; rw [e1]
  exact ⟨e2, by unfold mkA; rw [e2, alw_congr h], by unfold mkL; rw [e2, alw_congr h, srt_congr h]⟩
theorem mkE_iff {v : Int} {l : List Int} : mkE v l = 0 ↔ (0 ≤ v ∧ v ≤ 4000 ∧ ∀ x ∈ l, isL v x = true) := by
  unfold mkE
  constructor
  · intro h
    split at h
    · omega
    · split at h
      · next h1 h2 => exact ⟨by omega, by omega, allL_iff.1 h2⟩
      · omega
  · rintro ⟨h1, h2, h3⟩
    rw [if_neg (by omega), if_pos (allL_iff.2 h3)]

/-! ### truth -/
/-- a literal is true under values -/
def tr (V : Nat → Bool) (x : Int) : Bool := V (x / 2 - 1).toNat == decide (x % 2 = 0)
def trs (V : Nat → Bool) (l : List Int) : Bool := l.any (tr V)
theorem trs_iff {V : Nat → Bool} {l : List Int} : trs V l = true ↔ ∃ x ∈ l, tr V x = true := List.any_eq_true
theorem trs_no {V : Nat → Bool} {l : List Int} : trs V l = false ↔ ∀ x ∈ l, tr V x = false := by
  rw [← Bool.not_eq_true, trs_iff]; simp
theorem tr_ng (V : Nat → Bool) (x : Int) : tr V (ng x) = !tr V x := by
  unfold tr
  rw [ng_half, show decide (ng x % 2 = 0) = !decide (x % 2 = 0) by rw [Bool.eq_iff_iff]; simp only [decide_eq_true_eq, Bool.not_eq_true', decide_eq_false_iff_not]; unfold ng; split <;> omega]
  cases V (x / 2 - 1).toNat <;> cases decide (x % 2 = 0) <;> rfl
theorem trs_congr {V : Nat → Bool} {l m : List Int} (h : ∀ x, x ∈ m ↔ x ∈ l) : trs V m = trs V l := by
  rw [Bool.eq_iff_iff, trs_iff, trs_iff]
  constructor
  · rintro ⟨x, h1, h2⟩; exact ⟨x, (h x).1 h1, h2⟩
  · rintro ⟨x, h1, h2⟩; exact ⟨x, (h x).2 h1, h2⟩
/-- with a literal and its negation they are always true -/
theorem trs_alw {V : Nat → Bool} {l : List Int} (h : alw l = true) : trs V l = true := by
  obtain ⟨x, h1, h2⟩ := alw_iff.1 h
  cases e : tr V x with
  | true => exact trs_iff.2 ⟨x, h1, e⟩
  | false => exact trs_iff.2 ⟨_, h2, by rw [tr_ng, e]; rfl⟩

/-! ### implying -/
def prt (a b : List Int) : Bool := a.all fun x => b.contains x
theorem prt_iff {a b : List Int} : prt a b = true ↔ ∀ x ∈ a, x ∈ b := by unfold prt; simp
theorem prt_no {a b : List Int} {x : Int} (h : x ∈ a) (h2 : x ∉ b) : prt a b = false := by
  cases e : prt a b with
  | false => rfl
  | true => exact absurd (prt_iff.1 e x h) h2
def imE (v : Int) (a b : List Int) : Int := if v < 0 ∨ 4000 < v then 2 else if okC v a = true ∧ okC v b = true then 0 else 8
def imB (v : Int) (a b : List Int) : Bool := decide (imE v a b = 0) && prt a b
theorem imE_iff {v : Int} {a b : List Int} : imE v a b = 0 ↔ 0 ≤ v ∧ v ≤ 4000 ∧ OkC v a ∧ OkC v b := by
  unfold imE
  constructor
  · intro h
    split at h
    · omega
    · split at h
      · next h1 h2 => exact ⟨by omega, by omega, okC_iff.1 h2.1, okC_iff.1 h2.2⟩
      · omega
  · rintro ⟨h1, h2, h3, h4⟩
    rw [if_neg (by omega), if_pos ⟨okC_iff.2 h3, okC_iff.2 h4⟩]
/-- checkBoth -/
theorem imE_two (v : Int) (a b : List Int) : imE v a b = if ckE v a ≠ 0 then ckE v a else ckE v b := by
  unfold imE ckE
  by_cases h : v < 0 ∨ 4000 < v
  · simp [h]
  · by_cases h1 : okC v a = true
    · by_cases h2 : okC v b = true
      · simp [h, h1, h2]
      · simp [h, h1, h2]
    · simp [h, h1]

/-! ### resolvents -/
def rvOk (a b : List Int) (v : Int) : Bool := (a.contains (2 * v) && b.contains (2 * v + 1)) || (a.contains (2 * v + 1) && b.contains (2 * v))
theorem rvOk_iff {a b : List Int} {v : Int} : rvOk a b v = true ↔ (2 * v ∈ a ∧ 2 * v + 1 ∈ b) ∨ (2 * v + 1 ∈ a ∧ 2 * v ∈ b) := by unfold rvOk; simp
def rvL (a b : List Int) (v : Int) : List Int := (a ++ b).filter fun y => !decide (y / 2 = v)
def rvE (n : Int) (a b : List Int) (v : Int) : Int := if imE n a b ≠ 0 then imE n a b else if rvOk a b v = true then 0 else 6
def rvC (n : Int) (a b : List Int) (v : Int) : List Int := if rvE n a b v = 0 then mkL n (rvL a b v) else []
def rvA (n : Int) (a b : List Int) (v : Int) : Bool := decide (rvE n a b v = 0) && mkA n (rvL a b v)
theorem mem_rvL {a b : List Int} {v x : Int} : x ∈ rvL a b v ↔ (x ∈ a ∨ x ∈ b) ∧ x / 2 ≠ v := by unfold rvL; rw [List.mem_filter, List.mem_append]; simp
theorem rvE_iff {n : Int} {a b : List Int} {v : Int} : rvE n a b v = 0 ↔ imE n a b = 0 ∧ rvOk a b v = true := by
  unfold rvE
  by_cases h : imE n a b = 0
  · by_cases h2 : rvOk a b v = true
    · simp [h, h2]
    · simp [h, h2]
  · simp [h]
theorem rv_mk {n : Int} {a b : List Int} {v : Int} (h : rvE n a b v = 0) : mkE n (rvL a b v) = 0 := by
  obtain ⟨h1, _⟩ := rvE_iff.1 h
  obtain ⟨h2, h3, h4, h5⟩ := imE_iff.1 h1
  refine mkE_iff.2 ⟨h2, h3, fun x hx => ?_⟩
  rcases (mem_rvL.1 hx).1 with h' | h'
  · exact h4.1 x h'
  · exact h5.1 x h'
/-- a resolvent is true where both clauses are -/
theorem rv_true {n : Int} {a b : List Int} {v : Int} (h : rvE n a b v = 0) {V : Nat → Bool} (ha : trs V a = true) (hb : trs V b = true) : trs V (rvL a b v) = true := by
  obtain ⟨h1, h0⟩ := rvE_iff.1 h
  obtain ⟨_, _, h4, h5⟩ := imE_iff.1 h1
  obtain ⟨x, hx, tx⟩ := trs_iff.1 ha
  obtain ⟨y, hy, ty⟩ := trs_iff.1 hb
  by_cases ex : x / 2 = v
  · by_cases ey : y / 2 = v
    · exfalso
      have e : y = ng x := by
        rcases rvOk_iff.1 h0 with ⟨p, q⟩ | ⟨p, q⟩
        · have e1 := h4.one hx p (by omega)
          have e2 := h5.one hy q (by omega)
          subst e1 e2
          unfold ng
          rw [if_pos (by omega)]
        · have e1 := h4.one hx p (by omega)
          have e2 := h5.one hy q (by omega)
          subst e1 e2
          unfold ng
          rw [if_neg (by omega)]; omega
      rw [e, tr_ng, tx] at ty
      cases ty
    · exact trs_iff.2 ⟨y, mem_rvL.2 ⟨Or.inr hy, ey⟩, ty⟩
  · exact trs_iff.2 ⟨x, mem_rvL.2 ⟨Or.inl hx, ex⟩, tx⟩

/-! ### all values -/
/-- the values with a number -/
def vals (n k : Nat) (i : Nat) : Bool := decide (k / 2 ^ (n - 1 - i) % 2 = 1)
/-- the number of values -/
def nmV (s : Nat → Bool) : Nat → Nat
  | 0 => 0
  | n + 1 => 2 * nmV s n + (if s n = true then 1 else 0)
theorem nmV_lt (s : Nat → Bool) : ∀ n, nmV s n < 2 ^ n
  | 0 => Nat.one_pos
  | n + 1 => by
    have := nmV_lt s n
    rw [nmV, Nat.pow_succ]
    split <;> omega
theorem vals_nmV (s : Nat → Bool) : ∀ n i, i < n → vals n (nmV s n) i = s i
  | 0, i, h => absurd h (Nat.not_lt_zero _)
  | n + 1, i, h => by
    by_cases e : i = n
    · subst e
      unfold vals nmV
      rw [show i + 1 - 1 - i = 0 by omega, Nat.pow_zero, Nat.div_one]
      cases hs : s i with
      | true => simp
      | false => simp
    · have h1 := vals_nmV s n i (by omega)
      rw [← h1]
      unfold vals
      rw [show n + 1 - 1 - i = (n - 1 - i) + 1 by omega, Nat.pow_succ, Nat.mul_comm (2 ^ (n - 1 - i)) 2, ← Nat.div_div_eq_div_mul]
      rw [show nmV s (n + 1) / 2 = nmV s n by rw [nmV]; split <;> omega]
/-- literals look at their own variables only -/
theorem tr_vals {v : Int} {n : Nat} (hn : v = n) {s : Nat → Bool} {x : Int} (hx : isL v x = true) : tr (vals n (nmV s n)) x = tr s x := by
  obtain ⟨h1, h2⟩ := isL_iff.1 hx
  unfold tr
  rw [vals_nmV s n _ (by omega)]
/-- what implies what -/
theorem prt_all {v : Int} {n : Nat} (hn : v = n) {a b : List Int} (ha : OkC v a) (hb : OkC v b) : prt a b = true ↔ ∀ k, k < 2 ^ n → trs (vals n k) a = true → trs (vals n k) b = true := by
  constructor
  · intro h k _ h1
    obtain ⟨x, hx, tx⟩ := trs_iff.1 h1
    exact trs_iff.2 ⟨x, prt_iff.1 h x hx, tx⟩
  · intro h
    refine prt_iff.2 fun x hx => ?_
    refine Classical.byContradiction fun hnx => ?_
    obtain ⟨s, hs⟩ : ∃ s : Nat → Bool, s = fun i : Nat => if (i : Int) = x / 2 - 1 then decide (x % 2 = 0) else !b.contains (2 * ((i : Int) + 1)) := ⟨_, rfl⟩
    have tx : tr s x = true := by
      have := isL_iff.1 (ha.1 x hx)
      unfold tr
      rw [hs]
      simp only
      rw [if_pos (by omega)]
      simp
    have h1 := h (nmV s n) (nmV_lt s n) (trs_iff.2 ⟨x, hx, by rw [tr_vals hn (ha.1 x hx)]; exact tx⟩)
    obtain ⟨y, hy, ty⟩ := trs_iff.1 h1
    rw [tr_vals hn (hb.1 y hy)] at ty
    have ly := isL_iff.1 (hb.1 y hy)
    by_cases e : y / 2 = x / 2
    · have : y = ng x := ng_of e.symm (fun e' => hnx (e' ▸ hy))
      rw [this, tr_ng, tx] at ty
      cases ty
    · unfold tr at ty
      rw [hs] at ty
      simp only at ty
      rw [if_neg (by omega), show 2 * (((y / 2 - 1).toNat : Int) + 1) = 2 * (y / 2) by omega] at ty
      by_cases ev : y % 2 = 0
      · have : 2 * (y / 2) = y := by omega
        rw [this, show b.contains y = true by simpa using hy] at ty
        simp [ev] at ty
      · have : b.contains (2 * (y / 2)) = false := by
          cases e2 : b.contains (2 * (y / 2)) with
          | false => rfl
          | true =>
            have h3 : 2 * (y / 2) ∈ b := by simpa using e2
            have := hb.one h3 hy (by omega)
            omega
        rw [this] at ty
        simp [ev] at ty

end Go.Proofs.YtecmldnigohjfabDoor
