/- Numbers as bytes, gates as bytes: the lists, and what is read of them. -/
import Derived.Test.YtafhdckcclhjlaaRows
namespace Go.Proofs.Ytafhdckcclhjlaa
set_option linter.unusedVariables false
set_option linter.unusedSimpArgs false

/-- the bytes of a number -/
def bts (n : Nat) : List UInt8 := if h : n < 128 then [UInt8.ofNat n] else UInt8.ofNat (128 + n % 128) :: bts (n / 128)
termination_by n
decreasing_by omega
theorem bts_lo {n : Nat} (h : n < 128) : bts n = [UInt8.ofNat n] := by rw [bts, dif_pos h]
theorem bts_hi {n : Nat} (h : ¬ n < 128) : bts n = UInt8.ofNat (128 + n % 128) :: bts (n / 128) := by rw [bts, dif_neg h]
theorem ofNat_lo {n : Nat} (h : n < 256) : (UInt8.ofNat n).toNat = n := by rw [UInt8.toNat_ofNat']; omega
/-- the number of bytes -/
def val : List UInt8 → Nat
  | [] => 0
  | x :: l => x.toNat % 128 + 128 * val l
/-- how many bytes of at least 128 stand ahead, k at most -/
def his : Nat → List UInt8 → Nat
  | 0, _ => 0
  | _ + 1, [] => 0
  | k + 1, x :: l => if 128 ≤ x.toNat then his k l + 1 else 0
theorem his_le : ∀ (k : Nat) (l : List UInt8), his k l ≤ k ∧ his k l ≤ l.length
  | 0, l => by simp [his]
  | k + 1, [] => by simp [his]
  | k + 1, x :: l => by
    have := his_le k l
    rw [his]
    split
    · simp; omega
    · simp
theorem his_at : ∀ (k : Nat) (l : List UInt8) (j : Nat), j < his k l → ∃ x, l[j]? = some x ∧ 128 ≤ x.toNat
  | 0, l, j, h => by simp [his] at h
  | k + 1, [], j, h => by simp [his] at h
  | k + 1, x :: l, j, h => by
    rw [his] at h
    split at h
    · rename_i hx
      cases j with
      | zero => exact ⟨x, rfl, hx⟩
      | succ j => simpa using his_at k l j (by omega)
    · omega
theorem his_end : ∀ (k : Nat) (l : List UInt8), his k l < k → his k l < l.length → ∃ x, l[his k l]? = some x ∧ x.toNat < 128
  | 0, l, h, _ => by omega
  | k + 1, [], _, h => by simp [his] at h
  | k + 1, x :: l, h, h2 => by
    rw [his] at h h2 ⊢
    split
    · rename_i hx
      rw [if_pos hx] at h h2
      simpa using his_end k l (by omega) (by simpa using h2)
    · rename_i hx
      exact ⟨x, rfl, by omega⟩
/-- it is the first of these -/
theorem his_uniq {k : Nat} {l : List UInt8} {s : Nat} (hs : s ≤ k) (hl : s ≤ l.length) (hb : ∀ j, j < s → ∃ x, l[j]? = some x ∧ 128 ≤ x.toNat) (he : s = k ∨ s = l.length ∨ ∃ x, l[s]? = some x ∧ x.toNat < 128) : his k l = s := by
  have h1 := his_le k l
  rcases Nat.lt_trichotomy (his k l) s with h | h | h
  · obtain ⟨x, hx, hx2⟩ := hb _ h
    obtain ⟨y, hy, hy2⟩ := his_end k l (by omega) (by omega)
    rw [hx] at hy; cases hy; omega
  · exact h
  · obtain ⟨x, hx, hx2⟩ := his_at k l s h
    rcases he with he | he | ⟨y, hy, hy2⟩
    · omega
    · omega
    · rw [hx] at hy; cases hy; omega

/-- what is read: the error, the number, how many bytes -/
def rdE (l : List UInt8) : Int :=
  if his 5 l = 5 then 16 else if his 5 l = l.length then 6 else if 2147483647 < val (l.take (his 5 l + 1)) then 16 else if 0 < his 5 l ∧ l[his 5 l]? = some 0 then 12 else 0
def rdN (l : List UInt8) : Nat := if rdE l = 0 then val (l.take (his 5 l + 1)) else 0
def rdS (l : List UInt8) : Nat := if rdE l = 0 then his 5 l + 1 else 0
theorem rd_ways (l : List UInt8) : (his 5 l = 5 ∧ rdE l = 16) ∨ (his 5 l < 5 ∧ his 5 l = l.length ∧ rdE l = 6) ∨ (his 5 l < 5 ∧ his 5 l < l.length ∧ 2147483647 < val (l.take (his 5 l + 1)) ∧ rdE l = 16) ∨ (his 5 l < 5 ∧ his 5 l < l.length ∧ val (l.take (his 5 l + 1)) ≤ 2147483647 ∧ 0 < his 5 l ∧ l[his 5 l]? = some 0 ∧ rdE l = 12) ∨ (his 5 l < 5 ∧ his 5 l < l.length ∧ val (l.take (his 5 l + 1)) ≤ 2147483647 ∧ ¬ (0 < his 5 l ∧ l[his 5 l]? = some 0) ∧ rdE l = 0) := by
  have h := his_le 5 l
  unfold rdE
  by_cases h1 : his 5 l = 5
  · exact Or.inl ⟨h1, if_pos h1⟩
  by_cases h2 : his 5 l = l.length
  · exact Or.inr (Or.inl ⟨by omega, h2, by rw [if_neg h1, if_pos h2]⟩)
  by_cases h3 : 2147483647 < val (l.take (his 5 l + 1))
  · exact Or.inr (Or.inr (Or.inl ⟨by omega, by omega, h3, by rw [if_neg h1, if_neg h2, if_pos h3]⟩))
  by_cases h4 : 0 < his 5 l ∧ l[his 5 l]? = some 0
  · exact Or.inr (Or.inr (Or.inr (Or.inl ⟨by omega, by omega, by omega, h4.1, h4.2, by rw [if_neg h1, if_neg h2, if_neg h3, if_pos h4]⟩)))
  · exact Or.inr (Or.inr (Or.inr (Or.inr ⟨by omega, by omega, by omega, h4, by rw [if_neg h1, if_neg h2, if_neg h3, if_neg h4]⟩)))
theorem rd_no {l : List UInt8} (h : rdE l ≠ 0) : rdN l = 0 ∧ rdS l = 0 := ⟨if_neg h, if_neg h⟩
theorem rdE_cases (l : List UInt8) : rdE l = 0 ∨ rdE l = 6 ∨ rdE l = 12 ∨ rdE l = 16 := by
  rcases rd_ways l with h | h | h | h | h <;> simp [h]
theorem rd_yes {l : List UInt8} (h : rdE l = 0) : his 5 l < 5 ∧ his 5 l < l.length ∧ val (l.take (his 5 l + 1)) ≤ 2147483647 ∧ ¬ (0 < his 5 l ∧ l[his 5 l]? = some 0) ∧ rdN l = val (l.take (his 5 l + 1)) ∧ rdS l = his 5 l + 1 := by
  rcases rd_ways l with g | g | g | g | g
  · omega
  · omega
  · omega
  · omega
  · exact ⟨g.1, g.2.1, g.2.2.1, g.2.2.2.1, if_pos h, if_pos h⟩
theorem rdN_le (l : List UInt8) : rdN l ≤ 2147483647 := by
  by_cases h : rdE l = 0
  · obtain ⟨_, _, h3, _, h5, _⟩ := rd_yes h; omega
  · rw [(rd_no h).1]; omega
theorem rdS_le (l : List UInt8) : rdS l ≤ 5 ∧ rdS l ≤ l.length := by
  by_cases h : rdE l = 0
  · obtain ⟨_, _, h3, _, h5, _⟩ := rd_yes h; omega
  · rw [(rd_no h).2]; omega
theorem rdS_pos {l : List UInt8} (h : rdE l = 0) : 0 < rdS l := by
  obtain ⟨_, _, h3, _, h5, _⟩ := rd_yes h; omega

theorem bts_pos (n : Nat) : 0 < (bts n).length := by
  by_cases h : n < 128
  · rw [bts_lo h]; simp
  · rw [bts_hi h]; simp
theorem bts_mono : ∀ (m n : Nat), n ≤ m → (bts n).length ≤ (bts m).length := by
  intro m
  induction m using Nat.strongRecOn with
  | _ m ih =>
    intro n h
    by_cases hn : n < 128
    · rw [bts_lo hn]; exact bts_pos m
    · rw [bts_hi hn, bts_hi (by omega : ¬ m < 128)]
      simpa using ih (m / 128) (by omega) (n / 128) (by omega)
theorem bts_len {n : Nat} (h : n ≤ 2147483647) : (bts n).length ≤ 5 := by
  refine Nat.le_trans (bts_mono 2147483647 n h) ?_
  rw [bts_hi (by decide), bts_hi (by decide), bts_hi (by decide), bts_hi (by decide), bts_lo (by decide)]
  decide
theorem val_bts (n : Nat) : val (bts n) = n := by
  induction n using Nat.strongRecOn with
  | _ n ih =>
    by_cases h : n < 128
    · rw [bts_lo h, val, val, ofNat_lo (by omega)]; omega
    · rw [bts_hi h, val, ih _ (by omega), ofNat_lo (by omega)]; omega
/-- each byte but the last one is at least 128 -/
theorem bts_at (n : Nat) : ∀ j, j < (bts n).length → ∃ x, (bts n)[j]? = some x ∧ (x.toNat < 128 ↔ j + 1 = (bts n).length) ∧ (0 < n → j + 1 = (bts n).length → x.toNat ≠ 0) := by
  induction n using Nat.strongRecOn with
  | _ n ih =>
    intro j hj
    by_cases h : n < 128
    · rw [bts_lo h] at hj ⊢
      obtain rfl : j = 0 := by simpa using hj
      refine ⟨_, rfl, ?_⟩
      rw [ofNat_lo (by omega)]
      simp
      omega
    · rw [bts_hi h] at hj ⊢
      cases j with
      | zero =>
        refine ⟨_, rfl, ?_⟩
        have := bts_pos (n / 128)
        rw [ofNat_lo (by omega)]
        simp only [List.length_cons]
        omega
      | succ j =>
        obtain ⟨x, h1, h2, h3⟩ := ih (n / 128) (by omega) j (by simpa using hj)
        exact ⟨x, by simpa using h1, by simpa using h2, fun h4 h5 => h3 (by omega) (by simpa using h5)⟩
theorem his_bts {n : Nat} (h : n ≤ 2147483647) (b : List UInt8) : his 5 (bts n ++ b) + 1 = (bts n).length := by
  have h1 := bts_pos n
  have h2 := bts_len h
  obtain ⟨s, hs⟩ : ∃ s, s + 1 = (bts n).length := ⟨(bts n).length - 1, by omega⟩
  rw [← hs]
  congr 1
  refine his_uniq (by omega) (by rw [List.length_append]; omega) (fun j hj => ?_) (Or.inr (Or.inr ?_))
  · obtain ⟨x, a, b, c⟩ := bts_at n j (by omega)
    exact ⟨x, by rw [List.getElem?_append_left (by omega), a], by omega⟩
  · obtain ⟨x, a, b, c⟩ := bts_at n s (by omega)
    exact ⟨x, by rw [List.getElem?_append_left (by omega), a], by omega⟩
/-- what was written is read -/
theorem rd_bts {n : Nat} (h : n ≤ 2147483647) (b : List UInt8) : rdE (bts n ++ b) = 0 ∧ rdN (bts n ++ b) = n ∧ rdS (bts n ++ b) = (bts n).length := by
  have h1 := his_bts h b
  have h2 := bts_len h
  have h0 := bts_pos n
  have h3 : val ((bts n ++ b).take (his 5 (bts n ++ b) + 1)) = n := by rw [h1, List.take_left, val_bts]
  have h5 : his 5 (bts n ++ b) < (bts n ++ b).length := by rw [List.length_append]; omega
  have h4 : rdE (bts n ++ b) = 0 := by
    rcases rd_ways (bts n ++ b) with g | g | g | g | g
    · omega
    · omega
    · omega
    · exfalso
      obtain ⟨x, a, c, d⟩ := bts_at n (his 5 (bts n ++ b)) (by omega)
      have e := g.2.2.2.2.1
      rw [List.getElem?_append_left (by omega), a] at e
      cases e
      by_cases hn : 0 < n
      · exact d hn h1 rfl
      · obtain rfl : n = 0 := by omega
        have e1 : (bts 0).length = 1 := by rw [bts_lo (by decide)]; rfl
        omega
    · exact g.2.2.2.2
  exact ⟨h4, by rw [rdN, if_pos h4, h3], by rw [rdS, if_pos h4, h1]⟩
theorem bts_val : ∀ (k : Nat) (l : List UInt8), his k l < k → his k l < l.length → ¬ (0 < his k l ∧ l[his k l]? = some 0) → bts (val (l.take (his k l + 1))) = l.take (his k l + 1)
  | 0, l, h, _, _ => by omega
  | k + 1, [], _, h, _ => by simp [his] at h
  | k + 1, x :: l, h, h2, h3 => by
    have hx8 := x.toNat_lt
    rw [his] at h h2 h3 ⊢
    by_cases hx : 128 ≤ x.toNat
    · rw [if_pos hx] at h h2 h3 ⊢
      have h2' : his k l < l.length := by simpa using h2
      have h3' : l[his k l]? ≠ some 0 := fun e => h3 ⟨by omega, by simpa using e⟩
      have ih := bts_val k l (by omega) h2' (fun e => h3' e.2)
      rw [List.take_succ_cons, val]
      obtain ⟨v, hv⟩ : ∃ v, val (l.take (his k l + 1)) = v := ⟨_, rfl⟩
      rw [hv] at ih ⊢
      have hv0 : v ≠ 0 := by
        intro e
        rw [e, bts_lo (by decide)] at ih
        have hl := congrArg List.length ih
        rw [List.length_take] at hl
        simp at hl
        have h0 : his k l = 0 := by omega
        rw [h0] at ih h3'
        cases l with
        | nil => simp at h2'
        | cons y l => simp at ih h3'; exact h3' ih.symm
      rw [bts_hi (by omega)]
      have e1 : (x.toNat % 128 + 128 * v) / 128 = v := by omega
      have e2 : UInt8.ofNat (128 + (x.toNat % 128 + 128 * v) % 128) = x := by
        apply UInt8.toNat_inj.1
        rw [ofNat_lo (by omega)]; omega
      rw [e1, e2, ih]
    · rw [if_neg hx]
      have e2 : UInt8.ofNat (x.toNat % 128) = x := by
        apply UInt8.toNat_inj.1
        rw [ofNat_lo (by omega)]; omega
      simp only [List.take_succ_cons, List.take_zero, val, Nat.mul_zero, Nat.add_zero, Nat.zero_add]
      rw [bts_lo (by omega), e2]
/-- what is read has just these bytes -/
theorem bts_rd {l : List UInt8} (h : rdE l = 0) : bts (rdN l) = l.take (rdS l) := by
  obtain ⟨h1, h2, h3, h4, h5, h6⟩ := rd_yes h
  rw [h5, h6]
  exact bts_val 5 l h1 h2 h4
/-- without its last byte there is no number -/
theorem rd_less {n : Nat} (h : n ≤ 2147483647) : rdE ((bts n).take ((bts n).length - 1)) = 6 := by
  have h1 := bts_pos n
  have h2 := bts_len h
  obtain ⟨s, hs⟩ : ∃ s, s + 1 = (bts n).length := ⟨(bts n).length - 1, by omega⟩
  have e : (bts n).length - 1 = s := by omega
  rw [e]
  have hl : ((bts n).take s).length = s := by rw [List.length_take]; omega
  have hh : his 5 ((bts n).take s) = s := by
    refine his_uniq (by omega) (by omega) (fun j hj => ?_) (Or.inr (Or.inl hl.symm))
    obtain ⟨x, a, b, c⟩ := bts_at n j (by omega)
    exact ⟨x, by rw [List.getElem?_take, if_pos hj, a], by omega⟩
  unfold rdE
  rw [hh, hl, if_neg (by omega), if_pos rfl]

/-- the error of a variable and a number of gates -/
def asd (v n : Int) : Int := if v < 1 ∨ 1000 < v ∨ n < 0 then 2 else if 1001 - v < n then 4 else 0
theorem asd_ways (v n : Int) : ((v < 1 ∨ 1000 < v ∨ n < 0) ∧ asd v n = 2) ∨ (1 ≤ v ∧ v ≤ 1000 ∧ 0 ≤ n ∧ 1001 - v < n ∧ asd v n = 4) ∨ (1 ≤ v ∧ v ≤ 1000 ∧ 0 ≤ n ∧ n ≤ 1001 - v ∧ asd v n = 0) := by
  unfold asd
  by_cases h : v < 1 ∨ 1000 < v ∨ n < 0
  · exact Or.inl ⟨h, if_pos h⟩
  · rw [if_neg h]
    by_cases h2 : 1001 - v < n
    · exact Or.inr (Or.inl ⟨by omega, by omega, by omega, h2, if_pos h2⟩)
    · exact Or.inr (Or.inr ⟨by omega, by omega, by omega, by omega, if_neg h2⟩)
/-- a gate of a variable is right -/
def rgt (v a b : Int) : Bool := decide (0 ≤ b ∧ b ≤ a ∧ a < 2 * v)
theorem rgt_iff {v a b : Int} : rgt v a b = true ↔ 0 ≤ b ∧ b ≤ a ∧ a < 2 * v := by unfold rgt; exact decide_eq_true_iff
/-- the first q gates are right -/
def allR (v : Int) (f g : Nat → Int) : Nat → Bool
  | 0 => true
  | q + 1 => allR v f g q && rgt (v + q) (f q) (g q)
theorem allR_at {v : Int} {f g : Nat → Int} : ∀ {q : Nat}, allR v f g q = true → ∀ j, j < q → rgt (v + j) (f j) (g j) = true
  | 0, _, j, h => absurd h (Nat.not_lt_zero _)
  | q + 1, h, j, hj => by
    rw [allR, Bool.and_eq_true] at h
    rcases Nat.lt_succ_iff_lt_or_eq.1 hj with h' | rfl
    · exact allR_at h.1 j h'
    · exact h.2
theorem allR_no {v : Int} {f g : Nat → Int} {q : Nat} (h : rgt (v + q) (f q) (g q) = false) : ∀ n, q < n → allR v f g n = false
  | 0, h2 => absurd h2 (Nat.not_lt_zero _)
  | n + 1, h2 => by
    rw [allR]
    rcases Nat.lt_succ_iff_lt_or_eq.1 h2 with h' | rfl
    · rw [allR_no h n h']; rfl
    · rw [h, Bool.and_false]
theorem allR_mk {v : Int} {f g : Nat → Int} : ∀ {q : Nat}, (∀ j, j < q → rgt (v + j) (f j) (g j) = true) → allR v f g q = true
  | 0, _ => rfl
  | q + 1, h => by rw [allR, allR_mk fun j hj => h j (by omega), h q (by omega)]; rfl
theorem allR_congr {v v' : Int} {f g f' g' : Nat → Int} {q : Nat} (hv : v = v') (h : ∀ j, j < q → f j = f' j ∧ g j = g' j) : allR v f g q = allR v' f' g' q := by
  subst hv
  induction q with
  | zero => rfl
  | succ q ih => rw [allR, allR, ih fun j hj => h j (by omega), (h q (by omega)).1, (h q (by omega)).2]
/-- the bytes of the first q gates -/
def pk (v : Int) (f g : Nat → Int) : Nat → List UInt8
  | 0 => []
  | q + 1 => pk v f g q ++ bts (2 * (v + q) - f q).toNat ++ bts (f q - g q).toNat
theorem pk_congr {v v' : Int} {f g f' g' : Nat → Int} {q : Nat} (hv : v = v') (h : ∀ j, j < q → f j = f' j ∧ g j = g' j) : pk v f g q = pk v' f' g' q := by
  subst hv
  induction q with
  | zero => rfl
  | succ q ih => rw [pk, pk, ih fun j hj => h j (by omega), (h q (by omega)).1, (h q (by omega)).2]
theorem pk_len {v : Int} {f g : Nat → Int} (h0 : 0 ≤ v) : ∀ {q : Nat}, v + q ≤ 1001 → allR v f g q = true → (pk v f g q).length ≤ 10 * q
  | 0, _, _ => by simp [pk]
  | q + 1, h1, h2 => by
    rw [allR, Bool.and_eq_true] at h2
    have ih := pk_len h0 (q := q) (by omega) h2.1
    have hr := rgt_iff.1 h2.2
    rw [pk, List.length_append, List.length_append]
    have a := bts_len (n := (2 * (v + q) - f q).toNat) (by omega)
    have b := bts_len (n := (f q - g q).toNat) (by omega)
    omega
/-- the error and how many bytes of gates -/
def pkE (v : Int) (f g : Nat → Int) (n : Nat) : Int := if asd v n ≠ 0 then asd v n else if allR v f g n = true then 0 else 8
def pkL (v : Int) (f g : Nat → Int) (n : Nat) : List UInt8 := if pkE v f g n = 0 then pk v f g n else []
theorem pk_more (v : Int) (f g : Nat → Int) (q : Nat) : ∀ d, ∃ l, pk v f g (q + d) = pk v f g q ++ l
  | 0 => ⟨[], by simp⟩
  | d + 1 => by
    obtain ⟨l, h⟩ := pk_more v f g q d
    exact ⟨l ++ (bts (2 * (v + ((q + d : Nat) : Int)) - f (q + d)).toNat ++ bts (f (q + d) - g (q + d)).toNat), by rw [← Nat.add_assoc, pk, h]; simp only [List.append_assoc]⟩
theorem pk_cut (v : Int) (f g : Nat → Int) (q : Nat) : ∀ d, pk v f g (q + d) = pk v f g q ++ pk (v + q) (fun j => f (q + j)) (fun j => g (q + j)) d
  | 0 => by simp [pk]
  | d + 1 => by
    have e : v + ((q + d : Nat) : Int) = v + q + d := by omega
    rw [← Nat.add_assoc, pk, pk_cut v f g q d, pk, e, List.append_assoc, List.append_assoc, List.append_assoc]

/-- one gate read: the error, its parts, how many bytes -/
def g1E (v : Int) (l : List UInt8) : Int :=
  if rdE l ≠ 0 then rdE l else if rgt v (2 * v - rdN l) 0 = false then 8 else if rdE (l.drop (rdS l)) ≠ 0 then rdE (l.drop (rdS l)) else if rgt v (2 * v - rdN l) (2 * v - rdN l - rdN (l.drop (rdS l))) = false then 8 else 0
def g1A (v : Int) (l : List UInt8) : Int := 2 * v - rdN l
def g1B (v : Int) (l : List UInt8) : Int := 2 * v - rdN l - rdN (l.drop (rdS l))
def g1S (l : List UInt8) : Nat := rdS l + rdS (l.drop (rdS l))
theorem g1_ways (v : Int) (l : List UInt8) : (rdE l ≠ 0 ∧ g1E v l = rdE l) ∨ (rdE l = 0 ∧ rgt v (g1A v l) 0 = false ∧ g1E v l = 8) ∨ (rdE l = 0 ∧ rgt v (g1A v l) 0 = true ∧ rdE (l.drop (rdS l)) ≠ 0 ∧ g1E v l = rdE (l.drop (rdS l))) ∨ (rdE l = 0 ∧ rgt v (g1A v l) 0 = true ∧ rdE (l.drop (rdS l)) = 0 ∧ rgt v (g1A v l) (g1B v l) = false ∧ g1E v l = 8) ∨ (rdE l = 0 ∧ rgt v (g1A v l) 0 = true ∧ rdE (l.drop (rdS l)) = 0 ∧ rgt v (g1A v l) (g1B v l) = true ∧ g1E v l = 0) := by
  unfold g1E g1A g1B
  by_cases h1 : rdE l = 0
  · cases h2 : rgt v (2 * v - rdN l) 0
    · exact Or.inr (Or.inl ⟨h1, rfl, by simp [h1]⟩)
    · by_cases h3 : rdE (l.drop (rdS l)) = 0
      · cases h4 : rgt v (2 * v - rdN l) (2 * v - rdN l - rdN (l.drop (rdS l)))
        · exact Or.inr (Or.inr (Or.inr (Or.inl ⟨h1, rfl, h3, rfl, by simp [h1, h3]⟩)))
        · exact Or.inr (Or.inr (Or.inr (Or.inr ⟨h1, rfl, h3, rfl, by simp [h1, h3]⟩)))
      · exact Or.inr (Or.inr (Or.inl ⟨h1, rfl, h3, by simp [h1, h3]⟩))
  · exact Or.inl ⟨h1, by simp [h1]⟩
theorem g1_ok {v : Int} {l : List UInt8} (h : g1E v l = 0) : rdE l = 0 ∧ rdE (l.drop (rdS l)) = 0 ∧ rgt v (g1A v l) (g1B v l) = true := by
  have := rdE_cases l
  have := rdE_cases (l.drop (rdS l))
  rcases g1_ways v l with g | g | g | g | g
  · exact absurd (g.2.symm.trans h) g.1
  · omega
  · exact absurd (g.2.2.2.symm.trans h) g.2.2.1
  · omega
  · exact ⟨g.1, g.2.2.1, g.2.2.2.1⟩
theorem g1S_le (l : List UInt8) : g1S l ≤ 10 ∧ g1S l ≤ l.length := by
  have h1 := rdS_le l
  have h2 := rdS_le (l.drop (rdS l))
  rw [List.length_drop] at h2
  unfold g1S; omega
theorem g1_bts {v a b : Int} (h : rgt v a b = true) (hv : v ≤ 1000) (l : List UInt8) : g1E v (bts (2 * v - a).toNat ++ bts (a - b).toNat ++ l) = 0 ∧ g1A v (bts (2 * v - a).toNat ++ bts (a - b).toNat ++ l) = a ∧ g1B v (bts (2 * v - a).toNat ++ bts (a - b).toNat ++ l) = b ∧ g1S (bts (2 * v - a).toNat ++ bts (a - b).toNat ++ l) = (bts (2 * v - a).toNat ++ bts (a - b).toNat).length := by
  have hr := rgt_iff.1 h
  rw [List.append_assoc]
  obtain ⟨e1, e2, e3⟩ := rd_bts (n := (2 * v - a).toNat) (by omega) (bts (a - b).toNat ++ l)
  obtain ⟨f1, f2, f3⟩ := rd_bts (n := (a - b).toNat) (by omega) l
  have hd : (bts (2 * v - a).toNat ++ (bts (a - b).toNat ++ l)).drop (rdS (bts (2 * v - a).toNat ++ (bts (a - b).toNat ++ l))) = bts (a - b).toNat ++ l := by rw [e3, List.drop_left]
  have hA : g1A v (bts (2 * v - a).toNat ++ (bts (a - b).toNat ++ l)) = a := by unfold g1A; rw [e2]; omega
  have hB : g1B v (bts (2 * v - a).toNat ++ (bts (a - b).toNat ++ l)) = b := by unfold g1B; rw [hd, f2, e2]; omega
  refine ⟨?_, hA, hB, ?_⟩
  · rcases g1_ways v (bts (2 * v - a).toNat ++ (bts (a - b).toNat ++ l)) with g | g | g | g | g
    · exact absurd e1 g.1
    · rw [hA] at g
      have := g.2.1
      rw [rgt_iff.2 (by omega)] at this; cases this
    · rw [hd] at g; exact absurd f1 g.2.2.1
    · rw [hA, hB, h] at g
      cases g.2.2.2.1
    · exact g.2.2.2.2
  · unfold g1S
    rw [hd, e3, f3, List.length_append]

/-- where the first q gates end, the gates, the first error -/
def upT (v : Int) (l : List UInt8) : Nat → Nat
  | 0 => 0
  | q + 1 => upT v l q + g1S (l.drop (upT v l q))
def upA (v : Int) (l : List UInt8) (q : Nat) : Int := g1A (v + q) (l.drop (upT v l q))
def upB (v : Int) (l : List UInt8) (q : Nat) : Int := g1B (v + q) (l.drop (upT v l q))
def upE (v : Int) (l : List UInt8) : Nat → Int
  | 0 => 0
  | q + 1 => if upE v l q ≠ 0 then upE v l q else g1E (v + q) (l.drop (upT v l q))
theorem upT_le (v : Int) (l : List UInt8) : ∀ q, upT v l q ≤ l.length ∧ upT v l q ≤ 10 * q
  | 0 => by simp [upT]
  | q + 1 => by
    have h := upT_le v l q
    have h2 := g1S_le (l.drop (upT v l q))
    rw [List.length_drop] at h2
    rw [upT]; omega
theorem upE_ok {v : Int} {l : List UInt8} : ∀ {q : Nat}, upE v l q = 0 → ∀ j, j < q → g1E (v + j) (l.drop (upT v l j)) = 0
  | 0, _, j, h => absurd h (Nat.not_lt_zero _)
  | q + 1, h, j, hj => by
    rw [upE] at h
    by_cases h0 : upE v l q = 0
    · rw [if_neg (by simpa using h0)] at h
      rcases Nat.lt_succ_iff_lt_or_eq.1 hj with h' | rfl
      · exact upE_ok h0 j h'
      · exact h
    · rw [if_pos h0] at h; exact absurd h h0
theorem upE_stay {v : Int} {l : List UInt8} {q : Nat} (h : upE v l q = 0) (h2 : g1E (v + q) (l.drop (upT v l q)) ≠ 0) : ∀ d, upE v l (q + 1 + d) = g1E (v + q) (l.drop (upT v l q))
  | 0 => by rw [Nat.add_zero, upE, if_neg (by simpa using h)]
  | d + 1 => by rw [← Nat.add_assoc, upE, upE_stay h h2 d, if_pos h2]
theorem upE_next {v : Int} {l : List UInt8} {q : Nat} (h : upE v l q = 0) (h2 : g1E (v + q) (l.drop (upT v l q)) = 0) : upE v l (q + 1) = 0 := by rw [upE, if_neg (by simpa using h), h2]
/-- what is unpacked is right, and has just its bytes -/
theorem up_right {v : Int} {l : List UInt8} {q : Nat} (h : upE v l q = 0) : allR v (upA v l) (upB v l) q = true := allR_mk fun j hj => (g1_ok (upE_ok h j hj)).2.2
theorem up_pk {v : Int} {l : List UInt8} : ∀ {q : Nat}, upE v l q = 0 → pk v (upA v l) (upB v l) q = l.take (upT v l q)
  | 0, _ => by simp [pk, upT]
  | q + 1, h => by
    have h1 := upE_ok h q (Nat.lt_succ_self _)
    have h0 : upE v l q = 0 := by
      rw [upE] at h
      by_cases h0 : upE v l q = 0
      · exact h0
      · rw [if_pos h0] at h; exact absurd h h0
    obtain ⟨a, b, c⟩ := g1_ok h1
    rw [pk, up_pk h0, upT, g1S, List.take_add, List.take_add, List.append_assoc]
    have e1 : (2 * (v + q) - upA v l q).toNat = rdN (l.drop (upT v l q)) := by unfold upA g1A; omega
    have e2 : (upA v l q - upB v l q).toNat = rdN ((l.drop (upT v l q)).drop (rdS (l.drop (upT v l q)))) := by unfold upA upB g1A g1B; omega
    rw [e1, e2, bts_rd a, bts_rd b]
/-- what was packed is unpacked -/
theorem pk_up {v : Int} {f g : Nat → Int} {n : Nat} (h0 : 1 ≤ v) (h1 : v + n ≤ 1001) (h : allR v f g n = true) (b : List UInt8) : ∀ q, q ≤ n → upE v (pk v f g n ++ b) q = 0 ∧ upT v (pk v f g n ++ b) q = (pk v f g q).length ∧ ∀ j, j < q → upA v (pk v f g n ++ b) j = f j ∧ upB v (pk v f g n ++ b) j = g j
  | 0, _ => ⟨rfl, rfl, fun j hj => absurd hj (Nat.not_lt_zero _)⟩
  | q + 1, hq => by
    obtain ⟨i1, i2, i3⟩ := pk_up h0 h1 h b q (by omega)
    obtain ⟨r, hr⟩ := pk_more v f g (q + 1) (n - (q + 1))
    rw [show q + 1 + (n - (q + 1)) = n by omega, pk] at hr
    have hd : (pk v f g n ++ b).drop (upT v (pk v f g n ++ b) q) = bts (2 * (v + q) - f q).toNat ++ bts (f q - g q).toNat ++ (r ++ b) := by
      rw [i2, hr]
      simp only [List.append_assoc]
      rw [List.drop_left]
    obtain ⟨k1, k2, k3, k4⟩ := g1_bts (allR_at h q (by omega)) (by omega) (r ++ b)
    rw [← hd] at k1 k2 k3 k4
    refine ⟨upE_next i1 k1, ?_, fun j hj => ?_⟩
    · rw [upT, k4, i2, pk]; simp only [List.length_append]; omega
    · rcases Nat.lt_succ_iff_lt_or_eq.1 hj with h' | rfl
      · exact i3 j h'
      · exact ⟨k2, k3⟩
/-- the error of Unpack, and how many bytes -/
def unE (v n : Int) (l : List UInt8) : Int := if asd v n ≠ 0 then asd v n else upE v l n.toNat
def unN (v n : Int) (l : List UInt8) : Nat := if unE v n l = 0 then n.toNat else 0
def unS (v n : Int) (l : List UInt8) : Nat := if unE v n l = 0 then upT v l n.toNat else 0
end Go.Proofs.Ytafhdckcclhjlaa
