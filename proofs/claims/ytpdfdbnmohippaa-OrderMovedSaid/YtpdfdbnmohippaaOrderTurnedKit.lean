/- Gates in another order: the same errors; a raw circuit has a circle just where some gates are each behind another of them. -/
import Derived.Test.YtpdfdbnmohippaaOrderAll
import Derived.Test.YtpdfdbnmohippaaOrderSameKit
import Derived.Test.YtpdfdbnmohippaaOrderTwin
import Derived.Maps.AppendAt
import Derived.Great.BuildSlice
namespace Go.Proofs.Ytpdfdbnmohippaa
open Go.RowKit
set_option linter.unusedVariables false
set_option linter.unusedSimpArgs false

theorem all_le : ∀ (m : Nat) (l : List Nat), (∀ i, i < m → i ∈ l) → m ≤ l.length
  | 0, l, _ => Nat.zero_le _
  | m + 1, l, h => by
    have hm := h m (by omega)
    have h1 := all_le m (l.erase m) (fun i hi => (List.mem_erase_of_ne (by omega)).2 (h i (by omega)))
    rw [List.length_erase_of_mem hm] at h1
    have := List.length_pos_of_mem hm
    omega
namespace Rw
variable {r : Rw}
/-- some gates, each behind another of them -/
def Cyc (r : Rw) : Prop := ∃ S : Nat → Prop, (∃ i, S i) ∧ ∀ i, S i → i < r.na ∧ ∃ j, S j ∧ (r.gl j / 2 = r.ga i / 2 ∨ r.gl j / 2 = r.gb i / 2)
theorem gl_inj (h : r.twi = false) {i j : Nat} (hi : i < r.na) (hj : j < r.na) (e : r.gl i / 2 = r.gl j / 2) : i = j := by
  have := dL_inj h (i := r.ni + r.nl + i) (j := r.ni + r.nl + j) (by rw [dL_len]; omega) (by rw [dL_len]; omega) (by rw [dL_g r hi, dL_g r hj]; exact e)
  omega
theorem rd0_no {i : Nat} (hi : i < r.na) : r.rd0 (r.gl i / 2) = false := decide_eq_false fun h => h (List.mem_map.2 ⟨_, mem_lst.2 ⟨i, hi, rfl⟩, rfl⟩)
theorem rd0_st : ∀ (k : Nat) (v : Int), r.rd0 v = true → (r.st k).1 v = true
  | 0, v, h => h
  | k + 1, v, h => by
    rw [st]
    split
    · show (if v = _ then true else (r.st k).1 v) = true
      rw [rd0_st k v h]
      split <;> rfl
    · exact rd0_st k v h
theorem not_rdy {k : Nat} {v : Int} (h : (r.st k).1 v = false) : ∃ i, i < r.na ∧ r.gl i / 2 = v ∧ i ∉ (r.st k).2 := by
  have h0 : ¬ r.rd0 v = true := fun hr => by rw [rd0_st k v hr] at h; cases h
  have h1 : ¬ v ∉ (lst r.gl r.na).map (· / 2) := fun hh => h0 (decide_eq_true hh)
  obtain ⟨x, hx, ex⟩ := List.mem_map.1 (Classical.not_not.1 h1)
  obtain ⟨i, hi, rfl⟩ := mem_lst.1 hx
  refine ⟨i, hi, ex, fun hm => ?_⟩
  have := (st_nodup (r := r) k).2 i hm
  have ex : r.gl i / 2 = v := ex
  rw [ex, h] at this
  cases this
theorem rdy_not (ht : r.twi = false) {k i : Nat} (hi : i < r.na) (hm : i ∉ (r.st k).2) : (r.st k).1 (r.gl i / 2) = false := by
  cases e : (r.st k).1 (r.gl i / 2) with
  | false => rfl
  | true =>
    rcases st_rdy k _ e with h1 | ⟨j, hj, ej⟩
    · rw [rd0_no hi] at h1; cases h1
    · have := gl_inj ht (st_lt k j hj) hi ej
      subst this
      exact absurd hj hm
theorem st_grow : ∀ k, (∀ j, j < k → r.fnd (r.st j).1 < r.na) → (r.st k).2.length = k
  | 0, _ => rfl
  | k + 1, h => by
    rw [st_go (h k (by omega))]
    show ((r.st k).2 ++ _).length = _
    rw [List.length_append, st_grow k fun j hj => h j (by omega)]
    rfl
theorem st_end (h : r.ord.length < r.na) : r.fnd (r.st r.na).1 = r.na := by
  have : ∃ j, ¬ (j < r.na → r.fnd (r.st j).1 < r.na) := Classical.not_forall.1 fun hall => by
    have := st_grow (r := r) r.na hall
    unfold ord at h
    omega
  obtain ⟨j, hj⟩ := this
  obtain ⟨hj1, hj2⟩ := Classical.not_imp.1 hj
  have e : r.fnd (r.st j).1 = r.na := by have := fnd_le (r := r) (B := (r.st j).1); omega
  rw [st_done e (by omega)]
  exact e
theorem cyc_of_short (ht : r.twi = false) (h : r.ord.length < r.na) : r.Cyc := by
  have hf := st_end h
  refine ⟨fun i => i < r.na ∧ i ∉ r.ord, ?_, ?_⟩
  · refine Classical.byContradiction fun hno => ?_
    have := all_le r.na r.ord fun i hi => Classical.byContradiction fun hm => hno ⟨i, hi, hm⟩
    omega
  · rintro i ⟨hi, hm⟩
    refine ⟨hi, ?_⟩
    have h1 := fnd_min (r := r) (B := (r.st r.na).1) (i := i) (by omega)
    have h2 := rdy_not ht (k := r.na) hi hm
    unfold may at h1
    rw [h2] at h1
    simp only [Bool.not_false, Bool.true_and, Bool.and_eq_false_iff] at h1
    rcases h1 with h1 | h1
    · obtain ⟨j, a, b, c⟩ := not_rdy h1
      exact ⟨j, ⟨a, c⟩, Or.inl b⟩
    · obtain ⟨j, a, b, c⟩ := not_rdy h1
      exact ⟨j, ⟨a, c⟩, Or.inr b⟩
theorem cyc_not {S : Nat → Prop} (ht : r.twi = false) (hS : ∀ i, S i → i < r.na ∧ ∃ j, S j ∧ (r.gl j / 2 = r.ga i / 2 ∨ r.gl j / 2 = r.gb i / 2)) : ∀ k, ∀ i ∈ (r.st k).2, ¬ S i
  | 0, i, hi => by cases hi
  | k + 1, i, hi => by
    have ih := cyc_not ht hS k
    rw [st] at hi
    split at hi
    · rename_i hf
      have hi : i ∈ (r.st k).2 ++ [r.fnd (r.st k).1] := hi
      rcases List.mem_append.1 hi with h1 | h1
      · exact ih i h1
      · have e := List.mem_singleton.1 h1
        intro hs
        obtain ⟨hin, j, hj, hg⟩ := hS i hs
        have hm := fnd_may hf
        rw [← e] at hm
        have hnr := rdy_not ht (k := k) (hS j hj).1 (fun hmem => ih j hmem hj)
        unfold may at hm
        simp only [Bool.and_eq_true, Bool.not_eq_true'] at hm
        rcases hg with hg | hg
        · rw [hg, hm.1.2] at hnr; cases hnr
        · rw [hg, hm.2] at hnr; cases hnr
    · exact ih i hi
theorem short_of_cyc (ht : r.twi = false) (h : r.Cyc) : r.ord.length < r.na := by
  obtain ⟨S, ⟨i, hi⟩, hS⟩ := h
  refine Classical.byContradiction fun hno => ?_
  have hn := (st_nodup (r := r) r.na).1
  have hil := (hS i hi).1
  have hmem : i ∈ r.ord := by
    refine Classical.byContradiction fun hno2 => ?_
    have := nodup_le r.na (i :: r.ord) (List.nodup_cons.2 ⟨hno2, hn⟩) (fun a ha => by
      rcases List.mem_cons.1 ha with e | e
      · rw [e]; exact hil
      · exact ord_lt a e)
    rw [List.length_cons] at this
    omega
  exact cyc_not ht hS r.na i hmem hi
theorem short_iff (ht : r.twi = false) : r.ord.length < r.na ↔ r.Cyc := ⟨cyc_of_short ht, short_of_cyc ht⟩

/-- an index behind a turn -/
def rot (n k j : Nat) : Nat := if k + j < n then k + j else k + j - n
/-- the gates from the k-th one on, then the others -/
def turn (r : Rw) (k : Nat) : Rw := { r with gl := fun j => r.gl (rot r.na k j), ga := fun j => r.ga (rot r.na k j), gb := fun j => r.gb (rot r.na k j) }
theorem rot_lt {n k j : Nat} (hk : k ≤ n) (hj : j < n) : rot n k j < n := by unfold rot; split <;> omega
theorem rot_back {n k j : Nat} (hk : k ≤ n) (hj : j < n) : rot n k (if k ≤ j then j - k else j + n - k) = j := by
  unfold rot
  by_cases h : k ≤ j
  · rw [if_pos h, if_pos (by omega)]; omega
  · rw [if_neg h, if_neg (by omega)]; omega
theorem lst_turn (f : Nat → Int) {n k : Nat} (hk : k ≤ n) : (lst (fun j => f (rot n k j)) n).Perm (lst f n) := by
  have e1 : lst (fun j => f (rot n k j)) n = lst (fun j => f (k + j)) (n - k) ++ lst f k := by
    have := lst_add (fun j => f (rot n k j)) (n - k) k
    rw [Nat.sub_add_cancel hk] at this
    rw [this]
    congr 1
    · exact lst_congr fun j hj => by show f (rot n k j) = _; unfold rot; rw [if_pos (by omega)]
    · exact lst_congr fun j hj => by show f (rot n k (n - k + j)) = _; unfold rot; rw [if_neg (by omega)]; congr 1; omega
  have e2 : lst f n = lst f k ++ lst (fun j => f (k + j)) (n - k) := by
    have := lst_add f k (n - k)
    rwa [Nat.add_sub_cancel' hk] at this
  rw [e1, e2]
  exact List.perm_append_comm
theorem turn_dL {k : Nat} (hk : k ≤ r.na) : (r.turn k).dL.Perm r.dL := (List.Perm.refl _).append (lst_turn r.gl hk)
theorem turn_uL {k : Nat} (hk : k ≤ r.na) (x : Int) : x ∈ (r.turn k).uL ↔ x ∈ r.uL := by
  have key : x ∈ twos (r.turn k).ga (r.turn k).gb r.na ↔ x ∈ twos r.ga r.gb r.na := by
    rw [mem_twos, mem_twos]
    constructor
    · rintro ⟨j, hj, h⟩
      exact ⟨_, rot_lt hk hj, h⟩
    · rintro ⟨j, hj, h⟩
      refine ⟨if k ≤ j then j - k else j + r.na - k, by split <;> omega, ?_⟩
      show r.ga (rot r.na k _) = x ∨ r.gb (rot r.na k _) = x
      rw [rot_back hk hj]
      exact h
  unfold uL
  simp only [List.mem_append]
  exact or_congr Iff.rfl key
theorem all_congr {l l' : List Int} {p : Int → Bool} (h : ∀ x, x ∈ l ↔ x ∈ l') : l.all p = l'.all p := by
  rw [Bool.eq_iff_iff, List.all_eq_true, List.all_eq_true]
  exact ⟨fun a x hx => a x ((h x).2 hx), fun a x hx => a x ((h x).1 hx)⟩
theorem any_congr {l l' : List Int} {p p' : Int → Bool} (h : ∀ x, x ∈ l ↔ x ∈ l') (hp : ∀ x, p x = p' x) : l.any p = l'.any p' := by
  rw [Bool.eq_iff_iff, List.any_eq_true, List.any_eq_true]
  exact ⟨fun ⟨x, hx, a⟩ => ⟨x, (h x).1 hx, by rw [← hp]; exact a⟩, fun ⟨x, hx, a⟩ => ⟨x, (h x).2 hx, by rw [hp]; exact a⟩⟩
theorem turn_num {k : Nat} (hk : k ≤ r.na) : (r.turn k).num = r.num := by
  have e1 : (r.turn k).dL.all r.dOk = r.dL.all r.dOk := all_congr fun x => (turn_dL hk).mem_iff
  have e2 : (r.turn k).uL.all r.uOk = r.uL.all r.uOk := all_congr fun x => turn_uL hk x
  show ((r.turn k).dL.all r.dOk && (r.turn k).uL.all r.uOk && (lst r.lb r.nl).all reOk) = _
  rw [e1, e2]
  rfl
theorem turn_twi {k : Nat} (hk : k ≤ r.na) : (r.turn k).twi = r.twi := decide_eq_decide.2 (not_congr ((turn_dL hk).map _).nodup_iff)
theorem turn_opn {k : Nat} (hk : k ≤ r.na) : (r.turn k).opn = r.opn := any_congr (fun x => turn_uL hk x) fun x => decide_eq_decide.2 (and_congr Iff.rfl (not_congr ((turn_dL hk).map _).mem_iff))
theorem turn_cyc {k : Nat} (hk : k ≤ r.na) : (r.turn k).Cyc ↔ r.Cyc := by
  constructor
  · rintro ⟨S, ⟨i, hi⟩, hS⟩
    refine ⟨fun i => ∃ i', S i' ∧ rot r.na k i' = i, ⟨_, i, hi, rfl⟩, ?_⟩
    rintro _ ⟨i', hi', rfl⟩
    obtain ⟨a, j, hj, hg⟩ := hS i' hi'
    exact ⟨rot_lt hk a, _, ⟨j, hj, rfl⟩, hg⟩
  · rintro ⟨S, ⟨i, hi⟩, hS⟩
    refine ⟨fun i => i < r.na ∧ S (rot r.na k i), ⟨if k ≤ i then i - k else i + r.na - k, ?_, ?_⟩, ?_⟩
    · have := (hS i hi).1; split <;> omega
    · show S (rot r.na k _); rw [rot_back hk (hS i hi).1]; exact hi
    · rintro i' ⟨hi', hs⟩
      obtain ⟨a, j, hj, hg⟩ := hS _ hs
      refine ⟨hi', if k ≤ j then j - k else j + r.na - k, ⟨?_, ?_⟩, ?_⟩
      · have := (hS j hj).1; split <;> omega
      · rw [rot_back hk (hS j hj).1]; exact hj
      · show r.gl (rot r.na k _) / 2 = r.ga (rot r.na k i') / 2 ∨ r.gl (rot r.na k _) / 2 = r.gb (rot r.na k i') / 2
        rw [rot_back hk (hS j hj).1]
        exact hg
/-- the same error -/
theorem turn_chk {k : Nat} (hk : k ≤ r.na) : (r.turn k).chk = r.chk := by
  have hs : r.twi = false → ((r.turn k).ord.length < (r.turn k).na ↔ r.ord.length < r.na) := fun ht => by
    rw [short_iff ht, short_iff (by rw [turn_twi hk]; exact ht)]
    exact turn_cyc hk
  unfold chk
  rw [turn_num hk, turn_twi hk, turn_opn hk]
  have eb : (r.turn k).big = r.big := rfl
  have em : (r.turn k).m = r.m := rfl
  rw [eb, em]
  cases e : r.twi with
  | true => rfl
  | false => simp only [hs e]
end Rw

end Go.Proofs.Ytpdfdbnmohippaa

namespace Go.Proofs.Ytpdfdbnmohippaa
open Go Go.RowKit
set_option linter.unusedVariables false
set_option linter.unusedSimpArgs false

theorem tripL_add (f g h : Nat → Int) (n : Nat) : ∀ m, tripL f g h (n + m) = tripL f g h n ++ tripL (fun j => f (n + j)) (fun j => g (n + j)) (fun j => h (n + j)) m
  | 0 => by simp [tripL]
  | m + 1 => by rw [show n + (m + 1) = (n + m) + 1 by omega, tripL, tripL_add f g h n m, tripL, List.append_assoc]
theorem tripL_congr {f g h f' g' h' : Nat → Int} : ∀ {n : Nat}, (∀ j, j < n → f j = f' j ∧ g j = g' j ∧ h j = h' j) → tripL f g h n = tripL f' g' h' n
  | 0, _ => rfl
  | n + 1, hh => by
    obtain ⟨e1, e2, e3⟩ := hh n (by omega)
    rw [tripL, tripL, tripL_congr (n := n) fun j hj => hh j (by omega), e1, e2, e3]
theorem turn_trips (r : Rw) {k : Nat} (hk : k ≤ r.na) : tripL (fun j => r.gl (k + j)) (fun j => r.ga (k + j)) (fun j => r.gb (k + j)) (r.na - k) ++ tripL r.gl r.ga r.gb k = tripL (r.turn k).gl (r.turn k).ga (r.turn k).gb r.na := by
  have e := tripL_add (r.turn k).gl (r.turn k).ga (r.turn k).gb (r.na - k) k
  rw [show r.na - k + k = r.na by omega] at e
  rw [e]
  congr 1
  · refine tripL_congr fun j hj => ?_
    have : Rw.rot r.na k j = k + j := if_pos (by omega)
    exact ⟨by rw [show (r.turn k).gl j = r.gl (Rw.rot r.na k j) from rfl, this], by rw [show (r.turn k).ga j = r.ga (Rw.rot r.na k j) from rfl, this], by rw [show (r.turn k).gb j = r.gb (Rw.rot r.na k j) from rfl, this]⟩
  · refine tripL_congr fun j hj => ?_
    have : Rw.rot r.na k (r.na - k + j) = j := by unfold Rw.rot; rw [if_neg (by omega)]; omega
    exact ⟨by rw [show (r.turn k).gl (r.na - k + j) = r.gl (Rw.rot r.na k (r.na - k + j)) from rfl, this], by rw [show (r.turn k).ga (r.na - k + j) = r.ga (Rw.rot r.na k (r.na - k + j)) from rfl, this], by rw [show (r.turn k).gb (r.na - k + j) = r.gb (Rw.rot r.na k (r.na - k + j)) from rfl, this]⟩
/-- what is cut from a list of definitions -/
theorem cut_src {w : World} {B : Nat} {A : Option Addr} {n k c : Nat} {f g h : Nat → Int} (hm : TripsAt w B A n f g h) (hn : A = none → n = 0 ∧ c = 0) (hk : k ≤ n) (hc : n ≤ c) :
    ∃ A1 k1 A2 k2, (∀ W, (Instr.slice 30 (.slice A n c) (some (.int .i64 (k : Int))) none none).run Try.prog W = .ok (.slice A1 (n - k) k1) W) ∧ (∀ W, (Instr.slice 30 (.slice A n c) none (some (.int .i64 (k : Int))) none).run Try.prog W = .ok (.slice A2 k k2) W) ∧
      (∀ W, Below B w W → Src W A1 (n - k) k1 (tripL (fun j => f (k + j)) (fun j => g (k + j)) (fun j => h (k + j)) (n - k))) ∧ (∀ W, Below B w W → Src W A2 k k2 (tripL f g h k)) := by
  have hE : Try.prog.elem 30 = 41 := by kernel_rfl
  have hT : Try.prog.underlying 30 = some (.slice (Try.prog.elem 30)) := by rw [hE]; exact Try.underlying30
  have hz : ∀ W : World, (sizeOf (Try.prog.elem 30)).run Try.prog W = .ok 3 W := fun W => by
    obtain ⟨i0, hi0, hzz0, hs0, hy0⟩ := info_parts info_def
    rw [hE]
    simp [sizeOf, typeInfo, hi0, hs0]
  refine ⟨if c = k then A else A.map (·.add (k * 3)), c - k, A, c, fun W => ?_, fun W => ?_, fun W hb => ?_, fun W hb => ?_⟩
  · rw [run_slice_l _ _ _ _ _ hT .i64 (k : Int) (by omega) (by omega), hz W]
    simp only [Result.andThen, sliced, Int.toNat_natCast]
  · rw [run_slice_h _ _ _ _ _ hT .i64 (k : Int) (by omega) (by omega), hz W]
    simp only [Result.andThen, sliced, Int.toNat_natCast, Nat.zero_mul, Nat.sub_zero]
    have e : (if c = 0 then A else A.map (fun x => x.add 0)) = A := by
      by_cases h0 : c = 0
      · rw [if_pos h0]
      · rw [if_neg h0]
        cases A with
        | none => rfl
        | some a => rfl
    rw [e]
  · cases A with
    | none =>
      obtain ⟨rfl, rfl⟩ := hn rfl
      obtain rfl : k = 0 := by omega
      exact Or.inl ⟨by simp, rfl, rfl, rfl⟩
    | some a =>
      by_cases h0 : n - k = 0
      · rw [h0]
        by_cases hck : c = k
        · rw [if_pos hck]; exact Or.inr ⟨a, rfl, fun j u hu => by simp [tripL] at hu⟩
        · rw [if_neg hck]; exact Or.inr ⟨a.add (k * 3), rfl, fun j u hu => by simp [tripL] at hu⟩
      · rw [if_neg (by omega)]
        refine Or.inr ⟨a.add (k * 3), rfl, fun j u hu => ?_⟩
        have hs := (hm.keep hb).src (k := c) hn
        rcases hs with ⟨h1, _⟩ | ⟨ad, h1, hcs⟩
        · cases h1
        · obtain rfl : a = ad := by injection h1
          have hj : j < (n - k) * 3 := by rw [← tripL_len (fun j => f (k + j)) (fun j => g (k + j)) (fun j => h (k + j)) (n - k)]; exact (List.getElem?_eq_some_iff.1 hu).1
          have e := tripL_add f g h k (n - k)
          rw [show k + (n - k) = n by omega] at e
          have h2 := hcs (k * 3 + j) u (by rw [e, List.getElem?_append_right (by rw [tripL_len]; omega), tripL_len, Nat.add_sub_cancel_left]; exact hu)
          have e3 : (a.add (k * 3)).add j = a.add (k * 3 + j) := by
            unfold Addr.add
            by_cases q1 : k * 3 = 0 <;> by_cases q2 : j = 0 <;> simp [q1, q2, Nat.add_assoc]
          rw [e3]; exact h2
  · cases A with
    | none =>
      obtain ⟨rfl, rfl⟩ := hn rfl
      obtain rfl : k = 0 := by omega
      exact Or.inl ⟨rfl, rfl, rfl, rfl⟩
    | some a =>
      refine Or.inr ⟨a, rfl, fun j u hu => ?_⟩
      have hs := (hm.keep hb).src (k := c) hn
      rcases hs with ⟨h1, _⟩ | ⟨ad, h1, hcs⟩
      · cases h1
      · obtain rfl : a = ad := by injection h1
        have hj : j < k * 3 := by rw [← tripL_len f g h k]; exact (List.getElem?_eq_some_iff.1 hu).1
        have e := tripL_add f g h k (n - k)
        rw [show k + (n - k) = n by omega] at e
        exact hcs j u (by rw [e, List.getElem?_append_left (by rw [tripL_len]; omega)]; exact hu)
/-- an empty list of definitions is laid -/
theorem build0 (w : World) : (Instr.buildSlice 30 0 #[]).run Try.prog w = .ok (.slice (some ⟨w.heap.size, 0, none⟩) 0 0) (w.alloc (.cells #[] 41)) := by
  obtain ⟨i0, hi0, hzz0, hs0, hy0⟩ := info_parts info_def
  simp [Instr.buildSlice, run_underlying (P := Try.prog) Try.underlying30, sizeOf, typeInfo, zeroValue, hi0, hzz0, hs0, Instr.fill, newRow]
  rw [show Array.range 0 = #[] from Array.eq_empty_of_size_eq_zero (by simp)]
  simp
/-- an append of definitions -/
theorem app_src {W : World} {base : Nat} {v : Value} {n : Nat} {xs : List Value} (ho : W.ownsRow base 41 3 v n xs) {A : Option Addr} {m c : Nat} {news : List Value} (hs : Src W A m c news) (hl : news.length = m * 3) (h1 : ∀ u ∈ news, u.oneCell' = true) (hn : n + m ≤ 100000) (hb : base ≤ W.heap.size) (ty : TypeId) :
    ∃ v' w', (Builtin.append_ #[30, 30] ty #[v, .slice A m c]).run Try.prog W = .ok v' w' ∧ w'.ownsRow base 41 3 v' (n + m) (xs ++ news) ∧ W.grownBy w' v.ownBlock ∧ (v'.ownBlock = v.ownBlock ∨ v'.ownBlock = some W.heap.size) := by
  obtain ⟨i0, hi0, hzz0, hs0, hy0⟩ := info_parts info_def
  rcases hs with ⟨rfl, rfl, rfl, rfl⟩ | ⟨ad, rfl, hc⟩
  · exact ⟨v, W, run_append_owned_none (P := Try.prog) (w := W) base 30 ty 41 i0 3 Try.underlying30 hi0 v n xs ho, by simpa using ho, World.grownBy.refl W _, Or.inl rfl⟩
  · obtain ⟨v', w', hr, h2, h3, _, h5⟩ := run_append_own_at (P := Try.prog) W base 30 ty 41 i0 _ 3 24 Try.underlying30 hi0 hzz0 hs0 hy0 rfl (by decide) v n xs ho ad m c news hl hc h1 (by simp only [maxLen]; omega) (by omega) hb
    exact ⟨v', w', hr, h2, h3, h5⟩
theorem own_some {W : World} {base size n : Nat} {e : TypeId} {v : Value} {xs : List Value} (ho : W.ownsRow base e size v n xs) {x : Nat} (hx : v.ownBlock = some x) : ∃ cap, v = .slice (some ⟨x, 0, none⟩) n cap ∧ n ≤ cap := by
  rcases ho.2 with ⟨rfl, _⟩ | ⟨g, c, cur, rfl, _, _, hn, _⟩
  · cases hx
  · obtain rfl : g = x := by simpa [Value.ownBlock] using hx
    exact ⟨c, rfl, hn⟩
theorem OwnR.store {W : World} {base b j : Nat} {r : Rw} {p : Rp} {cs : Array Value} {v : Value} (h : OwnR W base r p) (hb : Has W b 32 cs) : OwnR (W.setCell ⟨b, j, none⟩ v) base r p := by
  have K : ∀ {e : TypeId} {size n : Nat} {u : Value} {xs : List Value}, W.ownsRow base e size u n xs → e ≠ 32 → (W.setCell ⟨b, j, none⟩ v).ownsRow base e size u n xs := fun ho he => own_stay ho fun x hx => Below.heap_setCell _ _ _ _ (row_ne ho hb he hx)
  obtain ⟨⟨g1, e1, h1⟩, ⟨g2, e2, h2⟩, ⟨g3, e3, h3⟩, ⟨g4, e4, h4⟩, g5, e5, h5⟩ := h
  exact ⟨⟨g1, e1, K h1 (by decide)⟩, ⟨g2, e2, K h2 (by decide)⟩, ⟨g3, e3, K h3 (by decide)⟩, ⟨g4, e4, K h4 (by decide)⟩, g5, e5, K h5 (by decide)⟩
theorem OwnR.on {W W' : World} {base : Nat} {r : Rw} {p : Rp} (h : OwnR W base r p) (hb : Below W.heap.size W W') : OwnR W' base r p := by
  obtain ⟨⟨g1, e1, h1⟩, ⟨g2, e2, h2⟩, ⟨g3, e3, h3⟩, ⟨g4, e4, h4⟩, g5, e5, h5⟩ := h
  exact ⟨⟨g1, e1, own_below h1 hb⟩, ⟨g2, e2, own_below h2 hb⟩, ⟨g3, e3, own_below h3 hb⟩, ⟨g4, e4, own_below h4 hb⟩, g5, e5, own_below h5 hb⟩
/-- the bounds of the turned one -/
theorem RSm.turn {r : Rw} {k : Nat} (h : RSm r) (hk : k ≤ r.na) : RSm (r.turn k) := ⟨h.m, h.ni, h.nl, h.na, h.nb, h.nc, h.ip, h.ll, h.la, h.lb, fun j hj => h.gl _ (Rw.rot_lt hk hj), fun j hj => h.ga _ (Rw.rot_lt hk hj), fun j hj => h.gb _ (Rw.rot_lt hk hj), h.bd, h.cn⟩
/-- behind the appends and the store -/
theorem turned_mem {U V : World} {base B b5 g k9 k : Nat} {r : Rw} {p : Rp} (hk : k ≤ r.na) (hO : OwnR U base r p) (hb5 : Has U b5 32 (rc r p)) (hB : Below U.heap.size U V) (h9 : V.ownsRow B 41 3 (.slice (some ⟨g, 0, none⟩) r.na k9) r.na (tripL (r.turn k).gl (r.turn k).ga (r.turn k).gb r.na)) :
    RMem (V.setCell ⟨b5, 3, none⟩ (.slice (some ⟨g, 0, none⟩) r.na k9)) (V.setCell ⟨b5, 3, none⟩ (.slice (some ⟨g, 0, none⟩) r.na k9)).heap.size (r.turn k) ⟨p.A1, p.A2, some ⟨g, 0, none⟩, p.A4, p.A5, p.k1, p.k2, k9, p.k4, p.k5⟩ ∧
    RNils (r.turn k) ⟨p.A1, p.A2, some ⟨g, 0, none⟩, p.A4, p.A5, p.k1, p.k2, k9, p.k4, p.k5⟩ ∧
    Has (V.setCell ⟨b5, 3, none⟩ (.slice (some ⟨g, 0, none⟩) r.na k9)) b5 32 (rc (r.turn k) ⟨p.A1, p.A2, some ⟨g, 0, none⟩, p.A4, p.A5, p.k1, p.k2, k9, p.k4, p.k5⟩) := by
  have hV5 : Has V b5 32 (rc r p) := hb5.keep hB hb5.lt
  have hm := ((hO.on hB).store (j := 3) (v := .slice (some ⟨g, 0, none⟩) r.na k9) hV5)
  have hmm := hm.mem
  have hnn := hm.nils
  have h9' : (V.setCell ⟨b5, 3, none⟩ (.slice (some ⟨g, 0, none⟩) r.na k9)).ownsRow B 41 3 (.slice (some ⟨g, 0, none⟩) r.na k9) r.na (tripL (r.turn k).gl (r.turn k).ga (r.turn k).gb r.na) := own_stay h9 fun x hx => Below.heap_setCell _ _ _ _ (row_ne h9 hV5 (by decide) hx)
  refine ⟨⟨hmm.ip, hmm.la, own_trips1 h9', hmm.bd, hmm.cn⟩, ⟨hnn.1, hnn.2, (fun h => by cases h), hnn.4, hnn.5⟩, ?_⟩
  have := hV5.set 3 (.slice (some ⟨g, 0, none⟩) r.na k9)
  exact this
theorem oc_sizes {r : Rw} {k : Nat} (hk : k ≤ r.na) : r.oc.na = (r.turn k).oc.na ∧ r.oc.i = (r.turn k).oc.i ∧ r.oc.nl = (r.turn k).oc.nl := by
  have e := Rw.turn_chk (r := r) hk
  by_cases h : r.chk = 0
  · have h' : (r.turn k).chk = 0 := by rw [e, h]
    rw [Rw.oc_yes h, Rw.oc_yes h']
    have a := (Rw.ord_all h).1
    have b := (Rw.ord_all h').1
    exact ⟨show r.ord.length = (r.turn k).ord.length from a.trans b.symm, rfl, rfl⟩
  · have h' : (r.turn k).chk ≠ 0 := by rw [e]; exact h
    rw [Rw.oc_no h, Rw.oc_no h']
    exact ⟨rfl, rfl, rfl⟩

end Go.Proofs.Ytpdfdbnmohippaa
