/- The values of all variables in a frame, as a function of the variable. -/
import Derived.Test.YtecmldnigohjfabDoorGatesMore
import Derived.Test.YtecmldnigohjfabDoorAppKit
import Derived.Test.YtecmldnigohjfabDoorGatesFrame
import Derived.Deep.Grids
namespace Go.Proofs.YtecmldnigohjfabDoor
open Go.RowKit

set_option linter.unusedVariables false

/-- the value of a literal by those of all variables -/
def vlo (F : Nat → Bool) (l : Int) : Bool := F (l / 2).toNat != Li.od l
theorem vlo_congr {F G : Nat → Bool} {l : Int} (h : F (l / 2).toNat = G (l / 2).toNat) : vlo F l = vlo G l := by unfold vlo; rw [h]
theorem vlo_ng {F : Nat → Bool} {l : Int} (h : 0 ≤ l) : vlo F (Li.ng l) = !vlo F l := by
  have e : (Li.ng l / 2).toNat = (l / 2).toNat := by unfold Li.ng; split <;> omega
  have o : Li.od (Li.ng l) = !Li.od l := by
    unfold Li.od
    rw [Bool.eq_iff_iff]
    simp only [beq_iff_eq, Bool.not_eq_true', beq_eq_false_iff_ne]
    unfold Li.ng
    split <;> omega
  unfold vlo
  rw [e, o]
  cases F (l / 2).toNat <;> cases Li.od l <;> rfl

namespace Cr
/-- the values when k gates have theirs: s the state, t the inputs -/
def frA (c : Cr) (s t : Nat → Bool) : Nat → Nat → Bool
  | 0, v => if v = 0 then false else if v < 1 + c.i.toNat then t (v - 1) else if v < c.fg then s (v - (1 + c.i.toNat)) else false
  | k + 1, v => if v = c.fg + k then vlo (frA c s t k) (c.ga k) && vlo (frA c s t k) (c.gb k) else frA c s t k v
/-- the values of all variables -/
def fr (c : Cr) (s t : Nat → Bool) : Nat → Bool := c.frA s t c.na
variable {c : Cr} {s t : Nat → Bool}

theorem frA_succ (c : Cr) (s t : Nat → Bool) (k : Nat) : c.frA s t (k + 1) = fun v => if v = c.fg + k then vlo (c.frA s t k) (c.ga k) && vlo (c.frA s t k) (c.gb k) else c.frA s t k v := rfl
theorem frA_ge (c : Cr) (s t : Nat → Bool) : ∀ k v, c.fg + k ≤ v → c.frA s t k v = false
  | 0, v, h => by
    unfold frA
    have : 1 + c.i.toNat ≤ c.fg := by unfold fg; omega
    rw [if_neg (by omega), if_neg (by omega), if_neg (by omega)]
  | k + 1, v, h => by
    rw [frA_succ]
    show (if v = c.fg + k then _ else _) = _
    rw [if_neg (by omega)]
    exact frA_ge c s t k v (by omega)
theorem frA_stay (c : Cr) (s t : Nat → Bool) (k v : Nat) (h : v < c.fg + k) : ∀ d, c.frA s t (k + d) v = c.frA s t k v
  | 0 => rfl
  | d + 1 => by
    rw [← Nat.add_assoc, frA_succ]
    show (if v = c.fg + (k + d) then _ else _) = _
    rw [if_neg (by omega)]
    exact frA_stay c s t k v h d
theorem fr_of {k v : Nat} (h : v < c.fg + k) (hk : k ≤ c.na) : c.fr s t v = c.frA s t k v := by
  have := frA_stay c s t k v h (c.na - k)
  rw [Nat.add_sub_cancel' hk] at this
  exact this
theorem fr_zero : c.fr s t 0 = false := by
  rw [fr_of (k := 0) (by unfold fg; omega) (Nat.zero_le _)]; rfl
theorem fr_in {v : Nat} (h0 : 1 ≤ v) (h : v < 1 + c.i.toNat) : c.fr s t v = t (v - 1) := by
  rw [fr_of (k := 0) (by unfold fg; omega) (Nat.zero_le _)]
  unfold frA
  rw [if_neg (by omega), if_pos h]
theorem fr_st {v : Nat} (h0 : 1 + c.i.toNat ≤ v) (h : v < c.fg) : c.fr s t v = s (v - (1 + c.i.toNat)) := by
  rw [fr_of (k := 0) (by omega) (Nat.zero_le _)]
  unfold frA
  rw [if_neg (by omega), if_neg (by omega), if_pos h]
/-- each gate is the AND of its parts -/
theorem frA_gate (h : c.chk = 0) {k : Nat} (hk : k < c.na) : vlo (c.frA s t k) (c.ga k) = vlo (c.fr s t) (c.ga k) ∧ vlo (c.frA s t k) (c.gb k) = vlo (c.fr s t) (c.gb k) := by
  obtain ⟨p1, p2⟩ := part_lt h hk
  exact ⟨vlo_congr (fr_of p1 (by omega)).symm, vlo_congr (fr_of p2 (by omega)).symm⟩
theorem fr_gate (h : c.chk = 0) {k : Nat} (hk : k < c.na) : c.fr s t (c.fg + k) = (vlo (c.fr s t) (c.ga k) && vlo (c.fr s t) (c.gb k)) := by
  rw [fr_of (k := k + 1) (by omega) (by omega), ← (frA_gate h hk).1, ← (frA_gate h hk).2, frA_succ]
  show (if c.fg + k = c.fg + k then _ else _) = _
  rw [if_pos rfl]
/-- the only values of which this may be said, up to a variable -/
theorem fr_uniq (h : c.chk = 0) {F : Nat → Bool} (n : Nat) (hb : ∀ v, v < c.fg → v < n → F v = c.fr s t v) (hg : ∀ k, k < c.na → c.fg + k < n → F (c.fg + k) = (vlo F (c.ga k) && vlo F (c.gb k))) : ∀ v, v < n → v < c.fg + c.na → F v = c.fr s t v := fun v => by
  induction v using Nat.strongRecOn with
  | _ v ih =>
    intro hv hn
    by_cases hf : v < c.fg
    · exact hb v hf hv
    · obtain ⟨k, rfl⟩ : ∃ k, v = c.fg + k := ⟨v - c.fg, by omega⟩
      obtain ⟨p1, p2⟩ := part_lt h (j := k) (by omega)
      rw [hg k (by omega) hv, fr_gate h (by omega), vlo_congr (ih _ p1 (by omega) (by omega)), vlo_congr (ih _ p2 (by omega) (by omega))]

end Cr

end Go.Proofs.YtecmldnigohjfabDoor

namespace Go.Proofs.YtecmldnigohjfabDoor
open Go.RowKit Go.ChangeShapes Go.WideShapes Go.ChangeAt
set_option linter.unusedVariables false

set_option linter.unusedSimpArgs false

/-- the truth values of a list -/
def BlsAt (w : World) (B : Nat) (A : Option Addr) (n : Nat) (f : Nat → Bool) : Prop :=
  0 < n → ∃ a, A = some a ∧ a.block < B ∧ ∀ j, j < n → w.cell? (a.add j) = some (.bool (f j))
theorem BlsAt.keep {w w' : World} {B : Nat} {A : Option Addr} {n : Nat} {f : Nat → Bool} (h : BlsAt w B A n f) (hb : Below B w w') : BlsAt w' B A n f := fun hn => by
  obtain ⟨a, e, hl, hc⟩ := h hn
  exact ⟨a, e, hl, fun j hj => (hb.cell (by rw [add_block]; exact hl)).trans (hc j hj)⟩
theorem BlsAt.more {w : World} {B B' : Nat} {A : Option Addr} {n : Nat} {f : Nat → Bool} (h : BlsAt w B A n f) (hb : B ≤ B') : BlsAt w B' A n f := fun hn => by
  obtain ⟨a, e, hl, hc⟩ := h hn
  exact ⟨a, e, by omega, hc⟩
theorem BlsAt.to {w W : World} {B : Nat} {A : Option Addr} {n : Nat} {f : Nat → Bool} (h : BlsAt w B A n f) (hb : Below B w W) (hB : B ≤ W.heap.size) : BlsAt W W.heap.size A n f := (h.keep hb).more hB
theorem BlsAt.congr {w : World} {B : Nat} {A : Option Addr} {n : Nat} {f g : Nat → Bool} (h : BlsAt w B A n f) (e : ∀ j, j < n → f j = g j) : BlsAt w B A n g := fun hn => by
  obtain ⟨a, e1, hl, hc⟩ := h hn
  exact ⟨a, e1, hl, fun j hj => by rw [hc j hj, e j hj]⟩

/-- the cells of a list of truth values -/
def bL (f : Nat → Bool) : Nat → List Value
  | 0 => []
  | n + 1 => bL f n ++ [.bool (f n)]
theorem bL_len (f : Nat → Bool) : ∀ n, (bL f n).length = n * 1
  | 0 => rfl
  | n + 1 => by rw [bL, List.length_append, bL_len f n]; simp
theorem bL_at (f : Nat → Bool) : ∀ n j, j < n → (bL f n)[j]? = some (.bool (f j))
  | 0, _, h => absurd h (Nat.not_lt_zero _)
  | n + 1, j, h => by
    have hl := bL_len f n
    rw [bL]
    rcases Nat.lt_succ_iff_lt_or_eq.1 h with h' | h'
    · rw [List.getElem?_append_left (by omega)]; exact bL_at f n j h'
    · subst h'
      rw [List.getElem?_append_right (by omega), hl]; simp
theorem bL_one (f : Nat → Bool) : ∀ n, ∀ u ∈ bL f n, u.oneCell' = true
  | 0, _, h => by cases h
  | n + 1, u, h => by
    rw [bL, List.mem_append] at h
    rcases h with h | h
    · exact bL_one f n u h
    · simp at h; subst h; rfl
theorem bL_congr {f g : Nat → Bool} : ∀ n, (∀ j, j < n → f j = g j) → bL f n = bL g n
  | 0, _ => rfl
  | n + 1, h => by rw [bL, bL, bL_congr n (fun j hj => h j (by omega)), h n (by omega)]
theorem bL_app (f g : Nat → Bool) (n : Nat) : ∀ m, bL f n ++ bL g m = bL (fun j => if j < n then f j else g (j - n)) (n + m)
  | 0 => by rw [bL, List.append_nil]; exact bL_congr n fun j hj => (if_pos hj).symm
  | m + 1 => by
    rw [← Nat.add_assoc, bL, bL, ← bL_app f g n m, if_neg (by omega), List.append_assoc]
    have : n + m - n = m := by omega
    rw [this]
theorem BlsAt.src {w : World} {B : Nat} {A : Option Addr} {n k : Nat} {f : Nat → Bool} (h : BlsAt w B A n f) (hn : A = none → n = 0 ∧ k = 0) : Src w A n k (bL f n) := by
  cases A with
  | none => obtain ⟨rfl, rfl⟩ := hn rfl; exact Or.inl ⟨rfl, rfl, rfl, rfl⟩
  | some ad =>
    refine Or.inr ⟨ad, rfl, fun j u hu => ?_⟩
    have hj : j < n * 1 := by rw [← bL_len f n]; exact (List.getElem?_eq_some_iff.1 hu).1
    obtain ⟨a, e, _, hc⟩ := h (by omega)
    obtain rfl : ad = a := by injection e
    rw [hc j (by omega), ← hu, bL_at f n j (by omega)]
/-- what a call owns, as a list -/
theorem own_bools {w : World} {base : Nat} {e : TypeId} {v : Value} {n : Nat} {f : Nat → Bool} (h : w.ownsRow base e 1 v n (bL f n)) : ∃ A k, v = .slice A n k ∧ BlsAt w w.heap.size A n f ∧ ∀ g, v.ownBlock = some g → base ≤ g := by
  refine (?_ : ∃ A k, v = .slice A n k ∧ BlsAt w w.heap.size A n f).imp fun A ⟨k, h1, h2⟩ => ⟨k, h1, h2, own_block h⟩
  rcases h.2 with ⟨rfl, hn⟩ | ⟨g, cap, cur, rfl, hg, hh, r⟩
  · exact ⟨none, 0, by rw [hn], fun h => by omega⟩
  · exact ⟨_, cap, rfl, fun hn => ⟨_, rfl, Has.lt (t := e) (cs := cur) hh, fun j hj => h.cells (g := g) rfl _ _ (bL_at f n j hj)⟩⟩
/-- the same, with where it lies -/
theorem own_bools2 {w : World} {base : Nat} {e : TypeId} {v : Value} {n : Nat} {f : Nat → Bool} (h : w.ownsRow base e 1 v n (bL f n)) : ∃ A k, v = .slice A n k ∧ BlsAt w w.heap.size A n f ∧ (A = none → n = 0 ∧ k = 0) ∧ ∀ a, A = some a → base ≤ a.block := by
  rcases h.2 with ⟨rfl, hn⟩ | ⟨g, cap, cur, rfl, hg, hh, r⟩
  · exact ⟨none, 0, by rw [hn], fun h => by omega, fun _ => ⟨hn, rfl⟩, fun _ h => by cases h⟩
  · exact ⟨_, cap, rfl, fun hn => ⟨_, rfl, Has.lt (t := e) (cs := cur) hh, fun j hj => h.cells (g := g) rfl _ _ (bL_at f n j hj)⟩, (fun h => by cases h), fun a h => by cases h; exact hg⟩
theorem row_bools {w : World} {g : Nat} {t : TypeId} {n : Nat} {f : Nat → Bool} (h : w.rowIs g t n (fun v => .bool (f v))) : BlsAt w w.heap.size (some ⟨g, 0, none⟩) n f := fun _ =>
  ⟨_, rfl, h.lt, fun j hj => by
    have e : (⟨g, 0, none⟩ : Addr).add j = ⟨g, j, none⟩ := by unfold Addr.add; split <;> simp_all
    rw [e]; exact h.cell hj⟩
/-- a block of cells of truth values -/
theorem row_of_list {w : World} {g : Nat} {t : TypeId} {f : Nat → Bool} {n : Nat} (h : w.heap[g]? = some (.cells (bL f n).toArray t (0, 0))) : w.rowIs g t n (fun v => .bool (f v)) :=
  ⟨_, h, by simpa using bL_len f n, fun i hi => by simpa using bL_at f n i hi⟩

section
variable {H : Type} {enc : TypeId × Value → H} {W : World} {base : Nat} {held : Bool}

set_option maxRecDepth 100000 in
/-- a list of truth values, as it comes in -/
theorem open_bl {v : Value} {d : DataW H} {ps : List MemPlace} {r : Reach} {b0 : Nat} (hv : Value.okWide Tryd.prog W r b0 46 v) (h : DataW.Trod enc Tryd.prog W base (fun _ => true) held 46 v d ps) :
    ∃ A n k f, v = .slice A n k ∧ BlsAt W W.heap.size A n f ∧ (A = none → n = 0 ∧ k = 0) ∧ n ≤ k ∧ k ≤ maxLen := by
  obtain ⟨a0, n0, k0, rfl⟩ := okWide_slice Tryd.underlying46 hv
  obtain ⟨fuel, hf⟩ := h
  rcases Deep.open_bools Tryd.underlying46 Tryd.underlying4 (by kernel_rfl) hf with ⟨hv, _⟩ | ⟨a, len, cap, f, hv, _, hl, hml, _, hc⟩
  · have hv' : [Value.slice a0 n0 k0] = [.slice none 0 0] := hv
    injection hv' with hv'
    exact ⟨none, 0, 0, fun _ => false, hv', fun h => absurd h (Nat.not_lt_zero _), fun _ => ⟨rfl, rfl⟩, Nat.le_refl _, Nat.zero_le _⟩
  · have hv' : [Value.slice a0 n0 k0] = [.slice (some a) len cap] := hv
    injection hv' with hv'
    refine ⟨some a, len, cap, f, hv', fun hn => ⟨a, rfl, ?_, fun j hj => hc j (by omega)⟩, (fun h => by cases h), hl, hml⟩
    have := cell_lt (hc 0 (by omega))
    rwa [add_block] at this

end

end Go.Proofs.YtecmldnigohjfabDoor

namespace Go.Proofs.YtecmldnigohjfabDoor
open Go.RowKit
set_option linter.unusedVariables false

set_option linter.unusedSimpArgs false

/-- two lists of truth values that agree -/
def samB (n m : Nat) (f g : Nat → Bool) : Bool := decide (n = m ∧ ∀ j, j < n → f j = g j)
theorem samB_no {n m : Nat} {f g : Nat → Bool} (h : n ≠ m) : samB n m f g = false := decide_eq_false fun h' => h h'.1
theorem samB_no2 {n m k : Nat} {f g : Nat → Bool} (hk : k < n) (h : f k ≠ g k) : samB n m f g = false := decide_eq_false fun h' => h (h'.2 k hk)
theorem samB_yes {n : Nat} {f g : Nat → Bool} (h : ∀ j, j < n → f j = g j) : samB n n f g = true := decide_eq_true ⟨rfl, h⟩

end Go.Proofs.YtecmldnigohjfabDoor

namespace Go.Proofs.YtecmldnigohjfabDoor
open Go.RowKit
set_option linter.unusedVariables false

set_option linter.unusedSimpArgs false

namespace Cr
/-- the error of a circuit, a state and inputs -/
def ask (c : Cr) (ns ni : Nat) : Int := if c.chk ≠ 0 then c.chk else if ns ≠ c.nl ∨ (ni : Int) ≠ c.i then 2 else 0
theorem ask_bad {c : Cr} {ns ni : Nat} (h : c.chk ≠ 0) : c.ask ns ni = c.chk := if_pos h
theorem ask_arg {c : Cr} {ns ni : Nat} (h : c.chk = 0) (h1 : ns ≠ c.nl ∨ (ni : Int) ≠ c.i) : c.ask ns ni = 2 := by unfold ask; rw [if_neg (by omega), if_pos h1]
theorem ask_ok {c : Cr} {ns ni : Nat} (h : c.chk = 0) (h1 : ns = c.nl) (h2 : (ni : Int) = c.i) : c.ask ns ni = 0 := by unfold ask; rw [if_neg (by omega), if_neg (by omega)]
theorem ask_zero {c : Cr} {ns ni : Nat} (h : c.ask ns ni = 0) : c.chk = 0 ∧ ns = c.nl ∧ (ni : Int) = c.i := by
  unfold ask at h
  split at h
  · omega
  · split at h
    · omega
    · omega
/-- the three ways of it -/
theorem ask_ways (c : Cr) (ns ni : Nat) : (c.chk ≠ 0 ∧ c.ask ns ni = c.chk) ∨ (c.chk = 0 ∧ ns ≠ c.nl ∧ c.ask ns ni = 2) ∨ (c.chk = 0 ∧ ns = c.nl ∧ (ni : Int) ≠ c.i ∧ c.ask ns ni = 2) ∨ (c.chk = 0 ∧ ns = c.nl ∧ (ni : Int) = c.i ∧ c.ask ns ni = 0) := by
  by_cases h : c.chk = 0
  · by_cases h1 : ns = c.nl
    · by_cases h2 : (ni : Int) = c.i
      · exact Or.inr (Or.inr (Or.inr ⟨h, h1, h2, ask_ok h h1 h2⟩))
      · exact Or.inr (Or.inr (Or.inl ⟨h, h1, h2, ask_arg h (Or.inr h2)⟩))
    · exact Or.inr (Or.inl ⟨h, h1, ask_arg h (Or.inl h1)⟩)
  · exact Or.inl ⟨h, ask_bad h⟩
theorem frA_first {c : Cr} {s t : Nat → Bool} {ni ns : Nat} (hi : (ni : Int) = c.i) (hs : ns = c.nl) : [Value.bool false] ++ bL t ni ++ bL s ns = bL (c.frA s t 0) (c.fg + 0) := by
  have e1 : [Value.bool false] = bL (fun _ => false) 1 := rfl
  have e2 : c.fg + 0 = 1 + ni + ns := by unfold fg; omega
  rw [e1, bL_app, bL_app, e2]
  refine bL_congr _ fun j hj => ?_
  have e3 : c.i.toNat = ni := by omega
  unfold frA
  rw [e3]
  by_cases h0 : j = 0
  · subst h0; simp
  · rw [if_neg h0]
    by_cases h1 : j < 1 + ni
    · rw [if_pos h1, if_pos h1, if_neg (by omega)]
    · rw [if_neg h1, if_neg h1, if_pos (by unfold fg; omega)]
theorem frA_next (c : Cr) (s t : Nat → Bool) (q : Nat) : bL (c.frA s t (q + 1)) (c.fg + (q + 1)) = bL (c.frA s t q) (c.fg + q) ++ [.bool (vlo (c.frA s t q) (c.ga q) && vlo (c.frA s t q) (c.gb q))] := by
  rw [← Nat.add_assoc, bL]
  congr 1
  · exact bL_congr _ fun j hj => by rw [frA_succ]; exact if_neg (by omega)
  · rw [frA_succ]; simp

end Cr

/-- a list of truth values in memory of the call's own -/
def BoolsIs (n : Nat) (f : Nat → Bool) (w : World) (e : Ending) (w' : World) : Prop :=
  ∃ v, e = .returned v ∧ w'.ownsRow w.heap.size 4 1 v n (bL f n) ∧ Below w.heap.size w w'
/-- a list of truth values somewhere -/
def BoolsAt (n : Nat) (f : Nat → Bool) (w : World) (e : Ending) (w' : World) : Prop :=
  ∃ A k, e = .returned (.slice A n k) ∧ BlsAt w' w'.heap.size A n f ∧ Below w.heap.size w w'
theorem BoolsIs.at {n : Nat} {f : Nat → Bool} {w w' : World} {e : Ending} (h : BoolsIs n f w e w') : BoolsAt n f w e w' := by
  obtain ⟨v, rfl, ho, hb⟩ := h
  obtain ⟨A, k, rfl, hi, _⟩ := own_bools ho
  exact ⟨A, k, rfl, hi, hb⟩
/-- the same with an error behind it -/
def BoolsErr (n : Nat) (f : Nat → Bool) (x : Int) (w : World) (e : Ending) (w' : World) : Prop :=
  ∃ A k, e = .returned (.tuple #[.slice A n k, .int .i64 x]) ∧ BlsAt w' w'.heap.size A n f ∧ Below w.heap.size w w'
/-- the same, in memory that was not there before -/
def BoolsNew (n : Nat) (f : Nat → Bool) (x : Int) (w : World) (e : Ending) (w' : World) : Prop :=
  ∃ A k, e = .returned (.tuple #[.slice A n k, .int .i64 x]) ∧ BlsAt w' w'.heap.size A n f ∧ Below w.heap.size w w' ∧ (A = none → n = 0 ∧ k = 0) ∧ ∀ a, A = some a → w.heap.size ≤ a.block
theorem BoolsNew.err {n : Nat} {f : Nat → Bool} {x : Int} {w w' : World} {e : Ending} (h : BoolsNew n f x w e w') : BoolsErr n f x w e w' := by
  obtain ⟨A, k, he, hi, hb, _⟩ := h
  exact ⟨A, k, he, hi, hb⟩
/-- a list of truth values in memory that was not there before -/
def BoolsIn (n : Nat) (f : Nat → Bool) (w : World) (e : Ending) (w' : World) : Prop :=
  ∃ A k, e = .returned (.slice A n k) ∧ BlsAt w' w'.heap.size A n f ∧ Below w.heap.size w w' ∧ (A = none → n = 0 ∧ k = 0) ∧ ∀ a, A = some a → w.heap.size ≤ a.block
theorem BoolsIn.at {n : Nat} {f : Nat → Bool} {w w' : World} {e : Ending} (h : BoolsIn n f w e w') : BoolsAt n f w e w' := by
  obtain ⟨A, k, he, hi, hb, _⟩ := h
  exact ⟨A, k, he, hi, hb⟩
theorem own_new1 (W : World) (x : Value) (t : TypeId) (base : Nat) (h : base ≤ W.heap.size) : (W.alloc (.cells #[x] t)).ownsRow base t 1 (.slice (some ⟨W.heap.size, 0, none⟩) 1 1) 1 [x] :=
  ⟨by simp, Or.inr ⟨W.heap.size, 1, #[x], rfl, h, heap_alloc_new W _, Nat.le_refl _, by simp [maxLen], by simp, by simp⟩⟩

end Go.Proofs.YtecmldnigohjfabDoor
