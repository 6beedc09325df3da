/- The values of all variables in a frame, as a function of the variable. -/
import Derived.Test.YtbppdifghkkooaaDoorGatesMore
import Derived.Test.YtbppdifghkkooaaDoorAppKit
import Derived.Test.YtbppdifghkkooaaDoorGatesFrame
import Derived.Deep.Grids
namespace Go.Proofs.YtbppdifghkkooaaDoor
open Go.RowKit

set_option linter.unusedVariables false

/-- the value of a literal by those of all variables -/
def vlo (F : Nat → Bool) (l : Int) : Bool := F (l / 2).toNat != Li.od l
theorem vlo_congr {F G : Nat → Bool} {l : Int} (h : F (l / 2).toNat = G (l / 2).toNat) : vlo F l = vlo G l := by unfold vlo; rw [h]
theorem vlo_ng {F : Nat → Bool} {l : Int} (h : 0 ≤ l) : vlo F (Li.ng l) = !vlo F l := by
  have e : (Li.ng l / 2).toNat = (l / 2).toNat := by unfold Li.ng; split <;> omega
  have o : Li.od (Li.ng l) = !Li.od l := by
    unfold Li.od
    rw [Bool.eq_iff_iff]
    simp only [beq_iff_eq, Bool.not_eq_true', beq_eq_false_iff_ne]
    unfold Li.ng
    split <;> omega
  unfold vlo
  rw [e, o]
  cases F (l / 2).toNat <;> cases Li.od l <;> rfl

namespace Cr
/-- the values when k gates have theirs: s the state, t the inputs -/
def frA (c : Cr) (s t : Nat → Bool) : Nat → Nat → Bool
  | 0, v => if v = 0 then false else if v < 1 + c.i.toNat then t (v - 1) else if v < c.fg then s (v - (1 + c.i.toNat)) else false
  | k + 1, v => if v = c.fg + k then vlo (frA c s t k) (c.ga k) && vlo (frA c s t k) (c.gb k) else frA c s t k v
/-- the values of all variables -/
def fr (c : Cr) (s t : Nat → Bool) : Nat → Bool := c.frA s t c.na
variable {c : Cr} {s t : Nat → Bool}

theorem frA_succ (c : Cr) (s t : Nat → Bool) (k : Nat) : c.frA s t (k + 1) = fun v => if v = c.fg + k then vlo (c.frA s t k) (c.ga k) && vlo (c.frA s t k) (c.gb k) else c.frA s t k v := rfl
theorem frA_ge (c : Cr) (s t : Nat → Bool) : ∀ k v, c.fg + k ≤ v → c.frA s t k v = false
  | 0, v, h => by
    unfold frA
    have : 1 + c.i.toNat ≤ c.fg := by unfold fg; omega
    rw [if_neg (by omega), if_neg (by omega), if_neg (by omega)]
  | k + 1, v, h => by
    rw [frA_succ]
    show (if v = c.fg + k then _ else _) = _
    rw [if_neg (by omega)]
    exact frA_ge c s t k v (by omega)
theorem frA_stay (c : Cr) (s t : Nat → Bool) (k v : Nat) (h : v < c.fg + k) : ∀ d, c.frA s t (k + d) v = c.frA s t k v
  | 0 => rfl
  | d + 1 => by
    rw [← Nat.add_assoc, frA_succ]
    show (if v = c.fg + (k + d) then _ else _) = _
    rw [if_neg (by omega)]
    exact frA_stay c s t k v h d
theorem fr_of {k v : Nat} (h : v < c.fg + k) (hk : k ≤ c.na) : c.fr s t v = c.frA s t k v := by
  have := frA_stay c s t k v h (c.na - k)
  rw [Nat.add_sub_cancel' hk] at this
  exact this
theorem fr_zero : c.fr s t 0 = false := by
  rw [fr_of (k := 0) (by unfold fg; omega) (Nat.zero_le _)]; rfl
theorem fr_in {v : Nat} (h0 : 1 ≤ v) (h : v < 1 + c.i.toNat) : c.fr s t v = t (v - 1) := by
  rw [fr_of (k := 0) (by unfold fg; omega) (Nat.zero_le _)]
  unfold frA
  rw [if_neg (by omega), if_pos h]
theorem fr_st {v : Nat} (h0 : 1 + c.i.toNat ≤ v) (h : v < c.fg) : c.fr s t v = s (v - (1 + c.i.toNat)) := by
  rw [fr_of (k := 0) (by omega) (Nat.zero_le _)]
  unfold frA
  rw [if_neg (by omega), if_neg (by omega), if_pos h]
/-- each gate is the AND of its parts -/
theorem frA_gate (h : c.chk = 0) {k : Nat} (hk : k < c.na) : vlo (c.frA s t k) (c.ga k) = vlo (c.fr s t) (c.ga k) ∧ vlo (c.frA s t k) (c.gb k) = vlo (c.fr s t) (c.gb k) := by
  obtain ⟨p1, p2⟩ := part_lt h hk
  exact ⟨vlo_congr (fr_of p1 (by omega)).symm, vlo_congr (fr_of p2 (by omega)).symm⟩
theorem fr_gate (h : c.chk = 0) {k : Nat} (hk : k < c.na) : c.fr s t (c.fg + k) = (vlo (c.fr s t) (c.ga k) && vlo (c.fr s t) (c.gb k)) := by
  rw [fr_of (k := k + 1) (by omega) (by omega), ← (frA_gate h hk).1, ← (frA_gate h hk).2, frA_succ]
  show (if c.fg + k = c.fg + k then _ else _) = _
  rw [if_pos rfl]
/-- the only values of which this may be said, up to a variable -/
theorem fr_uniq (h : c.chk = 0) {F : Nat → Bool} (n : Nat) (hb : ∀ v, v < c.fg → v < n → F v = c.fr s t v) (hg : ∀ k, k < c.na → c.fg + k < n → F (c.fg + k) = (vlo F (c.ga k) && vlo F (c.gb k))) : ∀ v, v < n → v < c.fg + c.na → F v = c.fr s t v := fun v => by
  induction v using Nat.strongRecOn with
  | _ v ih =>
    intro hv hn
    by_cases hf : v < c.fg
    · exact hb v hf hv
    · obtain ⟨k, rfl⟩ : ∃ k, v = c.fg + k := ⟨v - c.fg, by omega⟩
      obtain ⟨p1, p2⟩ := part_lt h (j := k) (by omega)
      rw [hg k (by omega) hv, fr_gate h (by omega), vlo_congr (ih _ p1 (by omega) (by omega)), vlo_congr (ih _ p2 (by omega) (by omega))]

end Cr

end Go.Proofs.YtbppdifghkkooaaDoor

namespace Go.Proofs.YtbppdifghkkooaaDoor
open Go.RowKit Go.ChangeShapes Go.WideShapes Go.ChangeAt
set_option linter.unusedVariables false

set_option linter.unusedSimpArgs false

/-- the truth values of a list -/
def BlsAt (w : World) (B : Nat) (A : Option Addr) (n : Nat) (f : Nat → Bool) : Prop :=
  0 < n → ∃ a, A = some a ∧ a.block < B ∧ ∀ j, j < n → w.cell? (a.add j) = some (.bool (f j))
theorem BlsAt.keep {w w' : World} {B : Nat} {A : Option Addr} {n : Nat} {f : Nat → Bool} (h : BlsAt w B A n f) (hb : Below B w w') : BlsAt w' B A n f := fun hn => by
  obtain ⟨a, e, hl, hc⟩ := h hn
  exact ⟨a, e, hl, fun j hj => (hb.cell (by rw [add_block]; exact hl)).trans (hc j hj)⟩
theorem BlsAt.more {w : World} {B B' : Nat} {A : Option Addr} {n : Nat} {f : Nat → Bool} (h : BlsAt w B A n f) (hb : B ≤ B') : BlsAt w B' A n f := fun hn => by
  obtain ⟨a, e, hl, hc⟩ := h hn
  exact ⟨a, e, by omega, hc⟩
theorem BlsAt.to {w W : World} {B : Nat} {A : Option Addr} {n : Nat} {f : Nat → Bool} (h : BlsAt w B A n f) (hb : Below B w W) (hB : B ≤ W.heap.size) : BlsAt W W.heap.size A n f := (h.keep hb).more hB
theorem BlsAt.congr {w : World} {B : Nat} {A : Option Addr} {n : Nat} {f g : Nat → Bool} (h : BlsAt w B A n f) (e : ∀ j, j < n → f j = g j) : BlsAt w B A n g := fun hn => by
  obtain ⟨a, e1, hl, hc⟩ := h hn
  exact ⟨a, e1, hl, fun j hj => by rw [hc j hj, e j hj]⟩

/-- the cells of a list of truth values -/
def bL (f : Nat → Bool) : Nat → List Value
  | 0 => []
  | n + 1 => bL f n ++ [.bool (f n)]
theorem bL_len (f : Nat → Bool) : ∀ n, (bL f n).length = n * 1
  | 0 => rfl
  | n + 1 => by rw [bL, List.length_append, bL_len f n]; simp
theorem bL_at (f : Nat → Bool) : ∀ n j, j < n → (bL f n)[j]? = some (.bool (f j))
  | 0, _, h => absurd h (Nat.not_lt_zero _)
  | n + 1, j, h => by
    have hl := bL_len f n
    rw [bL]
    rcases Nat.lt_succ_iff_lt_or_eq.1 h with h' | h'
    · rw [List.getElem?_append_left (by omega)]; exact bL_at f n j h'
    · subst h'
      rw [List.getElem?_append_right (by omega), hl]; simp
theorem bL_one (f : Nat → Bool) : ∀ n, ∀ u ∈ bL f n, u.oneCell' = true
  | 0, _, h => by cases h
  | n + 1, u, h => by
    rw [bL, List.mem_append] at h
    rcases h with h | h
    · exact bL_one f n u h
    · simp at h; subst h; rfl
theorem bL_congr {f g : Nat → Bool} : ∀ n, (∀ j, j < n → f j = g j) → bL f n = bL g n
  | 0, _ => rfl
  | n + 1, h => by rw [bL, bL, bL_congr n (fun j hj => h j (by omega)), h n (by omega)]
theorem bL_app (f g : Nat → Bool) (n : Nat) : ∀ m, bL f n ++ bL g m = bL (fun j => if j < n then f j else g (j - n)) (n + m)
  | 0 => by rw [bL, List.append_nil]; exact bL_congr n fun j hj => (if_pos hj).symm
  | m + 1 => by
    rw [← Nat.add_assoc, bL, bL, ← bL_app f g n m, if_neg (by omega), List.append_assoc]
    have : n + m - n = m := by omega
    rw [this]
theorem BlsAt.src {w : World} {B : Nat} {A : Option Addr} {n k : Nat} {f : Nat → Bool} (h : BlsAt w B A n f) (hn : A = none → n = 0 ∧ k = 0) : Src w A n k (bL f n) := by
  cases A with
  | none => obtain ⟨rfl, rfl⟩ := hn rfl; exact Or.inl ⟨rfl, rfl, rfl, rfl⟩
  | some ad =>
    refine Or.inr ⟨ad, rfl, fun j u hu => ?_⟩
    have hj : j < n * 1 := by rw [← bL_len f n]; exact (List.getElem?_eq_some_iff.1 hu).1
    obtain ⟨a, e, _, hc⟩ := h (by omega)
    obtain rfl : ad = a := by injection e
    rw [hc j (by omega), ← hu, bL_at f n j (by omega)]
/-- what a call owns, as a list -/
theorem own_bools {w : World} {base : Nat} {e : TypeId} {v : Value} {n : Nat} {f : Nat → Bool} (h : w.ownsRow base e 1 v n (bL f n)) : ∃ A k, v = .slice A n k ∧ BlsAt w w.heap.size A n f ∧ ∀ g, v.ownBlock = some g → base ≤ g := by
  refine (?_ : ∃ A k, v = .slice A n k ∧ BlsAt w w.heap.size A n f).imp fun A ⟨k, h1, h2⟩ => ⟨k, h1, h2, own_block h⟩
  rcases h.2 with ⟨rfl, hn⟩ | ⟨g, cap, cur, rfl, hg, hh, r⟩
  · exact ⟨none, 0, by rw [hn], fun h => by omega⟩
  · exact ⟨_, cap, rfl, fun hn => ⟨_, rfl, Has.lt (t := e) (cs := cur) hh, fun j hj => h.cells (g := g) rfl _ _ (bL_at f n j hj)⟩⟩
/-- the same, with where it lies -/
theorem own_bools2 {w : World} {base : Nat} {e : TypeId} {v : Value} {n : Nat} {f : Nat → Bool} (h : w.ownsRow base e 1 v n (bL f n)) : ∃ A k, v = .slice A n k ∧ BlsAt w w.heap.size A n f ∧ (A = none → n = 0 ∧ k = 0) ∧ ∀ a, A = some a → base ≤ a.block := by
  rcases h.2 with ⟨rfl, hn⟩ | ⟨g, cap, cur, rfl, hg, hh, r⟩
  · exact ⟨none, 0, by rw [hn], fun h => by omega, fun _ => ⟨hn, rfl⟩, fun _ h => by cases h⟩
  · exact ⟨_, cap, rfl, fun hn => ⟨_, rfl, Has.lt (t := e) (cs := cur) hh, fun j hj => h.cells (g := g) rfl _ _ (bL_at f n j hj)⟩, (fun h => by cases h), fun a h => by cases h; exact hg⟩
theorem row_bools {w : World} {g : Nat} {t : TypeId} {n : Nat} {f : Nat → Bool} (h : w.rowIs g t n (fun v => .bool (f v))) : BlsAt w w.heap.size (some ⟨g, 0, none⟩) n f := fun _ =>
  ⟨_, rfl, h.lt, fun j hj => by
    have e : (⟨g, 0, none⟩ : Addr).add j = ⟨g, j, none⟩ := by unfold Addr.add; split <;> simp_all
    rw [e]; exact h.cell hj⟩
/-- a block of cells of truth values -/
theorem row_of_list {w : World} {g : Nat} {t : TypeId} {f : Nat → Bool} {n : Nat} (h : w.heap[g]? = some (.cells (bL f n).toArray t (0, 0))) : w.rowIs g t n (fun v => .bool (f v)) :=
  ⟨_, h, by simpa using bL_len f n, fun i hi => by simpa using bL_at f n i hi⟩

section
variable {H : Type} {enc : TypeId × Value → H} {W : World} {base : Nat} {held : Bool}

set_option maxRecDepth 100000 in
/-- a list of truth values, as it comes in -/
theorem open_bl {v : Value} {d : DataW H} {ps : List MemPlace} {r : Reach} {b0 : Nat} (hv : Value.okWide Tryd.prog W r b0 27 v) (h : DataW.Trod enc Tryd.prog W base (fun _ => true) held 27 v d ps) :
    ∃ A n k f, v = .slice A n k ∧ BlsAt W W.heap.size A n f ∧ (A = none → n = 0 ∧ k = 0) ∧ n ≤ k ∧ k ≤ maxLen := by
  obtain ⟨a0, n0, k0, rfl⟩ := okWide_slice Tryd.underlying27 hv
  obtain ⟨fuel, hf⟩ := h
  rcases Deep.open_bools Tryd.underlying27 Tryd.underlying4 (by kernel_rfl) hf with ⟨hv, _⟩ | ⟨a, len, cap, f, hv, _, hl, hml, _, hc⟩
  · have hv' : [Value.slice a0 n0 k0] = [.slice none 0 0] := hv
    injection hv' with hv'
    exact ⟨none, 0, 0, fun _ => false, hv', fun h => absurd h (Nat.not_lt_zero _), fun _ => ⟨rfl, rfl⟩, Nat.le_refl _, Nat.zero_le _⟩
  · have hv' : [Value.slice a0 n0 k0] = [.slice (some a) len cap] := hv
    injection hv' with hv'
    refine ⟨some a, len, cap, f, hv', fun hn => ⟨a, rfl, ?_, fun j hj => hc j (by omega)⟩, (fun h => by cases h), hl, hml⟩
    have := cell_lt (hc 0 (by omega))
    rwa [add_block] at this

end

end Go.Proofs.YtbppdifghkkooaaDoor

namespace Go.Proofs.YtbppdifghkkooaaDoor
open Go.RowKit
set_option linter.unusedVariables false

set_option linter.unusedSimpArgs false

set_option maxHeartbeats 1000000 in
theorem of_yes (A : Option Addr) (n k : Nat) (F : Nat → Bool) (l : Int) (B : Nat) (w : World) (hA : BlsAt w B A n F) (h0 : 0 ≤ l) (h1 : l ≤ 2001) (hn : l / 2 < (n : Int)) :
    Calls Tryd.prog 89 #[.slice A n k, .int .i64 l] w fun e w' => e = .returned (.tuple #[.bool (vlo F l), .int .i64 0]) ∧ w = w' := by
  obtain ⟨a, rfl, hb, hc⟩ := hA (by omega)
  have y := hc (l / 2).toNat (by omega)
  have m0 : 0 ≤ l / 2 := by omega
  have HV : (F (l / 2).toNat != Li.od l) = vlo F l := rfl
  clear hc hA
  go_enter Tryd.func89, Tryd.ntmps89
  go_wp2_with (go_at_call 82; refine (var_yes _ _ (Li.isL_mk h0 h1)).mono ?_; rintro e w1 ⟨rfl, rfl⟩)
  go_ret2
  exact ⟨rfl, rfl⟩

set_option maxHeartbeats 1000000 in
theorem of_no (A : Option Addr) (n k : Nat) (l : Int) (w : World) (h : l < 0 ∨ 2001 < l ∨ (n : Int) ≤ l / 2) :
    Calls Tryd.prog 89 #[.slice A n k, .int .i64 l] w fun e w' => e = .returned (.tuple #[.bool false, .int .i64 2]) ∧ w = w' := by
  cases hl : Li.isL l
  · go_enter Tryd.func89, Tryd.ntmps89
    go_wp2_with (go_at_call 82; refine (var_no _ _ hl).mono ?_; rintro e w1 ⟨rfl, rfl⟩)
    go_ret2
    exact ⟨rfl, rfl⟩
  · have hb := Li.isL_yes hl
    have hn : (n : Int) ≤ l / 2 := by omega
    clear h
    go_enter Tryd.func89, Tryd.ntmps89
    go_wp2_with (go_at_call 82; refine (var_yes _ _ hl).mono ?_; rintro e w1 ⟨rfl, rfl⟩)
    go_ret2
    exact ⟨rfl, rfl⟩

set_option maxHeartbeats 1000000 in
theorem valueOf_any (A : Option Addr) (n k : Nat) (F : Nat → Bool) (l : Int) (B : Nat) (w : World) (hA : BlsAt w B A n F) (h0 : 0 ≤ l) (h1 : l ≤ 2001) (hn : l / 2 < (n : Int)) :
    Calls Tryd.prog 75 #[.slice A n k, .int .i64 l] w fun e w' => e = .returned (.bool (vlo F l)) ∧ w = w' := by
  go_enter Tryd.func75, Tryd.ntmps75
  go_wp2_with (go_at_call 89; refine (of_yes A n k F l B _ hA h0 h1 hn).mono ?_; rintro e w1 ⟨rfl, rfl⟩)
  go_ret
  exact ⟨rfl, rfl⟩

set_option maxHeartbeats 1000000 in
theorem rValue_any (A : Option Addr) (n k : Nat) (F : Nat → Bool) (l : Int) (B : Nat) (w : World) (hA : BlsAt w B A n F) (h0 : 0 ≤ l) (h1 : l ≤ 2001) (hn : l / 2 < (n : Int)) :
    Calls Tryd.prog 38 #[.slice A n k, .int .i64 l] w fun e w' => e = .returned (.bool (vlo F l)) ∧ w = w' := by
  obtain ⟨a, rfl, hb, hc⟩ := hA (by omega)
  have y := hc (l / 2).toNat (by omega)
  have m0 : 0 ≤ l / 2 := by omega
  have HV := Lib.hid (show (F (l / 2).toNat != (l % 2 == 1)) = vlo F l from rfl)
  clear hc hA
  go_enter Tryd.func38, Tryd.ntmps38
  go_wp2
  go_ret
  exact ⟨Li.ret_bool HV.out, rfl⟩

/-- the function isFalse of Props: its box holds the values -/
theorem isFalse_any (A : Option Addr) (n k : Nat) (F : Nat → Bool) (l : Int) (B b : Nat) (w : World) (hA : BlsAt w B A n F) (hb : Has w b 27 #[.slice A n k]) (h0 : 0 ≤ l) (h1 : l ≤ 2001) (hn : l / 2 < (n : Int)) :
    Calls Tryd.prog 76 #[.int .i64 l, .pointer (some ⟨b, 0, none⟩)] w fun e w' => e = .returned (.bool (!vlo F l)) ∧ w = w' := by
  have x := hb.cell 0
  simp only [List.getElem?_toArray, List.getElem?_cons_zero] at x
  clear hb
  go_enter Tryd.func76, Tryd.ntmps76
  go_wp2_with (go_at_call 75; refine (valueOf_any A n k F l B _ hA h0 h1 hn).mono ?_; rintro e w1 ⟨rfl, rfl⟩)
  go_ret
  exact ⟨rfl, rfl⟩

/-- a part of the values: where it starts -/
abbrev partA (g first size : Nat) : Option Addr := some ⟨g, if size = 0 then 0 else first, none⟩
set_option maxRecDepth 100000 in
set_option maxHeartbeats 1000000 in
theorem part_any (g N b first size : Nat) (w : World) (hb : Has w b 27 #[.slice (some ⟨g, 0, none⟩) N N]) (hN : N ≤ 2000) (hf : first + size ≤ N) :
    Calls Tryd.prog 88 #[.int .i64 first, .int .i64 size, .pointer (some ⟨b, 0, none⟩)] w fun e w' => e = .returned (.slice (partA g first size) size size) ∧ w = w' := by
  have x := hb.cell 0
  simp only [List.getElem?_toArray, List.getElem?_cons_zero] at x
  clear hb
  by_cases hs : size = 0
  · subst hs
    go_enter Tryd.func88, Tryd.ntmps88
    go_wp2
    go_ret
    refine ⟨?_, rfl⟩
    simp [partA]
  · have hp : 0 < size := by omega
    have e : partA g first size = some ⟨g, first, none⟩ := by unfold partA; rw [if_neg hs]
    rw [e]
    go_enter Tryd.func88, Tryd.ntmps88
    go_wp2
    go_ret
    refine ⟨?_, rfl⟩
    simp

/-- two lists of truth values that agree -/
def samB (n m : Nat) (f g : Nat → Bool) : Bool := decide (n = m ∧ ∀ j, j < n → f j = g j)
theorem samB_no {n m : Nat} {f g : Nat → Bool} (h : n ≠ m) : samB n m f g = false := decide_eq_false fun h' => h h'.1
theorem samB_no2 {n m k : Nat} {f g : Nat → Bool} (hk : k < n) (h : f k ≠ g k) : samB n m f g = false := decide_eq_false fun h' => h (h'.2 k hk)
theorem samB_yes {n : Nat} {f g : Nat → Bool} (h : ∀ j, j < n → f j = g j) : samB n n f g = true := decide_eq_true ⟨rfl, h⟩

set_option maxRecDepth 100000 in
set_option maxHeartbeats 2000000 in
theorem samBs_any (A A' : Option Addr) (n m k k' : Nat) (f g : Nat → Bool) (B : Nat) (w : World) (hn : n ≤ 100000) (hm : m ≤ 100000) (hA : BlsAt w B A n f) (hA' : BlsAt w B A' m g) :
    Calls Tryd.prog 20 #[.slice A n k, .slice A' m k'] w fun e w' => e = .returned (.bool (samB n m f g)) ∧ Below w.heap.size w w' := by
  by_cases hnm : n = m
  · subst hnm
    go_enter Tryd.func20, Tryd.ntmps20
    go_wp2
    go_loopw [5] (fun i wr => ∃ q : Nat, q ≤ n ∧ i = .int .i64 q ∧ Hid (∀ j, j < q → f j = g j) ∧ ∃ d, wr = w.drewN d) (fun i _ => n - (intOf i).toNat)
    case atStart => exact ⟨0, Nat.zero_le _, rfl, fun j hj => absurd hj (Nat.not_lt_zero _), 0, rfl⟩
    case round =>
      obtain ⟨q, hq, rfl, hL, d, rfl⟩ := hrel
      by_cases hlt : q < n
      · obtain ⟨a, rfl, hb, hc⟩ := hA (by omega)
        obtain ⟨a', rfl, hb', hc'⟩ := hA' (by omega)
        have y := hc q hlt
        have y' := hc' q hlt
        clear hc hc'
        have hb1 : (0 : Int) ≤ (q : Int) := by omega
        have hb2 : (q : Int) < (n : Int) := by omega
        obtain ⟨u, hu⟩ : ∃ u, f q = u := ⟨_, rfl⟩
        obtain ⟨u', hu'⟩ : ∃ u', g q = u' := ⟨_, rfl⟩
        rw [hu] at y
        rw [hu'] at y'
        have HU := Lib.hid hu
        have HU' := Lib.hid hu'
        clear hu hu'
        by_cases he : u = u'
        · subst he
          have h1 : (u != u) = false := by simp
          go_wp2
          go_quiet (fail)
          go_wp2
          go_roundw
          case rel => exact ⟨q + 1, by omega, by go_num, fun j hj => by
            rcases Nat.lt_succ_iff_lt_or_eq.1 hj with h' | h'
            · exact hL.out j h'
            · subst h'; rw [HU.out, HU'.out], _, rfl⟩
          case measure => simp [intOf]; omega
        · have h1 : (u != u') = true := by simp [he]
          have HR := Lib.hid (Li.ret_bool (samB_no2 (f := f) (g := g) (m := n) hlt (by rw [HU.out, HU'.out]; exact he)))
          cases u <;> cases u' <;> simp at he
          all_goals
            go_wp2
            go_quiet (fail)
            go_wp2
            go_ret
            exact ⟨HR.out.symm, below_dn (below_dn (Below.refl _ _) _) _⟩
      · obtain rfl : q = n := by omega
        have HR := Lib.hid (Li.ret_bool (samB_yes hL.out))
        clear hq hlt
        go_wp2
        go_ret
        exact ⟨HR.out.symm, below_dn (Below.refl _ _) _⟩
  · have HR := Lib.hid (Li.ret_bool (samB_no (f := f) (g := g) hnm))
    have h1 : ((n : Int) != (m : Int)) = true := by simp; omega
    go_enter Tryd.func20, Tryd.ntmps20
    go_wp2
    go_ret
    exact ⟨HR.out.symm, by go_grown⟩

end Go.Proofs.YtbppdifghkkooaaDoor

namespace Go.Proofs.YtbppdifghkkooaaDoor
open Go.RowKit
set_option linter.unusedVariables false

set_option linter.unusedSimpArgs false

namespace Cr
/-- the error of a circuit, a state and inputs -/
def ask (c : Cr) (ns ni : Nat) : Int := if c.chk ≠ 0 then c.chk else if ns ≠ c.nl ∨ (ni : Int) ≠ c.i then 2 else 0
theorem ask_bad {c : Cr} {ns ni : Nat} (h : c.chk ≠ 0) : c.ask ns ni = c.chk := if_pos h
theorem ask_arg {c : Cr} {ns ni : Nat} (h : c.chk = 0) (h1 : ns ≠ c.nl ∨ (ni : Int) ≠ c.i) : c.ask ns ni = 2 := by unfold ask; rw [if_neg (by omega), if_pos h1]
theorem ask_ok {c : Cr} {ns ni : Nat} (h : c.chk = 0) (h1 : ns = c.nl) (h2 : (ni : Int) = c.i) : c.ask ns ni = 0 := by unfold ask; rw [if_neg (by omega), if_neg (by omega)]
theorem ask_zero {c : Cr} {ns ni : Nat} (h : c.ask ns ni = 0) : c.chk = 0 ∧ ns = c.nl ∧ (ni : Int) = c.i := by
  unfold ask at h
  split at h
  · omega
  · split at h
    · omega
    · omega
/-- the three ways of it -/
theorem ask_ways (c : Cr) (ns ni : Nat) : (c.chk ≠ 0 ∧ c.ask ns ni = c.chk) ∨ (c.chk = 0 ∧ ns ≠ c.nl ∧ c.ask ns ni = 2) ∨ (c.chk = 0 ∧ ns = c.nl ∧ (ni : Int) ≠ c.i ∧ c.ask ns ni = 2) ∨ (c.chk = 0 ∧ ns = c.nl ∧ (ni : Int) = c.i ∧ c.ask ns ni = 0) := by
  by_cases h : c.chk = 0
  · by_cases h1 : ns = c.nl
    · by_cases h2 : (ni : Int) = c.i
      · exact Or.inr (Or.inr (Or.inr ⟨h, h1, h2, ask_ok h h1 h2⟩))
      · exact Or.inr (Or.inr (Or.inl ⟨h, h1, h2, ask_arg h (Or.inr h2)⟩))
    · exact Or.inr (Or.inl ⟨h, h1, ask_arg h (Or.inl h1)⟩)
  · exact Or.inl ⟨h, ask_bad h⟩
theorem frA_first {c : Cr} {s t : Nat → Bool} {ni ns : Nat} (hi : (ni : Int) = c.i) (hs : ns = c.nl) : [Value.bool false] ++ bL t ni ++ bL s ns = bL (c.frA s t 0) (c.fg + 0) := by
  have e1 : [Value.bool false] = bL (fun _ => false) 1 := rfl
  have e2 : c.fg + 0 = 1 + ni + ns := by unfold fg; omega
  rw [e1, bL_app, bL_app, e2]
  refine bL_congr _ fun j hj => ?_
  have e3 : c.i.toNat = ni := by omega
  unfold frA
  rw [e3]
  by_cases h0 : j = 0
  · subst h0; simp
  · rw [if_neg h0]
    by_cases h1 : j < 1 + ni
    · rw [if_pos h1, if_pos h1, if_neg (by omega)]
    · rw [if_neg h1, if_neg h1, if_pos (by unfold fg; omega)]
theorem frA_next (c : Cr) (s t : Nat → Bool) (q : Nat) : bL (c.frA s t (q + 1)) (c.fg + (q + 1)) = bL (c.frA s t q) (c.fg + q) ++ [.bool (vlo (c.frA s t q) (c.ga q) && vlo (c.frA s t q) (c.gb q))] := by
  rw [← Nat.add_assoc, bL]
  congr 1
  · exact bL_congr _ fun j hj => by rw [frA_succ]; exact if_neg (by omega)
  · rw [frA_succ]; simp

end Cr

/-- a list of truth values in memory of the call's own -/
def BoolsIs (n : Nat) (f : Nat → Bool) (w : World) (e : Ending) (w' : World) : Prop :=
  ∃ v, e = .returned v ∧ w'.ownsRow w.heap.size 4 1 v n (bL f n) ∧ Below w.heap.size w w'
/-- a list of truth values somewhere -/
def BoolsAt (n : Nat) (f : Nat → Bool) (w : World) (e : Ending) (w' : World) : Prop :=
  ∃ A k, e = .returned (.slice A n k) ∧ BlsAt w' w'.heap.size A n f ∧ Below w.heap.size w w'
theorem BoolsIs.at {n : Nat} {f : Nat → Bool} {w w' : World} {e : Ending} (h : BoolsIs n f w e w') : BoolsAt n f w e w' := by
  obtain ⟨v, rfl, ho, hb⟩ := h
  obtain ⟨A, k, rfl, hi, _⟩ := own_bools ho
  exact ⟨A, k, rfl, hi, hb⟩
/-- the same with an error behind it -/
def BoolsErr (n : Nat) (f : Nat → Bool) (x : Int) (w : World) (e : Ending) (w' : World) : Prop :=
  ∃ A k, e = .returned (.tuple #[.slice A n k, .int .i64 x]) ∧ BlsAt w' w'.heap.size A n f ∧ Below w.heap.size w w'
/-- the same, in memory that was not there before -/
def BoolsNew (n : Nat) (f : Nat → Bool) (x : Int) (w : World) (e : Ending) (w' : World) : Prop :=
  ∃ A k, e = .returned (.tuple #[.slice A n k, .int .i64 x]) ∧ BlsAt w' w'.heap.size A n f ∧ Below w.heap.size w w' ∧ (A = none → n = 0 ∧ k = 0) ∧ ∀ a, A = some a → w.heap.size ≤ a.block
theorem BoolsNew.err {n : Nat} {f : Nat → Bool} {x : Int} {w w' : World} {e : Ending} (h : BoolsNew n f x w e w') : BoolsErr n f x w e w' := by
  obtain ⟨A, k, he, hi, hb, _⟩ := h
  exact ⟨A, k, he, hi, hb⟩
/-- a list of truth values in memory that was not there before -/
def BoolsIn (n : Nat) (f : Nat → Bool) (w : World) (e : Ending) (w' : World) : Prop :=
  ∃ A k, e = .returned (.slice A n k) ∧ BlsAt w' w'.heap.size A n f ∧ Below w.heap.size w w' ∧ (A = none → n = 0 ∧ k = 0) ∧ ∀ a, A = some a → w.heap.size ≤ a.block
theorem BoolsIn.at {n : Nat} {f : Nat → Bool} {w w' : World} {e : Ending} (h : BoolsIn n f w e w') : BoolsAt n f w e w' := by
  obtain ⟨A, k, he, hi, hb, _⟩ := h
  exact ⟨A, k, he, hi, hb⟩
theorem own_new1 (W : World) (x : Value) (t : TypeId) (base : Nat) (h : base ≤ W.heap.size) : (W.alloc (.cells #[x] t)).ownsRow base t 1 (.slice (some ⟨W.heap.size, 0, none⟩) 1 1) 1 [x] :=
  ⟨by simp, Or.inr ⟨W.heap.size, 1, #[x], rfl, h, heap_alloc_new W _, Nat.le_refl _, by simp [maxLen], by simp, by simp⟩⟩

set_option maxRecDepth 100000 in
set_option maxHeartbeats 4000000 in
theorem rFrame_any (c : Cr) (p : Pl) (As At : Option Addr) (ns ks ni ki : Nat) (s t : Nat → Bool) (w : World) (hm : Mem w w.heap.size c p) (hs : Sm c) (hS : BlsAt w w.heap.size As ns s) (hT : BlsAt w w.heap.size At ni t) (nS : As = none → ns = 0 ∧ ks = 0) (nT : At = none → ni = 0 ∧ ki = 0)
    (hk : c.ask ns ni = 0) : Calls Tryd.prog 36 #[cv c p, .slice As ns ks, .slice At ni ki] w (BoolsIs (c.fg + c.na) (c.fr s t) w) := by
  obtain ⟨hc, hns, hni⟩ := Cr.ask_zero hk
  have g1 := hs.nl
  have g2 := hs.na
  have hb := Cr.chk_i (c := c) (by simpa using hc) hs
  obtain ⟨i0, hi0, hzz0, hs0, hy0⟩ := info_parts info_bool
  have hbox2 : Has ((w.alloc (.cells (cc c p) 26)).alloc (.cells #[.bool false] 4)) w.heap.size 26 (cc c p) := (Has.new _ _ _).al _
  have hBox2 : Below w.heap.size w ((w.alloc (.cells (cc c p) 26)).alloc (.cells #[.bool false] 4)) := by go_grown
  have hown1 : ((w.alloc (.cells (cc c p) 26)).alloc (.cells #[.bool false] 4)).ownsRow (w.heap.size + 1) 4 1 (.slice (some ⟨w.heap.size + 1, 0, none⟩) 1 1) 1 [.bool false] := by
    have := own_new1 (w.alloc (.cells (cc c p) 26)) (.bool false) 4 (w.heap.size + 1) (by simp)
    rwa [World.size_alloc] at this
  have hfirst := Lib.hid (Cr.frA_first (s := s) (t := t) hni hns)
  have hfg : c.fg ≤ 1001 ∧ c.fg + c.na ≤ 2001 ∧ 1 + ni + ns = c.fg + 0 := by have : c.sz = c.i + c.nl + c.na := rfl; unfold Cr.fg; omega
  have HC := Lib.hid hc
  have HN := Lib.hid hns
  have HI := Lib.hid hni
  have hns1 : ns ≤ 1000 := by omega
  have hni1 : ni ≤ 1000 := by omega
  clear hc hns hni hk
  go_enter Tryd.func36, Tryd.ntmps36
  go_wp2_with (first
    | (at_builtin
       (refine append_more rfl (.tmp 9) (.tmp 10) _ rfl (w.heap.size + 1) 4 i0 _ 1 1 Tryd.underlying27 hi0 hzz0 hs0 hy0 rfl (by decide) _ 1 [.bool false] rfl hown1 At ni ki (bL t ni) rfl (bL_len _ _) ((hT.keep hBox2).src nT) (bL_one _ _) (by simp only [maxLen]; omega) (by omega) (by go_size) ?_)
       intro v1 w1 ho1 hg1
       have hH1 : Has w1 w.heap.size 26 (cc c p) := app_has0 hbox2 hown1 hg1 (by omega)
       have hB1 : Below w.heap.size w w1 := app_below0 hBox2 hBox2.size (by omega) hown1 hg1
       have hz1 := hH1.lt)
    | (at_builtin
       (refine append_more rfl (.tmp 12) (.tmp 13) _ rfl (w.heap.size + 1) 4 i0 _ 1 1 Tryd.underlying27 hi0 hzz0 hs0 hy0 rfl (by decide) v1 (1 + ni) ([.bool false] ++ bL t ni) rfl ho1 As ns ks (bL s ns) rfl (bL_len _ _) ((hS.keep hB1).src nS) (bL_one _ _) (by simp only [maxLen]; omega) (by omega) (by omega) ?_)
       intro v2 w2 ho2 hg2
       have hH2 : Has w2 w.heap.size 26 (cc c p) := app_has0 hH1 ho1 hg2 (by omega)
       have hB2 : Below w.heap.size w w2 := app_below0 hB1 hB1.size (by omega) ho1 hg2))
  clear hg1 hg2 hbox2 hBox2 hown1
  rw [hfirst.out] at ho2
  rw [hfg.2.2] at ho2
  have hsz1 : w.heap.size < w2.heap.size := hH2.lt
  go_loopw [7, 8] (fun v i wr => ∃ q : Nat, q ≤ c.na ∧ i = .int .i64 q ∧ wr.ownsRow (w.heap.size + 1) 4 1 v (c.fg + q) (bL (c.frA s t q) (c.fg + q)) ∧ Has wr w.heap.size 26 (cc c p) ∧ Below w.heap.size w wr) (fun _ i _ => c.na - (intOf i).toNat)
  case atStart => exact ⟨0, Nat.zero_le _, rfl, ho2, hH2, hB2⟩
  case round =>
    clear ho1 ho2 hH1 hH2 hB1 hB2
    obtain ⟨q, hq, rfl, hown, hHr, hBr⟩ := hrel
    obtain ⟨x0, x1, x2, x3, x4⟩ := hHr.box
    by_cases hlt : q < c.na
    · obtain ⟨k1, k2, k3, k4, k5⟩ := Cr.gate_ok HC.out hlt
      obtain ⟨a, hA, hab, hcs⟩ := (hm.an.keep hBr) (by omega)
      obtain ⟨y0, y1⟩ := hcs q hlt
      rw [hA] at x2
      clear hcs hA
      obtain ⟨A, k, rfl, hi, _⟩ := own_bools hown
      have HX := Lib.hid (Cr.frA_next c s t q)
      have efg : (c.fg : Int) = 1 + c.i + c.nl := by unfold Cr.fg; omega
      have b1 : c.ga q / 2 < ((c.fg + q : Nat) : Int) := by omega
      have b2 : c.gb q / 2 < ((c.fg + q : Nat) : Int) := by omega
      have b3 : c.ga q ≤ 2001 := by omega
      have b4 : c.gb q ≤ 2001 := by omega
      have b5 : 0 ≤ c.ga q := by omega
      have hq0 : (q : Int) < c.na := by omega
      clear efg
      cases hv : vlo (c.frA s t q) (c.ga q)
      all_goals
        have HX2 := HX.out
        rw [hv] at HX2
        have HX3 := Lib.hid HX2
        have HV := Lib.hid hv
        clear HX2 HX hv
        go_wp2_with (first
          | (go_at_call 38; (with_reducible refine (rValue_any A (c.fg + q) k (c.frA s t q) (c.ga q) wr.heap.size wr hi b5 b3 b1).mono ?_); rw [HV.out]; rintro e w3 ⟨rfl, rfl⟩)
          | (go_at_call 38; (with_reducible refine (rValue_any A (c.fg + q) k (c.frA s t q) (c.gb q) wr.heap.size wr hi k1 b4 b2).mono ?_); rintro e w3 ⟨rfl, rfl⟩)
          | (at_builtin; refine wpList_append_own _ rfl _ _ 27 rfl (w.heap.size + 1) 4 i0 (.bool false) 1 1 Tryd.underlying27 hi0 hzz0 hs0 hy0 rfl (by decide) _ _ _ rfl (hown.alloc _) ⟨wr.heap.size, 0, none⟩ 1 1 [_] rfl rfl (cell_one_new _ _ _) (by simp [Value.oneCell']) (by simp only [maxLen]; omega) (by omega) (by have := hHr.lt; simp; omega) ?_; intro v' w8 hown' hgrow _))
        go_roundw
        case rel => exact ⟨q + 1, by omega, by go_num, by rw [HX3.out]; simpa [Nat.add_assoc] using hown', app_has hHr hown hgrow (by omega), app_below hBr hBr.size (by omega) hown hgrow⟩
        case measure => simp [intOf]; omega
    · obtain rfl : q = c.na := by omega
      clear hq hlt
      go_wp2
      go_ret
      exact ⟨_, rfl, own_base hown (by omega), hBr⟩

end Go.Proofs.YtbppdifghkkooaaDoor
