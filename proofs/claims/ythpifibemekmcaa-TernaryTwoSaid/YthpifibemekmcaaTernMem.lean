/- Lists of bytes (ternary bytes) in memory. -/
import Derived.Test.YthpifibemekmcaaTernMath
import Derived.Test.YthpifibemekmcaaValuesMem
namespace Go.Proofs.Ythpifibemekmcaa
open Go.RowKit Go.ChangeShapes Go.WideShapes Go.ChangeAt
set_option linter.unusedVariables false
set_option linter.unusedSimpArgs false

/-- the bytes of a list -/
def TrAt (w : World) (B : Nat) (A : Option Addr) (n : Nat) (f : Nat → Int) : Prop :=
  0 < n → ∃ a, A = some a ∧ a.block < B ∧ ∀ j, j < n → w.cell? (a.add j) = some (.int .u8 (f j))
theorem TrAt.keep {w w' : World} {B : Nat} {A : Option Addr} {n : Nat} {f : Nat → Int} (h : TrAt w B A n f) (hb : Below B w w') : TrAt w' B A n f := fun hn => by
  obtain ⟨a, e, hl, hc⟩ := h hn
  exact ⟨a, e, hl, fun j hj => (hb.cell (by rw [add_block]; exact hl)).trans (hc j hj)⟩
theorem TrAt.more {w : World} {B B' : Nat} {A : Option Addr} {n : Nat} {f : Nat → Int} (h : TrAt w B A n f) (hb : B ≤ B') : TrAt w B' A n f := fun hn => by
  obtain ⟨a, e, hl, hc⟩ := h hn
  exact ⟨a, e, by omega, hc⟩
theorem TrAt.to {w W : World} {B : Nat} {A : Option Addr} {n : Nat} {f : Nat → Int} (h : TrAt w B A n f) (hb : Below B w W) (hB : B ≤ W.heap.size) : TrAt W W.heap.size A n f := (h.keep hb).more hB
theorem TrAt.congr {w : World} {B : Nat} {A : Option Addr} {n : Nat} {f g : Nat → Int} (h : TrAt w B A n f) (e : ∀ j, j < n → f j = g j) : TrAt w B A n g := fun hn => by
  obtain ⟨a, e1, hl, hc⟩ := h hn
  exact ⟨a, e1, hl, fun j hj => by rw [hc j hj, e j hj]⟩

/-- the cells of a list of bytes -/
def tL (f : Nat → Int) : Nat → List Value
  | 0 => []
  | n + 1 => tL f n ++ [.int .u8 (f n)]
theorem tL_len (f : Nat → Int) : ∀ n, (tL f n).length = n * 1
  | 0 => rfl
  | n + 1 => by rw [tL, List.length_append, tL_len f n]; simp
theorem tL_at (f : Nat → Int) : ∀ n j, j < n → (tL f n)[j]? = some (.int .u8 (f j))
  | 0, _, h => absurd h (Nat.not_lt_zero _)
  | n + 1, j, h => by
    have hl := tL_len f n
    rw [tL]
    rcases Nat.lt_succ_iff_lt_or_eq.1 h with h' | h'
    · rw [List.getElem?_append_left (by omega)]; exact tL_at f n j h'
    · subst h'
      rw [List.getElem?_append_right (by omega), hl]; simp
theorem tL_one (f : Nat → Int) : ∀ n, ∀ u ∈ tL f n, u.oneCell' = true
  | 0, _, h => by cases h
  | n + 1, u, h => by
    rw [tL, List.mem_append] at h
    rcases h with h | h
    · exact tL_one f n u h
    · simp at h; subst h; rfl
theorem tL_congr {f g : Nat → Int} : ∀ n, (∀ j, j < n → f j = g j) → tL f n = tL g n
  | 0, _ => rfl
  | n + 1, h => by rw [tL, tL, tL_congr n (fun j hj => h j (by omega)), h n (by omega)]
theorem tL_app (f g : Nat → Int) (n : Nat) : ∀ m, tL f n ++ tL g m = tL (fun j => if j < n then f j else g (j - n)) (n + m)
  | 0 => by rw [tL, List.append_nil]; exact tL_congr n fun j hj => (if_pos hj).symm
  | m + 1 => by
    rw [← Nat.add_assoc, tL, tL, ← tL_app f g n m, if_neg (by omega), List.append_assoc]
    have : n + m - n = m := by omega
    rw [this]
theorem TrAt.src {w : World} {B : Nat} {A : Option Addr} {n k : Nat} {f : Nat → Int} (h : TrAt w B A n f) (hn : A = none → n = 0 ∧ k = 0) : Src w A n k (tL f n) := by
  cases A with
  | none => obtain ⟨rfl, rfl⟩ := hn rfl; exact Or.inl ⟨rfl, rfl, rfl, rfl⟩
  | some ad =>
    refine Or.inr ⟨ad, rfl, fun j u hu => ?_⟩
    have hj : j < n * 1 := by rw [← tL_len f n]; exact (List.getElem?_eq_some_iff.1 hu).1
    obtain ⟨a, e, _, hc⟩ := h (by omega)
    obtain rfl : ad = a := by injection e
    rw [hc j (by omega), ← hu, tL_at f n j (by omega)]
/-- what a call owns, as a list -/
theorem own_trs {w : World} {base : Nat} {e : TypeId} {v : Value} {n : Nat} {f : Nat → Int} (h : w.ownsRow base e 1 v n (tL f n)) : ∃ A k, v = .slice A n k ∧ TrAt w w.heap.size A n f ∧ ∀ g, v.ownBlock = some g → base ≤ g := by
  refine (?_ : ∃ A k, v = .slice A n k ∧ TrAt w w.heap.size A n f).imp fun A ⟨k, h1, h2⟩ => ⟨k, h1, h2, own_block h⟩
  rcases h.2 with ⟨rfl, hn⟩ | ⟨g, cap, cur, rfl, hg, hh, r⟩
  · exact ⟨none, 0, by rw [hn], fun h => by omega⟩
  · exact ⟨_, cap, rfl, fun hn => ⟨_, rfl, Has.lt (t := e) (cs := cur) hh, fun j hj => h.cells (g := g) rfl _ _ (tL_at f n j hj)⟩⟩
theorem row_trs {w : World} {g : Nat} {t : TypeId} {n : Nat} {f : Nat → Int} (h : w.rowIs g t n (fun v => .int .u8 (f v))) : TrAt w w.heap.size (some ⟨g, 0, none⟩) n f := fun _ =>
  ⟨_, rfl, h.lt, fun j hj => by
    have e : (⟨g, 0, none⟩ : Addr).add j = ⟨g, j, none⟩ := by unfold Addr.add; split <;> simp_all
    rw [e]; exact h.cell hj⟩
/-- a block of cells of bytes -/
theorem row_of_tlist {w : World} {g : Nat} {t : TypeId} {f : Nat → Int} {n : Nat} (h : w.heap[g]? = some (.cells (tL f n).toArray t (0, 0))) : w.rowIs g t n (fun v => .int .u8 (f v)) :=
  ⟨_, h, by simpa using tL_len f n, fun i hi => by simpa using tL_at f n i hi⟩

section
variable {H : Type} {enc : TypeId × Value → H} {W : World} {base : Nat} {held : Bool}
set_option maxRecDepth 100000 in
/-- a list of bytes, as it comes in -/
theorem open_tr {v : Value} {d : DataW H} {ps : List MemPlace} {r : Reach} {b0 : Nat} (hv : Value.okWide Try.prog W r b0 29 v) (h : DataW.Trod enc Try.prog W base (fun _ => true) held 29 v d ps) :
    ∃ A n k f, v = .slice A n k ∧ TrAt W W.heap.size A n f ∧ (A = none → n = 0 ∧ k = 0) ∧ (n ≤ k ∧ k ≤ maxLen) ∧ ∀ j, j < n → 0 ≤ f j ∧ f j ≤ 255 := by
  obtain ⟨a0, n0, k0, rfl⟩ := okWide_slice Try.underlying29 hv
  obtain ⟨fuel, hf⟩ := h
  rcases ChangeShapes.open_ints Try.underlying29 Try.underlying5 (by kernel_rfl) hf with ⟨hv, _⟩ | ⟨a, len, cap, zs, hv, _, hl, hml, hzl, _, hc, hw⟩
  · have hv' : [Value.slice a0 n0 k0] = [.slice none 0 0] := hv
    injection hv' with hv'
    exact ⟨none, 0, 0, fun _ => 0, hv', fun h => absurd h (Nat.not_lt_zero _), fun _ => ⟨rfl, rfl⟩, ⟨Nat.le_refl _, Nat.zero_le _⟩, fun j hj => absurd hj (Nat.not_lt_zero _)⟩
  · have hv' : [Value.slice a0 n0 k0] = [.slice (some a) len cap] := hv
    injection hv' with hv'
    have hz : zs.length = cap := hzl.trans (if_pos rfl)
    refine ⟨some a, len, cap, fun j => zs.getD j 0, hv', fun hn => ⟨a, rfl, ?_, fun j hj => hc j (by omega)⟩, (fun h => by cases h), ⟨hl, hml⟩, fun j hj => ?_⟩
    · have := cell_lt (hc 0 (by omega))
      rwa [add_block] at this
    · have hm : zs.getD j 0 ∈ zs := by
        rw [List.getD_eq_getElem?_getD, List.getElem?_eq_getElem (by omega)]
        exact List.getElem_mem _
      have := hw _ hm
      have h2 : 0 ≤ zs.getD j 0 ∧ zs.getD j 0 ≤ 255 := by simpa [Lit.wf, IntKind.min, IntKind.max, IntKind.signed, IntKind.bits] using this
      exact h2
set_option maxRecDepth 100000 in
/-- a byte, as it comes in -/
theorem open_u8 {v : Value} {d : DataW H} {ps : List MemPlace} {r : Reach} {b0 : Nat} (hv : Value.okWide Try.prog W r b0 5 v) (h : DataW.Trod enc Try.prog W base (fun _ => true) held 5 v d ps) :
    ∃ a, v = .int .u8 a ∧ d = .lit (.int .u8 a) ∧ ps = [] ∧ (Lit.int .u8 a).wf = true := open_int Try.underlying5 hv h
end
end Go.Proofs.Ythpifibemekmcaa
