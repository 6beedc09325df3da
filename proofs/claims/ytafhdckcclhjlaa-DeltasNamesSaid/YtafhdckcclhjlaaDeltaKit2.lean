/- Pack, Unpack, Write for all arguments; parts of a list of gates. -/
import Derived.Test.YtafhdckcclhjlaaDeltaKit
namespace Go.Proofs.Ytafhdckcclhjlaa
open Go Go.RowKit
set_option linter.unusedVariables false
set_option linter.unusedSimpArgs false

theorem pkE_no {v : Int} {f g : Nat → Int} {n : Nat} (h : asd v n ≠ 0) : pkE v f g n = asd v n ∧ pkL v f g n = [] := by
  have e : pkE v f g n = asd v n := by unfold pkE; rw [if_pos h]
  exact ⟨e, by unfold pkL; rw [e, if_neg h]⟩
theorem dPack_any {v : Int} (hv : I64 v) (A : Option Addr) (n k : Nat) (f g : Nat → Int) (w : World) (h : Gts w w.heap.size A n k f g) (hn : n ≤ 100000) : Calls Try.prog 13 #[.int .i64 v, .slice A n k] w (ByErr (pkL v f g n) (pkE v f g n) w) := by
  by_cases hE : asd v n = 0
  · exact dPack_yes A n k f g w h hE
  · obtain ⟨e1, e2⟩ := pkE_no (f := f) (g := g) hE
    rw [e1, e2]
    refine (dPack_no hv A n k w hn hE).mono fun e w' => ?_
    rintro ⟨rfl, rfl⟩
    exact ByErr.no (Below.refl _ _)
theorem rPack_any {v : Int} (hv : I64 v) (A : Option Addr) (n k : Nat) (f g : Nat → Int) (w : World) (h : Gts w w.heap.size A n k f g) (hn : n ≤ 100000) : Calls Try.prog 20 #[.int .i64 v, .slice A n k] w (ByErr (pkL v f g n) (pkE v f g n) w) := by
  by_cases hE : asd v n = 0
  · exact rPack_yes A n k f g w h hE
  · obtain ⟨e1, e2⟩ := pkE_no (f := f) (g := g) hE
    rw [e1, e2]
    refine (rPack_no hv A n k w hn hE).mono fun e w' => ?_
    rintro ⟨rfl, rfl⟩
    exact ByErr.no (Below.refl _ _)
theorem dUnpack_any {v n : Int} (hv : I64 v) (hn : I64 n) (A : Option Addr) (l : List UInt8) (k : Nat) (w : World) (h : Bya w w.heap.size A l k) (hl : l.length ≤ 100000) : Calls Try.prog 14 #[.int .i64 v, .int .i64 n, .slice A l.length k] w (GsErr v n l w) := by
  by_cases hE : asd v n = 0
  · have := asd_ways v n
    obtain ⟨N, rfl⟩ : ∃ N : Nat, n = N := ⟨n.toNat, by omega⟩
    exact dUnpack_yes A l k w h hl hE
  · exact dUnpack_no hv hn A l k w hE
theorem rUnpack_any {v n : Int} (hv : I64 v) (hn : I64 n) (A : Option Addr) (l : List UInt8) (k : Nat) (w : World) (h : Bya w w.heap.size A l k) (hl : l.length ≤ 100000) : Calls Try.prog 21 #[.int .i64 v, .int .i64 n, .slice A l.length k] w (GsErr v n l w) := by
  by_cases hE : asd v n = 0
  · have := asd_ways v n
    obtain ⟨N, rfl⟩ : ∃ N : Nat, n = N := ⟨n.toNat, by omega⟩
    exact rUnpack_yes A l k w h hl hE
  · exact rUnpack_no hv hn A l k w hE
theorem unN_le {v n : Int} {l : List UInt8} : unN v n l ≤ 1000 := by
  by_cases hE : unE v n l = 0
  · unfold unN; rw [if_pos hE]
    have ha := asd_ways v n
    unfold unE at hE
    by_cases h0 : asd v n = 0
    · omega
    · rw [if_pos h0] at hE; exact absurd hE h0
  · unfold unN; rw [if_neg hE]; omega
/-- what Write returns -/
def wrE (n : Int) : Int := if n < 0 ∨ 2147483647 < n then 2 else 0
def wrL (n : Int) : List UInt8 := if n < 0 ∨ 2147483647 < n then [] else bts n.toNat
theorem wr_ways (n : Int) : ((n < 0 ∨ 2147483647 < n) ∧ wrE n = 2 ∧ wrL n = []) ∨ (0 ≤ n ∧ n ≤ 2147483647 ∧ wrE n = 0 ∧ wrL n = bts n.toNat) := by
  unfold wrE wrL
  by_cases h : n < 0 ∨ 2147483647 < n
  · exact Or.inl ⟨h, if_pos h, if_pos h⟩
  · exact Or.inr ⟨by omega, by omega, if_neg h, if_neg h⟩
theorem dWrite_any (n : Int) (w : World) : Calls Try.prog 12 #[.int .i64 n] w (ByErr (wrL n) (wrE n) w) := by
  rcases wr_ways n with ⟨h, e1, e2⟩ | ⟨h1, h2, e1, e2⟩ <;> rw [e1, e2]
  · refine (dWrite_no n w h).mono fun e w' => ?_
    rintro ⟨rfl, rfl⟩
    exact ByErr.no (Below.refl _ _)
  · obtain ⟨N, rfl⟩ : ∃ N : Nat, n = N := ⟨n.toNat, by omega⟩
    exact dWrite_yes N w (by omega)
theorem rWrite_any (n : Int) (w : World) : Calls Try.prog 17 #[.int .i64 n] w (ByErr (wrL n) (wrE n) w) := by
  rcases wr_ways n with ⟨h, e1, e2⟩ | ⟨h1, h2, e1, e2⟩ <;> rw [e1, e2]
  · refine (rWrite_no n w h).mono fun e w' => ?_
    rintro ⟨rfl, rfl⟩
    exact ByErr.no (Below.refl _ _)
  · obtain ⟨N, rfl⟩ : ∃ N : Nat, n = N := ⟨n.toNat, by omega⟩
    exact rWrite_yes N w (by omega)
theorem sl_and : ∀ W : World, (Go.sizeOf 29).run Try.prog W = .ok 2 W := fun W => by go_simp
/-- the gates from one on -/
theorem Gts.from {w : World} {B n k : Nat} {A : Option Addr} {f g : Nat → Int} (h : Gts w B A n k f g) (hk : n ≤ k) (i : Nat) (hi : i ≤ n) : ∃ A' k', (∀ W, (Instr.sliceAt 30 (.slice A n k) (some (.int .i64 (i : Int))) none none).run Try.prog W = .ok (.slice A' (n - i) k') W) ∧ Gts w B A' (n - i) k' (fun j => f (i + j)) (fun j => g (i + j)) := by
  have ht : Try.prog.underlying 30 = some (.slice (Try.prog.elem 30)) := by simp [Program.elem, Try.underlying30]
  have he : Try.prog.elem 30 = 29 := by simp [Program.elem, Try.underlying30]
  refine ⟨if k = i then A else A.map (·.add (i * 2)), k - i, fun W => ?_, ?_⟩
  · rw [run_sliceAt_slice _ _ _ _ _ _ ht, run_slice_l W _ _ _ _ ht .i64 _ (by omega) (by omega), he, sl_and W]
    simp [Result.andThen, sliced]
  · refine ⟨fun hn => ?_, fun hn => ?_, fun j => h.f _, fun j => h.g _⟩
    · obtain ⟨a, e, hl, hc⟩ := h.h (by omega)
      have hne : ¬ k = i := by omega
      refine ⟨a.add (i * 2), by rw [if_neg hne, e]; rfl, by rw [add_block]; exact hl, fun j hj => ?_⟩
      rw [add_add, show i * 2 + j * 2 = (i + j) * 2 by omega]
      exact hc (i + j) (by omega)
    · by_cases hki : k = i
      · rw [if_pos hki] at hn
        obtain ⟨h1, h2⟩ := h.n hn
        exact ⟨by omega, by omega⟩
      · rw [if_neg hki] at hn
        have : A = none := by cases A with
          | none => rfl
          | some a => cases hn
        obtain ⟨h1, h2⟩ := h.n this
        exact ⟨by omega, by omega⟩
/-- the gates ahead of one -/
theorem Gts.upto {w : World} {B n k : Nat} {A : Option Addr} {f g : Nat → Int} (h : Gts w B A n k f g) (hk : n ≤ k) (i : Nat) (hi : i ≤ n) : ∃ A', (∀ W, (Instr.sliceAt 30 (.slice A n k) none (some (.int .i64 (i : Int))) none).run Try.prog W = .ok (.slice A' i k) W) ∧ Gts w B A' i k f g := by
  have ht : Try.prog.underlying 30 = some (.slice (Try.prog.elem 30)) := by simp [Program.elem, Try.underlying30]
  have he : Try.prog.elem 30 = 29 := by simp [Program.elem, Try.underlying30]
  refine ⟨if k = 0 then A else A.map (·.add (0 * 2)), fun W => ?_, ?_⟩
  · rw [run_sliceAt_slice _ _ _ _ _ _ ht, run_slice_h W _ _ _ _ ht .i64 _ (by omega) (by omega), he, sl_and W]
    simp [Result.andThen, sliced]
  · have hA : (if k = 0 then A else A.map (·.add (0 * 2))) = A := by
      by_cases hk0 : k = 0
      · rw [if_pos hk0]
      · rw [if_neg hk0]
        cases A with
        | none => rfl
        | some a => simp [Addr.add]
    rw [hA]
    refine ⟨fun hn => ?_, fun hn => ?_, h.f, h.g⟩
    · obtain ⟨a, e, hl, hc⟩ := h.h (by omega)
      exact ⟨a, e, hl, fun j hj => hc j (by omega)⟩
    · obtain ⟨h1, h2⟩ := h.n hn
      exact ⟨by omega, h2⟩
/-- what Pack, Write return, kept: its bytes as a string later on -/
theorem Bya.s {w W : World} {A : Option Addr} {l : List UInt8} {k : Nat} {S : ByteArray} (h : Bya w w.heap.size A l k) (hb : Below w.heap.size w W) (hS : bstr l = S) : (convert 25 9 (.slice A l.length k)).run Try.prog W = .ok (.string S) W := hS ▸ (h.to hb hb.size).str

end Go.Proofs.Ytafhdckcclhjlaa
