/- Bytes in memory, and what a call owns of them; the contracts of deltas.sizeOf, sumOf, Read, appendNumber, Write and the reference's Read, Bytes, Write. -/
import Derived.Test.YtafhdckcclhjlaaDeltaMath
import Derived.Test.YtafhdckcclhjlaaGatesFrame
import Derived.Test.YtafhdckcclhjlaaHeadTail
import Derived.Deep.AppendLies
import Derived.Laws.AppendOwnNone
import Derived.Laws.OwnMore
import Derived.Maps.AppendAt
import Derived.Lib.BufferRead
namespace Go.Proofs.Ytafhdckcclhjlaa
open Go.RowKit Go.ChangeShapes Go.WideShapes Go.ChangeAt
set_option linter.unusedVariables false
set_option linter.unusedSimpArgs false

/-- the cells of bytes -/
def bC (l : List UInt8) : List Value := l.map fun b => .int .u8 (b.toNat : Int)
theorem bC_len (l : List UInt8) : (bC l).length = l.length * 1 := by simp [bC]
theorem bC_app (l m : List UInt8) : bC (l ++ m) = bC l ++ bC m := by simp [bC]
theorem bC_one (l : List UInt8) : ∀ u ∈ bC l, u.oneCell' = true := fun u h => by
  simp only [bC, List.mem_map] at h
  obtain ⟨b, _, rfl⟩ := h
  rfl
theorem bC_at (l : List UInt8) (j : Nat) (hj : j < l.length) : (bC l)[j]? = some (.int .u8 (l[j].toNat : Int)) := by simp [bC, hj]
/-- the bytes of a list in memory, below block B -/
def ByAt (w : World) (B : Nat) (A : Option Addr) (l : List UInt8) : Prop :=
  0 < l.length → ∃ a, A = some a ∧ a.block < B ∧ ∀ j x, l[j]? = some x → w.cell? (a.add j) = some (.int .u8 (x.toNat : Int))
/-- a list of bytes, as a call has it -/
structure Bya (w : World) (B : Nat) (A : Option Addr) (l : List UInt8) (k : Nat) : Prop where
  h : ByAt w B A l
  n : A = none → l = [] ∧ k = 0
  c : l.length ≤ k
theorem Bya.keep {w w' : World} {B k : Nat} {A : Option Addr} {l : List UInt8} (h : Bya w B A l k) (hb : Below B w w') : Bya w' B A l k := ⟨fun hn => by
  obtain ⟨a, e, hl, hc⟩ := h.h hn
  exact ⟨a, e, hl, fun j x hj => (hb.cell (by rw [add_block]; exact hl)).trans (hc j x hj)⟩, h.n, h.c⟩
theorem Bya.more {w : World} {B B' k : Nat} {A : Option Addr} {l : List UInt8} (h : Bya w B A l k) (hb : B ≤ B') : Bya w B' A l k := ⟨fun hn => by
  obtain ⟨a, e, hl, hc⟩ := h.h hn
  exact ⟨a, e, by omega, hc⟩, h.n, h.c⟩
theorem Bya.to {w W : World} {B k : Nat} {A : Option Addr} {l : List UInt8} (h : Bya w B A l k) (hb : Below B w W) (hB : B ≤ W.heap.size) : Bya W W.heap.size A l k := (h.keep hb).more hB
theorem Bya.src {w : World} {B k : Nat} {A : Option Addr} {l : List UInt8} (h : Bya w B A l k) : Src w A l.length k (bC l) := by
  cases A with
  | none => obtain ⟨rfl, rfl⟩ := h.n rfl; exact Or.inl ⟨rfl, rfl, rfl, rfl⟩
  | some ad =>
    refine Or.inr ⟨ad, rfl, fun j u hu => ?_⟩
    have hj : j < l.length := by have := (List.getElem?_eq_some_iff.1 hu).1; simpa [bC] using this
    obtain ⟨a, e, _, hc⟩ := h.h (by omega)
    obtain rfl : ad = a := by injection e
    rw [hc j l[j] (by simp [hj]), ← hu, bC_at l j hj]
theorem add_add (a : Addr) (i j : Nat) : (a.add i).add j = a.add (i + j) := by
  unfold Addr.add
  by_cases h1 : i = 0
  · subst h1; simp
  · by_cases h2 : j = 0
    · subst h2; simp [h1]
    · simp [h1, h2]; omega
theorem sl_by (w : World) : ∀ W : World, (Go.sizeOf 5).run Try.prog W = .ok 1 W := fun W => by go_simp
/-- what stands from a byte on -/
theorem Bya.from {w : World} {B k : Nat} {A : Option Addr} {l : List UInt8} (h : Bya w B A l k) (i : Nat) (hi : i ≤ l.length) : ∃ A' k', (∀ W, (Instr.sliceAt 25 (.slice A l.length k) (some (.int .i64 (i : Int))) none none).run Try.prog W = .ok (.slice A' (l.drop i).length k') W) ∧ Bya w B A' (l.drop i) k' := by
  have ht : Try.prog.underlying 25 = some (.slice (Try.prog.elem 25)) := by simp [Program.elem, Try.underlying25]
  have he : Try.prog.elem 25 = 5 := by simp [Program.elem, Try.underlying25]
  refine ⟨if k = i then A else A.map (·.add (i * 1)), k - i, fun W => ?_, ?_⟩
  · rw [run_sliceAt_slice _ _ _ _ _ _ ht, run_slice_l W _ _ _ _ ht .i64 _ (by omega) (by omega), he, sl_by w W]
    simp [Result.andThen, sliced, List.length_drop]
  · refine ⟨fun hn => ?_, fun hn => ?_, by rw [List.length_drop]; have := h.c; omega⟩
    · rw [List.length_drop] at hn
      obtain ⟨a, e, hl, hc⟩ := h.h (by omega)
      have hne : ¬ k = i := by have := h.c; omega
      refine ⟨a.add (i * 1), by rw [if_neg hne, e]; rfl, by rw [add_block]; exact hl, fun j x hj => ?_⟩
      rw [Nat.mul_one, add_add]
      exact hc (i + j) x (by rw [List.getElem?_drop] at hj; exact hj)
    · by_cases hki : k = i
      · rw [if_pos hki] at hn
        obtain ⟨rfl, rfl⟩ := h.n hn
        exact ⟨by simp, by omega⟩
      · rw [if_neg hki] at hn
        have : A = none := by cases A with
          | none => rfl
          | some a => cases hn
        obtain ⟨rfl, rfl⟩ := h.n this
        exact ⟨by simp, by omega⟩
/-- what stands ahead of a byte -/
theorem Bya.upto {w : World} {B k : Nat} {A : Option Addr} {l : List UInt8} (h : Bya w B A l k) (i : Nat) (hi : i ≤ l.length) : ∃ A', (∀ W, (Instr.sliceAt 25 (.slice A l.length k) none (some (.int .i64 (i : Int))) none).run Try.prog W = .ok (.slice A' (l.take i).length k) W) ∧ Bya w B A' (l.take i) k := by
  have ht : Try.prog.underlying 25 = some (.slice (Try.prog.elem 25)) := by simp [Program.elem, Try.underlying25]
  have he : Try.prog.elem 25 = 5 := by simp [Program.elem, Try.underlying25]
  have hk := h.c
  refine ⟨if k = 0 then A else A.map (·.add (0 * 1)), fun W => ?_, ?_⟩
  · rw [run_sliceAt_slice _ _ _ _ _ _ ht, run_slice_h W _ _ _ _ ht .i64 _ (by omega) (by omega), he, sl_by w W]
    simp [Result.andThen, sliced, List.length_take]
    omega
  · have hA : (if k = 0 then A else A.map (·.add (0 * 1))) = A := by
      by_cases hk0 : k = 0
      · rw [if_pos hk0]
      · rw [if_neg hk0]
        cases A with
        | none => rfl
        | some a => simp [Addr.add]
    rw [hA]
    refine ⟨fun hn => ?_, fun hn => ?_, by rw [List.length_take]; omega⟩
    · rw [List.length_take] at hn
      obtain ⟨a, e, hl, hc⟩ := h.h (by omega)
      refine ⟨a, e, hl, fun j x hj => hc j x ?_⟩
      rw [List.getElem?_take] at hj
      split at hj
      · exact hj
      · cases hj
    · obtain ⟨rfl, rfl⟩ := h.n hn
      exact ⟨by simp, rfl⟩
/-- bytes as a string -/
def bstr (l : List UInt8) : ByteArray := ⟨l.toArray⟩
theorem bstr_eq (l m : List UInt8) : ((bstr l).toList == (bstr m).toList) = decide (l = m) := by
  rw [Bool.eq_iff_iff]
  simp [bstr]
theorem Bya.str {w : World} {B k : Nat} {A : Option Addr} {l : List UInt8} (h : Bya w B A l k) : (convert 25 9 (.slice A l.length k)).run Try.prog w = .ok (.string (bstr l)) w := by
  cases A with
  | none =>
    obtain ⟨rfl, rfl⟩ := h.n rfl
    exact Lib.run_convert_nil_bytes w 25 9 5 0 Try.underlying25 Try.underlying5 Try.underlying9
  | some ad =>
    refine run_convert_bytes_back w 25 9 5 ad k l Try.underlying25 Try.underlying5 Try.underlying9 fun j hj => ?_
    obtain ⟨a, e, _, hc⟩ := h.h (by omega)
    obtain rfl : ad = a := by injection e
    exact hc j l[j] (by simp [hj])
/-- bytes that a call owns -/
def Byo (B : Nat) (w : World) (v : Value) (l : List UInt8) : Prop := w.ownsRow B 5 1 v l.length (bC l)
theorem Byo.nil (B : Nat) (w : World) : Byo B w (.slice none 0 0) [] := World.ownsRow_nil _ _ _ _
theorem Byo.mk {B n : Nat} {w : World} {v : Value} {l : List UInt8} {xs : List Value} (h : w.ownsRow B 5 1 v n xs) (hn : n = l.length) (hx : xs = bC l) : Byo B w v l := by subst hn hx; exact h
theorem Byo.base {B B' : Nat} {w : World} {v : Value} {l : List UInt8} (h : Byo B w v l) (hb : B' ≤ B) : Byo B' w v l := by
  refine ⟨h.1, ?_⟩
  rcases h.2 with h | ⟨g, cap, cur, hv, hg, r⟩
  · exact Or.inl h
  · exact Or.inr ⟨g, cap, cur, hv, Nat.le_trans hb hg, r⟩
theorem Byo.keep {B : Nat} {w w' : World} {v : Value} {l : List UInt8} (h : Byo B w v l) (hb : Below w.heap.size w w') : Byo B w' v l := by
  refine ⟨h.1, h.2.imp id fun ⟨g, cap, cur, h1, h2, h3, h4⟩ => ⟨g, cap, cur, h1, h2, ?_, h4⟩⟩
  exact (hb.block g (Has.lt (t := 5) (cs := cur) h3)).trans h3
/-- what a call owns, as a list that it has -/
theorem Byo.at {B : Nat} {w : World} {v : Value} {l : List UInt8} (h : Byo B w v l) : ∃ A k, v = .slice A l.length k ∧ Bya w w.heap.size A l k := by
  rcases h.2 with ⟨rfl, hn⟩ | ⟨g, cap, cur, rfl, hg, hh, hk, r⟩
  · have e : l = [] := List.eq_nil_of_length_eq_zero hn
    subst e
    exact ⟨none, 0, rfl, fun h => absurd h (Nat.lt_irrefl 0), fun _ => ⟨rfl, rfl⟩, Nat.le_refl _⟩
  · refine ⟨_, cap, rfl, fun hn => ⟨_, rfl, Has.lt (t := 5) (cs := cur) hh, fun j x hj => ?_⟩, fun h => (by cases h), hk⟩
    obtain ⟨hj', rfl⟩ := List.getElem?_eq_some_iff.1 hj
    exact World.ownsRow.cells h (g := g) rfl _ _ (bC_at l j hj')
/-- bytes that have just been laid -/
theorem Byo.lit {B : Nat} {w : World} {l : List UInt8} (hB : B ≤ w.heap.size) (hl : l.length ≤ 1000) : Byo B (w.alloc (.cells (bC l).toArray 5)) (.slice (some ⟨w.heap.size, 0, none⟩) l.length l.length) l :=
  World.ownsRow_lit (base := B) (e := 5) (size := 1) w (bC l).toArray l.length hB (by simp only [maxLen]; omega) (by simp [bC])
theorem dinfo_u8 : (Try.prog.info? 5).map (fun i => (i.zero, i.size, i.bytes)) = some (some (.int .u8 0), 1, 1) := by kernel_rfl
/-- from one row that a call owns to another: what else there is stays -/
def Grw (w : World) (v : Value) (w' : World) (v' : Value) : Prop := w.grownBy w' v.ownBlock ∧ (v'.ownBlock = v.ownBlock ∨ ∀ g, v'.ownBlock = some g → w.heap.size ≤ g)
theorem Grw.refl (w : World) (v : Value) : Grw w v w v := ⟨World.grownBy.refl w _, Or.inl rfl⟩
theorem Grw.trans {w w1 w2 : World} {v v1 v2 : Value} (h : Grw w v w1 v1) (h2 : Grw w1 v1 w2 v2) : Grw w v w2 v2 := by
  obtain ⟨g1, o1⟩ := h
  obtain ⟨g2, o2⟩ := h2
  refine ⟨⟨g2.os.trans g1.os, g2.tape.trans g1.tape, g2.output.trans g1.output, Nat.le_trans g1.size g2.size, fun k hk hne => ?_⟩, ?_⟩
  · refine (g2.block k (Nat.lt_of_lt_of_le hk g1.size) fun e => ?_).trans (g1.block k hk hne)
    rcases o1 with o1 | o1
    · exact hne (e.trans o1)
    · have := o1 k e.symm; omega
  · rcases o2 with o2 | o2
    · rcases o1 with o1 | o1
      · exact Or.inl (o2.trans o1)
      · exact Or.inr fun g hg => o1 g (o2.symm.trans hg)
    · exact Or.inr fun g hg => Nat.le_trans g1.size (o2 g hg)
theorem Grw.alloc {w w1 : World} {v v1 : Value} (h : Grw w v w1 v1) (o : Obj) : Grw w v (w1.alloc o) v1 :=
  h.trans ⟨⟨rfl, rfl, rfl, by simp, fun k hk _ => heap_alloc_old w1 o hk⟩, Or.inl rfl⟩
theorem Byo.blk {B : Nat} {w : World} {v : Value} {l : List UInt8} (h : Byo B w v l) : ∀ k, v.ownBlock = some k → B ≤ k := fun k hk => (World.ownsRow.lt h k hk).1
theorem Grw.below {B : Nat} {w w1 : World} {v v1 : Value} {l : List UInt8} (h : Grw w v w1 v1) (ho : Byo B w v l) (hB : B ≤ w.heap.size) : Below B w w1 :=
  (Below.refl B w).grown h.1 hB (fun k hk => ho.blk k hk)
theorem Grw.has {w w1 : World} {v v1 : Value} {b : Nat} {t : TypeId} {cs : Array Value} (h : Grw w v w1 v1) (hh : Has w b t cs) (hne : some b ≠ v.ownBlock) : Has w1 b t cs := (h.1.block b hh.lt hne).trans hh
/-- a box of another type is none of the bytes that a call owns -/
theorem Byo.ne {B b : Nat} {w : World} {v : Value} {l : List UInt8} {t : TypeId} {cs : Array Value} (h : Byo B w v l) (hh : Has w b t cs) (ht : t ≠ 5) : some b ≠ v.ownBlock := fun e => by
  rcases h.2 with ⟨rfl, _⟩ | ⟨g, cap, cur, rfl, _, hg, _⟩
  · cases e
  · obtain rfl : b = g := by simpa [Value.ownBlock] using e
    unfold Has at hh
    rw [hh] at hg
    injection hg with hg
    injection hg with _ h2 _
    exact ht h2
theorem by_run {w : World} (B : Nat) (v : Value) (l : List UInt8) (hown : Byo B w v l) (A : Option Addr) (n k : Nat) (m : List UInt8) (hn : n = m.length) (hsrc : Src w A m.length k (bC m)) (hle : l.length + m.length ≤ 1000000) (hB : B ≤ w.heap.size) (ty : TypeId) :
    ∃ v' w', (Builtin.append_ #[25, 25] ty #[v, .slice A n k]).run Try.prog w = .ok v' w' ∧ Byo B w' v' (l ++ m) ∧ Grw w v w' v' := by
  obtain ⟨i0, hi0, hzz0, hs0, hy0⟩ := info_parts dinfo_u8
  subst hn
  rcases hsrc with ⟨rfl, h1, rfl, h3⟩ | ⟨ad, rfl, hc⟩
  · have hm : m = [] := List.eq_nil_of_length_eq_zero h1
    subst hm
    exact ⟨v, w, run_append_owned_none (P := Try.prog) (w := w) B 25 ty 5 i0 1 Try.underlying25 hi0 v l.length (bC l) hown, by simpa using hown, Grw.refl _ _⟩
  · obtain ⟨v', w', hr, h2, h3, _, h5⟩ := run_append_own_at (P := Try.prog) w B 25 ty 5 i0 (.int .u8 0) 1 1 Try.underlying25 hi0 hzz0 hs0 hy0 rfl (by decide) v l.length (bC l) hown ad m.length k (bC m) (by rw [bC_len]) hc (bC_one m) (by simp only [maxLen]; omega) (by omega) hB
    refine ⟨v', w', hr, Byo.mk h2 (by rw [List.length_append]) (by rw [bC_app]), h3, h5.imp id fun e g hg => ?_⟩
    rw [e] at hg
    injection hg with hg
    omega
/-- append to bytes that a call owns, at the operation -/
theorem by_append_o {w : World} {o : Oper} {a : Act} {K : Act → World → Prop} {Q : Exit → Act → World → Prop} (s x : Operand)
    (ho : o.op = .call { callee := .builtin .append, args := #[s, x], argTypes := #[25, 25] })
    (B : Nat) (v : Value) (l : List UInt8) (hs : a.eval s = v) (hown : Byo B w v l) (A : Option Addr) (n k : Nat) (m : List UInt8) (hx : a.eval x = .slice A n k) (hn : n = m.length) (hsrc : Src w A m.length k (bC m))
    (hle : l.length + m.length ≤ 1000000) (hB : B ≤ w.heap.size) (h : ∀ v' w', Byo B w' v' (l ++ m) → Grw w v w' v' → K (a.put o.dst v') w') : o.wp Try.prog a w K Q := by
  obtain ⟨v', w', hr, h2, h3⟩ := by_run B v l hown A n k m hn hsrc hle hB o.type
  unfold Oper.wp execOp
  simp only [ho, resolve, invoke, builtin, Sem.run_bind, Sem.run_pure, Result.andThen_ok, List.map_toArray, List.map_cons, List.map_nil, hs, hx, hr]
  exact h v' w' h2 h3
/-- the same, at a list of operations -/
theorem by_append {w : World} {ops : Array Oper} {rest : List Oper} {o : Oper} {a : Act} {Q : Exit → Act → World → Prop} (hgd : o.guard = none) (s x : Operand)
    (ho : o.op = .call { callee := .builtin .append, args := #[s, x], argTypes := #[25, 25] })
    (B : Nat) (v : Value) (l : List UInt8) (hs : a.eval s = v) (hown : Byo B w v l) (A : Option Addr) (n k : Nat) (m : List UInt8) (hx : a.eval x = .slice A n k) (hn : n = m.length) (hsrc : Src w A m.length k (bC m))
    (hle : l.length + m.length ≤ 1000000) (hB : B ≤ w.heap.size) (h : ∀ v' w', Byo B w' v' (l ++ m) → Grw w v w' v' → wpList Try.prog ops Q rest (a.put o.dst v') w') : wpList Try.prog ops Q (o :: rest) a w :=
  wpList_plain hgd fun _ hK => by_append_o s x ho B v l hs hown A n k m hx hn hsrc hle hB fun v' w' h1 h2 => hK _ _ (h v' w' h1 h2)
/-- one byte that has just been laid -/
theorem src_one (w : World) (c : UInt8) : Src (w.alloc (.cells #[.int .u8 (c.toNat : Int)] 5)) (some ⟨w.heap.size, 0, none⟩) [c].length 1 (bC [c]) := Or.inr ⟨_, rfl, cell_one_new w (.int .u8 (c.toNat : Int)) 5⟩
/-- what a function that makes bytes returns -/
def ByIs (B : Nat) (l : List UInt8) (w : World) (e : Ending) (w' : World) : Prop := ∃ v, e = .returned v ∧ Byo B w' v l ∧ Below B w w'
def ByErr (l : List UInt8) (x : Int) (w : World) (e : Ending) (w' : World) : Prop := ∃ A k, e = .returned (.tuple #[.slice A l.length k, .int .i64 x]) ∧ Bya w' w'.heap.size A l k ∧ Below w.heap.size w w' ∧ (∀ g, Value.ownBlock (.slice A l.length k) = some g → w.heap.size ≤ g)
theorem ByErr.no {w w' : World} {x : Int} (h : Below w.heap.size w w') : ByErr [] x w (.returned (.tuple #[.slice none 0 0, .int .i64 x])) w' :=
  ⟨none, 0, rfl, ⟨fun h => absurd h (Nat.lt_irrefl 0), fun _ => ⟨rfl, rfl⟩, Nat.le_refl _⟩, h, fun g h => by cases h⟩
theorem ByErr.yes {w w' : World} {v : Value} {l : List UInt8} (ho : Byo w.heap.size w' v l) (h : Below w.heap.size w w') : ByErr l 0 w (.returned (.tuple #[v, .int .i64 0])) w' := by
  obtain ⟨A, k, rfl, hy⟩ := ho.at
  exact ⟨A, k, rfl, hy, h, ho.blk⟩

section
variable {H : Type} {enc : TypeId × Value → H} {W : World} {base : Nat} {held : Bool}
set_option maxRecDepth 100000 in
/-- a list of bytes, as it comes in -/
theorem open_by {v : Value} {d : DataW H} {ps : List MemPlace} {r : Reach} {b0 : Nat} (hv : Value.okWide Try.prog W r b0 25 v) (h : DataW.Trod enc Try.prog W base (fun _ => true) held 25 v d ps) :
    ∃ A l k, v = .slice A (List.length (α := UInt8) l) k ∧ Bya W W.heap.size A l k ∧ k ≤ maxLen := by
  obtain ⟨a0, n0, k0, rfl⟩ := okWide_slice Try.underlying25 hv
  obtain ⟨fuel, hf⟩ := h
  rcases ChangeShapes.open_ints Try.underlying25 Try.underlying5 (by kernel_rfl) hf with ⟨hv, _⟩ | ⟨a, len, cap, zs, hv, _, hl, hml, hzl, _, hc, hw⟩
  · have hv' : [Value.slice a0 n0 k0] = [.slice none 0 0] := hv
    injection hv' with hv'
    exact ⟨none, [], 0, hv', ⟨fun h => absurd h (Nat.not_lt_zero _), fun _ => ⟨rfl, rfl⟩, Nat.le_refl _⟩, Nat.zero_le _⟩
  · have hv' : [Value.slice a0 n0 k0] = [.slice (some a) len cap] := hv
    injection hv' with hv'
    have hz : zs.length = cap := hzl.trans (if_pos rfl)
    have hw8 : ∀ j, j < len → 0 ≤ zs.getD j 0 ∧ zs.getD j 0 ≤ 255 := fun j hj => by
      have hm : zs.getD j 0 ∈ zs := by
        rw [List.getD_eq_getElem?_getD, List.getElem?_eq_getElem (by omega)]
        exact List.getElem_mem _
      have := hw _ hm
      simpa [Lit.wf, IntKind.min, IntKind.max, IntKind.signed, IntKind.bits] using this
    have hL : ((List.range len).map fun j => UInt8.ofNat (zs.getD j 0).toNat).length = len := by simp
    refine ⟨some a, (List.range len).map fun j => UInt8.ofNat (zs.getD j 0).toNat, cap, by rw [hL]; exact hv', ⟨fun hn => ⟨a, rfl, ?_, fun j x hj => ?_⟩, (fun h => by cases h), by rw [hL]; exact hl⟩, hml⟩
    · have := cell_lt (hc 0 (by omega))
      rwa [add_block] at this
    · obtain ⟨hj', e⟩ := List.getElem?_eq_some_iff.1 hj
      rw [hL] at hj'
      have h8 := hw8 j hj'
      have e2 : (x.toNat : Int) = zs.getD j 0 := by
        rw [← e]
        simp only [List.getElem_map, List.getElem_range]
        rw [UInt8.toNat_ofNat']
        omega
      rw [hc j (by omega), e2]
set_option maxRecDepth 100000 in
/-- a list of gates, as it comes in -/
theorem open_gs {v : Value} {d : DataW H} {ps : List MemPlace} {r : Reach} {b0 : Nat} (hv : Value.okWide Try.prog W r b0 30 v) (h : DataW.Trod enc Try.prog W base (fun _ => true) held 30 v d ps) :
    ∃ (A : Option Addr) (m k : Nat) (f g : Nat → Int), v = .slice A m k ∧ PairsAt W W.heap.size A m f g ∧ (A = none → m = 0 ∧ k = 0) ∧ (∀ j, I64 (f j)) ∧ (∀ j, I64 (g j)) ∧ m ≤ k ∧ k ≤ maxLen := by
  obtain ⟨a0, n0, k0, rfl⟩ := okWide_slice Try.underlying30 hv
  obtain ⟨fuel, hf⟩ := h
  obtain ⟨A, m, k, f, g, q, r⟩ := open_pl (v := .slice a0 n0 k0) Try.underlying30 Try.underlying29 (by kernel_rfl) rfl rfl rfl rfl hf
  exact ⟨A, m, k, f, g, q, r⟩
end
end Go.Proofs.Ytafhdckcclhjlaa
