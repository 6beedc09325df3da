/- Lists of lists of truth values, and runs, in memory. -/
import Derived.Test.YtpobkemgbbgolaaTraceMath
import Derived.Maps.AppendAt
import Derived.Deep.AppendLies
namespace Go.Proofs.Ytpobkemgbbgolaa
open Go.RowKit Go.ChangeShapes Go.WideShapes Go.ChangeAt
set_option linter.unusedVariables false
set_option linter.unusedSimpArgs false

/-- the lists of a list -/
def RowsAt (w : World) (B : Nat) (A : Option Addr) (n : Nat) (L : Nat → Nat) (f : Nat → Nat → Bool) : Prop :=
  0 < n → ∃ a, A = some a ∧ a.block < B ∧ ∀ j, j < n → ∃ A' k', w.cell? (a.add j) = some (.slice A' (L j) k') ∧ BlsAt w B A' (L j) (f j) ∧ (A' = none → L j = 0 ∧ k' = 0)
theorem RowsAt.keep {w w' : World} {B : Nat} {A : Option Addr} {n : Nat} {L : Nat → Nat} {f : Nat → Nat → Bool} (h : RowsAt w B A n L f) (hb : Below B w w') : RowsAt w' B A n L f := fun hn => by
  obtain ⟨a, e, hl, hc⟩ := h hn
  refine ⟨a, e, hl, fun j hj => ?_⟩
  obtain ⟨A', k', h1, h2, h3⟩ := hc j hj
  exact ⟨A', k', (hb.cell (by rw [add_block]; exact hl)).trans h1, h2.keep hb, h3⟩
theorem RowsAt.more {w : World} {B B' : Nat} {A : Option Addr} {n : Nat} {L : Nat → Nat} {f : Nat → Nat → Bool} (h : RowsAt w B A n L f) (hb : B ≤ B') : RowsAt w B' A n L f := fun hn => by
  obtain ⟨a, e, hl, hc⟩ := h hn
  refine ⟨a, e, by omega, fun j hj => ?_⟩
  obtain ⟨A', k', h1, h2, h3⟩ := hc j hj
  exact ⟨A', k', h1, h2.more hb, h3⟩
theorem RowsAt.to {w W : World} {B : Nat} {A : Option Addr} {n : Nat} {L : Nat → Nat} {f : Nat → Nat → Bool} (h : RowsAt w B A n L f) (hb : Below B w W) (hB : B ≤ W.heap.size) : RowsAt W W.heap.size A n L f := (h.keep hb).more hB
theorem RowsAt.first {w : World} {B : Nat} {A : Option Addr} {n m : Nat} {L : Nat → Nat} {f : Nat → Nat → Bool} (h : RowsAt w B A n L f) (hm : m ≤ n) : RowsAt w B A m L f := fun hp => by
  obtain ⟨a, e, hl, hc⟩ := h (by omega)
  exact ⟨a, e, hl, fun j hj => hc j (by omega)⟩
theorem RowsAt.congr {w : World} {B : Nat} {A : Option Addr} {n : Nat} {L L' : Nat → Nat} {f f' : Nat → Nat → Bool} (h : RowsAt w B A n L f) (hL : ∀ j, j < n → L j = L' j) (hf : ∀ j, j < n → ∀ i, i < L j → f j i = f' j i) : RowsAt w B A n L' f' := fun hp => by
  obtain ⟨a, e, hl, hc⟩ := h hp
  refine ⟨a, e, hl, fun j hj => ?_⟩
  obtain ⟨A', k', h1, h2, h3⟩ := hc j hj
  rw [← hL j hj]
  exact ⟨A', k', h1, h2.congr (hf j hj), h3⟩

/-- a run's value, and its cells -/
abbrev tv (t : Tr) (q : Tp) : Value := .agg #[.slice q.A1 t.nf q.k1, .slice q.A2 t.ni q.k2]
abbrev tcs (t : Tr) (q : Tp) : Array Value := #[.slice q.A1 t.nf q.k1, .slice q.A2 t.ni q.k2]
/-- the run lies in the memory, below block B -/
structure TMem (w : World) (B : Nat) (t : Tr) (q : Tp) : Prop where
  fi : BlsAt w B q.A1 t.nf t.fi
  ip : RowsAt w B q.A2 t.ni t.ln t.ip
  n1 : q.A1 = none → t.nf = 0 ∧ q.k1 = 0
  n2 : q.A2 = none → t.ni = 0 ∧ q.k2 = 0
  c2 : t.ni ≤ q.k2 ∧ q.k2 ≤ maxLen
theorem TMem.keep {w w' : World} {B : Nat} {t : Tr} {q : Tp} (h : TMem w B t q) (hb : Below B w w') : TMem w' B t q := ⟨h.fi.keep hb, h.ip.keep hb, h.n1, h.n2, h.c2⟩
theorem TMem.more {w : World} {B B' : Nat} {t : Tr} {q : Tp} (h : TMem w B t q) (hb : B ≤ B') : TMem w B' t q := ⟨h.fi.more hb, h.ip.more hb, h.n1, h.n2, h.c2⟩
theorem TMem.to {w W : World} {B : Nat} {t : Tr} {q : Tp} (h : TMem w B t q) (hb : Below B w W) (hB : B ≤ W.heap.size) : TMem W W.heap.size t q := (h.keep hb).more hB
/-- the beginning of a run, as a value -/
theorem TMem.cut {w : World} {B : Nat} {t : Tr} {q : Tp} (h : TMem w B t q) {n : Nat} (h0 : 0 < n) (hn : n ≤ t.ni) : TMem w B (t.cut n) q :=
  ⟨h.fi, h.ip.first hn, h.n1, fun e => by have := h.n2 e; omega, ⟨Nat.le_trans hn h.c2.1, h.c2.2⟩⟩

section
variable {H : Type} {enc : TypeId × Value → H} {W : World} {base : Nat} {held : Bool}
set_option maxRecDepth 100000 in
/-- a run, as it comes in -/
theorem open_tr6 {r : Reach} {b0 : Nat} {v : Value} {d : DataW H} {ps : List MemPlace} (hv : Value.okWide Try.prog W r b0 32 v) (h : DataW.Trod enc Try.prog W base (fun _ => true) held 32 v d ps) :
    ∃ t q, v = tv t q ∧ TMem W W.heap.size t q := by
  obtain ⟨⟨l⟩, rfl, hsz⟩ := okWide_struct Try.underlying32 hv
  have hC : Try.prog.cellsOf 32 = 2 := by kernel_rfl
  have k1 : Try.prog.cellsOf 29 = 1 := by kernel_rfl
  have k2 : Try.prog.cellsOf 30 = 1 := by kernel_rfl
  match l, hsz.trans hC with
  | [v0, v1], _ =>
    obtain ⟨fuel, hf⟩ := h
    obtain ⟨xs, n, _, _, _, hlen, hg⟩ := DataW.trod_struct Try.underlying32 hf
    match xs, hlen with
    | [y0, y1], _ =>
      have e0 : DataW.trod enc Try.prog W base (fun _ => true) held n 29 [v0] = some y0 := by
        have h := hg 0 _ rfl
        simpa [Value.cells, k1] using h
      have e1 : DataW.trod enc Try.prog W base (fun _ => true) held n 30 [v1] = some y1 := by
        have h := hg 1 _ rfl
        simpa [Value.cells, k2] using h
      have h0 : ∃ A n k f, v0 = .slice A n k ∧ BlsAt W W.heap.size A n f ∧ (A = none → n = 0 ∧ k = 0) := by
        rcases Deep.open_bools Try.underlying29 Try.underlying4 (by kernel_rfl) e0 with ⟨hv, _⟩ | ⟨a, len, cap, f, hv, _, hl, hml, _, hc⟩
        · injection hv with hv
          exact ⟨none, 0, 0, fun _ => false, hv, fun h => absurd h (Nat.not_lt_zero _), fun _ => ⟨rfl, rfl⟩⟩
        · injection hv with hv
          refine ⟨some a, len, cap, f, hv, fun hn => ⟨a, rfl, ?_, fun j hj => hc j (by omega)⟩, (fun h => by cases h)⟩
          have := cell_lt (hc 0 (by omega))
          rwa [add_block] at this
      have h1 : ∃ A n k L f, v1 = .slice A n k ∧ RowsAt W W.heap.size A n L f ∧ (A = none → n = 0 ∧ k = 0) ∧ n ≤ k ∧ k ≤ maxLen := by
        rcases Deep.open_bool_rows Try.underlying30 Try.underlying29 Try.underlying4 k1 (by kernel_rfl) e1 with ⟨hv, _⟩ | ⟨a, len, cap, A, L, C, f, hv, _, hl, hml, _, hc⟩
        · injection hv with hv
          exact ⟨none, 0, 0, fun _ => 0, fun _ _ => false, hv, fun h => absurd h (Nat.not_lt_zero _), fun _ => ⟨rfl, rfl⟩, Nat.le_refl _, Nat.zero_le _⟩
        · injection hv with hv
          refine ⟨some a, len, cap, L, f, hv, fun hn => ⟨a, rfl, ?_, fun j hj => ?_⟩, (fun h => by cases h), hl, hml⟩
          · have := cell_lt (hc 0 (by omega)).1
            rwa [add_block] at this
          · obtain ⟨c1, c2, c3, c4, c5⟩ := hc j (by omega)
            refine ⟨A j, C j, c1, fun hn => ?_, fun e => ⟨by have := c4 e; omega, c4 e⟩⟩
            cases hA : A j with
            | none => have := c4 hA; omega
            | some a' =>
              obtain ⟨_, c6⟩ := c5 a' hA
              refine ⟨a', rfl, ?_, fun i hi => c6 i (by omega)⟩
              have := cell_lt (c6 0 (by omega))
              rwa [add_block] at this
      obtain ⟨A0, n0, k0, f0, rfl, i0, j0⟩ := h0
      obtain ⟨A1, n1, k1', L1, f1, rfl, i1, j1, r1⟩ := h1
      exact ⟨⟨n0, f0, n1, L1, f1⟩, ⟨A0, k0, A1, k1'⟩, rfl, ⟨i0, i1, j0, j1, r1⟩⟩
end

theorem info_bools : (Try.prog.info? 29).map (fun i => (i.zero, i.size, i.bytes)) = some (some (.slice none 0 0), 1, 24) := by kernel_rfl
theorem info_bool1 : (Try.prog.info? 4).map (fun i => (i.zero, i.size, i.bytes)) = some (some (.bool false), 1, 1) := by kernel_rfl

/-- a list of lists in memory of the call's own; each of its lists lies apart from the list itself, and from one block more -/
structure Grid (w : World) (base : Nat) (v : Value) (n : Nat) (L : Nat → Nat) (f : Nat → Nat → Bool) (D : Option Nat) (lo : Nat := 0) : Prop where
  ex : ∃ xs, w.ownsRow base 29 1 v n xs ∧ ∀ j, j < n → ∃ A k, xs[j]? = some (.slice A (L j) k) ∧ BlsAt w w.heap.size A (L j) (f j) ∧ (A = none → L j = 0 ∧ k = 0) ∧ (0 < L j → ∀ a, A = some a → some a.block ≠ v.ownBlock ∧ some a.block ≠ D ∧ lo ≤ a.block)
theorem Grid.nil (w : World) (base : Nat) (L : Nat → Nat) (f : Nat → Nat → Bool) (D : Option Nat) {lo : Nat} : Grid w base (.slice none 0 0) 0 L f D lo :=
  ⟨⟨[], World.ownsRow_nil _ _ _ _, fun j hj => absurd hj (Nat.not_lt_zero _)⟩⟩
theorem BlsAt.by {w w' : World} {A : Option Addr} {n : Nat} {f : Nat → Bool} {r : Option Nat} (h : BlsAt w w.heap.size A n f) (hg : w.grownBy w' r) (hr : 0 < n → ∀ a, A = some a → some a.block ≠ r) : BlsAt w' w'.heap.size A n f := fun hn => by
  obtain ⟨a, e, hl, hc⟩ := h hn
  exact ⟨a, e, Nat.lt_of_lt_of_le hl hg.size, fun j hj => (World.cell?_of_block (hg.block _ (by rw [add_block]; exact hl) (by rw [add_block]; exact hr hn a e))).trans (hc j hj)⟩
/-- what the call does elsewhere -/
theorem Grid.far {w w' : World} {base : Nat} {v : Value} {n : Nat} {L : Nat → Nat} {f : Nat → Nat → Bool} {D D' : Option Nat} {lo : Nat} (h : Grid w base v n L f D lo) {r : Option Nat} (hg : w.grownBy w' r) (hr : r = none ∨ r = D) (hv : v.ownBlock = none ∨ v.ownBlock ≠ r) (hD : D' = D ∨ D' = some w.heap.size ∨ D' = none) : Grid w' base v n L f D' lo := by
  obtain ⟨xs, ho, hc⟩ := h.ex
  refine ⟨⟨xs, ?_, fun j hj => ?_⟩⟩
  · rcases ho.2 with ⟨hv', hn⟩ | ⟨g, cap, cur, rfl, hg', hh, hrest⟩
    · exact ⟨ho.1, Or.inl ⟨hv', hn⟩⟩
    · refine ⟨ho.1, Or.inr ⟨g, cap, cur, rfl, hg', (hg.block g (Has.lt (t := 29) (cs := cur) hh) ?_).trans hh, hrest⟩⟩
      rcases hv with hv | hv
      · cases hv
      · exact hv
  · obtain ⟨A, k, e1, e2, e3, e4⟩ := hc j hj
    refine ⟨A, k, e1, e2.by hg (fun hn a ha => ?_), e3, fun hn a ha => ⟨(e4 hn a ha).1, ?_, (e4 hn a ha).2.2⟩⟩
    · rcases hr with rfl | rfl
      · simp
      · exact (e4 hn a ha).2.1
    · rcases hD with rfl | rfl | rfl
      · exact (e4 hn a ha).2.1
      · obtain ⟨a', ea, hl, _⟩ := e2 hn
        rw [ha] at ea
        cases ea
        intro e
        injection e with e
        omega
      · simp
/-- what is written below all that the call owns -/
theorem Grid.under {w w' : World} {base : Nat} {v : Value} {n : Nat} {L : Nat → Nat} {f : Nat → Nat → Bool} {D : Option Nat} {lo : Nat} (h : Grid w base v n L f D lo) {x : Nat} (hg : w.grownBy w' (some x)) (h1 : x < base) (h2 : x < lo) : Grid w' base v n L f none lo := by
  obtain ⟨xs, ho, hc⟩ := h.ex
  refine ⟨⟨xs, ?_, fun j hj => ?_⟩⟩
  · rcases ho.2 with ⟨hv', hn⟩ | ⟨g, cap, cur, rfl, hg', hh, hrest⟩
    · exact ⟨ho.1, Or.inl ⟨hv', hn⟩⟩
    · exact ⟨ho.1, Or.inr ⟨g, cap, cur, rfl, hg', (hg.block g (Has.lt (t := 29) (cs := cur) hh) (fun e => by injection e with e; omega)).trans hh, hrest⟩⟩
  · obtain ⟨A, k, e1, e2, e3, e4⟩ := hc j hj
    exact ⟨A, k, e1, e2.by hg (fun hn a ha e => by injection e with e; have := (e4 hn a ha).2.2; omega), e3, fun hn a ha => ⟨(e4 hn a ha).1, by simp, (e4 hn a ha).2.2⟩⟩
theorem grown_below {w w' : World} (h : Below w.heap.size w w') : w.grownBy w' none := ⟨h.os, h.tape, h.output, h.size, fun k hk _ => h.block k hk⟩
theorem grown_al (w : World) (o : Obj) : w.grownBy (w.alloc o) none := grown_below ((Below.refl w.heap.size w).alloc (Nat.le_refl _) o)
theorem Grid.al {w : World} {base : Nat} {v : Value} {n : Nat} {L : Nat → Nat} {f : Nat → Nat → Bool} {D : Option Nat} {lo : Nat} (h : Grid w base v n L f D lo) (o : Obj) : Grid (w.alloc o) base v n L f D lo := h.far (grown_al w o) (Or.inl rfl) (by cases v.ownBlock <;> simp) (Or.inl rfl)
theorem Grid.call {w w' : World} {base : Nat} {v : Value} {n : Nat} {L : Nat → Nat} {f : Nat → Nat → Bool} {D : Option Nat} {lo : Nat} (h : Grid w base v n L f D lo) (hb : Below w.heap.size w w') : Grid w' base v n L f D lo := h.far (grown_below hb) (Or.inl rfl) (by cases v.ownBlock <;> simp) (Or.inl rfl)
theorem Grid.lt {w : World} {base : Nat} {v : Value} {n : Nat} {L : Nat → Nat} {f : Nat → Nat → Bool} {D : Option Nat} {lo : Nat} (h : Grid w base v n L f D lo) {g : Nat} (hg : v.ownBlock = some g) : base ≤ g ∧ g < w.heap.size := by
  obtain ⟨xs, ho, _⟩ := h.ex
  rcases ho.2 with ⟨rfl, _⟩ | ⟨g', cap, cur, rfl, hb, hh, _⟩
  · cases hg
  · obtain rfl : g' = g := by simpa [Value.ownBlock] using hg
    exact ⟨hb, Has.lt (t := 29) (cs := cur) hh⟩
theorem Grid.has {w w' : World} {base n : Nat} {v : Value} {L : Nat → Nat} {f : Nat → Nat → Bool} {D : Option Nat} {lo : Nat} (h : Grid w base v n L f D lo) {b : Nat} {t : TypeId} {cs : Array Value} (hH : Has w b t cs) (hg : w.grownBy w' v.ownBlock) (hb : b < base) : Has w' b t cs := (hg.block b hH.lt (fun e => by have := (h.lt e.symm).1; omega)).trans hH
theorem Grid.below {w0 w w' : World} {B base n : Nat} {v : Value} {L : Nat → Nat} {f : Nat → Nat → Bool} {D : Option Nat} {lo : Nat} (h : Grid w base v n L f D lo) (hB : Below B w0 w) (hs : B ≤ w.heap.size) (hbb : B ≤ base) (hg : w.grownBy w' v.ownBlock) : Below B w0 w' := hB.grown hg hs (fun k hk => Nat.le_trans hbb (h.lt hk).1)
theorem Grid.apart {w : World} {base n : Nat} {v : Value} {L : Nat → Nat} {f : Nat → Nat → Bool} {D : Option Nat} {lo : Nat} (h : Grid w base v n L f D lo) {m : Nat} {A : Option Addr} (hf : ∀ a, A = some a → w.heap.size ≤ a.block) {E : Option Nat} (hE : ∀ g, E = some g → g < w.heap.size) : 0 < m → ∀ a, A = some a → some a.block ≠ v.ownBlock ∧ some a.block ≠ E := fun _ a ha =>
  ⟨fun e => by have := hf a ha; have := (h.lt e.symm).2; omega, fun e => by have := hf a ha; have := hE _ e.symm; omega⟩
/-- as a list of lists -/
theorem Grid.at {w : World} {base : Nat} {v : Value} {n : Nat} {L : Nat → Nat} {f : Nat → Nat → Bool} {D : Option Nat} {lo : Nat} (h : Grid w base v n L f D lo) : ∃ A k, v = .slice A n k ∧ RowsAt w w.heap.size A n L f ∧ (A = none → n = 0 ∧ k = 0) ∧ (n ≤ k ∧ k ≤ maxLen) ∧ ∀ a, A = some a → base ≤ a.block := by
  obtain ⟨xs, ho, hc⟩ := h.ex
  rcases ho.2 with ⟨rfl, hn⟩ | ⟨g, cap, cur, rfl, hb, hh, hk, hm, _⟩
  · subst hn
    exact ⟨none, 0, rfl, fun h => absurd h (Nat.not_lt_zero _), fun _ => ⟨rfl, rfl⟩, ⟨Nat.le_refl _, Nat.zero_le _⟩, fun a h => by cases h⟩
  · refine ⟨some ⟨g, 0, none⟩, cap, rfl, fun hn => ⟨_, rfl, Has.lt (t := 29) (cs := cur) hh, fun j hj => ?_⟩, (fun h => by cases h), ⟨hk, hm⟩, fun a h => by cases h; exact hb⟩
    obtain ⟨A, k, e1, e2, e3, _⟩ := hc j hj
    exact ⟨A, k, ho.cells (g := g) rfl _ _ e1, e2, e3⟩
theorem Grid.block {w : World} {base g n k : Nat} {L : Nat → Nat} {f : Nat → Nat → Bool} {D : Option Nat} {lo : Nat} (h : Grid w base (.slice (some ⟨g, 0, none⟩) n k) n L f D lo) : ∃ cs, Has w g 29 cs := by
  obtain ⟨xs, ho, _⟩ := h.ex
  rcases ho.2 with ⟨hv, _⟩ | ⟨g', cap, cur, hv, _, hh, _⟩
  · cases hv
  · cases hv
    exact ⟨cur, hh⟩
/-- one list of it -/
theorem Grid.row {w : World} {base : Nat} {v : Value} {n : Nat} {L : Nat → Nat} {f : Nat → Nat → Bool} {D : Option Nat} {lo : Nat} (h : Grid w base v n L f D lo) {j : Nat} (hj : j < n) :
    ∃ g k A k', v = .slice (some ⟨g, 0, none⟩) n k ∧ w.cell? ⟨g, j, none⟩ = some (.slice A (L j) k') ∧ BlsAt w w.heap.size A (L j) (f j) ∧ (A = none → L j = 0 ∧ k' = 0) := by
  obtain ⟨xs, ho, hc⟩ := h.ex
  rcases ho.2 with ⟨rfl, hn⟩ | ⟨g, cap, cur, rfl, hb, hh, hk, hm, _⟩
  · omega
  · obtain ⟨A, k, e1, e2, e3, _⟩ := hc j hj
    have hc := ho.cells (g := g) rfl _ _ e1
    have e : (⟨g, 0, none⟩ : Addr).add j = ⟨g, j, none⟩ := by unfold Addr.add; split <;> simp_all
    rw [e] at hc
    exact ⟨g, cap, A, k, rfl, hc, e2, e3⟩
/-- two blocks of other kinds -/
theorem own_apart {w : World} {base base' n m : Nat} {v v' : Value} {L : Nat → Nat} {f : Nat → Nat → Bool} {D : Option Nat} {xs : List Value} {lo : Nat} (h : Grid w base v n L f D lo) (h' : w.ownsRow base' 4 1 v' m xs) : v.ownBlock = none ∨ v.ownBlock ≠ v'.ownBlock := by
  obtain ⟨ys, ho, _⟩ := h.ex
  rcases ho.2 with ⟨rfl, hn⟩ | ⟨g, cap, cur, rfl, hb, hh, _⟩
  · exact Or.inl rfl
  · rcases h'.2 with ⟨rfl, _⟩ | ⟨g', cap', cur', rfl, hb', hh', _⟩
    · exact Or.inr (by simp [Value.ownBlock])
    · refine Or.inr fun e => ?_
      have e : g = g' := by simpa [Value.ownBlock] using e
      subst e
      rw [hh] at hh'
      injection hh' with hh'
      injection hh' with _ ht
      exact absurd ht (by decide)

/-- append of one list to a list of lists -/
theorem append_row {w : World} {ops : Array Oper} {rest : List Oper} {o : Oper} {a : Act} {Q : Exit → Act → World → Prop} (hgd : o.guard = none) (s x : Operand) (t : TypeId)
    (ho : o.op = .call { callee := .builtin .append, args := #[s, x], argTypes := #[t, t] }) (ht : Try.prog.underlying t = some (.slice 29))
    (base : Nat) (v : Value) (n : Nat) (L : Nat → Nat) (f : Nat → Nat → Bool) (D : Option Nat) (hs : a.eval s = v) {lo : Nat} (hown : Grid w base v n L f D lo)
    (b c : Nat) (A : Option Addr) (k : Nat) (hx : a.eval x = .slice (some ⟨b, 0, none⟩) 1 c) (hb : w.cell? ⟨b, 0, none⟩ = some (.slice A (L n) k))
    (hA : BlsAt w w.heap.size A (L n) (f n)) (hN : A = none → L n = 0 ∧ k = 0) (hD : 0 < L n → ∀ a, A = some a → some a.block ≠ v.ownBlock ∧ some a.block ≠ D)
    (hn : n ≤ 100000) (hbase : base ≤ w.heap.size)
    (h : ∀ v' w', Grid w' base v' (n + 1) L f D lo → w.grownBy w' v.ownBlock → (v'.ownBlock = v.ownBlock ∨ v'.ownBlock = some w.heap.size) → wpList Try.prog ops Q rest (a.put o.dst v') w')
    (hlo : 0 < L n → ∀ a, A = some a → lo ≤ a.block := by intros; exact Nat.zero_le _) :
    wpList Try.prog ops Q (o :: rest) a w := by
  obtain ⟨i0, hi0, hzz0, hs0, hy0⟩ := info_parts info_bools
  obtain ⟨xs, hx', hc⟩ := hown.ex
  refine wpList_append_own_at w hgd s x t ho base 29 i0 (.slice none 0 0) 1 24 ht hi0 hzz0 hs0 hy0 rfl (by decide) v n xs hs hx' ⟨b, 0, none⟩ 1 c [.slice A (L n) k] hx rfl (fun j u hu => ?_) (by simp [Value.oneCell']) (by simp only [maxLen]; omega) (by omega) hbase ?_
  · match j, hu with
    | 0, hu =>
      simp at hu
      subst hu
      simpa [Addr.add] using hb
  · intro v' w' hown' hg _ hat
    refine h v' w' ⟨⟨_, hown', fun j hj => ?_⟩⟩ hg hat
    have hl : xs.length = n := by simpa using hx'.1
    have new : ∀ {A : Option Addr} {m : Nat} {g : Nat → Bool}, BlsAt w w.heap.size A m g → 0 < m → ∀ a, A = some a → some a.block ≠ v.ownBlock → some a.block ≠ v'.ownBlock := fun hA hm a ha hne => by
      rcases hat with e | e
      · rw [e]; exact hne
      · obtain ⟨a', ea, hl, _⟩ := hA hm
        rw [ha] at ea
        cases ea
        rw [e]
        intro e
        injection e with e
        omega
    rcases Nat.lt_succ_iff_lt_or_eq.1 hj with hj' | hj'
    · obtain ⟨A', k', e1, e2, e3, e4⟩ := hc j hj'
      exact ⟨A', k', by rw [List.getElem?_append_left (by omega)]; exact e1, e2.by hg (fun hm a ha => (e4 hm a ha).1), e3, fun hm a ha => ⟨new e2 hm a ha (e4 hm a ha).1, (e4 hm a ha).2⟩⟩
    · subst hj'
      exact ⟨A, k, by rw [List.getElem?_append_right (by omega), hl]; simp, hA.by hg (fun hm a ha => (hD hm a ha).1), hN, fun hm a ha => ⟨new hA hm a ha (hD hm a ha).1, (hD hm a ha).2, hlo hm a ha⟩⟩

theorem ok_inj {α : Type} {a b : α} {w w' : World} (h : (Result.ok a w : Result α) = .ok b w') : a = b ∧ w = w' := by
  cases h
  exact ⟨rfl, rfl⟩
/-- an append leaves the cells in place that were there -/
theorem append_keeps {w w' : World} {ty : TypeId} {base n g cap : Nat} {v' : Value} {xs news : List Value} {ad : Addr} {c : Nat} (hown : w.ownsRow base 29 1 (.slice (some ⟨g, 0, none⟩) n cap) n xs)
    (hl : news.length = 1) (hnews : ∀ j u, news[j]? = some u → w.cell? (ad.add j) = some u) (h1 : ∀ u ∈ news, u.oneCell' = true) (hn : n ≤ 100000)
    (hr : (Builtin.append_ #[30, 30] ty #[.slice (some ⟨g, 0, none⟩) n cap, .slice (some ad) 1 c]).run Try.prog w = .ok v' w') : ∀ j, j < n → w'.cell? ⟨g, j, none⟩ = w.cell? ⟨g, j, none⟩ := by
  obtain ⟨i0, hi0, hzz0, hs0, hy0⟩ := info_parts info_bools
  rcases hown.2 with ⟨hv, _⟩ | ⟨g', cap', cur, hv, hb, hh, hk, hm, hcs, htake⟩
  · cases hv
  · cases hv
    intro j hj
    have hl' : news.length = 1 * i0.size := by rw [hs0]; omega
    by_cases hroom : n + 1 ≤ cap
    · have hr' := run_append_room (P := Try.prog) w 30 ty 29 i0 Try.underlying30 hi0 g n cap cur hh ad 1 c news hl' hnews h1 hroom (by rw [hs0]; omega)
      obtain ⟨_, rfl⟩ := ok_inj (hr'.symm.trans hr)
      rw [cell_setRow_same w g j cur _ _ _ hh, cell_of_row w g j cur _ _ hh, hs0]
      simp only [List.getElem?_toArray, Nat.mul_one]
      rw [List.append_assoc, List.getElem?_append_left (by simp; omega), List.getElem?_take_of_lt hj]
      simp
    · have holds : ∀ j u, xs[j]? = some u → w.cell? ((⟨g, 0, none⟩ : Addr).add j) = some u := hown.cells (g := g) rfl
      have hge : Builtin.nextslicecap (n + 1) cap * i0.bytes ≤ 281474976710656 := by
        exact growslice_fits (by omega) (by rw [hy0]; omega)
      have hr' := run_append_grow (P := Try.prog) w 30 ty 29 i0 (.slice none 0 0) Try.underlying30 hi0 hzz0 ⟨g, 0, none⟩ n cap xs (by rw [hs0]; exact hown.1) holds ad 1 c news hl' hnews (by omega) (by omega) hge
      obtain ⟨_, rfl⟩ := ok_inj (hr'.symm.trans hr)
      have hlt : g < w.heap.size := Has.lt (t := 29) (cs := cur) hh
      exact World.cell?_alloc_lt w.drew _ ⟨g, j, none⟩ hlt
/-- append of one list to a list of lists, at the operation -/
theorem wp_append_row {w : World} {o : Oper} {a : Act} {K : Act → World → Prop} {Q : Exit → Act → World → Prop} (s x : Operand)
    (ho : o.op = .call { callee := .builtin .append, args := #[s, x], argTypes := #[30, 30] })
    (base : Nat) (v : Value) (n : Nat) (L : Nat → Nat) (f : Nat → Nat → Bool) (D : Option Nat) (hs : a.eval s = v) {lo : Nat} (hown : Grid w base v n L f D lo)
    (b c : Nat) (A : Option Addr) (k : Nat) (hx : a.eval x = .slice (some ⟨b, 0, none⟩) 1 c) (hb : w.cell? ⟨b, 0, none⟩ = some (.slice A (L n) k))
    (hA : BlsAt w w.heap.size A (L n) (f n)) (hN : A = none → L n = 0 ∧ k = 0) (hD : 0 < L n → ∀ a, A = some a → some a.block ≠ v.ownBlock ∧ some a.block ≠ D)
    (hn : n ≤ 100000) (hbase : base ≤ w.heap.size)
    (h : ∀ g cap w', Grid w' base (.slice (some ⟨g, 0, none⟩) (n + 1) cap) (n + 1) L f D lo → w.grownBy w' v.ownBlock → g < w'.heap.size → (∀ g0, v.ownBlock = some g0 → ∀ j, j < n → w'.cell? ⟨g0, j, none⟩ = w.cell? ⟨g0, j, none⟩) → K (a.put o.dst (.slice (some ⟨g, 0, none⟩) (n + 1) cap)) w')
    (hlo : 0 < L n → ∀ a, A = some a → lo ≤ a.block := by intros; exact Nat.zero_le _) : o.wp Try.prog a w K Q := by
  obtain ⟨i0, hi0, hzz0, hs0, hy0⟩ := info_parts info_bools
  obtain ⟨xs, hx', hc⟩ := hown.ex
  have hnews : ∀ j u, [Value.slice A (L n) k][j]? = some u → w.cell? ((⟨b, 0, none⟩ : Addr).add j) = some u := fun j u hu => by
    match j, hu with
    | 0, hu =>
      simp at hu
      subst hu
      simpa [Addr.add] using hb
  obtain ⟨g, cap, w', hr, hown', hg, hat, hlt⟩ := run_append_lies (P := Try.prog) w 30 o.type base 29 i0 (.slice none 0 0) 1 24 Try.underlying30 hi0 hzz0 hs0 hy0 rfl (by decide) v n xs hx' ⟨b, 0, none⟩ 1 c [.slice A (L n) k] rfl hnews (by simp [Value.oneCell']) (by omega) (by simp only [maxLen]; omega) (by omega) hbase w.heap.size rfl
  have hkp : ∀ g0, v.ownBlock = some g0 → ∀ j, j < n → w'.cell? ⟨g0, j, none⟩ = w.cell? ⟨g0, j, none⟩ := fun g0 hg0 => by
    rcases hx'.2 with ⟨rfl, _⟩ | ⟨g', cap', cur, rfl, _⟩
    · cases hg0
    · obtain rfl : g' = g0 := by simpa [Value.ownBlock] using hg0
      exact append_keeps hx' rfl hnews (by simp [Value.oneCell']) hn hr
  unfold Oper.wp execOp
  simp only [ho, resolve, invoke, builtin, Sem.run_bind, Sem.run_pure, Result.andThen_ok, List.map_toArray, List.map_cons, List.map_nil, hs, hx, hr]
  · refine h g cap w' ⟨⟨_, hown', fun j hj => ?_⟩⟩ hg hlt hkp
    have hl : xs.length = n := by simpa using hx'.1
    have new : ∀ {A : Option Addr} {m : Nat} {f : Nat → Bool}, BlsAt w w.heap.size A m f → 0 < m → ∀ a, A = some a → some a.block ≠ v.ownBlock → some a.block ≠ (Value.slice (some ⟨g, 0, none⟩) (n + 1) cap).ownBlock := fun hA hm a ha hne e => by
      have e : a.block = g := by simpa [Value.ownBlock] using e
      rcases hat with e' | e'
      · exact hne (by rw [e', e])
      · obtain ⟨a', ea, hl, _⟩ := hA hm
        rw [ha] at ea
        cases ea
        omega
    rcases Nat.lt_succ_iff_lt_or_eq.1 hj with hj' | hj'
    · obtain ⟨A', k', e1, e2, e3, e4⟩ := hc j hj'
      exact ⟨A', k', by rw [List.getElem?_append_left (by omega)]; exact e1, e2.by hg (fun hm a ha => (e4 hm a ha).1), e3, fun hm a ha => ⟨new e2 hm a ha (e4 hm a ha).1, (e4 hm a ha).2⟩⟩
    · subst hj'
      exact ⟨A, k, by rw [List.getElem?_append_right (by omega), hl]; simp, hA.by hg (fun hm a ha => (hD hm a ha).1), hN, fun hm a ha => ⟨new hA hm a ha (hD hm a ha).1, (hD hm a ha).2, hlo hm a ha⟩⟩

/-- append of a list to an empty one of the call's own, at the operation -/
theorem wp_append_new {w : World} {o : Oper} {a : Act} {K : Act → World → Prop} {Q : Exit → Act → World → Prop} (s x : Operand)
    (ho : o.op = .call { callee := .builtin .append, args := #[s, x], argTypes := #[29, 29] }) (b : Nat) (hs : a.eval s = .slice (some ⟨b, 0, none⟩) 0 0) (hh : Has w b 4 #[])
    (A : Option Addr) (m k : Nat) (f : Nat → Bool) (hx : a.eval x = .slice A m k) (hA : BlsAt w w.heap.size A m f) (hN : A = none → m = 0 ∧ k = 0) (hm : m ≤ 100000)
    (h : ∀ A' k' w', BlsAt w' w'.heap.size A' m f → (A' = none → m = 0 ∧ k' = 0) → (∀ a', A' = some a' → b ≤ a'.block) → w.grownBy w' (some b) → w'.ownsRow b 4 1 (.slice A' m k') m (bL f m) → K (a.put o.dst (.slice A' m k')) w') : o.wp Try.prog a w K Q := by
  have hown : w.ownsRow b 4 1 (.slice (some ⟨b, 0, none⟩) 0 0) 0 [] := ⟨by simp, Or.inr ⟨b, 0, #[], rfl, Nat.le_refl _, hh, Nat.le_refl _, by simp [maxLen], by simp, by simp⟩⟩
  obtain ⟨i0, hi0, hzz0, hs0, hy0⟩ := info_parts info_bool1
  rcases hA.src hN with ⟨rfl, rfl, rfl, _⟩ | ⟨ad, rfl, hc⟩
  · have hrun := run_append_owned_none (P := Try.prog) (w := w) b 29 o.type 4 i0 1 Try.underlying29 hi0 _ 0 [] hown
    unfold Oper.wp
    simp [execOp, ho, resolve, invoke, builtin, hs, hx, hrun, Result.andThen]
    exact h _ _ _ (fun h => absurd h (Nat.not_lt_zero _)) (fun h => by cases h) (fun a' h => by cases h; exact Nat.le_refl _) (World.grownBy.refl w _) hown
  · obtain ⟨v', w', hr, h2, h3, _, _⟩ := run_append_own_at (P := Try.prog) w b 29 o.type 4 i0 (.bool false) 1 1 Try.underlying29 hi0 hzz0 hs0 hy0 rfl (by decide) _ 0 [] hown ad m k (bL f m) (bL_len f m) hc (bL_one f m) (by simp only [maxLen]; omega) (by omega) (Nat.le_of_lt hh.lt)
    unfold Oper.wp execOp
    simp only [ho, resolve, invoke, builtin, Sem.run_bind, Sem.run_pure, Result.andThen_ok, List.map_toArray, List.map_cons, List.map_nil, hs, hx, hr]
    rw [Nat.zero_add, List.nil_append] at h2
    obtain ⟨A', k', rfl, hi, hn, hf⟩ := own_bools2 h2
    exact h A' k' w' hi hn hf h3 h2
/-- the same, at a list of operations -/
theorem append_new {w : World} {ops : Array Oper} {rest : List Oper} {o : Oper} {a : Act} {Q : Exit → Act → World → Prop} (hgd : o.guard = none) (s x : Operand)
    (ho : o.op = .call { callee := .builtin .append, args := #[s, x], argTypes := #[29, 29] }) (b : Nat) (hs : a.eval s = .slice (some ⟨b, 0, none⟩) 0 0) (hh : Has w b 4 #[])
    (A : Option Addr) (m k : Nat) (f : Nat → Bool) (hx : a.eval x = .slice A m k) (hA : BlsAt w w.heap.size A m f) (hN : A = none → m = 0 ∧ k = 0) (hm : m ≤ 100000)
    (h : ∀ A' k' w', BlsAt w' w'.heap.size A' m f → (A' = none → m = 0 ∧ k' = 0) → (∀ a', A' = some a' → b ≤ a'.block) → w.grownBy w' (some b) → w'.ownsRow b 4 1 (.slice A' m k') m (bL f m) → wpList Try.prog ops Q rest (a.put o.dst (.slice A' m k')) w') : wpList Try.prog ops Q (o :: rest) a w :=
  wpList_plain hgd fun _ hK => wp_append_new s x ho b hs hh A m k f hx hA hN hm fun A' k' w' h1 h2 h3 h4 h5 => hK _ _ (h A' k' w' h1 h2 h3 h4 h5)
end Go.Proofs.Ytpobkemgbbgolaa
