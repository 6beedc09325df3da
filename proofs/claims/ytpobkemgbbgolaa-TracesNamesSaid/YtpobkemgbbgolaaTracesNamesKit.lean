/- The circuit and the runs that TracesNames tries: numbers, errors, memory. -/
import Derived.Test.YtpobkemgbbgolaaTraceAlive
import Derived.Test.YtpobkemgbbgolaaTraceTwin
import Derived.Test.YtpobkemgbbgolaaTraceKit
import Derived.Test.YtpobkemgbbgolaaTraceCut
namespace Go.Proofs.Ytpobkemgbbgolaa
open Go.RowKit
set_option linter.unusedVariables false
set_option linter.unusedSimpArgs false

/-- the circuit -/
def nC : Cr := ⟨1, 3, 0, 3, 1, fun j => if j = 0 then 2 else if j = 1 then 6 else 4, fun j => if j = 0 then 0 else if j = 1 then 1 else 2, fun _ => 0, fun _ => 0, fun j => if j = 0 then 0 else if j = 1 then 4 else 6, fun _ => 3⟩
/-- the run -/
def nT : Tr := ⟨3, fun j => decide (1 ≤ j), 3, fun _ => 1, fun j _ => decide (j = 2)⟩
/-- its first two frames -/
def nT2 : Tr := ⟨3, fun j => decide (1 ≤ j), 2, fun _ => 1, fun j _ => decide (j = 2)⟩
/-- the changes -/
def nV (k : Nat) : Tr := match k with
  | 0 => ⟨0, fun _ => false, 3, fun _ => 1, fun j _ => decide (j = 2)⟩
  | 1 => ⟨3, fun _ => true, 3, fun _ => 1, fun j _ => decide (j = 2)⟩
  | 2 => ⟨3, fun j => decide (j = 2), 3, fun _ => 1, fun j _ => decide (j = 2)⟩
  | 3 => ⟨3, fun j => decide (1 ≤ j), 0, fun _ => 0, fun _ _ => false⟩
  | 4 => ⟨3, fun j => decide (1 ≤ j), 3, fun j => if j = 2 then 2 else 1, fun j _ => decide (j = 2)⟩
  | _ => ⟨3, fun j => decide (1 ≤ j), 101, fun _ => 0, fun _ _ => false⟩
def nW (k : Nat) : Int := if k = 5 then 4 else 8
theorem nC_sm : Sm nC := by
  refine ⟨i64_k 1 (by decide) (by decide), by decide, by decide, by decide, by decide, fun j => ?_, fun j => ?_, fun _ => i64_k 0 (by decide) (by decide), fun _ => i64_k 0 (by decide) (by decide), fun j => ?_, fun _ => i64_k 3 (by decide) (by decide)⟩
  · show I64 (if j = 0 then 2 else if j = 1 then 6 else 4)
    split
    · exact i64_k 2 (by decide) (by decide)
    · split
      · exact i64_k 6 (by decide) (by decide)
      · exact i64_k 4 (by decide) (by decide)
  · show I64 (if j = 0 then 0 else if j = 1 then 1 else 2)
    split
    · exact i64_k 0 (by decide) (by decide)
    · split
      · exact i64_k 1 (by decide) (by decide)
      · exact i64_k 2 (by decide) (by decide)
  · show I64 (if j = 0 then 0 else if j = 1 then 4 else 6)
    split
    · exact i64_k 0 (by decide) (by decide)
    · split
      · exact i64_k 4 (by decide) (by decide)
      · exact i64_k 6 (by decide) (by decide)
theorem nT_sm : TSm nT := ⟨by decide, by decide, fun j _ => by show 1 ≤ 1000; decide⟩
theorem nT2_sm : TSm nT2 := ⟨by decide, by decide, fun j _ => by show 1 ≤ 1000; decide⟩
theorem nV_sm (k : Nat) : TSm (nV k) := by
  unfold nV
  split
  all_goals refine ⟨?_, ?_, ?_⟩
  all_goals first | (show _ ≤ 1000; decide) | (intro j _; show (if j = 2 then 2 else 1) ≤ 1000; split <;> decide) | (intro j _; first | exact (by decide : 1 ≤ 1000) | exact (by decide : 0 ≤ 1000))
theorem nC_chk : nC.chk = 0 := by decide +kernel
theorem nT_tck : nC.tck nT = 0 := by decide +kernel
theorem nT2_tck : nC.tck nT2 = 0 := by decide +kernel
theorem nV_tck : ∀ k, k < 6 → nC.tck (nV k) = nW k := by decide +kernel
theorem nT_rgt : nC.rgt nT = 2 := by decide +kernel
theorem nT_wit : nC.wti nT = 0 ∧ nC.wte nT = 57 := by decide +kernel
theorem nT2_wit : nC.wti nT2 = 2 ∧ nC.wte nT2 = 0 := by decide +kernel
theorem nT_cut : (nC.cutT nT).ni = 1 ∧ nC.cutE nT = 0 := by decide +kernel
theorem nT_sts : ∀ i, i < 3 → ∀ j, j < 3 → nC.sts nT i j = (if i = 0 then decide (1 ≤ j) else decide (j = 1)) := by decide +kernel
theorem nV_rest : ∀ k, k < 6 → nC.rgt (nV k) = 0 ∧ nC.wti (nV k) = 0 ∧ nC.wte (nV k) = nW k ∧ nC.cutE (nV k) = nW k := by decide +kernel
/-- the lists of First -/
def nF (k : Nat) (j : Nat) : Bool := if k = 0 then decide (j = 1) else if k = 1 then true else decide (j = 2)
theorem nF_fst : ∀ k, k < 3 → nC.fst 3 (nF k) = decide (k = 0) ∧ nC.fck 3 = 0 := by decide +kernel
theorem nF_nil : nC.fck 0 = 2 := by decide +kernel
/-- a circuit that is not valid -/
def nB : Cr := ⟨-1, 0, 0, 0, 0, fun _ => 0, fun _ => 0, fun _ => 0, fun _ => 0, fun _ => 0, fun _ => 0⟩
theorem nB_sm : Sm nB := ⟨i64_k (-1) (by decide) (by decide), by decide, by decide, by decide, by decide, fun _ => i64_k 0 (by decide) (by decide), fun _ => i64_k 0 (by decide) (by decide), fun _ => i64_k 0 (by decide) (by decide), fun _ => i64_k 0 (by decide) (by decide), fun _ => i64_k 0 (by decide) (by decide), fun _ => i64_k 0 (by decide) (by decide)⟩
theorem nB_fck : nB.fck 0 = 8 := by decide +kernel

theorem lt3n {j : Nat} (h : j < 3) : j = 0 ∨ j = 1 ∨ j = 2 := by omega
/-! ### where they lie -/
abbrev nP (b : Nat) : Pl := ⟨some ⟨b, 0, none⟩, none, some ⟨b + 1, 0, none⟩, some ⟨b + 1 + 1, 0, none⟩, 3, 0, 3, 1⟩
abbrev nQ (b : Nat) : Tp := ⟨some ⟨b + 1 + 1 + 1 + 1, 0, none⟩, 3, some ⟨b + 1 + 1 + 1 + 1 + 1 + 1 + 1 + 1, 0, none⟩, 3⟩
structure NAt (w : World) (b : Nat) : Prop where
  h0 : Has w b 23 #[.int .i64 2, .int .i64 0, .int .i64 6, .int .i64 1, .int .i64 4, .int .i64 2]
  h1 : Has w (b + 1) 3 #[.int .i64 0, .int .i64 4, .int .i64 6]
  h2 : Has w (b + 1 + 1) 3 #[.int .i64 3]
  h3 : Has w (b + 1 + 1 + 1) 28 #[.int .i64 1, .slice (some ⟨b, 0, none⟩) 3 3, .slice none 0 0, .slice (some ⟨b + 1, 0, none⟩) 3 3, .slice (some ⟨b + 1 + 1, 0, none⟩) 1 1]
  h4 : Has w (b + 1 + 1 + 1 + 1) 4 #[.bool false, .bool true, .bool true]
  h5 : Has w (b + 1 + 1 + 1 + 1 + 1) 4 #[.bool false]
  h6 : Has w (b + 1 + 1 + 1 + 1 + 1 + 1) 4 #[.bool false]
  h7 : Has w (b + 1 + 1 + 1 + 1 + 1 + 1 + 1) 4 #[.bool true]
  h8 : Has w (b + 1 + 1 + 1 + 1 + 1 + 1 + 1 + 1) 29 #[.slice (some ⟨b + 1 + 1 + 1 + 1 + 1, 0, none⟩) 1 1, .slice (some ⟨b + 1 + 1 + 1 + 1 + 1 + 1, 0, none⟩) 1 1, .slice (some ⟨b + 1 + 1 + 1 + 1 + 1 + 1 + 1, 0, none⟩) 1 1]
  h9 : Has w (b + 1 + 1 + 1 + 1 + 1 + 1 + 1 + 1 + 1) 32 #[.slice (some ⟨b + 1 + 1 + 1 + 1, 0, none⟩) 3 3, .slice (some ⟨b + 1 + 1 + 1 + 1 + 1 + 1 + 1 + 1, 0, none⟩) 3 3]
section
variable {w W : World} {b : Nat}
theorem NAt.to (h : NAt w b) (hb : Below w.heap.size w W) : NAt W b := ⟨h.h0.keep hb h.h0.lt, h.h1.keep hb h.h1.lt, h.h2.keep hb h.h2.lt, h.h3.keep hb h.h3.lt, h.h4.keep hb h.h4.lt, h.h5.keep hb h.h5.lt, h.h6.keep hb h.h6.lt, h.h7.keep hb h.h7.lt, h.h8.keep hb h.h8.lt, h.h9.keep hb h.h9.lt⟩
theorem NAt.mem (h : NAt w b) : Mem w w.heap.size nC (nP b) :=
  ⟨pairs_of_has h.h0 fun j hj => by rcases lt3n hj with rfl | rfl | rfl <;> exact ⟨rfl, rfl⟩, fun hn => absurd hn (Nat.not_lt_zero _), ints_of_has h.h1 fun j hj => by rcases lt3n hj with rfl | rfl | rfl <;> rfl, ints_of_has h.h2 fun j hj => by rw [Nat.lt_one_iff.1 hj]; rfl⟩
theorem NAt.rows (h : NAt w b) : RowsAt w w.heap.size (some ⟨b + 1 + 1 + 1 + 1 + 1 + 1 + 1 + 1, 0, none⟩) 3 (fun _ => 1) (fun j _ => decide (j = 2)) := fun _ => by
  refine ⟨_, rfl, h.h8.lt, fun j hj => ?_⟩
  have e : (⟨b + 1 + 1 + 1 + 1 + 1 + 1 + 1 + 1, 0, none⟩ : Addr).add j = ⟨b + 1 + 1 + 1 + 1 + 1 + 1 + 1 + 1, j, none⟩ := by unfold Addr.add; split <;> simp_all
  rw [e, h.h8.cell j]
  rcases lt3n hj with rfl | rfl | rfl
  · exact ⟨_, _, rfl, bls_of_has h.h5 fun j hj => by rw [Nat.lt_one_iff.1 hj]; rfl, (fun h => by cases h)⟩
  · exact ⟨_, _, rfl, bls_of_has h.h6 fun j hj => by rw [Nat.lt_one_iff.1 hj]; rfl, (fun h => by cases h)⟩
  · exact ⟨_, _, rfl, bls_of_has h.h7 fun j hj => by rw [Nat.lt_one_iff.1 hj]; rfl, (fun h => by cases h)⟩
theorem NAt.fi (h : NAt w b) : BlsAt w w.heap.size (some ⟨b + 1 + 1 + 1 + 1, 0, none⟩) 3 (fun j => decide (1 ≤ j)) := bls_of_has h.h4 fun j hj => by rcases lt3n hj with rfl | rfl | rfl <;> rfl
theorem NAt.run (h : NAt w b) : TMem w w.heap.size nT (nQ b) := ⟨h.fi, h.rows, (fun h => by cases h), (fun h => by cases h), ⟨Nat.le_refl _, by show 3 ≤ maxLen; decide⟩⟩
theorem NAt.run2 (h : NAt w b) : TMem w w.heap.size nT2 (nQ b) := ⟨h.fi, h.rows.first (by show 2 ≤ 3; decide), (fun h => by cases h), (fun h => by cases h), ⟨by show 2 ≤ 3; decide, by show 3 ≤ maxLen; decide⟩⟩
theorem NAt.arg (h : NAt w b) : RArg w w.heap.size nC (nP b) nT (nQ b) := ⟨h.mem, nC_sm, h.run, nT_sm⟩
theorem NAt.arg2 (h : NAt w b) : RArg w w.heap.size nC (nP b) nT2 (nQ b) := ⟨h.mem, nC_sm, h.run2, nT2_sm⟩
end
abbrev nCv (b : Nat) : Value := .agg #[.int .i64 1, .slice (some ⟨b, 0, none⟩) 3 3, .slice none 0 0, .slice (some ⟨b + 1, 0, none⟩) 3 3, .slice (some ⟨b + 1 + 1, 0, none⟩) 1 1]
abbrev nTv (b : Nat) : Value := .agg #[.slice (some ⟨b + 1 + 1 + 1 + 1, 0, none⟩) 3 3, .slice (some ⟨b + 1 + 1 + 1 + 1 + 1 + 1 + 1 + 1, 0, none⟩) 3 3]
/-! ### the calls -/
theorem nStates (b : Nat) (w : World) (h : NAt w b) : Calls Try.prog 4 #[nCv b, nTv b] w fun e w' => ∃ A k, e = .returned (.tuple #[.slice A 3 k, .int .i64 0]) ∧ RowsAt w' w'.heap.size A 3 (fun _ => 3) (nC.sts nT) ∧ Below w.heap.size w w' := by
  refine (states6_any w h.arg).mono fun e w' => ?_
  rintro ⟨A, k, he, hr, _, hb⟩
  have e1 : nC.tn nT = 3 := by decide +kernel
  rw [e1, nT_tck] at he
  rw [e1] at hr
  exact ⟨A, k, he, hr, hb⟩
theorem nRight (b : Nat) (w : World) (h : NAt w b) : Calls Try.prog 5 #[nCv b, nTv b] w fun e w' => e = .returned (.tuple #[.int .i64 2, .int .i64 0]) ∧ Below w.heap.size w w' := by
  have := tright_any w h.arg
  rw [nT_rgt, nT_tck] at this
  exact this
theorem nWitness (b : Nat) (w : World) (h : NAt w b) : Calls Try.prog 6 #[nCv b, nTv b] w fun e w' => e = .returned (.tuple #[.int .i64 0, .int .i64 57]) ∧ Below w.heap.size w w' := by
  have := twitness_any w h.arg
  rw [nT_wit.1, nT_wit.2] at this
  exact this
theorem nWitness2 (b : Nat) (w : World) (h : NAt w b) : Calls Try.prog 6 #[nCv b, .agg #[.slice (some ⟨b + 1 + 1 + 1 + 1, 0, none⟩) 3 3, .slice (some ⟨b + 1 + 1 + 1 + 1 + 1 + 1 + 1 + 1, 0, none⟩) 2 3]] w fun e w' => e = .returned (.tuple #[.int .i64 2, .int .i64 0]) ∧ Below w.heap.size w w' := by
  have := twitness_any w h.arg2
  rw [nT2_wit.1, nT2_wit.2] at this
  exact this
theorem nCut (b : Nat) (w : World) (h : NAt w b) : Calls Try.prog 7 #[nCv b, nTv b] w fun e w' => ∃ A n k A' k', e = .returned (.tuple #[.agg #[.slice A n k, .slice A' 1 k'], .int .i64 0]) ∧ Below w.heap.size w w' := by
  refine (tcut_any w h.arg).mono fun e w' => ?_
  rintro ⟨q, he, _, hb⟩
  have h1 := nT_cut.1
  have h2 := nT_cut.2
  refine ⟨q.A1, (nC.cutT nT).nf, q.k1, q.A2, q.k2, ?_, hb⟩
  rw [he, h2]
  show Ending.returned (.tuple #[.agg #[.slice q.A1 (nC.cutT nT).nf q.k1, .slice q.A2 (nC.cutT nT).ni q.k2], .int .i64 0]) = _
  rw [h1]
theorem nFirst (b : Nat) (w : World) (h : NAt w b) (k : Nat) (hk : k < 3) (A : Option Addr) (c : Nat) (hA : BlsAt w w.heap.size A 3 (nF k)) : Calls Try.prog 8 #[nCv b, .slice A 3 c] w fun e w' => e = .returned (.tuple #[.bool (decide (k = 0)), .int .i64 0]) ∧ Below w.heap.size w w' := by
  have := first_any nC (nP b) A 3 c (nF k) w h.mem nC_sm hA (by decide)
  rw [(nF_fst k hk).1, (nF_fst k hk).2] at this
  exact this
theorem nFirst0 (b : Nat) (w : World) (h : NAt w b) : Calls Try.prog 8 #[nCv b, .slice none 0 0] w fun e w' => ∃ x, e = .returned (.tuple #[.bool x, .int .i64 2]) ∧ Below w.heap.size w w' := by
  have := first_any nC (nP b) none 0 0 (fun _ => false) w h.mem nC_sm (fun h => absurd h (Nat.not_lt_zero _)) (by decide)
  rw [nF_nil] at this
  exact this.mono fun e w' h => ⟨_, h.1, h.2⟩
theorem nFirstB (w : World) : Calls Try.prog 8 #[.agg #[.int .i64 (-1), .slice none 0 0, .slice none 0 0, .slice none 0 0, .slice none 0 0], .slice none 0 0] w fun e w' => ∃ x, e = .returned (.tuple #[.bool x, .int .i64 8]) ∧ Below w.heap.size w w' := by
  have := first_any nB ⟨none, none, none, none, 0, 0, 0, 0⟩ none 0 0 (fun _ => false) w ⟨fun h => absurd h (Nat.not_lt_zero _), fun h => absurd h (Nat.not_lt_zero _), fun h => absurd h (Nat.not_lt_zero _), fun h => absurd h (Nat.not_lt_zero _)⟩ nB_sm (fun h => absurd h (Nat.not_lt_zero _)) (by decide)
  rw [nB_fck] at this
  exact this.mono fun e w' h => ⟨_, h.1, h.2⟩
section
variable {b q : Nat} {t : Tp}
theorem vArg (w : World) (h : NAt w b) (ht : TMem w w.heap.size (nV q) t) : RArg w w.heap.size nC (nP b) (nV q) t := ⟨h.mem, nC_sm, ht, nV_sm q⟩
theorem vTck (hq : q < 6) : nC.tck (nV q) ≠ 0 := by
  rw [nV_tck q hq]; unfold nW; split <;> decide
theorem vStates (hq : q < 6) (w : World) (h : NAt w b) (ht : TMem w w.heap.size (nV q) t) : Calls Try.prog 4 #[nCv b, tv (nV q) t] w fun e w' => ∃ A n k, e = .returned (.tuple #[.slice A n k, .int .i64 (nW q)]) ∧ Below w.heap.size w w' := by
  refine (states6_any w (vArg w h ht)).mono fun e w' => ?_
  rintro ⟨A, k, he, _, _, hb⟩
  rw [nV_tck q hq] at he
  exact ⟨A, _, k, he, hb⟩
theorem vRight (hq : q < 6) (w : World) (h : NAt w b) (ht : TMem w w.heap.size (nV q) t) : Calls Try.prog 5 #[nCv b, tv (nV q) t] w fun e w' => ∃ x, e = .returned (.tuple #[.int .i64 x, .int .i64 (nW q)]) ∧ Below w.heap.size w w' := by
  have := tright_any w (vArg w h ht)
  rw [nV_tck q hq] at this
  exact this.mono fun e w' h => ⟨_, h.1, h.2⟩
theorem vWitness (hq : q < 6) (w : World) (h : NAt w b) (ht : TMem w w.heap.size (nV q) t) : Calls Try.prog 6 #[nCv b, tv (nV q) t] w fun e w' => ∃ x, e = .returned (.tuple #[.int .i64 x, .int .i64 (nW q)]) ∧ Below w.heap.size w w' := by
  have := twitness_any w (vArg w h ht)
  rw [(nV_rest q hq).2.2.1] at this
  exact this.mono fun e w' h => ⟨_, h.1, h.2⟩
theorem vCut (hq : q < 6) (w : World) (h : NAt w b) (ht : TMem w w.heap.size (nV q) t) : Calls Try.prog 7 #[nCv b, tv (nV q) t] w fun e w' => ∃ A n k A' n' k', e = .returned (.tuple #[.agg #[.slice A n k, .slice A' n' k'], .int .i64 (nW q)]) ∧ Below w.heap.size w w' := by
  refine (tcut_any w (vArg w h ht)).mono fun e w' => ?_
  rintro ⟨r, he, _, hb⟩
  rw [(nV_rest q hq).2.2.2] at he
  exact ⟨_, _, _, _, _, _, he, hb⟩
theorem vCheck (hq : q < 6) (w : World) (h : NAt w b) (ht : TMem w w.heap.size (nV q) t) : Calls Try.prog 10 #[nCv b, tv (nV q) t] w fun e w' => e = .returned (.int .i64 (nW q)) ∧ Below w.heap.size w w' := by
  have := check_any w (vArg w h ht)
  rw [nV_tck q hq] at this
  exact this
end
/-- a row of a list of lists is written -/
theorem Grid.put {w : World} {base n g k lo : Nat} {L : Nat → Nat} {f : Nat → Nat → Bool} {D : Option Nat} (h : Grid w base (.slice (some ⟨g, 0, none⟩) n k) n L f D lo) {j n' k' : Nat} {A' : Option Addr} {f' : Nat → Bool} (hj : j < n)
    (hA : BlsAt (w.setCell ⟨g, j, none⟩ (.slice A' n' k')) (w.setCell ⟨g, j, none⟩ (.slice A' n' k')).heap.size A' n' f') (hN : A' = none → n' = 0 ∧ k' = 0) :
    RowsAt (w.setCell ⟨g, j, none⟩ (.slice A' n' k')) (w.setCell ⟨g, j, none⟩ (.slice A' n' k')).heap.size (some ⟨g, 0, none⟩) n (fun i => if i = j then n' else L i) (fun i => if i = j then f' else f i) := fun hn => by
  obtain ⟨xs, ho, hx⟩ := h.ex
  have hgl := own_lt ho
  refine ⟨_, rfl, by simpa [World.setCell] using hgl, fun i hi => ?_⟩
  have e : (⟨g, 0, none⟩ : Addr).add i = ⟨g, i, none⟩ := by unfold Addr.add; split <;> simp_all
  obtain ⟨A, c, hxi, hB, hN2, hap⟩ := hx i hi
  have hci := ho.cells (g := g) rfl i _ hxi
  rw [e] at hci ⊢
  by_cases hij : i = j
  · subst hij
    simp only [reduceIte]
    exact ⟨A', k', World.cell?_setCell_same _ _ _ hci, hA, hN⟩
  · simp only [hij, reduceIte]
    refine ⟨A, c, (World.cell?_setCell_other _ _ _ _ (fun h => hij (by injection h with _ h _; exact h.symm))).trans hci, ?_, hN2⟩
    exact hB.by (grown_set w g j _) fun hL a ha => (hap hL a ha).1

theorem NAt.cells {w : World} {b : Nat} (h : NAt w b) : w.cell? ⟨b + 1 + 1 + 1, 0, none⟩ = some (.int .i64 1) ∧ w.cell? ⟨b + 1 + 1 + 1, 1, none⟩ = some (.slice (some ⟨b, 0, none⟩) 3 3) ∧ w.cell? ⟨b + 1 + 1 + 1, 2, none⟩ = some (.slice none 0 0) ∧ w.cell? ⟨b + 1 + 1 + 1, 3, none⟩ = some (.slice (some ⟨b + 1, 0, none⟩) 3 3) ∧ w.cell? ⟨b + 1 + 1 + 1, 4, none⟩ = some (.slice (some ⟨b + 1 + 1, 0, none⟩) 1 1) ∧
    w.cell? ⟨b + 1 + 1 + 1 + 1 + 1 + 1 + 1 + 1 + 1, 0, none⟩ = some (.slice (some ⟨b + 1 + 1 + 1 + 1, 0, none⟩) 3 3) ∧ w.cell? ⟨b + 1 + 1 + 1 + 1 + 1 + 1 + 1 + 1 + 1, 1, none⟩ = some (.slice (some ⟨b + 1 + 1 + 1 + 1 + 1 + 1 + 1 + 1, 0, none⟩) 3 3) ∧ b + 1 + 1 + 1 + 1 + 1 + 1 + 1 + 1 + 1 < w.heap.size :=
  ⟨h.h3.cell 0, h.h3.cell 1, h.h3.cell 2, h.h3.cell 3, h.h3.cell 4, h.h9.cell 0, h.h9.cell 1, h.h9.lt⟩
/-- what is kept from call to call -/
structure NK (w wk : World) (A3 : Option Addr) : Prop where
  b : Below w.heap.size w wk
  n : NAt wk w.heap.size
  s : RowsAt wk wk.heap.size A3 3 (fun _ => 3) (nC.sts nT)
theorem NK.to {w wk wl : World} {A3 : Option Addr} (h : NK w wk A3) (hb : Below wk.heap.size wk wl) : NK w wl A3 := ⟨Below.step h.b h.b.size hb, h.n.to hb, h.s.to hb hb.size⟩
theorem NK.al {w wk : World} {A3 : Option Addr} (h : NK w wk A3) (o : Obj) : NK w (wk.alloc o) A3 := h.to ((Below.refl _ _).alloc (Nat.le_refl _) _)
theorem NK.dn {w wk : World} {A3 : Option Addr} (h : NK w wk A3) : NK w wk.drew A3 := h.to (below_dn (Below.refl _ _) 1)
structure NK2 (w wk : World) (A3 : Option Addr) (b12 : Nat) (cs : Array Value) (bF bW : Nat) : Prop where
  k : NK w wk A3
  c : Has wk b12 32 cs
  f : RowsAt wk wk.heap.size (some ⟨bF, 0, none⟩) 3 (fun _ => 3) nF
  t : BlsAt wk wk.heap.size (some ⟨bW, 0, none⟩) 3 (fun j => decide (j = 0))
theorem NK2.to {w wk wl : World} {A3 : Option Addr} {b12 bF bW : Nat} {cs : Array Value} (h : NK2 w wk A3 b12 cs bF bW) (hb : Below wk.heap.size wk wl) : NK2 w wl A3 b12 cs bF bW := ⟨h.k.to hb, h.c.keep hb h.c.lt, h.f.to hb hb.size, h.t.to hb hb.size⟩
/-- the lists of First, where they have just been laid -/
theorem nF_rows {w : World} {g0 g1 g2 g3 : Nat} (h0 : Has w g0 4 #[.bool false, .bool true, .bool false]) (h1 : Has w g1 4 #[.bool true, .bool true, .bool true]) (h2 : Has w g2 4 #[.bool false, .bool false, .bool true]) (h3 : Has w g3 29 #[.slice (some ⟨g0, 0, none⟩) 3 3, .slice (some ⟨g1, 0, none⟩) 3 3, .slice (some ⟨g2, 0, none⟩) 3 3]) : RowsAt w w.heap.size (some ⟨g3, 0, none⟩) 3 (fun _ => 3) nF := fun _ => by
  refine ⟨_, rfl, h3.lt, fun j hj => ?_⟩
  have e : (⟨g3, 0, none⟩ : Addr).add j = ⟨g3, j, none⟩ := by unfold Addr.add; split <;> simp_all
  rw [e, h3.cell j]
  rcases lt3n hj with rfl | rfl | rfl
  · exact ⟨_, _, rfl, bls_of_has h0 fun j hj => by rcases lt3n hj with rfl | rfl | rfl <;> rfl, (fun h => by cases h)⟩
  · exact ⟨_, _, rfl, bls_of_has h1 fun j hj => by rcases lt3n hj with rfl | rfl | rfl <;> rfl, (fun h => by cases h)⟩
  · exact ⟨_, _, rfl, bls_of_has h2 fun j hj => by rcases lt3n hj with rfl | rfl | rfl <;> rfl, (fun h => by cases h)⟩
/-- the states that are wanted -/
theorem nS_rows {w : World} {g0 g1 g2 g3 : Nat} (h0 : Has w g0 4 #[.bool false, .bool true, .bool true]) (h1 : Has w g1 4 #[.bool false, .bool true, .bool false]) (h2 : Has w g2 4 #[.bool false, .bool true, .bool false]) (h3 : Has w g3 29 #[.slice (some ⟨g0, 0, none⟩) 3 3, .slice (some ⟨g1, 0, none⟩) 3 3, .slice (some ⟨g2, 0, none⟩) 3 3]) : RowsAt w w.heap.size (some ⟨g3, 0, none⟩) 3 (fun _ => 3) (fun i j => if i = 0 then decide (1 ≤ j) else decide (j = 1)) := fun _ => by
  refine ⟨_, rfl, h3.lt, fun j hj => ?_⟩
  have e : (⟨g3, 0, none⟩ : Addr).add j = ⟨g3, j, none⟩ := by unfold Addr.add; split <;> simp_all
  rw [e, h3.cell j]
  rcases lt3n hj with rfl | rfl | rfl
  · exact ⟨_, _, rfl, bls_of_has h0 fun j hj => by rcases lt3n hj with rfl | rfl | rfl <;> rfl, (fun h => by cases h)⟩
  · exact ⟨_, _, rfl, bls_of_has h1 fun j hj => by rcases lt3n hj with rfl | rfl | rfl <;> rfl, (fun h => by cases h)⟩
  · exact ⟨_, _, rfl, bls_of_has h2 fun j hj => by rcases lt3n hj with rfl | rfl | rfl <;> rfl, (fun h => by cases h)⟩
theorem nSame (w : World) (A A' : Option Addr) (k k' : Nat) (hA : RowsAt w w.heap.size A 3 (fun _ => 3) (nC.sts nT)) (hA' : RowsAt w w.heap.size A' 3 (fun _ => 3) (fun i j => if i = 0 then decide (1 ≤ j) else decide (j = 1))) : Calls Try.prog 13 #[.slice A 3 k, .slice A' 3 k'] w fun e w' => e = .returned (.bool true) ∧ Below w.heap.size w w' :=
  samRs_at (samR_yes fun i hi => by unfold samB; exact decide_eq_true ⟨rfl, fun j hj => nT_sts i hi j hj⟩) A A' k k' w.heap.size w (Nat.le_refl _) (by omega) (fun _ _ => by omega) (fun _ _ => by omega) hA hA'
theorem nNone (p : Pl) (q : Tp) (w : World) (hm : Mem w w.heap.size exA p) (ht : TMem w w.heap.size (rnT 1) q) : Calls Try.prog 7 #[cv exA p, tv (rnT 1) q] w fun e w' => ∃ A n k A' n' k', e = .returned (.tuple #[.agg #[.slice A n k, .slice A' n' k'], .int .i64 6]) ∧ Below w.heap.size w w' := by
  refine (tcut_any w ⟨hm, exA_sm, ht, rnT_sm (by omega)⟩).mono fun e w' => ?_
  rintro ⟨r, he, _, hb⟩
  rw [exA_c1] at he
  exact ⟨_, _, _, _, _, _, he, hb⟩
theorem made_rows (w : World) (g : Nat) (hg : w.heap.size = g) : RowsAt (w.alloc (.cells (madeCells #[.slice none 0 0] 101) 29)) (w.alloc (.cells (madeCells #[.slice none 0 0] 101) 29)).heap.size (some ⟨g, 0, none⟩) 101 (fun _ => 0) (fun _ _ => false) := fun _ => by
  subst hg
  have h := World.rowIs_made w (.slice none 0 0) 101 29
  refine ⟨_, rfl, by simp, fun j hj => ?_⟩
  have e : (⟨w.heap.size, 0, none⟩ : Addr).add j = ⟨w.heap.size, j, none⟩ := by unfold Addr.add; split <;> simp_all
  rw [e]
  exact ⟨none, 0, h.cell hj, (fun hh => absurd hh (Nat.not_lt_zero _)), fun _ => ⟨rfl, rfl⟩⟩

theorem own_put6 {w : World} {base : Nat} {e : TypeId} {g n k : Nat} {xs : List Value} (h : w.ownsRow base e 1 (.slice (some ⟨g, 0, none⟩) n k) n xs) {j : Nat} (hj : j < n) (u : Value) : (w.setCell ⟨g, j, none⟩ u).ownsRow base e 1 (.slice (some ⟨g, 0, none⟩) n k) n (xs.set j u) := by
  obtain ⟨h1, h2⟩ := h
  refine ⟨by simpa using h1, ?_⟩
  rcases h2 with ⟨h2, _⟩ | ⟨g', cap, cur, hv, hb, hh, hn, hc, hs, ht⟩
  · cases h2
  · cases hv
    refine Or.inr ⟨g, k, cur.setIfInBounds j u, rfl, hb, (show Has w g e cur from hh).set j u, hn, hc, by simpa using hs, ?_⟩
    rw [Nat.mul_one] at ht ⊢
    rw [Array.toList_setIfInBounds, ← ht, List.take_set]
theorem own_bls6 {w : World} {base : Nat} {e : TypeId} {g k n : Nat} {f : Nat → Bool} (h : w.ownsRow base e 1 (.slice (some ⟨g, 0, none⟩) n k) n (bL f n)) : BlsAt w w.heap.size (some ⟨g, 0, none⟩) n f := by
  obtain ⟨A, k', hv, hb, _⟩ := own_bools h
  cases hv
  exact hb
/-- the copy of the run -/
structure TW (w0 w : World) (g k g2 k2 : Nat) : Prop where
  ex : ∃ lo, w.ownsRow w0.heap.size 4 1 (.slice (some ⟨g, 0, none⟩) 3 k) 3 (bL (fun j => decide (1 ≤ j)) 3) ∧ Grid w lo (.slice (some ⟨g2, 0, none⟩) 3 k2) 3 (fun _ => 1) (fun j _ => decide (j = 2)) none lo ∧ g < lo ∧ w0.heap.size ≤ lo
  b : Below w0.heap.size w0 w
section
variable {w0 w : World} {g k g2 k2 : Nat}
theorem nTwin {b : Nat} (w0 : World) (h : NAt w0 b) : Calls Try.prog 9 #[nTv b] w0 fun e w => ∃ g k g2 k2, e = .returned (.agg #[.slice (some ⟨g, 0, none⟩) 3 k, .slice (some ⟨g2, 0, none⟩) 3 k2]) ∧ TW w0 w g k g2 k2 := by
  refine (twin6_any w0 h.run nT_sm).mono fun e w => ?_
  rintro ⟨A, k, v, he, ⟨lo, hlo, ho, hg, hG⟩, hb⟩
  rcases ho.2 with ⟨_, h0⟩ | ⟨g, cap, cur, hv, _⟩
  · cases h0
  · cases hv
    obtain ⟨A2, k2, rfl, _, hn2, _⟩ := hG.at
    obtain ⟨xs, ho2, _⟩ := hG.ex
    rcases ho2.2 with ⟨_, h0⟩ | ⟨g2, cap2, cur2, hv2, _⟩
    · cases h0
    · cases hv2
      exact ⟨g, k, g2, k2, he, ⟨lo, ho, hG, hg g rfl, hlo⟩, hb⟩
theorem TW.al (h : TW w0 w g k g2 k2) (o : Obj) : TW w0 (w.alloc o) g k g2 k2 := by
  obtain ⟨⟨lo, ho, hG, h1, h2⟩, hb⟩ := h
  exact ⟨⟨lo, ho.alloc o, hG.al o, h1, h2⟩, hb.alloc hb.size o⟩
theorem TW.ge (h : TW w0 w g k g2 k2) : w0.heap.size ≤ g ∧ w0.heap.size ≤ g2 ∧ g < w.heap.size ∧ g2 < w.heap.size ∧ g ≠ g2 ∧ (3 ≤ k ∧ k ≤ maxLen) ∧ 3 ≤ k2 ∧ k2 ≤ maxLen := by
  obtain ⟨⟨lo, ho, hG, h1, h2⟩, hb⟩ := h
  obtain ⟨xs, ho2, _⟩ := hG.ex
  have a1 := own_ge ho
  have a2 := own_lt ho
  have a3 := own_ge ho2
  have a4 := own_lt ho2
  obtain ⟨A, c, hv, _, _, hk2, _⟩ := hG.at
  cases hv
  refine ⟨a1, by omega, a2, a4, by omega, ?_, hk2.1, hk2.2⟩
  rcases ho.2 with ⟨h0, _⟩ | ⟨g', cap, cur, hv, _, _, hn, hc, _⟩
  · cases h0
  · cases hv; exact ⟨hn, hc⟩
theorem own_cell6 {w : World} {base : Nat} {e : TypeId} {g k n : Nat} {xs : List Value} (h : w.ownsRow base e 1 (.slice (some ⟨g, 0, none⟩) n k) n xs) {j : Nat} {u : Value} (hu : xs[j]? = some u) : w.cell? ⟨g, j, none⟩ = some u ∧ w.frozen? ⟨g, j, none⟩ = false := by
  constructor
  · have := h.cells (g := g) rfl j u hu
    have e : (⟨g, 0, none⟩ : Addr).add j = ⟨g, j, none⟩ := by unfold Addr.add; split <;> simp_all
    rwa [e] at this
  · rcases h.2 with ⟨h0, _⟩ | ⟨g', cap, cur, hv, _, hh, _⟩
    · cases h0
    · cases hv; exact (show Has w g e cur from hh).fz j
theorem TW.cells (h : TW w0 w g k g2 k2) : (w.cell? ⟨g, 0, none⟩ = some (.bool false) ∧ w.frozen? ⟨g, 0, none⟩ = false) ∧ (w.cell? ⟨g, 1, none⟩ = some (.bool true) ∧ w.frozen? ⟨g, 1, none⟩ = false) ∧ ∃ v, w.cell? ⟨g2, 2, none⟩ = some v ∧ w.frozen? ⟨g2, 2, none⟩ = false := by
  obtain ⟨⟨lo, ho, hG, h1, h2⟩, hb⟩ := h
  obtain ⟨xs, ho2, hx⟩ := hG.ex
  obtain ⟨A, c, hx2, _⟩ := hx 2 (by omega)
  exact ⟨own_cell6 ho rfl, own_cell6 ho rfl, _, own_cell6 ho2 hx2⟩
theorem TW.rows (h : TW w0 w g k g2 k2) : RowsAt w w.heap.size (some ⟨g2, 0, none⟩) 3 (fun _ => 1) (fun j _ => decide (j = 2)) := by
  obtain ⟨⟨lo, ho, hG, h1, h2⟩, hb⟩ := h
  obtain ⟨A, c, hv, hr, _⟩ := hG.at
  cases hv
  exact hr
theorem TW.fi (h : TW w0 w g k g2 k2) : BlsAt w w.heap.size (some ⟨g, 0, none⟩) 3 (fun j => decide (1 ≤ j)) := by
  obtain ⟨⟨lo, ho, hG, h1, h2⟩, hb⟩ := h
  exact own_bls6 ho
theorem TW.kk (h : TW w0 w g k g2 k2) : 3 ≤ k2 ∧ k2 ≤ maxLen := h.ge.2.2.2.2.2.2
theorem TW.v0 (h : TW w0 w g k g2 k2) : TMem w w.heap.size (nV 0) ⟨none, 0, some ⟨g2, 0, none⟩, k2⟩ := ⟨fun hn => absurd hn (Nat.not_lt_zero _), h.rows, fun _ => ⟨rfl, rfl⟩, (fun h => by cases h), h.kk⟩
theorem TW.v3 (h : TW w0 w g k g2 k2) : TMem w w.heap.size (nV 3) ⟨some ⟨g, 0, none⟩, k, none, 0⟩ := ⟨h.fi, fun hn => absurd hn (Nat.not_lt_zero _), (fun h => by cases h), fun _ => ⟨rfl, rfl⟩, ⟨Nat.le_refl _, Nat.zero_le _⟩⟩
theorem TW.set (h : TW w0 w g k g2 k2) (j : Nat) (u : Value) : RowsAt (w.setCell ⟨g, j, none⟩ u) (w.setCell ⟨g, j, none⟩ u).heap.size (some ⟨g2, 0, none⟩) 3 (fun _ => 1) (fun j _ => decide (j = 2)) := by
  obtain ⟨⟨lo, ho, hG, h1, h2⟩, hb⟩ := h
  obtain ⟨A, c, hv, hr, _⟩ := (hG.under (grown_set w g j u) h1 h1).at
  cases hv
  exact hr
theorem TW.v1 (h : TW w0 w g k g2 k2) : TMem (w.setCell ⟨g, 0, none⟩ (.bool true)) (w.setCell ⟨g, 0, none⟩ (.bool true)).heap.size (nV 1) ⟨some ⟨g, 0, none⟩, k, some ⟨g2, 0, none⟩, k2⟩ := by
  refine ⟨?_, h.set _ _, (fun h => by cases h), (fun h => by cases h), h.kk⟩
  obtain ⟨⟨lo, ho, hG, h1, h2⟩, hb⟩ := h
  exact own_bls6 (f := fun _ => true) (own_put6 ho (j := 0) (by omega) (.bool true))
theorem TW.v2 (h : TW w0 w g k g2 k2) : TMem (w.setCell ⟨g, 1, none⟩ (.bool false)) (w.setCell ⟨g, 1, none⟩ (.bool false)).heap.size (nV 2) ⟨some ⟨g, 0, none⟩, k, some ⟨g2, 0, none⟩, k2⟩ := by
  refine ⟨?_, h.set _ _, (fun h => by cases h), (fun h => by cases h), h.kk⟩
  obtain ⟨⟨lo, ho, hG, h1, h2⟩, hb⟩ := h
  exact own_bls6 (f := fun j => decide (j = 2)) (own_put6 ho (j := 1) (by omega) (.bool false))
theorem TW.v4 (h : TW w0 w g k g2 k2) {x : Nat} (hx : Has w x 4 #[.bool true, .bool true]) (hne : x ≠ g2) : TMem (w.setCell ⟨g2, 2, none⟩ (.slice (some ⟨x, 0, none⟩) 2 2)) (w.setCell ⟨g2, 2, none⟩ (.slice (some ⟨x, 0, none⟩) 2 2)).heap.size (nV 4) ⟨some ⟨g, 0, none⟩, k, some ⟨g2, 0, none⟩, k2⟩ := by
  have hkk := h.kk
  have hgn := h.ge.2.2.2.2.1
  have hfi := h.fi
  obtain ⟨⟨lo, ho, hG, h1, h2⟩, hb⟩ := h
  have hx' : Has (w.setCell ⟨g2, 2, none⟩ (.slice (some ⟨x, 0, none⟩) 2 2)) x 4 #[.bool true, .bool true] := hx.far (q := ⟨g2, 2, none⟩) hne _
  have hr := hG.put (j := 2) (n' := 2) (k' := 2) (A' := some ⟨x, 0, none⟩) (f' := fun _ => true) (by omega) (bls_of_has hx' fun j hj => by rcases (show j = 0 ∨ j = 1 by omega) with rfl | rfl <;> rfl) (fun h => by cases h)
  refine ⟨hfi.by (grown_set w g2 2 _) fun _ a ha => by cases ha; simpa using hgn, ?_, (fun h => by cases h), (fun h => by cases h), hkk⟩
  exact hr.congr (fun j hj => rfl) fun j hj i hi => by
    show (if j = 2 then (fun _ => true) else fun _ => decide (j = 2)) i = decide (j = 2)
    by_cases e : j = 2
    · subst e; rfl
    · rw [if_neg e]
theorem TW.v5 (h : TW w0 w g k g2 k2) {x : Nat} (hx : w.heap.size = x) : TMem (w.alloc (.cells (madeCells #[.slice none 0 0] 101) 29)) (w.alloc (.cells (madeCells #[.slice none 0 0] 101) 29)).heap.size (nV 5) ⟨some ⟨g, 0, none⟩, k, some ⟨x, 0, none⟩, 101⟩ :=
  ⟨(h.al _).fi, made_rows w x hx, (fun h => by cases h), (fun h => by cases h), ⟨by show 101 ≤ 101; decide, by show 101 ≤ maxLen; decide⟩⟩
end

end Go.Proofs.Ytpobkemgbbgolaa
