/- The texts of a circuit with one latch's reset 0 and 1: where they differ. -/
import Derived.Test.YtmholdmcmbbdgaaDoorAsciiLn
import Derived.Test.YtmholdmcmbbdgaaDoorGatesMore
namespace Go.Proofs.YtmholdmcmbbdgaaDoor
open Go.RowKit
set_option linter.unusedVariables false
set_option linter.unusedSimpArgs false

/-- the resets, with another one for a latch -/
def setR (c : Cr) (k : Nat) (z : Int) : Nat → Int := fun j => if j = k then z else c.rs j
/-- the circuit with it -/
def Cr.rz (c : Cr) (k : Nat) (z : Int) : Cr := { c with rs := setR c k z }
theorem rz_chk {c : Cr} (h : c.chk = 0) (k : Nat) {z : Int} (hz : 0 ≤ z ∧ z ≤ 2) : (c.rz k z).chk = 0 := by
  obtain ⟨k1, k2, k3, k4, k5, k6, k7, k8⟩ := Cr.chk_zero h
  refine Cr.chk_ok (c := c.rz k z) (by show ¬ c.i < 0; omega) (by show ¬ (1000 < c.sz ∨ 100 < c.nb ∨ 100 < c.nc); omega) ⟨k5, k6, decide_eq_true fun j hj => ?_, k8⟩
  have := (of_decide_eq_true k7 : ∀ j, j < c.nl → _) j hj
  refine ⟨this.1, this.2.1, ?_⟩
  show 0 ≤ setR c k z j ∧ setR c k z j ≤ 2
  unfold setR
  split
  · exact hz
  · exact this.2.2
theorem rz_sm {c : Cr} (hs : Sm c) (k : Nat) {z : Int} (hz : 0 ≤ z ∧ z ≤ 2) : Sm (c.rz k z) :=
  ⟨hs.i, hs.nl, hs.na, hs.nb, hs.nc, hs.nx, fun j => ite_bd (i64_k z (by omega) (by omega)) (hs.rs j), hs.ga, hs.gb, hs.bd, hs.cn⟩
theorem flt_add (L : Nat → List UInt8) (k : Nat) : ∀ m, flt L (k + m) = flt L k ++ flt (fun j => L (k + j)) m
  | 0 => by simp [flt]
  | m + 1 => by rw [← Nat.add_assoc, flt, flt_add L k m, flt, List.append_assoc]
theorem flt_congr {L M : Nat → List UInt8} : ∀ {n : Nat}, (∀ j, j < n → L j = M j) → flt L n = flt M n
  | 0, _ => rfl
  | n + 1, h => by rw [flt, flt, flt_congr (n := n) fun j hj => h j (by omega), h n (by omega)]
theorem flt_at (L : Nat → List UInt8) {k n : Nat} (h : k < n) : flt L n = flt L k ++ (L k ++ flt (fun j => L (k + (j + 1))) (n - k - 1)) := by
  have e : n = k + (n - k - 1 + 1) := by omega
  rw [e, flt_add, flt_front]
  have e2 : k + (n - k - 1 + 1) - k - 1 = n - k - 1 := by omega
  rw [e2]
  rfl

section
variable {c : Cr} {k : Nat}
/-- the line of a latch -/
def lnL (c : Cr) (z : Nat → Int) (j : Nat) : List UInt8 := lin (tri (c.raw.ll j) (c.nx j) (lt3 (c.raw.ll j) (z j))) (ltn (z j))
/-- what stands ahead of the line's end -/
def hdL (c : Cr) (k : Nat) : List UInt8 := [97, 97, 103, 32] ++ lin c.raw.hd 7 ++ ech c.raw.ip c.raw.ni ++ flt (lnL c c.rs) k ++ par (tri (c.raw.ll k) (c.nx k) 0) 2
/-- what stands behind the line's end -/
def tlL (c : Cr) (k : Nat) : List UInt8 := flt (fun j => lnL c c.rs (k + (j + 1))) (c.nl - k - 1) ++ ech c.bd c.nb ++ ech c.cn c.nc ++ gts c.raw.gl c.ga c.gb c.na
theorem rz_txt (z : Int) (hk : k < c.nl) : (c.rz k z).raw.txt = [97, 97, 103, 32] ++ lin c.raw.hd 7 ++ ech c.raw.ip c.raw.ni ++ flt (lnL c c.rs) k ++ (lin (tri (c.raw.ll k) (c.nx k) (lt3 (c.raw.ll k) z)) (ltn z) ++ tlL c k) := by
  have e0 : (c.rz k z).raw.txt = [97, 97, 103, 32] ++ lin c.raw.hd 7 ++ ech c.raw.ip c.raw.ni ++ flt (lnL c (setR c k z)) c.nl ++ ech c.bd c.nb ++ ech c.cn c.nc ++ gts c.raw.gl c.ga c.gb c.na := by
    unfold Rw.txt
    rw [lts_flt]
    rfl
  have e1 : flt (lnL c (setR c k z)) k = flt (lnL c c.rs) k := flt_congr fun j hj => by
    unfold lnL setR
    rw [if_neg (by omega)]
  have e2 : flt (fun j => lnL c (setR c k z) (k + (j + 1))) (c.nl - k - 1) = flt (fun j => lnL c c.rs (k + (j + 1))) (c.nl - k - 1) := flt_congr fun j hj => by
    unfold lnL setR
    rw [if_neg (by omega)]
  have e3 : lnL c (setR c k z) k = lin (tri (c.raw.ll k) (c.nx k) (lt3 (c.raw.ll k) z)) (ltn z) := by
    unfold lnL setR
    rw [if_pos rfl]
  rw [e0, flt_at _ hk, e1, e2, e3]
  unfold tlL
  simp only [List.append_assoc]
theorem par2 (l a z : Int) : par (tri l a z) 2 = par (tri l a 0) 2 := par_congr fun j hj => by
  unfold tri
  by_cases h0 : j = 0
  · rw [if_pos h0, if_pos h0]
  · rw [if_neg h0, if_neg h0, if_pos (by omega), if_pos (by omega)]
theorem rz_txt0 (hk : k < c.nl) : (c.rz k 0).raw.txt = hdL c k ++ ([10] ++ tlL c k) := by
  rw [rz_txt 0 hk]
  have e : lin (tri (c.raw.ll k) (c.nx k) (lt3 (c.raw.ll k) 0)) (ltn 0) = par (tri (c.raw.ll k) (c.nx k) 0) 2 ++ [10] := by
    show par _ 2 ++ [10] = _
    rw [par2]
  rw [e]
  unfold hdL
  simp only [List.append_assoc]
theorem rz_txt1 (hk : k < c.nl) : (c.rz k 1).raw.txt = hdL c k ++ [32, 49] ++ ([10] ++ tlL c k) := by
  rw [rz_txt 1 hk]
  have e : lin (tri (c.raw.ll k) (c.nx k) (lt3 (c.raw.ll k) 1)) (ltn 1) = par (tri (c.raw.ll k) (c.nx k) 0) 2 ++ [32, 49] ++ [10] := by
    show (par _ 2 ++ (if 2 = 0 then [] else [32])) ++ dgs 1 ++ [10] = _
    rw [par2, dgs_1]
    simp
  rw [e]
  unfold hdL
  simp only [List.append_assoc]
theorem hdL_lfs (h : c.chk = 0) (hk : k < c.nl) : (lfs (hdL c k) : Int) = 1 + c.i + k := by
  have hb := Bd.of (raw_chk h)
  obtain ⟨h0, _⟩ := Cr.chk_zero h
  obtain ⟨a1, b1, d1⟩ := lin_wf (f := c.raw.hd) (n := 7) (by omega) (fun j hj => (hd_bd hb j hj).1)
  obtain ⟨a2, b2, d2⟩ := flt_wf (L := fun j => lin (one (c.raw.ip j)) 1) (n := c.raw.ni) (fun j hj => lin_wf (by omega) (fun _ _ => (hb.ip j hj).1))
  obtain ⟨a3, b3, d3⟩ := flt_wf (L := lnL c c.rs) (n := k) (fun j hj => lin_wf (by have := ltn_le (c.rs j); omega) (fun q _ => tri_nn (hb.ll j (by show j < c.nl; omega)).1 (hb.la j (by show j < c.nl; omega)).1 (lt3_nn (hb.ll j (by show j < c.nl; omega)).1) q))
  obtain ⟨a4, b4, d4⟩ := par_wf (f := tri (c.raw.ll k) (c.nx k) 0) (n := 1) (fun j _ => tri_nn (hb.ll k hk).1 (hb.la k hk).1 (Int.le_refl _) j)
  have e4 : lfs [97, 97, 103, 32] = 0 := by decide
  have hi : (c.raw.ni : Int) = c.i := by show ((c.i.toNat : Nat) : Int) = c.i; omega
  unfold hdL
  rw [ech_flt]
  simp only [lfs_app, d1, d2, d3, d4, e4]
  omega
end

/-- what the walk needs of the two texts -/
structure RsOk (S S1 SA SB SZ : ByteArray) (n E : Nat) (X : Nat → Int) (K : Nat → Nat) (N : Int) : Prop where
  idx : ∀ (q : Nat) (x : Int), x = (q : Int) → q < n → ∀ W : World, (Instr.index 9 (.string S) (.int .i64 x)).run Tryd.prog W = .ok (.int .u8 (X q)) W
  len : ∀ W : World, (Builtin.len_ #[9] 3 #[.string S]).run Tryd.prog W = .ok (.int .i64 (n : Int)) W
  len1 : ∀ W : World, (Builtin.len_ #[9] 3 #[.string S1]).run Tryd.prog W = .ok (.int .i64 ((n : Int) + 2)) W
  cto : ∀ W : World, (Instr.slice 9 (.string S) none (some (.int .i64 (E : Int))) none).run Tryd.prog W = .ok (.string SA) W
  cfr : ∀ W : World, (Instr.slice 9 (.string S) (some (.int .i64 (E : Int))) none none).run Tryd.prog W = .ok (.string SZ) W
  a1 : ∀ W : World, (Op.stringOp .add SA ⟨#[32, 49]⟩).run Tryd.prog W = .ok (.string SB) W
  a2 : ∀ W : World, (Op.stringOp .add SB SZ).run Tryd.prog W = .ok (.string S1) W
  en : E < n
  nup : n ≤ 60000
  xe : X E = 10
  k0 : K 0 = 0
  ks : ∀ q, q < n → K (q + 1) = K q + if X q = 10 then 1 else 0
  kle : ∀ q, K q ≤ n
  ke : (K E : Int) = N
  kl : ∀ q, q < E → X q = 10 → (K q : Int) < N

theorem lfs_mono (l : List UInt8) {a b : Nat} (h : a ≤ b) : lfs (l.take a) ≤ lfs (l.take b) := by
  have e : l.take b = l.take a ++ (l.drop a).take (b - a) := by
    rw [← List.take_add]
    congr 1
    omega
  rw [e, lfs_app]
  omega
theorem rs_ok {c : Cr} {k : Nat} (h : c.chk = 0) (hk : k < c.nl) : ∃ SA SB SZ n E X K, RsOk (str (c.rz k 0).raw.txt) (str (c.rz k 1).raw.txt) SA SB SZ n E X K (1 + c.i + k) := by
  have hS : Tryd.prog.underlying 9 = some .string := Tryd.underlying9
  have hb := Bd.of (raw_chk (rz_chk h k (z := 0) (by omega)))
  have hu := (Rw.t_len hb).2.2.2.2.2 (c.rz k 0).raw.na (Nat.le_refl _)
  rw [Rw.t6_txt] at hu
  have e0 := rz_txt0 (c := c) hk
  have e1 := rz_txt1 (c := c) hk
  have hf := hdL_lfs h hk
  generalize hdL c k = H at e0 e1 hf
  generalize tlL c k = Z at e0 e1
  rw [e0] at hu ⊢
  rw [e1]
  clear e0 e1 hb
  have hl : (H ++ ([10] ++ Z)).length = H.length + 1 + Z.length := by simp; omega
  rw [hl] at hu
  refine ⟨str H, str (H ++ [32, 49]), str ([10] ++ Z), (H ++ ([10] ++ Z)).length, H.length, fun q => (((H ++ ([10] ++ Z)).getD q 0).toNat : Int), fun q => lfs ((H ++ ([10] ++ Z)).take q), ⟨fun q x hx hq W => str_idx hS _ hx hq W, fun W => str_len hS _ W, fun W => ?_, fun W => ?_, fun W => ?_, fun W => ?_, fun W => ?_, by omega, by omega, ?_, by simp [lfs], fun q hq => ?_, fun q => ?_, ?_, fun q hq hx => ?_⟩⟩
  · rw [str_len hS _ W]
    have : (H ++ [32, 49] ++ ([10] ++ Z)).length = H.length + 1 + Z.length + 2 := by simp; omega
    rw [this, hl]
    rfl
  · have h := str_to hS (H ++ ([10] ++ Z)) (x := (H.length : Int)) (j := H.length) rfl (by omega) W
    rw [List.take_left] at h
    exact h
  · have h := str_from hS (H ++ ([10] ++ Z)) (x := (H.length : Int)) (j := H.length) rfl (by omega) W
    rw [List.drop_left] at h
    exact h
  · exact str_add (l := H) (m := [32, 49]) (by simp; omega) W
  · exact str_add (l := H ++ [32, 49]) (m := [10] ++ Z) (by simp; omega) W
  · show (((H ++ ([10] ++ Z)).getD H.length 0).toNat : Int) = 10
    rw [List.getD_eq_getElem?_getD, List.getElem?_append_right (Nat.le_refl _), Nat.sub_self]
    rfl
  · show lfs ((H ++ ([10] ++ Z)).take (q + 1)) = lfs ((H ++ ([10] ++ Z)).take q) + if (((H ++ ([10] ++ Z)).getD q 0).toNat : Int) = 10 then 1 else 0
    rw [lfs_take hq]
    have e : (if (H ++ ([10] ++ Z)).getD q 0 = 10 then 1 else 0) = (if (((H ++ ([10] ++ Z)).getD q 0).toNat : Int) = 10 then 1 else (0 : Nat)) := by
      by_cases hx : (H ++ ([10] ++ Z)).getD q 0 = 10
      · rw [if_pos hx, if_pos ((ten_num _).2 hx)]
      · rw [if_neg hx, if_neg (fun h => hx ((ten_num _).1 h))]
    rw [e]
  · show lfs ((H ++ ([10] ++ Z)).take q) ≤ (H ++ ([10] ++ Z)).length
    have h1 : lfs ((H ++ ([10] ++ Z)).take q) ≤ ((H ++ ([10] ++ Z)).take q).length := List.count_le_length
    have h2 := List.length_take_le' q (H ++ ([10] ++ Z))
    omega
  · show (lfs ((H ++ ([10] ++ Z)).take H.length) : Int) = 1 + c.i + k
    rw [List.take_left]
    exact hf
  · show (lfs ((H ++ ([10] ++ Z)).take q) : Int) < 1 + c.i + k
    have h1 := lfs_take (l := H ++ ([10] ++ Z)) (q := q) (by omega)
    have h2 := lfs_mono (H ++ ([10] ++ Z)) (a := q + 1) (b := H.length) (by omega)
    rw [List.take_left] at h2
    rw [if_pos ((ten_num _).1 hx)] at h1
    omega

end Go.Proofs.YtmholdmcmbbdgaaDoor

namespace Go.Proofs.YtmholdmcmbbdgaaDoor
open Go Go.RowKit
set_option linter.unusedVariables false
set_option linter.unusedSimpArgs false

section
variable {P : Program} {ops : Array Oper} {Q : Exit → Act → World → Prop} {md : Region.Mode} {S : World → Prop} {n : Nat}
/-- three, two, one that may come up -/
theorem wt_ways3 (i j k : Nat) {fuel : Nat} {listed : Array Bool} {a : Act} {w : World} (hr : Region.ready md ops listed = [i, j, k])
    (hi : wpOp P ops Q i (fun a' w' => (i < n → S w') ∧ WT P md ops Q S n fuel (listed.setIfInBounds i true) a' w') a w)
    (hj : wpOp P ops Q j (fun a' w' => (j < n → S w') ∧ WT P md ops Q S n fuel (listed.setIfInBounds j true) a' w') a w)
    (hk : wpOp P ops Q k (fun a' w' => (k < n → S w') ∧ WT P md ops Q S n fuel (listed.setIfInBounds k true) a' w') a w) : WT P md ops Q S n (fuel + 1) listed a w :=
  ⟨fun h0 => (by rw [hr] at h0; cases h0), fun x hx => by
    rw [hr] at hx
    rcases List.mem_cons.1 hx with rfl | hx
    · exact wpOp_mono (fun a' w' h' => ⟨h'.1, h'.2.h⟩) hi
    rcases List.mem_cons.1 hx with rfl | hx
    · exact wpOp_mono (fun a' w' h' => ⟨h'.1, h'.2.h⟩) hj
    obtain rfl : x = k := by simpa using hx
    exact wpOp_mono (fun a' w' h' => ⟨h'.1, h'.2.h⟩) hk⟩
theorem wt_ways2 (i j : Nat) {fuel : Nat} {listed : Array Bool} {a : Act} {w : World} (hr : Region.ready md ops listed = [i, j])
    (hi : wpOp P ops Q i (fun a' w' => (i < n → S w') ∧ WT P md ops Q S n fuel (listed.setIfInBounds i true) a' w') a w)
    (hj : wpOp P ops Q j (fun a' w' => (j < n → S w') ∧ WT P md ops Q S n fuel (listed.setIfInBounds j true) a' w') a w) : WT P md ops Q S n (fuel + 1) listed a w :=
  ⟨fun h0 => (by rw [hr] at h0; cases h0), fun x hx => by
    rw [hr] at hx
    rcases List.mem_cons.1 hx with rfl | hx
    · exact wpOp_mono (fun a' w' h' => ⟨h'.1, h'.2.h⟩) hi
    obtain rfl : x = j := by simpa using hx
    exact wpOp_mono (fun a' w' h' => ⟨h'.1, h'.2.h⟩) hj⟩
/-- one of several: a call, and one that makes memory -/
theorem wb_call (i s : Nat) {oi : Oper} {d : Nat} {f : FuncId} {args : Array Value} {u : Value} {fuel : Nat} {listed : Array Bool} {a : Act} {w : World} (hi : opAt ops.toList i = some oi) (hd : oi.dst = some d)
    (hw : Region.wanted oi (yielded ops a.tmps) = true) (h1 : Slot a s u) (he : ∀ ev : Operand → Value, (∀ x, ev (.const x) = x) → (∀ f, ev (.func f) = .func (.func f) #[] #[]) → ev (.tmp s) = u → (execOp ev oi).run P w = .ok (.enter f args) w)
    (h : Calls P f args w fun e w' => ∃ v, e = .returned v ∧ (i < n → S w') ∧ WT P md ops Q S n fuel (listed.setIfInBounds i true) (a.put (some d) v) w') : wpOp P ops Q i (fun a' w' => (i < n → S w') ∧ WT P md ops Q S n fuel (listed.setIfInBounds i true) a' w') a w := by
  refine wpOp_go (opAt_spec hi) hw fun K hK => ?_
  show oi.upon P a K Q _
  rw [he _ (fun _ => rfl) (fun _ => rfl) h1.eval, Oper.upon_enter]
  refine h.mono fun e w' => ?_
  rintro ⟨v, rfl, h1, h2⟩
  have h3 := hK _ _ ⟨h1, h2⟩
  show K (a.put oi.dst v) w'
  rw [hd]; exact h3
theorem wb_val (i : Nat) {oi : Oper} {d : Nat} {v : Value} {fuel : Nat} {listed : Array Bool} {a : Act} {w w' : World} (hi : opAt ops.toList i = some oi) (hd : oi.dst = some d)
    (hw : Region.wanted oi (yielded ops a.tmps) = true) (he : ∀ ev : Operand → Value, (∀ x, ev (.const x) = x) → (execOp ev oi).run P w = .ok (.value v) w')
    (h : ∀ W1, w' = W1 → (i < n → S W1) ∧ WT P md ops Q S n fuel (listed.setIfInBounds i true) (a.put (some d) v) W1) : wpOp P ops Q i (fun a' w' => (i < n → S w') ∧ WT P md ops Q S n fuel (listed.setIfInBounds i true) a' w') a w := by
  refine wpOp_go (opAt_spec hi) hw fun K hK => ?_
  show oi.upon P a K Q _
  rw [he _ (fun _ => rfl), Oper.upon_value, hd]
  exact hK _ _ (h _ rfl)
theorem wb_act2 (i s t : Nat) {oi : Oper} {u x : Value} {fuel : Nat} {listed : Array Bool} {a : Act} {w w' : World} (hi : opAt ops.toList i = some oi) (hd : oi.dst = none)
    (hw : Region.wanted oi (yielded ops a.tmps) = true) (h1 : Slot a s u) (h2 : Slot a t x) (he : ∀ ev : Operand → Value, (∀ x, ev (.const x) = x) → ev (.tmp s) = u → ev (.tmp t) = x → (execOp ev oi).run P w = .ok .skip w')
    (h : ∀ W1, w' = W1 → (i < n → S W1) ∧ WT P md ops Q S n fuel (listed.setIfInBounds i true) a W1) : wpOp P ops Q i (fun a' w' => (i < n → S w') ∧ WT P md ops Q S n fuel (listed.setIfInBounds i true) a' w') a w := by
  refine wpOp_go (opAt_spec hi) hw fun K hK => ?_
  show oi.upon P a K Q _
  rw [he _ (fun _ => rfl) h1.eval h2.eval, Oper.upon_skip, hd]
  exact hK _ _ (h _ rfl)
end

theorem own_baseT {w : World} {base base' : Nat} {e : TypeId} {size : Nat} {v : Value} {n : Nat} {xs : List Value} (h : w.ownsRow base e size v n xs) (hb : base' ≤ base) : w.ownsRow base' e size v n xs := by
  refine ⟨h.1, ?_⟩
  rcases h.2 with h | ⟨g, cap, cur, hv, hg, r⟩
  · exact Or.inl h
  · exact Or.inr ⟨g, cap, cur, hv, Nat.le_trans hb hg, r⟩
section
variable {w W W' : World} {base bx : Nat} {c : Cr} {p : Pl}
theorem OwnC.same {q : Pl} (h : OwnC W base c q) (hk : ∀ g, g < W.heap.size → (∃ e size n k xs, W.ownsRow base e size (.slice (some ⟨g, 0, none⟩) n k) n xs ∧ e ≠ 37) → W'.heap[g]? = W.heap[g]?) : OwnC W' base c q := by
  obtain ⟨⟨g1, e1, h1⟩, ⟨g2, e2, h2⟩, ⟨g3, e3, h3⟩, g4, e4, h4⟩ := h
  exact ⟨⟨g1, e1, own_keep h1 (hk _ (own_lt h1) ⟨_, _, _, _, _, h1, by decide⟩)⟩, ⟨g2, e2, own_keep h2 (hk _ (own_lt h2) ⟨_, _, _, _, _, h2, by decide⟩)⟩, ⟨g3, e3, own_keep h3 (hk _ (own_lt h3) ⟨_, _, _, _, _, h3, by decide⟩)⟩, g4, e4, own_keep h4 (hk _ (own_lt h4) ⟨_, _, _, _, _, h4, by decide⟩)⟩
theorem OwnC.on {q : Pl} (h : OwnC W base c q) (hb : Below W.heap.size W W') : OwnC W' base c q := h.same fun g hg _ => hb.block g hg
theorem OwnC.base' {q : Pl} {base' : Nat} (h : OwnC W base c q) (hb : base' ≤ base) : OwnC W base' c q := by
  obtain ⟨⟨g1, e1, h1⟩, ⟨g2, e2, h2⟩, ⟨g3, e3, h3⟩, g4, e4, h4⟩ := h
  exact ⟨⟨g1, e1, own_baseT h1 hb⟩, ⟨g2, e2, own_baseT h2 hb⟩, ⟨g3, e3, own_baseT h3 hb⟩, g4, e4, own_baseT h4 hb⟩
/-- a box is none of the rows -/
theorem box_ne {g b size n k : Nat} {e : TypeId} {xs : List Value} {cs : Array Value} (h : W.ownsRow base e size (.slice (some ⟨g, 0, none⟩) n k) n xs) (hb : Has W b 37 cs) (he : e ≠ 37) : g ≠ b := by
  rcases h.2 with ⟨h, _⟩ | ⟨g', cap, cur, hv, _, hh, _⟩
  · cases h
  · cases hv
    exact Has.ne (cs := cur) hh hb he

/-- where the statement stands: which box is there, and which copy -/
structure Bx2 (w W : World) (bx : Nat) (c : Cr) (p : Pl) (s5 s6 : Option Nat) (t1 t2 : Option Pl) : Prop where
  B : Below w.heap.size w W
  x : Has W bx 37 (cc c p)
  xl : bx < w.heap.size
  h5 : ∀ b, s5 = some b → w.heap.size ≤ b ∧ Has W b 37 zc
  h6 : ∀ b, s6 = some b → w.heap.size ≤ b ∧ Has W b 37 zc
  n56 : ∀ a b, s5 = some a → s6 = some b → a ≠ b
  o1 : ∀ q, t1 = some q → OwnC W w.heap.size c q
  o2 : ∀ q, t2 = some q → OwnC W w.heap.size c q
  n12 : ∀ q r, t1 = some q → t2 = some r → q.A1 ≠ r.A1
variable {s5 s6 : Option Nat} {t1 t2 : Option Pl}
theorem Bx2.on (h : Bx2 w W bx c p s5 s6 t1 t2) (hb : Below W.heap.size W W') : Bx2 w W' bx c p s5 s6 t1 t2 :=
  ⟨Below.step h.B h.B.size hb, h.x.keep hb h.x.lt, h.xl, fun b e => ⟨(h.h5 b e).1, (h.h5 b e).2.keep hb (h.h5 b e).2.lt⟩, fun b e => ⟨(h.h6 b e).1, (h.h6 b e).2.keep hb (h.h6 b e).2.lt⟩, h.n56, fun q e => (h.o1 q e).on hb, fun q e => (h.o2 q e).on hb, h.n12⟩
theorem Bx2.al5 (h : Bx2 w W bx c p none s6 t1 t2) : Bx2 w (W.alloc (.cells zc 37)) bx c p (some W.heap.size) s6 t1 t2 := by
  have hb : Below W.heap.size W (W.alloc (.cells zc 37)) := (Below.refl _ _).alloc (Nat.le_refl _) _
  have k := h.on hb
  exact ⟨k.B, k.x, k.xl, fun b e => by cases e; exact ⟨h.B.size, Has.new _ _ _⟩, k.h6, fun a b e1 e2 => by cases e1; have := (h.h6 b e2).2.lt; omega, k.o1, k.o2, k.n12⟩
theorem Bx2.al6 (h : Bx2 w W bx c p s5 none t1 t2) : Bx2 w (W.alloc (.cells zc 37)) bx c p s5 (some W.heap.size) t1 t2 := by
  have hb : Below W.heap.size W (W.alloc (.cells zc 37)) := (Below.refl _ _).alloc (Nat.le_refl _) _
  have k := h.on hb
  exact ⟨k.B, k.x, k.xl, k.h5, fun b e => by cases e; exact ⟨h.B.size, Has.new _ _ _⟩, fun a b e1 e2 => by cases e2; have := (h.h5 a e1).2.lt; omega, k.o1, k.o2, k.n12⟩
theorem Bx2.tw1 {q : Pl} (h : Bx2 w W bx c p s5 s6 none none) (hb : Below W.heap.size W W') (ho : OwnC W' (W.heap.size + 2) c q) : Bx2 w W' bx c p s5 s6 (some q) none := by
  have k := h.on hb
  exact ⟨k.B, k.x, k.xl, k.h5, k.h6, k.n56, fun r e => by cases e; exact ho.base' (by have := h.B.size; omega), (fun r e => by cases e), (fun r s _ e => by cases e)⟩
theorem Bx2.tw2 {q q1 : Pl} (h : Bx2 w W bx c p s5 s6 (some q1) none) (hb : Below W.heap.size W W') (ho : OwnC W' (W.heap.size + 2) c q) : Bx2 w W' bx c p s5 s6 (some q1) (some q) := by
  have k := h.on hb
  refine ⟨k.B, k.x, k.xl, k.h5, k.h6, k.n56, k.o1, fun r e => by cases e; exact ho.base' (by have := h.B.size; omega), fun r s e1 e2 => ?_⟩
  cases e1; cases e2
  obtain ⟨g1, f1, h1⟩ := (h.o1 q1 rfl).la
  obtain ⟨g2, f2, h2⟩ := ho.la
  have l1 := own_lt h1
  have l2 := own_ge h2
  rw [f1, f2]
  intro e
  injection e with e
  injection e with e
  omega

/-- all five cells of a box -/
def put5 (W : World) (b : Nat) (v0 v1 v2 v3 v4 : Value) : World := ((((W.setCell ⟨b, 0, none⟩ v0).setCell ⟨b, 1, none⟩ v1).setCell ⟨b, 2, none⟩ v2).setCell ⟨b, 3, none⟩ v3).setCell ⟨b, 4, none⟩ v4
theorem put5_far (W : World) {b g : Nat} (v0 v1 v2 v3 v4 : Value) (h : g ≠ b) : (put5 W b v0 v1 v2 v3 v4).heap[g]? = W.heap[g]? := by
  unfold put5
  rw [Below.heap_setCell _ _ _ _ h, Below.heap_setCell _ _ _ _ h, Below.heap_setCell _ _ _ _ h, Below.heap_setCell _ _ _ _ h, Below.heap_setCell _ _ _ _ h]
theorem put5_has {b : Nat} {v0 v1 v2 v3 v4 : Value} (h : Has W b 37 zc) : Has (put5 W b v0 v1 v2 v3 v4) b 37 #[v0, v1, v2, v3, v4] := by
  have := ((((h.set 0 v0).set 1 v1).set 2 v2).set 3 v3).set 4 v4
  exact this
theorem put5_below {b : Nat} (v0 v1 v2 v3 v4 : Value) (h : Below w.heap.size w W) (hb : w.heap.size ≤ b) : Below w.heap.size w (put5 W b v0 v1 v2 v3 v4) :=
  ((((h.setCell hb v0).setCell hb v1).setCell hb v2).setCell hb v3).setCell hb v4
/-- behind the statement -/
structure Bx3 (w W : World) (bx : Nat) (c : Cr) (p : Pl) (b5 b6 : Nat) (c1 c2 : Cr) (q1 q2 : Pl) : Prop where
  B : Below w.heap.size w W
  x : Has W bx 37 (cc c p)
  h5 : Has W b5 37 (cc c1 q1)
  h6 : Has W b6 37 (cc c2 q2)
  o1 : OwnC W w.heap.size c1 q1
  o2 : OwnC W w.heap.size c2 q2
  n12 : q1.A1 ≠ q2.A1
theorem Bx2.done {b5 b6 : Nat} {q1 q2 : Pl} (h : Bx2 w W bx c p (some b5) (some b6) (some q1) (some q2)) :
    Bx3 w (put5 (put5 W b5 (.int .i64 c.i) (.slice q1.A1 c.nl q1.k1) (.slice q1.A2 c.na q1.k2) (.slice q1.A3 c.nb q1.k3) (.slice q1.A4 c.nc q1.k4)) b6 (.int .i64 c.i) (.slice q2.A1 c.nl q2.k1) (.slice q2.A2 c.na q2.k2) (.slice q2.A3 c.nb q2.k3) (.slice q2.A4 c.nc q2.k4)) bx c p b5 b6 c c q1 q2 := by
  obtain ⟨l5, h5⟩ := h.h5 b5 rfl
  obtain ⟨l6, h6⟩ := h.h6 b6 rfl
  have n56 := h.n56 b5 b6 rfl rfl
  have hx := h.xl
  have far : ∀ g, g ≠ b5 → g ≠ b6 → (put5 (put5 W b5 (.int .i64 c.i) (.slice q1.A1 c.nl q1.k1) (.slice q1.A2 c.na q1.k2) (.slice q1.A3 c.nb q1.k3) (.slice q1.A4 c.nc q1.k4)) b6 (.int .i64 c.i) (.slice q2.A1 c.nl q2.k1) (.slice q2.A2 c.na q2.k2) (.slice q2.A3 c.nb q2.k3) (.slice q2.A4 c.nc q2.k4)).heap[g]? = W.heap[g]? := fun g g5 g6 => by
    rw [put5_far _ _ _ _ _ _ g6, put5_far _ _ _ _ _ _ g5]
  have n65 : b6 ≠ b5 := fun e => n56 e.symm
  refine ⟨put5_below _ _ _ _ _ (put5_below _ _ _ _ _ h.B l5) l6, ?_, ?_, ?_, (h.o1 q1 rfl).same ?_, (h.o2 q2 rfl).same ?_, h.n12 q1 q2 rfl rfl⟩
  · exact (far bx (by omega) (by omega)).trans h.x
  · have := put5_has (v0 := .int .i64 c.i) (v1 := .slice q1.A1 c.nl q1.k1) (v2 := .slice q1.A2 c.na q1.k2) (v3 := .slice q1.A3 c.nb q1.k3) (v4 := .slice q1.A4 c.nc q1.k4) h5
    exact (put5_far _ _ _ _ _ _ n56).trans this
  · have h6' : Has (put5 W b5 (.int .i64 c.i) (.slice q1.A1 c.nl q1.k1) (.slice q1.A2 c.na q1.k2) (.slice q1.A3 c.nb q1.k3) (.slice q1.A4 c.nc q1.k4)) b6 37 zc := (put5_far _ _ _ _ _ _ n65).trans h6
    exact put5_has h6'
  · rintro g hg ⟨e, size, n, k, xs, ho, he⟩
    exact far g (box_ne ho h5 he) (box_ne ho h6 he)
  · rintro g hg ⟨e, size, n, k, xs, ho, he⟩
    exact far g (box_ne ho h5 he) (box_ne ho h6 he)
/-- a reset is stored -/
theorem rz_store {k : Nat} {z : Int} {g1 g2 g3 g4 K1 K2 K3 K4 : Nat} (h : OwnC W base c (mP g1 g2 g3 g4 K1 K2 K3 K4)) (hk : k < c.nl) : OwnC (W.setCell ⟨g1, k * 2 + 1, none⟩ (.int .i64 z)) base (c.rz k z) (mP g1 g2 g3 g4 K1 K2 K3 K4) := by
  obtain ⟨⟨g1', e1, h1⟩, ⟨g2', e2, h2⟩, ⟨g3', e3, h3⟩, g4', e4, h4⟩ := h
  injection e1 with e1; injection e1 with e1 _ _; subst e1
  injection e2 with e2; injection e2 with e2 _ _; subst e2
  injection e3 with e3; injection e3 with e3 _ _; subst e3
  injection e4 with e4; injection e4 with e4 _ _; subst e4
  have n2 : g2 ≠ g1 := own_ne h2 h1 (by decide)
  have n3 : g3 ≠ g1 := own_ne h3 h1 (by decide)
  have n4 : g4 ≠ g1 := own_ne h4 h1 (by decide)
  refine ⟨⟨g1, rfl, ?_⟩, ⟨g2, rfl, own_keep h2 (Below.heap_setCell _ _ _ _ n2)⟩, ⟨g3, rfl, own_keep h3 (Below.heap_setCell _ _ _ _ n3)⟩, g4, rfl, own_keep h4 (Below.heap_setCell _ _ _ _ n4)⟩
  have := (h1.stored (k * 2 + 1) (.int .i64 z)).1
  show World.ownsRow _ base _ 2 _ c.nl (pairL c.nx (setR c k z) c.nl)
  have e : pairL c.nx (setR c k z) c.nl = (pairL c.nx c.rs c.nl).set (k * 2 + 1) (.int .i64 z) := by
    apply List.ext_getElem?
    intro j
    rw [List.getElem?_set]
    rcases Nat.lt_or_ge j (c.nl * 2) with hj | hj
    · have a := pairL_at c.nx (setR c k z) c.nl (j / 2) (by omega)
      have b := pairL_at c.nx c.rs c.nl (j / 2) (by omega)
      rw [pairL_len]
      rcases Nat.mod_two_eq_zero_or_one j with hp | hp
      · have ej : j / 2 * 2 = j := by omega
        rw [ej] at a b
        rw [if_neg (by omega), a.1, b.1]
      · have ej : j / 2 * 2 + 1 = j := by omega
        rw [ej] at a b
        rw [a.2]
        by_cases hh : k * 2 + 1 = j
        · rw [if_pos hh, if_pos (by omega)]
          unfold setR
          rw [if_pos (by omega)]
        · rw [if_neg hh, b.2]
          unfold setR
          rw [if_neg (by omega)]
    · rw [List.getElem?_eq_none (by rw [pairL_len]; omega), List.getElem?_eq_none (l := pairL c.nx c.rs c.nl) (by rw [pairL_len]; omega), pairL_len, if_neg (by omega)]
  rw [e]
  exact this
end
theorem Has.z5 {w : World} {b : Nat} (h : Has w b 37 zc) : (w.cell? ⟨b, 0, none⟩ = some (.int .i64 0) ∧ w.cell? ⟨b, 1, none⟩ = some (.slice none 0 0) ∧ w.cell? ⟨b, 2, none⟩ = some (.slice none 0 0) ∧ w.cell? ⟨b, 3, none⟩ = some (.slice none 0 0) ∧ w.cell? ⟨b, 4, none⟩ = some (.slice none 0 0)) ∧
    w.frozen? ⟨b, 0, none⟩ = false ∧ w.frozen? ⟨b, 1, none⟩ = false ∧ w.frozen? ⟨b, 2, none⟩ = false ∧ w.frozen? ⟨b, 3, none⟩ = false ∧ w.frozen? ⟨b, 4, none⟩ = false :=
  ⟨⟨h.cell 0, h.cell 1, h.cell 2, h.cell 3, h.cell 4⟩, h.fz 0, h.fz 1, h.fz 2, h.fz 3, h.fz 4⟩
/-- the box's cells, as the loads of the statement ask for them -/
def BxS (bx : Nat) (c : Cr) (p : Pl) (w : World) : Prop := w.cell? ⟨bx, 0, none⟩ = some (.int .i64 c.i) ∧ w.cell? ⟨bx, 1, none⟩ = some (.slice p.A1 c.nl p.k1) ∧ w.cell? ⟨bx, 2, none⟩ = some (.slice p.A2 c.na p.k2) ∧ w.cell? ⟨bx, 3, none⟩ = some (.slice p.A3 c.nb p.k3) ∧ w.cell? ⟨bx, 4, none⟩ = some (.slice p.A4 c.nc p.k4)
theorem Bx2.mid {w W W1 : World} {bx : Nat} {c : Cr} {p : Pl} {b5 b6 : Nat} {q1 q2 : Pl} (h : Bx2 w W bx c p (some b5) (some b6) (some q1) (some q2))
    (e : put5 W b5 (.int .i64 c.i) (.slice q1.A1 c.nl q1.k1) (.slice q1.A2 c.na q1.k2) (.slice q1.A3 c.nb q1.k3) (.slice q1.A4 c.nc q1.k4) = W1) : BxS bx c p W1 ∧ Has W1 b6 37 zc := by
  subst e
  obtain ⟨l5, h5⟩ := h.h5 b5 rfl
  obtain ⟨l6, h6⟩ := h.h6 b6 rfl
  have n56 := h.n56 b5 b6 rfl rfl
  have hx := h.xl
  have h1 : Has (put5 W b5 (.int .i64 c.i) (.slice q1.A1 c.nl q1.k1) (.slice q1.A2 c.na q1.k2) (.slice q1.A3 c.nb q1.k3) (.slice q1.A4 c.nc q1.k4)) bx 37 (cc c p) := (put5_far _ _ _ _ _ _ (by omega)).trans h.x
  exact ⟨h1.box, (put5_far _ _ _ _ _ _ (fun e => n56 e.symm)).trans h6⟩
theorem Bx2.fin3 {w W W1 W2 : World} {bx : Nat} {c : Cr} {p : Pl} {b5 b6 : Nat} {q1 q2 : Pl} (h : Bx2 w W bx c p (some b5) (some b6) (some q1) (some q2))
    (e : put5 W b5 (.int .i64 c.i) (.slice q1.A1 c.nl q1.k1) (.slice q1.A2 c.na q1.k2) (.slice q1.A3 c.nb q1.k3) (.slice q1.A4 c.nc q1.k4) = W1)
    (e2 : put5 W1 b6 (.int .i64 c.i) (.slice q2.A1 c.nl q2.k1) (.slice q2.A2 c.na q2.k2) (.slice q2.A3 c.nb q2.k3) (.slice q2.A4 c.nc q2.k4) = W2) : Bx3 w W2 bx c p b5 b6 c c q1 q2 := by
  subst e e2
  exact h.done
theorem wb_act1 {P : Program} {ops : Array Oper} {Q : Exit → Act → World → Prop} {md : Region.Mode} {S : World → Prop} {n : Nat} (i s : Nat) {oi : Oper} {u : Value} {fuel : Nat} {listed : Array Bool} {a : Act} {w w' : World} (hi : opAt ops.toList i = some oi) (hd : oi.dst = none)
    (hw : Region.wanted oi (yielded ops a.tmps) = true) (h1 : Slot a s u) (he : ∀ ev : Operand → Value, (∀ x, ev (.const x) = x) → ev (.tmp s) = u → (execOp ev oi).run P w = .ok .skip w')
    (h : ∀ W1, w' = W1 → (i < n → S W1) ∧ WT P md ops Q S n fuel (listed.setIfInBounds i true) a W1) : wpOp P ops Q i (fun a' w' => (i < n → S w') ∧ WT P md ops Q S n fuel (listed.setIfInBounds i true) a' w') a w := by
  refine wpOp_go (opAt_spec hi) hw fun K hK => ?_
  show oi.upon P a K Q _
  rw [he _ (fun _ => rfl) h1.eval, Oper.upon_skip, hd]
  exact hK _ _ (h _ rfl)
section
variable {U W W1 : World} {bx b5 b6 k : Nat} {c c1 c2 : Cr} {p : Pl} {g1 g2 g3 g4 l1 l2 l3 l4 h1 h2 h3 h4 m1 m2 m3 m4 : Nat}
theorem ownC_drew {base : Nat} {q : Pl} (h : OwnC W base c q) : OwnC W.drew base c q := ⟨h.la, h.an, h.bd, h.cn⟩
theorem Bx3.drew {q1 q2 : Pl} (h : Bx3 U W bx c p b5 b6 c1 c2 q1 q2) : Bx3 U W.drew bx c p b5 b6 c1 c2 q1 q2 := ⟨below_dn h.B 1, h.x, h.h5, h.h6, ownC_drew h.o1, ownC_drew h.o2, h.n12⟩
theorem Bx3.on {q1 q2 : Pl} (h : Bx3 U W bx c p b5 b6 c1 c2 q1 q2) (hb : Below W.heap.size W W1) : Bx3 U W1 bx c p b5 b6 c1 c2 q1 q2 := ⟨Below.step h.B h.B.size hb, h.x.keep hb h.x.lt, h.h5.keep hb h.h5.lt, h.h6.keep hb h.h6.lt, h.o1.on hb, h.o2.on hb, h.n12⟩
theorem ownC_at {base z : Nat} (h : OwnC W base c (mP g1 g2 g3 g4 l1 l2 l3 l4)) (hk : k < c.nl) : W.cell? ⟨g1, k * 2 + 1, none⟩ = some (.int .i64 (c.rs k)) ∧ W.frozen? ⟨g1, k * 2 + 1, none⟩ = false ∧ base ≤ g1 := by
  obtain ⟨g, e1, h1⟩ := h.la
  injection e1 with e1; injection e1 with e1 _ _; subst e1
  have hp := pairL_at c.nx c.rs c.nl k hk
  refine ⟨?_, h1.frozenAt _, own_ge h1⟩
  rw [h1.cellAt _ (by show _ < c.nl * 2; omega)]
  exact hp.2
theorem ownC_la {base : Nat} (h : OwnC W base c (mP g1 g2 g3 g4 l1 l2 l3 l4)) : W.ownsRow base 55 2 (.slice (some ⟨g1, 0, none⟩) c.nl l1) c.nl (pairL c.nx c.rs c.nl) := by
  obtain ⟨g, e1, h1⟩ := h.la
  injection e1 with e1; injection e1 with e1 _ _; subst e1
  exact h1
theorem ownC_far {base : Nat} {v : Value} {j : Nat} (h : OwnC W base c2 (mP h1 h2 h3 h4 m1 m2 m3 m4)) (ho : OwnC W base c1 (mP g1 g2 g3 g4 l1 l2 l3 l4)) (hne : h1 ≠ g1) : OwnC (W.setCell ⟨g1, j, none⟩ v) base c2 (mP h1 h2 h3 h4 m1 m2 m3 m4) := by
  have hr := ownC_la ho
  obtain ⟨⟨g1', e1, r1⟩, ⟨g2', e2, r2⟩, ⟨g3', e3, r3⟩, g4', e4, r4⟩ := h
  injection e1 with e1; injection e1 with e1 _ _; subst e1
  injection e2 with e2; injection e2 with e2 _ _; subst e2
  injection e3 with e3; injection e3 with e3 _ _; subst e3
  injection e4 with e4; injection e4 with e4 _ _; subst e4
  exact ⟨⟨_, rfl, own_keep r1 (Below.heap_setCell _ _ _ _ hne)⟩, ⟨_, rfl, own_keep r2 (Below.heap_setCell _ _ _ _ (own_ne r2 hr (by decide)))⟩, ⟨_, rfl, own_keep r3 (Below.heap_setCell _ _ _ _ (own_ne r3 hr (by decide)))⟩, _, rfl, own_keep r4 (Below.heap_setCell _ _ _ _ (own_ne r4 hr (by decide)))⟩
theorem has_farL {base b j : Nat} {cs : Array Value} {v : Value} (h : Has W b 37 cs) (ho : OwnC W base c1 (mP g1 g2 g3 g4 l1 l2 l3 l4)) : Has (W.setCell ⟨g1, j, none⟩ v) b 37 cs := h.far (q := ⟨g1, j, none⟩) (fun e => box_ne (ownC_la ho) h (by decide) e.symm) v
theorem ne_A1 (h : (mP g1 g2 g3 g4 l1 l2 l3 l4).A1 ≠ (mP h1 h2 h3 h4 m1 m2 m3 m4).A1) : g1 ≠ h1 := fun e => h (by subst e; rfl)
theorem Bx3.st1 {z : Int} (h : Bx3 U W bx c p b5 b6 c1 c2 (mP g1 g2 g3 g4 l1 l2 l3 l4) (mP h1 h2 h3 h4 m1 m2 m3 m4)) (hk : k < c1.nl) (e : W.setCell ⟨g1, k * 2 + 1, none⟩ (.int .i64 z) = W1) : Bx3 U W1 bx c p b5 b6 (c1.rz k z) c2 (mP g1 g2 g3 g4 l1 l2 l3 l4) (mP h1 h2 h3 h4 m1 m2 m3 m4) := by
  subst e
  exact ⟨h.B.setCell (own_ge (ownC_la h.o1)) _, has_farL h.x h.o1, has_farL h.h5 h.o1, has_farL h.h6 h.o1, rz_store h.o1 hk, ownC_far h.o2 h.o1 (fun e => ne_A1 h.n12 e.symm), h.n12⟩
theorem Bx3.st2 {z : Int} (h : Bx3 U W bx c p b5 b6 c1 c2 (mP g1 g2 g3 g4 l1 l2 l3 l4) (mP h1 h2 h3 h4 m1 m2 m3 m4)) (hk : k < c2.nl) (e : W.setCell ⟨h1, k * 2 + 1, none⟩ (.int .i64 z) = W1) : Bx3 U W1 bx c p b5 b6 c1 (c2.rz k z) (mP g1 g2 g3 g4 l1 l2 l3 l4) (mP h1 h2 h3 h4 m1 m2 m3 m4) := by
  subst e
  exact ⟨h.B.setCell (own_ge (ownC_la h.o2)) _, has_farL h.x h.o2, has_farL h.h5 h.o2, has_farL h.h6 h.o2, ownC_far h.o1 h.o2 (ne_A1 h.n12), rz_store h.o2 hk, h.n12⟩
theorem nils_mP (c : Cr) : Nils c (mP g1 g2 g3 g4 l1 l2 l3 l4) := ⟨(fun h => by cases h), (fun h => by cases h), (fun h => by cases h), (fun h => by cases h)⟩
/-- the text of a circuit with a reset, by Text -/
theorem rzText {z : Int} (hk : c.chk = 0) (hs : Sm c) (hz : 0 ≤ z ∧ z ≤ 2) {S : ByteArray} (hS : str (c.rz k z).raw.txt = S) (X : World) (hm : Mem X X.heap.size (c.rz k z) (mP g1 g2 g3 g4 l1 l2 l3 l4)) (ht : Tab X.heap.size X) :
    Calls Tryd.prog 11 #[.agg #[.int .i64 c.i, .slice (some ⟨g1, 0, none⟩) c.nl l1, .slice (some ⟨g2, 0, none⟩) c.na l2, .slice (some ⟨g3, 0, none⟩) c.nb l3, .slice (some ⟨g4, 0, none⟩) c.nc l4]] X fun e w' => e = .returned (.tuple #[.string S, .int .i64 0]) ∧ Below X.heap.size X w' := by
  have h := aText_any (c.rz k z) _ X hm (rz_sm hs k hz) (nils_mP _) ht
  unfold TextIs at h
  have hc := rz_chk hk k hz
  have e1 : (c.rz k z).tE = (c.rz k z).raw.txt := by unfold Cr.tE Rw.txtE; rw [if_pos hc, if_pos (raw_chk hc)]
  have e2 : (c.rz k z).tK = 0 := by unfold Cr.tK; rw [if_pos hc, raw_chk hc]
  rw [e1, e2, hS] at h
  exact h
end
theorem rz_box {W : World} {b k : Nat} {z : Int} {c : Cr} {g1 g2 g3 g4 l1 l2 l3 l4 : Nat} (h : Has W b 37 (cc (c.rz k z) (mP g1 g2 g3 g4 l1 l2 l3 l4))) :
    W.cell? ⟨b, 0, none⟩ = some (.int .i64 c.i) ∧ W.cell? ⟨b, 1, none⟩ = some (.slice (some ⟨g1, 0, none⟩) c.nl l1) ∧ W.cell? ⟨b, 2, none⟩ = some (.slice (some ⟨g2, 0, none⟩) c.na l2) ∧ W.cell? ⟨b, 3, none⟩ = some (.slice (some ⟨g3, 0, none⟩) c.nb l3) ∧ W.cell? ⟨b, 4, none⟩ = some (.slice (some ⟨g4, 0, none⟩) c.nc l4) :=
  ⟨h.cell 0, h.cell 1, h.cell 2, h.cell 3, h.cell 4⟩

end Go.Proofs.YtmholdmcmbbdgaaDoor
