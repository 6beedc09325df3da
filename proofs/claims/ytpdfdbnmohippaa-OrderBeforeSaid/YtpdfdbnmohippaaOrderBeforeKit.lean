/- A valid raw circuit: where each new variable stands, and the state of the walk of the stage's theorem. -/
import Derived.Test.YtpdfdbnmohippaaOrderAll
import Derived.Test.YtpdfdbnmohippaaGatesDep
namespace Go.Proofs.Ytpdfdbnmohippaa
open Go Go.RowKit
set_option linter.unusedVariables false
set_option linter.unusedSimpArgs false

namespace Rw
variable {r : Rw}
theorem place_cases (h : r.chk = 0) {j : Nat} (hj : j < r.dL.length) : (j < r.ni + r.nl ∧ r.nw (r.dL.getD j 0 / 2) = j + 1) ∨ (∃ k p, j = r.ni + r.nl + k ∧ k < r.na ∧ p < r.na ∧ r.ord.getD p 0 = k ∧ r.nw (r.dL.getD j 0 / 2) = r.ni + r.nl + p + 1) := by
  rw [dL_len] at hj
  by_cases h1 : j < r.ni
  · exact Or.inl ⟨by omega, by rw [dL_i r h1]; exact nw_i h h1⟩
  · by_cases h2 : j < r.ni + r.nl
    · obtain ⟨k, rfl⟩ : ∃ k, j = r.ni + k := ⟨j - r.ni, by omega⟩
      have hk : k < r.nl := by omega
      refine Or.inl ⟨h2, ?_⟩
      rw [dL_l r hk, nw_l h hk]
      omega
    · obtain ⟨k, rfl⟩ : ∃ k, j = r.ni + r.nl + k := ⟨j - r.ni - r.nl, by omega⟩
      have hk : k < r.na := by omega
      obtain ⟨p, hp, ep, en⟩ := pos_of h hk
      exact Or.inr ⟨k, p, rfl, hk, hp, ep, by rw [dL_g r hk]; exact en⟩
theorem place (h : r.chk = 0) {j : Nat} (hj : j < r.dL.length) : 1 ≤ r.nw (r.dL.getD j 0 / 2) ∧ r.nw (r.dL.getD j 0 / 2) ≤ (r.dL.length : Nat) ∧ (j < r.ni + r.nl → r.nw (r.dL.getD j 0 / 2) = j + 1) := by
  have hl := dL_len r
  rcases place_cases h hj with ⟨h1, h2⟩ | ⟨k, p, e1, h1, h2, h3, h4⟩
  · exact ⟨by omega, by omega, fun _ => h2⟩
  · exact ⟨by omega, by omega, fun h => by omega⟩
theorem place_inj (h : r.chk = 0) {i j : Nat} (hi : i < r.dL.length) (hj : j < r.dL.length) (e : r.nw (r.dL.getD i 0 / 2) = r.nw (r.dL.getD j 0 / 2)) : i = j := by
  rcases place_cases h hi with ⟨h1, h2⟩ | ⟨k, p, e1, h1, h2, h3, h4⟩ <;> rcases place_cases h hj with ⟨g1, g2⟩ | ⟨k', p', f1, g1, g2, g3, g4⟩
  · omega
  · omega
  · omega
  · have : p = p' := by omega
    subst this
    omega
/-- which new variables were seen at the first places -/
def seen (r : Rw) (q v : Nat) : Bool := decide (∃ j, j < q ∧ r.nw (r.dL.getD j 0 / 2) = (v : Int))
theorem seen_0 (v : Nat) : r.seen 0 v = false := decide_eq_false fun ⟨_, h, _⟩ => absurd h (Nat.not_lt_zero _)
theorem seen_succ {q u : Nat} (hu : r.nw (r.dL.getD q 0 / 2) = (u : Int)) (v : Nat) : r.seen (q + 1) v = if v = u then true else r.seen q v := by
  by_cases hv : v = u
  · rw [if_pos hv]; exact decide_eq_true ⟨q, by omega, by rw [hu, hv]⟩
  · rw [if_neg hv]
    refine decide_eq_decide.2 ⟨fun ⟨j, hj, e⟩ => ⟨j, ?_, e⟩, fun ⟨j, hj, e⟩ => ⟨j, by omega, e⟩⟩
    by_cases hjq : j = q
    · subst hjq; rw [hu] at e; omega
    · omega
theorem seen_no (h : r.chk = 0) {q u : Nat} (hq : q < r.dL.length) (hu : r.nw (r.dL.getD q 0 / 2) = (u : Int)) : r.seen q u = false :=
  decide_eq_false fun ⟨j, hj, e⟩ => by have := place_inj h (by omega) hq (e.trans hu.symm); omega
/-- where a gate stands in the circuit -/
theorem gate_at (h : r.chk = 0) {i : Nat} (hi : i < r.na) : ∃ g, g < r.na ∧ r.nw (r.gl i / 2) = r.ni + r.nl + g + 1 ∧ r.cir.cut.ga g = max (r.told (r.ga i)) (r.told (r.gb i)) ∧ r.cir.cut.gb g = min (r.told (r.ga i)) (r.told (r.gb i)) := by
  obtain ⟨p, hp, ep, en⟩ := pos_of h hi
  have ho := (ord_all h).1
  refine ⟨p, hp, en, ?_, ?_⟩
  · show (if p < r.ord.length then max (r.told (r.ga (r.ord.getD p 0))) (r.told (r.gb (r.ord.getD p 0))) else 0) = _
    rw [if_pos (by omega), ep]
  · show (if p < r.ord.length then min (r.told (r.ga (r.ord.getD p 0))) (r.told (r.gb (r.ord.getD p 0))) else 0) = _
    rw [if_pos (by omega), ep]
theorem dL_bd (h : r.chk = 0) {j : Nat} (hj : j < r.dL.length) : 2 ≤ r.dL.getD j 0 ∧ r.dL.getD j 0 ≤ 2 * r.m + 1 := by
  obtain ⟨_, _, hnum, _⟩ := chk_parts h
  have h2 := hnum
  unfold num at h2
  simp only [Bool.and_eq_true] at h2
  have h3 := List.all_eq_true.1 h2.1.1 (r.dL.getD j 0) (by rw [List.getD_eq_getElem?_getD, List.getElem?_eq_getElem hj]; exact List.getElem_mem hj)
  have := of_decide_eq_true h3
  omega
theorem gl_bd (h : r.chk = 0) {j : Nat} (hj : j < r.na) : 2 ≤ r.gl j ∧ r.gl j ≤ 2 * r.m + 1 := by
  have := dL_bd h (j := r.ni + r.nl + j) (by rw [dL_len]; omega)
  rwa [dL_g r hj] at this
end Rw
/-- a call of Circuit for a valid raw circuit -/
theorem circ_bef (r : Rw) (p : Rp) (w : World) (mn : Nat) (hmn : r.m = mn) (hs : RSm r) (hm : RMem w w.heap.size r p) (hN : RNils r p) (hk : r.chk = 0) : Calls Try.prog 9 #[rv r p] w fun e w' => ∃ (p' : Pl) (g : Nat), e = .returned (.tuple #[.agg #[.int .i64 (r.ni : Int), .slice p'.A1 r.nl p'.k1, .slice p'.A2 r.na p'.k2, .slice p'.A3 r.nb p'.k3, .slice p'.A4 r.nc p'.k4], .slice (some ⟨g, 0, none⟩) (mn + 1) (mn + 1), .int .i64 0]) ∧ Mem w' w'.heap.size r.cir.cut p' ∧ w'.rowIs g 3 (mn + 1) (fun v => .int .i64 (r.nw (v : Int))) ∧ Below w.heap.size w w' := by
  refine (circ_yes r p w mn hmn hs hm hN hk).mono fun e w' => ?_
  rintro ⟨p', g, rfl, hm', _, hR, hb, _, _⟩
  exact ⟨p', g, by rw [← (Rw.ord_all hk).1]; rfl, Cr.cut_mem hm', hR, hb⟩
/-- the circuit as a value, its lengths by their own names -/
theorem gcheck_bef (r : Rw) (p : Pl) (w : World) (hk : r.chk = 0) (hm : Mem w w.heap.size r.cir.cut p) : Calls Try.prog 21 #[.agg #[.int .i64 (r.ni : Int), .slice p.A1 r.nl p.k1, .slice p.A2 r.na p.k2, .slice p.A3 r.nb p.k3, .slice p.A4 r.nc p.k4]] w fun e w' => e = .returned (.int .i64 0) ∧ Below w.heap.size w w' := by
  have h := gCheck_any r.cir.cut p w hm (Cr.cut_sm (Rw.cir_chk hk))
  rw [Cr.cut_chk, Rw.cir_chk hk] at h
  rw [← (Rw.ord_all hk).1]
  exact h
theorem told_all (r : Rw) (mn g : Nat) (W : World) (hk : r.chk = 0) (hmn : r.m = mn) (hR : W.rowIs g 3 (mn + 1) (fun v => .int .i64 (r.nw (v : Int)))) {x : Int} (hx : x ∈ r.uL) : Calls Try.prog 23 #[.slice (some ⟨g, 0, none⟩) (mn + 1) (mn + 1), .int .i64 x] W fun e w' => e = .returned (.int .i64 (r.told x)) ∧ Below W.heap.size W w' := by
  obtain ⟨u1, u2, u3, u4⟩ := Rw.used_nw hk hx
  have hbg := of_decide_eq_false (Rw.chk_parts hk).2.1
  refine (oTold_any (some ⟨g, 0, none⟩) (mn + 1) (mn + 1) _ x _ W (row_intsAt hR) u1 (by omega) (by omega) (fun j hj => ?_)).mono fun e w' ⟨h1, h2⟩ => ⟨?_, h2⟩
  · have := r.nwk_bd r.oL.length j
    have hol := Rw.oL_len r
    have hor := r.ord_len
    show -1 ≤ r.nw j ∧ r.nw j ≤ 2000
    unfold Rw.nw
    omega
  · rw [h1]
    show Ending.returned (.int .i64 (2 * r.nw (((x / 2).toNat : Nat) : Int) + x % 2)) = _
    rw [show (((x / 2).toNat : Nat) : Int) = x / 2 by omega]
    rfl
set_option maxRecDepth 100000 in
theorem told_same (r : Rw) (mn g : Nat) (W : World) (hk : r.chk = 0) (hmn : r.m = mn) (hR : W.rowIs g 3 (mn + 1) (fun v => .int .i64 (r.nw (v : Int)))) {x : Int} (hx : x ∈ r.uL) : Calls Try.prog 23 #[.slice (some ⟨g, 0, none⟩) (mn + 1) (mn + 1), .int .i64 x] W fun e w' => e = .returned (.int .i64 (r.told x)) ∧ W = w' := by
  obtain ⟨u1, u2, u3, u4⟩ := Rw.used_nw hk hx
  obtain ⟨h0, hbig, _⟩ := Rw.chk_parts hk
  have hbg := of_decide_eq_false hbig
  obtain ⟨Y, hY⟩ : ∃ Y, r.nw (x / 2) = Y := ⟨_, rfl⟩
  have y0 := hR.cell (show (x / 2).toNat < mn + 1 by omega)
  rw [show (((x / 2).toNat : Nat) : Int) = x / 2 by omega, hY] at y0
  rw [hY] at u3 u4
  have m1 : 0 ≤ x / 2 := by omega
  have m2 : x / 2 < (mn : Int) + 1 := by omega
  have u9 : x ≤ 2001 := by omega
  have w1 : IntKind.i64.wrap (2 * Y) = 2 * Y := IntWalk.i64_in _ (by omega)
  have w2 : IntKind.i64.wrap (2 * Y + x % 2) = 2 * Y + x % 2 := IntWalk.i64_in _ (by omega)
  have he := Lib.hid (show r.told x = 2 * Y + x % 2 by unfold Rw.told; rw [hY])
  clear hR hY hk hmn hbig hbg hx
  go_enter Try.func23, Try.ntmps23
  go_wp2
  go_ret
  exact ⟨by rw [he.out] <;> first | rfl | simp, rfl⟩
/-- the box of the circuit -/
abbrev bc (r : Rw) (u : Pl) : Array Value := #[.int .i64 (r.ni : Int), .slice u.A1 r.nl u.k1, .slice u.A2 r.na u.k2, .slice u.A3 r.nb u.k3, .slice u.A4 r.nc u.k4]
/-- what the walk knows of a later world: all lies below block b7 -/
structure Bf (w W : World) (b3 b7 g mn : Nat) (r : Rw) (p : Rp) (u : Pl) (A6 : Option Addr) : Prop where
  B : Below w.heap.size w W
  l : b7 ≤ W.heap.size
  lw : w.heap.size ≤ b7
  h1 : Has W w.heap.size 32 (rc r p) ∧ w.heap.size < b7
  h3 : Has W b3 26 (bc r u) ∧ b3 < b7
  r4 : W.rowIs g 3 (mn + 1) (fun v => .int .i64 (r.nw (v : Int))) ∧ g < b7
  m3 : Mem W b7 r.cir.cut u
  i6 : IntsAt W b7 A6 r.dL.length (fun j => r.dL.getD j 0)
  rm : RMem W b7 r p
section
variable {w W W' : World} {b3 b7 g mn : Nat} {r : Rw} {p : Rp} {u : Pl} {A6 : Option Addr}
theorem Bf.on (h : Bf w W b3 b7 g mn r p u A6) (hb : Below b7 W W') : Bf w W' b3 b7 g mn r p u A6 :=
  ⟨h.B.trans (hb.mono h.lw), Nat.le_trans h.l hb.size, h.lw, ⟨h.h1.1.keep hb h.h1.2, h.h1.2⟩, ⟨h.h3.1.keep hb h.h3.2, h.h3.2⟩, ⟨h.r4.1.of_block (hb.block g h.r4.2), h.r4.2⟩, h.m3.keep hb, h.i6.keep hb, h.rm.keep hb⟩
theorem Bf.call (h : Bf w W b3 b7 g mn r p u A6) (hb : Below W.heap.size W W') : Bf w W' b3 b7 g mn r p u A6 := h.on (hb.mono h.l)
theorem Bf.dn (h : Bf w W b3 b7 g mn r p u A6) : Bf w W.drew b3 b7 g mn r p u A6 := h.call (below_dn (Below.refl _ _) 1)
theorem Bf.put (h : Bf w W b3 b7 g mn r p u A6) (j : Nat) (v : Value) : Bf w (W.setCell ⟨b7, j, none⟩ v) b3 b7 g mn r p u A6 := h.on ((Below.refl b7 W).setCell (show b7 ≤ (⟨b7, j, none⟩ : Addr).block from Nat.le_refl _) v)
end
end Go.Proofs.Ytpdfdbnmohippaa
