/- The contracts of gates.Cone and of the reference's In and Cone. -/
import Derived.Test.YtoocghecmpnjeaaGatesIter
namespace Go.Proofs.Ytoocghecmpnjeaa
open Go.RowKit Go.Shelf
set_option linter.unusedVariables false
attribute [local go_sem] Oper.semAt_some

namespace Cr
theorem cnL_len (R : Nat → Bool) : ∀ q, (cnL R q).length ≤ q
  | 0 => Nat.le_refl _
  | q + 1 => by
    have := cnL_len R q
    unfold cnL
    split <;> simp <;> omega
theorem cnL_no {R : Nat → Bool} {q : Nat} (h : ¬ (0 < q ∧ R q = true)) : cnL R (q + 1) = cnL R q := by
  conv => lhs; unfold cnL
  rw [if_neg h, List.append_nil]
theorem cnL_yes {R : Nat → Bool} {q : Nat} (h : 0 < q ∧ R q = true) : cnL R (q + 1) = cnL R q ++ [(q : Int)] := by
  conv => lhs; unfold cnL
  rw [if_pos h]
/-- the cone of a literal -/
def cone (c : Cr) (l : Int) : List Int := cnL (c.rch l) (c.sz.toNat + 1)
end Cr
/-- the cells of a list of numbers -/
def il (xs : List Int) : List Value := xs.map (.int .i64)
/-- a list of numbers in memory of the call's own, and OK -/
def ConeIs (c : Cr) (l : Int) (w : World) (e : Ending) (w' : World) : Prop :=
  ∃ v, e = .returned (.tuple #[v, .int .i64 0]) ∧ w'.ownsRow w.heap.size 3 1 v (c.cone l).length (il (c.cone l)) ∧ Below w.heap.size w w'
theorem own_base {w : World} {base base' : Nat} {e : TypeId} {size n : Nat} {v : Value} {xs : List Value} (h : w.ownsRow base e size v n xs) (hb : base' ≤ base) : w.ownsRow base' e size v n xs := by
  refine ⟨h.1, ?_⟩
  rcases h.2 with h2 | ⟨g, cap, cur, hv, hg, r⟩
  · exact Or.inl h2
  · exact Or.inr ⟨g, cap, cur, hv, by omega, r⟩
theorem own_block {w : World} {base : Nat} {e : TypeId} {size n : Nat} {v : Value} {xs : List Value} (h : w.ownsRow base e size v n xs) : ∀ k, v.ownBlock = some k → base ≤ k := by
  rcases h.2 with ⟨rfl, _⟩ | ⟨g, cap, cur, rfl, hg, r⟩
  · intro k hk; cases hk
  · intro k hk; cases hk; exact hg

theorem marks_keeps {B b : Nat} {w w' : World} (hk : ∀ g, g ≠ b → w'.heap[g]? = w.heap[g]?) (hs : w'.heap.size = w.heap.size) (hb : b < B) : KeepsFrom B w w' := ⟨by omega, fun k o hB h _ => (hk k (by omega)).trans h⟩

set_option maxRecDepth 100000 in
set_option maxHeartbeats 4000000 in
theorem gCone_ok (c : Cr) (p : Pl) (l : Int) (w : World) (hm : Mem w w.heap.size c p) (hs : Sm c) (h : (c.chk == 0) = true) (hl : Cr.litB c.sz l = true) :
    Calls Try.prog 49 #[cv c p, .int .i64 l] w (ConeIs c l w) := by
  have g1 := hs.nl
  have g2 := hs.na
  have h' : (c.chk != 0) = false := by simp [bne, h]
  have hb := Cr.chk_i h hs
  have hk := Lib.hid (show c.chk = 0 by simpa using h)
  have hlb : 0 ≤ l ∧ l / 2 ≤ c.sz := of_decide_eq_true hl
  have hl1 : l ≤ 2001 := by omega
  have hz0 := zero_zb
  refine (callsIn_wide (n := 9)).1 ?_
  refine callsIn_of_wp_marks Try.func49 rfl trivial ?_ rfl
  simp only [Try.ntmps49, List.size_toArray, List.length_cons, List.length_nil, Nat.reduceAdd, Nat.reduceSub, Array.replicate_succ, Array.replicate_zero, List.push_toArray, List.append_toArray, List.nil_append, List.cons_append]
  gi_wp2_with (first
    | (refine ⟨trivial, ?_⟩; gi_at_call 27; refine (callsIn_wide.2 (gCheck_any c p _ (mem_alloc hm _) hs)).mono ?_; rintro e w1 ⟨rfl, hb1⟩; obtain ⟨hc1, hf1⟩ := bcell hb1; have hz1 : w.heap.size < w1.heap.size := (by have := hb1.size; (try simp at this); omega); have hB1 : Below w.heap.size w w1 := Below.step (by go_grown) (by go_size) hb1; have hA1 : Has w1 w.heap.size 26 (cc c p) := (Has.new _ _ _).keep hb1 (by go_size))
    | (refine ⟨trivial, ?_⟩; gi_at_call 79; refine (callsIn_wide.2 (isLitOf_any c p l _ hs hb.1 hb.2.2)).mono ?_; rintro e w2 ⟨rfl, hb2⟩; obtain ⟨hc2, hf2⟩ := bcell hb2; have hz2 : w.heap.size < w2.heap.size := (by have := hb2.size; omega); have hB2 : Below w.heap.size w w2 := Below.step hB1 hB1.size hb2; have hA2 := hA1.keep hb2 hz1))
  have r2 : ((w2.alloc (Obj.cells zb 54)).alloc (Obj.cells #[Value.func (Fn.func 80) #[] #[Value.pointer (some { block := w2.heap.size, off := 0 })]] 107)).rowIs w2.heap.size 54 1001 (fun v => .bool ((fun _ => false) v)) := (World.rowIs_alloc w2 zb 54 (fun _ => .bool false) zb_at).alloc _
  gi_wp2_with (first
    | (refine ⟨trivial, ?_⟩; gi_at_call 80; refine (callsIn_wide.2 (gReach_any l w2.heap.size (fun _ => false) _ hlb.1 hl1 r2)).mono ?_; rintro e w3 ⟨⟨v, rfl⟩, hR3, hk3, hs3, hb3⟩; have hF3 : Has w3 (w2.heap.size + 1) 107 #[Value.func (Fn.func 80) #[] #[Value.pointer (some { block := w2.heap.size, off := 0 })]] := (hk3 _ (by omega)).trans (Has.new' _ _ (by simp)); have hA3 : Has w3 w.heap.size 26 (cc c p) := (hk3 _ (by omega)).trans ((hA2.keep ((Below.refl w2.heap.size _).alloc (Nat.le_refl _) _) hz2).keep ((Below.refl (w2.heap.size + 1) _).alloc (by simp) _) (by omega)); have hB3 : Below w.heap.size w w3 := ((hB2.alloc hB2.size _).alloc (by simp; omega) _).trans (hb3.mono (by omega)); rw [World.size_alloc, World.size_alloc] at hs3; obtain ⟨x30, x31, x32, x33, x34⟩ := hA3.box)
    | (refine ⟨trivial, ?_⟩; gi_at_call 82; refine (callsIn_wide.2 (back_any _ _ _ _)).mono ?_; rintro e w4 ⟨rfl, rfl⟩))
  have hR0 : (w3.alloc (.cells #[.slice p.A2 c.na p.k2] 23)).rowIs w2.heap.size 54 1001 (fun v => .bool (c.fld (fun v => v == (l / 2).toNat) [] v)) := (hR3.alloc _).congr fun j _ => by simp [Cr.fld]
  have hA0 := hA3.keep ((Below.refl w3.heap.size _).alloc (Nat.le_refl _) (.cells #[.slice p.A2 c.na p.k2] 23)) hA3.lt
  have hF0 := hF3.keep ((Below.refl w3.heap.size _).alloc (Nat.le_refl _) (.cells #[.slice p.A2 c.na p.k2] 23)) hF3.lt
  have hS0 : Has (w3.alloc (.cells #[.slice p.A2 c.na p.k2] 23)) (w2.heap.size + 1 + 1) 23 #[.slice p.A2 c.na p.k2] := Has.new' _ _ (by omega)
  have hB0 : Below w.heap.size w (w3.alloc (.cells #[.slice p.A2 c.na p.k2] 23)) := hB3.alloc (by omega) _
  have hsz0 : (w3.alloc (.cells #[.slice p.A2 c.na p.k2] 23)).heap.size = w2.heap.size + 3 := by simp; omega
  obtain ⟨W0, hW0⟩ : ∃ W0, w3.alloc (.cells #[.slice p.A2 c.na p.k2] 23) = W0 := ⟨_, rfl⟩
  rw [hW0] at hR0 hA0 hF0 hS0 hB0 hsz0 ⊢
  clear hW0 hR3 hk3 hs3 hb3 hF3 hA3 x30 x31 x32 x33 x34 r2 hc1 hf1 hc2 hf2 hb1 hb2
  refine wpIn_rangeFunc_ownH rfl (by omega) (gf := 103) (lb := #[.pointer (some ⟨w2.heap.size + 1 + 1, 0, none⟩)]) rfl trivial (enters_of Try.func103 (by kernel_rfl) rfl)
    (back_stops 8 (by omega) (w2.heap.size + 1 + 1) w.heap.size c.na p.k2 g2 p.A2 c.ga c.gb W0 (by omega) (by omega) (hS0.cell 0) (hm.an.keep hB0)) KB.trans (KB.put (by omega) (by omega)) (Below.refl _ _) (fun _ => rfl)
    (fun pre W => ((W.rowIs w2.heap.size 54 1001 (fun v => .bool (c.fld (fun v => v == (l / 2).toNat) (pre.map (·.1)) v)) ∧ Has W w.heap.size 26 (cc c p)) ∧ Has W (w2.heap.size + 1) 107 #[Value.func (Fn.func 80) #[] #[Value.pointer (some { block := w2.heap.size, off := 0 })]]) ∧ (Below w.heap.size w W ∧ W0.heap.size ≤ W.heap.size))
    (fun _ _ _ => False)
    (OwnFrom.and (OwnFrom.and (OwnFrom.and (Own.from (row_own _ _ _ (fun (pre : List { j : Nat // j < c.na }) v => Value.bool (c.fld (fun v => v == (l / 2).toNat) (pre.map (·.1)) v))) _) (Own.from (has_own _ _ _) _)) (Own.from (has_own _ _ _) _)) (OwnFrom.and (ownFrom_below (Nat.le_refl _) (by omega)) (fun s X Y row hs hg _ => Nat.le_trans hs hg.size)))
    (fun _ _ _ _ _ hs _ _ => hs)
    ⟨⟨⟨hR0, hA0⟩, hF0⟩, hB0, Nat.le_refl _⟩
    (fun x a' W => ∃ Bx, w2.heap.size + 2 < Bx ∧ Has W Bx 37 #[.int .i64 (c.ga x.1), .int .i64 (c.gb x.1)] ∧ a' = { tmps := #[cv c p, .int .i64 l, .pointer (some ⟨w.heap.size, 0, none⟩), undef, .slice none 0 0, .int .i64 0, .int .i64 c.chk, .pointer (some ⟨w2.heap.size, 0, none⟩), .pointer (some ⟨w2.heap.size + 1, 0, none⟩), .int .i64 (x.1 : Int), .pointer (some ⟨Bx, 0, none⟩), undef, undef, .agg #[.int .i64 c.i, .slice p.A1 c.nl p.k1, .slice p.A2 c.na p.k2, .slice p.A3 c.nb p.k3, .slice p.A4 c.nc p.k4], .int .i64 c.chk, .int .i64 c.chk, .bool false, undef, .agg #[.int .i64 c.i, .slice p.A1 c.nl p.k1, .slice p.A2 c.na p.k2, .slice p.A3 c.nb p.k3, .slice p.A4 c.nc p.k4], .int .i64 l, .bool true, .bool false, .func (.func 80) #[] #[.pointer (some ⟨w2.heap.size, 0, none⟩)], .func (.func 80) #[] #[.pointer (some ⟨w2.heap.size, 0, none⟩)], .int .i64 l, v, .pointer (some ⟨w.heap.size, 2, none⟩), .slice p.A2 c.na p.k2, .func (.func 103) #[] #[.pointer (some ⟨w2.heap.size + 1 + 1, 0, none⟩)], .int .i64 (x.1 : Int), .agg #[.int .i64 (c.ga x.1), .int .i64 (c.gb x.1)], undef, undef, undef, undef, undef, undef, undef, undef, undef, undef, undef, undef, undef, undef, undef, undef, undef, undef, undef, undef, undef, undef, undef, undef, undef, undef, undef, undef, undef, undef, undef, undef, undef], defers := [] })
    (fun x a' _ X Y row hs hg hr => by obtain ⟨Bx, h1, h2, h3⟩ := hs; exact ⟨Bx, h1, has_own Bx _ _ () X Y row h2 hg (fun r e => (hr r e).2), h3⟩)
    ?assign ?body ?done ?stop
  case assign =>
    rintro l' pre x W K ⟨⟨⟨hRr, hAr⟩, hFr⟩, hBr, hWs⟩ hK
    gi_wp2
    exact hK _ _ ((KeepsOthers.alloc _ _).from _) ⟨(Below.refl _ W).alloc hBr.size _, Below.heap_alloc _ _ _ (by omega)⟩ ⟨⟨⟨hRr.alloc _, hAr.keep ((Below.refl W.heap.size _).alloc (Nat.le_refl _) _) hAr.lt⟩, hFr.keep ((Below.refl W.heap.size _).alloc (Nat.le_refl _) _) hFr.lt⟩, hBr.alloc hBr.size _, by simp; omega⟩ ⟨W.heap.size, by omega, Has.new W _ _, rfl⟩
  case body =>
    rintro l' pre x a' W hl' ⟨r, hr⟩ ⟨⟨⟨hRr, hAr⟩, hFr⟩, hBr, hWs⟩ ⟨Bx, hBx, hX, rfl⟩ hlt
    obtain ⟨k1, k2, k3, k4, k5⟩ := Cr.gate_ok hk.out x.2
    obtain ⟨x0, x1, x2, x3, x4⟩ := hAr.box
    have n3 : (1 + c.i + c.nl + x.1).toNat < 1001 := by omega
    have n4 : 0 ≤ 1 + c.i + c.nl + x.1 := by omega
    have n5 : 1 + c.i + c.nl + x.1 < 1001 := by omega
    have e5 : (1 + c.i + c.nl + x.1).toNat = c.fg + x.1 := by unfold Cr.fg; omega
    have m5 : c.ga x.1 ≤ 2001 := by omega
    have m6 : c.gb x.1 ≤ 2001 := by omega
    have m7 : 0 ≤ c.ga x.1 := by omega
    have hXl := hX.lt
    have E5 := Lib.hid e5
    clear e5
    generalize hRp : c.fld (fun v => v == (l / 2).toNat) (pre.map (·.1)) = R at hRr
    have hst : c.fld (fun v => v == (l / 2).toNat) ((pre ++ [x]).map (·.1)) = c.stp R x.1 := by rw [List.map_append, ← hRp]; exact Cr.fld_snoc _ _ _ _
    have HST := Lib.hid hst
    clear hst hRp
    cases hv : R (c.fg + x.1)
    · have HS1 := Lib.hid (show c.stp R x.1 = R by unfold Cr.stp; rw [if_neg (by rw [hv]; simp)])
      gi_wp2_with (first
        | (refine ⟨trivial, ?_⟩; gi_at_call 83; refine (CallsIn.inRound l' (callsIn_wide.2 (firstGate_any c p _ hb.1 hb.2.1 g1))).mono ?_; rintro e w5 ⟨rfl, hb5⟩; have hR5 : w5.rowIs w2.heap.size 54 1001 (fun v => .bool (R v)) := hRr.of_block (hb5.block _ hRr.lt); have z5 : w5.cell? ⟨w2.heap.size, (1 + c.i + c.nl + x.1).toNat, none⟩ = some (.bool false) := (hR5.cell n3).trans (by rw [E5.out, hv])))
      exact ⟨keepsFrom_below hb5, ⟨hb5.mono hBr.size, hb5.block _ (by omega)⟩, ⟨⟨by rw [HST.out, HS1.out]; exact hR5, hAr.keep hb5 hAr.lt⟩, hFr.keep hb5 hFr.lt⟩, Below.step hBr hBr.size hb5, by have := hb5.size; omega⟩
    · have HS1 := Lib.hid (show c.stp R x.1 = fun v => v == (c.gb x.1 / 2).toNat || (v == (c.ga x.1 / 2).toNat || R v) by unfold Cr.stp; rw [if_pos hv])
      gi_wp2_with (first
        | (refine ⟨trivial, ?_⟩; gi_at_call 83; refine (CallsIn.inRound l' (callsIn_wide.2 (firstGate_any c p _ hb.1 hb.2.1 g1))).mono ?_; rintro e w5 ⟨rfl, hb5⟩; have hR5 : w5.rowIs w2.heap.size 54 1001 (fun v => .bool (R v)) := hRr.of_block (hb5.block _ hRr.lt); have z5 : w5.cell? ⟨w2.heap.size, (1 + c.i + c.nl + x.1).toNat, none⟩ = some (.bool true) := (hR5.cell n3).trans (by rw [E5.out, hv]); have hF5 : Has w5 (w2.heap.size + 1) 107 #[Value.func (Fn.func 80) #[] #[Value.pointer (some { block := w2.heap.size, off := 0 })]] := hFr.keep hb5 hFr.lt; have hX5 := hX.keep hb5 hXl; have f5 : w5.cell? ⟨w2.heap.size + 1, 0, none⟩ = some (Value.func (Fn.func 80) #[] #[Value.pointer (some { block := w2.heap.size, off := 0 })]) := hF5.cell 0; have y50 : w5.cell? ⟨Bx, 0, none⟩ = some (.int .i64 (c.ga x.1)) := hX5.cell 0; have hA5 : Has w5 w.heap.size 26 (cc c p) := hAr.keep hb5 hAr.lt)
        | (refine ⟨trivial, ?_⟩; gi_at_call 80; (with_reducible refine (CallsIn.inRound l' (callsIn_wide.2 (gReach_any (c.ga x.1) w2.heap.size R w5 m7 m5 hR5))).mono ?_); rintro e w6 ⟨⟨v6, rfl⟩, hR6, hk6, hs6, hb6⟩; have hF6 : Has w6 (w2.heap.size + 1) 107 #[Value.func (Fn.func 80) #[] #[Value.pointer (some { block := w2.heap.size, off := 0 })]] := (hk6 _ (by omega)).trans hF5; have hX6 : Has w6 Bx 37 #[.int .i64 (c.ga x.1), .int .i64 (c.gb x.1)] := (hk6 _ (by omega)).trans hX5; have f6 : w6.cell? ⟨w2.heap.size + 1, 0, none⟩ = some (Value.func (Fn.func 80) #[] #[Value.pointer (some { block := w2.heap.size, off := 0 })]) := hF6.cell 0; have y61 : w6.cell? ⟨Bx, 1, none⟩ = some (.int .i64 (c.gb x.1)) := hX6.cell 1; have hA6 : Has w6 w.heap.size 26 (cc c p) := (hk6 _ (by omega)).trans hA5)
        | (refine ⟨trivial, ?_⟩; gi_at_call 80; (with_reducible refine (CallsIn.inRound l' (callsIn_wide.2 (gReach_any (c.gb x.1) w2.heap.size (fun v => v == (c.ga x.1 / 2).toNat || R v) w6 k1 m6 hR6))).mono ?_); rintro e w7 ⟨⟨v7, rfl⟩, hR7, hk7, hs7, hb7⟩))
      exact ⟨(keepsFrom_below hb5).trans ((marks_keeps hk6 hs6 (by omega)).trans (marks_keeps hk7 hs7 (by omega))), ⟨(hb5.mono hBr.size).trans ((hb6.mono (by omega)).trans (hb7.mono (by omega))), (hk7 _ (by omega)).trans ((hk6 _ (by omega)).trans (hb5.block _ (by omega)))⟩, ⟨⟨by rw [HST.out, HS1.out]; exact hR7, (hk7 _ (by omega)).trans hA6⟩, (hk7 _ (by omega)).trans hF6⟩, (Below.step hBr hBr.size hb5).trans ((hb6.mono (by omega)).trans (hb7.mono (by omega))), by have := hb5.size; omega⟩
  case stop =>
    rintro D c' pre W _ _ h _
    exact h.elim
  case done =>
    rintro D xs W hD hS ⟨⟨⟨hRr, hAr⟩, hFr⟩, hBr, hWs⟩ hK
    rw [hS] at hRr
    obtain ⟨x0, x1, x2, x3, x4⟩ := hAr.box
    gi_wp2_with (first
      | (refine ⟨trivial, ?_⟩; gi_at_call 77; refine (callsIn_wide.2 (lastVar_any c p _ hb.1 hb.2.1 g1 g2)).mono ?_; rintro e w5 ⟨rfl, hb5⟩; have hR5 := hRr.of_block (hb5.block _ hRr.lt); have hB5 := Below.step hBr hBr.size hb5; have hK5 := (hb5.block D (Array.getElem?_eq_some_iff.1 hK).1).trans hK))
    obtain ⟨sn, hsn⟩ : ∃ sn : Nat, c.sz = sn := ⟨c.sz.toNat, by omega⟩
    have hse : c.sz.toNat = sn := by omega
    have hsn1 : sn ≤ 1000 := by omega
    have HS := Lib.hid hse
    rw [hsn]
    clear hsn hse
    obtain ⟨i0, hi0, hzz0, hs0, hy0⟩ := info_parts info_int
    have hr : c.fld (fun v => v == (l / 2).toNat) (down c.na) = c.rch l := rfl
    rw [hr] at hR5
    clear hr hRr x0 x1 x2 x3 x4 hS
    have hDlt : D < w5.heap.size := (Array.getElem?_eq_some_iff.1 hK5).1
    have hblt : w2.heap.size < w5.heap.size := hR5.lt
    generalize hRd : c.rch l = R at hR5
    have HR := Lib.hid hRd
    clear hRd
    gi_loopw [11, 48] (fun v i wr => ∃ q : Nat, q ≤ sn + 1 ∧ i = .int .i64 q ∧ wr.ownsRow w5.heap.size 3 1 v (Cr.cnL R q).length (il (Cr.cnL R q)) ∧ wr.rowIs w2.heap.size 54 1001 (fun v => .bool (R v)) ∧ Below w5.heap.size w5 wr) (fun _ i _ => sn + 1 - (intOf i).toNat)
    case atStart => exact ⟨0, Nat.zero_le _, rfl, World.ownsRow_nil _ _ _ _, hR5, Below.refl _ _⟩
    case round =>
      obtain ⟨q, hq, rfl, hown, hRw, hBw⟩ := hrel
      have hlen := Cr.cnL_len R q
      by_cases hlt : q < sn + 1
      · have n1 : q < 1001 := by omega
        have n2 : (q : Int) < 1001 := by omega
        have z := hRw.cell n1
        by_cases hq0 : 0 < q
        · cases hv : R q
          · have HN := Lib.hid (Cr.cnL_no (R := R) (q := q) (fun h => by rw [hv] at h; cases h.2))
            rw [hv] at z
            gi_wp2
            go_roundw
            case rel => exact ⟨q + 1, by omega, by go_num, by rw [HN.out]; exact hown, hRw, hBw⟩
            case measure => simp [intOf]; omega
          · have HN := Lib.hid (Cr.cnL_yes (R := R) (q := q) ⟨hq0, hv⟩)
            rw [hv] at z
            gi_wp2_with (gi_at_builtin; refine wpListIn_append_own _ rfl _ _ 24 rfl w5.heap.size 3 i0 (.int .i64 0) 1 8 Try.underlying24 hi0 hzz0 hs0 hy0 rfl (by decide) _ _ _ rfl (hown.alloc _) ⟨wr.heap.size, 0, none⟩ 1 1 [.int .i64 q] rfl rfl (cell_one_new _ _ _) (by simp [Value.oneCell']) (by simp only [maxLen]; omega) (by omega) (by have := hBw.size; simp; omega) ?_; intro v' w8 hown' hgrow _)
            go_roundw
            case rel => exact ⟨q + 1, by omega, by go_num, by rw [HN.out]; simpa [il] using hown', (hRw.alloc _).of_block (hgrow.block _ (by simp; have := hRw.lt; omega) (fun e => by have := own_block hown _ e.symm; omega)), (hBw.alloc hBw.size _).grown hgrow (by simp; have := hBw.size; omega) (own_block hown)⟩
            case measure => simp [intOf]; omega
        · obtain rfl : q = 0 := by omega
          have HN := Lib.hid (Cr.cnL_no (R := R) (q := 0) (by omega))
          gi_wp2
          go_roundw
          case rel => exact ⟨0 + 1, by omega, by go_num, by rw [HN.out]; exact hown, hRw, hBw⟩
          case measure => simp [intOf]
      · obtain rfl : q = sn + 1 := by omega
        clear hq hlt
        gi_wp2
        have hKw := (hBw.block D hDlt).trans hK5
        refine ⟨by simp, .inl ⟨_, _, rfl, run_takeDeferred hKw, ?_⟩⟩
        have hc : c.cone l = Cr.cnL R (sn + 1) := by unfold Cr.cone; rw [HR.out, HS.out]
        refine ⟨_, results_tmp2 rfl _ _ _, _, rfl, ?_, ?_⟩
        · rw [hc]; exact own_base (ownsRow_putObj hown _ hKw rfl) (by have := hB5.size; omega)
        · exact (hB5.trans (hBw.mono hB5.size)).trans (belowK_b (w := w) (Nat.le_refl _) _ D _ _ (by omega) hKw rfl rfl)
