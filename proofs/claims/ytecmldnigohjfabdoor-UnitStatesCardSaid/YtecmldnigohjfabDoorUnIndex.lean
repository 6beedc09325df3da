/- The contracts of unit's look and count. -/
import Derived.Test.YtecmldnigohjfabDoorUnMem
import Derived.Test.YtecmldnigohjfabDoorAsTell
namespace Go.Proofs.YtecmldnigohjfabDoor
open Go Go.RowKit
set_option linter.unusedVariables false
set_option linter.unusedSimpArgs false

abbrev iF (f : Nat → Nat) : Nat → Value := fun j => .int .i64 (f j : Int)

set_option maxRecDepth 100000 in
set_option maxHeartbeats 4000000 in
theorem look_any (b gL gW m K i f : Nat) (x0 x1 x2 x4 x5 : Value) (lf : Nat → Nat) (q : Nat → Bool) (w : World) (hH : Has w b 60 (pcs8 x0 x1 x2 (.slice (some ⟨gL, 0, none⟩) m m) x4 x5 gW K f)) (hR : w.rowIs gL 3 m (iF lf)) (hQ : QAt w gW K q) (hi : i < m) (hK : i < 64 * K) (hm : m ≤ 100000) (hlf : lf i ≤ 100000) (h1 : b ≠ gW) (h2 : gL ≠ b) (h3 : gL ≠ gW) (hlo : ∀ j, j < 64 * f → q j = false) (hf : f ≤ K) :
    Calls Tryd.prog 37 #[.pointer (some ⟨b, 0, none⟩), .int .i64 (i : Int)] w fun e w' => ∃ f' : Nat, e = .returned (.bool (decide (lf i = 0))) ∧ f' ≤ K ∧ Has w' b 60 (pcs8 x0 x1 x2 (.slice (some ⟨gL, 0, none⟩) m m) x4 x5 gW K f') ∧ QAt w' gW K (if lf i = 1 then qset q i else q) ∧ Only w w' b gW ∧ ∀ j, j < 64 * f' → (if lf i = 1 then qset q i else q) j = false := by
  have y : w.cell? ⟨b, 3, none⟩ = some (.slice (some ⟨gL, 0, none⟩) m m) := hH.cell 3
  have z : w.cell? ⟨gL, i, none⟩ = some (.int .i64 (lf i : Int)) := hR.cell hi
  have i0 : (0 : Int) ≤ (i : Int) := by omega
  have i1 : (i : Int) < (m : Int) := by omega
  obtain ⟨n, hn⟩ : ∃ n, n = lf i := ⟨_, rfl⟩
  rw [← hn] at z hlf ⊢
  have HP := Lib.hid (And.intro hH (And.intro hQ hlo))
  by_cases e1 : n = 1
  · subst e1
    have DP := qput_any b gW K i f x0 x1 x2 (.slice (some ⟨gL, 0, none⟩) m m) x4 x5 q w hH hQ hK (by omega) h1
    have hR0 := Lib.hid hR
    clear hH hR hQ hn hlo
    go_enter Tryd.func37, Tryd.ntmps37
    go_wp2_with (first
      | (go_at_call 41; (with_reducible refine DP.mono ?_); rintro e w1 ⟨⟨v1, rfl⟩, hH1, hQ1, hO1⟩
         have y' : w1.cell? ⟨b, 3, none⟩ = some (.slice (some ⟨gL, 0, none⟩) m m) := hH1.cell 3
         have z' : w1.cell? ⟨gL, i, none⟩ = some (.int .i64 1) := (World.cell?_of_block (hO1.1 gL h2 h3)).trans z
         have HQ := Lib.hid (And.intro hH1 (And.intro hQ1 hO1))
         clear hH1 hQ1 hO1))
    go_ret
    have hz : ∀ j, j < 64 * min f (i / 64) → qset q i j = false := fun j hj => by
      unfold qset
      rw [HP.out.2.2 j (by omega), decide_eq_false (show ¬ j = i by omega)]; rfl
    first
      | exact ⟨min f (i / 64), rfl, by omega, HQ.out.1, HQ.out.2.1, HQ.out.2.2, hz⟩
      | exact ⟨rfl, min f (i / 64), by omega, HQ.out.1, HQ.out.2.1, HQ.out.2.2, hz⟩
  · have e2 : ((n : Int) == 1) = false := by simp; omega
    rw [if_neg e1]
    clear hH hR hQ hn hlo
    by_cases e0 : n = 0
    · subst e0
      go_enter Tryd.func37, Tryd.ntmps37
      go_wp2
      go_ret
      exact ⟨f, rfl, hf, HP.out.1, HP.out.2.1, Only.refl _ _ _, HP.out.2.2⟩
    · have e3 : ((n : Int) == 0) = false := by simp; omega
      rw [show decide (n = 0) = false from decide_eq_false e0]
      go_enter Tryd.func37, Tryd.ntmps37
      go_wp2
      go_ret
      exact ⟨f, rfl, hf, HP.out.1, HP.out.2.1, Only.refl _ _ _, HP.out.2.2⟩

/-- how many literals of a clause are not false -/
def nl (t : List Int) (L : List (List Int)) (j : Nat) : Nat := (nf t (L.getD j [])).length
theorem nl_le (t : List Int) (L : List (List Int)) (j : Nat) : nl t L j ≤ (L.getD j []).length := List.length_filter_le _ _
/-- while the clause i is counted, p literals of it -/
def lfC (t : List Int) (L : List (List Int)) (i p j : Nat) : Nat := if j < i then nl t L j else if j = i then cnt t (L.getD i []) p else 0
theorem cnt_succ {t c : List Int} {p : Nat} (hp : p < c.length) : cnt t c (p + 1) = if ng (c.getD p 0) ∈ t then cnt t c p else cnt t c p + 1 := by
  unfold cnt
  rw [nf_take_succ hp]
  split <;> simp
/-- the queue when the first i clauses have been counted -/
def qC (t : List Int) (L : List (List Int)) (i : Nat) : Nat → Bool := fun j => decide (j < i ∧ nl t L j = 1)
theorem qC_succ (t : List Int) (L : List (List Int)) (i : Nat) : (if nl t L i = 1 then qset (qC t L i) i else qC t L i) = qC t L (i + 1) := by
  funext j
  by_cases h : nl t L i = 1
  · rw [if_pos h]
    unfold qset qC
    by_cases e : j = i
    · subst e; simp [h]
    · rw [decide_eq_false e, Bool.false_or]
      exact decide_eq_decide.2 (by omega)
  · rw [if_neg h]
    unfold qC
    refine decide_eq_decide.2 ⟨fun h1 => ⟨by omega, h1.2⟩, fun h1 => ⟨?_, h1.2⟩⟩
    rcases Nat.lt_succ_iff_lt_or_eq.1 h1.1 with h' | h'
    · exact h'
    · subst h'; exact absurd h1.2 h
theorem info_i15 : (Tryd.prog.info? 3).map (fun i => (i.zero, i.size, i.bytes)) = some (some (.int .i64 0), 1, 8) := by kernel_rfl

/-- what count gives: the box, the counts, the queue -/
structure Cn (w : World) (b : Nat) (x0 x1 x2 x4 x5 : Value) (m K gL gW : Nat) (t : List Int) (L : List (List Int)) (i p : Nat) (W : World) : Prop where
  box : ∃ f : Nat, f ≤ K ∧ Has W b 60 (pcs8 x0 x1 x2 (.slice (some ⟨gL, 0, none⟩) m m) x4 x5 gW K f) ∧ ∀ j, j < 64 * f → qC t L i j = false
  row : W.rowIs gL 3 m (iF (lfC t L i p))
  q : QAt W gW K (qC t L i)
  ot : ∀ k, k < w.heap.size → k ≠ b → W.heap[k]? = w.heap[k]?
  bl : Below b w W

section
variable {w W W' : World} {b m K gL gW i p : Nat} {x0 x1 x2 x4 x5 : Value} {t : List Int} {L : List (List Int)}
theorem Cn.drewN (h : Cn w b x0 x1 x2 x4 x5 m K gL gW t L i p W) (n : Nat) : Cn w b x0 x1 x2 x4 x5 m K gL gW t L i p (W.drewN n) :=
  ⟨h.box, h.row, h.q.of_block rfl, fun k hk hkb => h.ot k hk hkb, below_dn h.bl n⟩
theorem Cn.skip (h : Cn w b x0 x1 x2 x4 x5 m K gL gW t L i p W) (e : cnt t (L.getD i []) (p + 1) = cnt t (L.getD i []) p) : Cn w b x0 x1 x2 x4 x5 m K gL gW t L i (p + 1) W := by
  refine ⟨h.box, ?_, h.q, h.ot, h.bl⟩
  refine h.row.congr fun j _ => ?_
  show Value.int .i64 (lfC t L i p j : Nat) = .int .i64 (lfC t L i (p + 1) j : Nat)
  unfold lfC
  rw [e]
theorem Cn.step (h : Cn w b x0 x1 x2 x4 x5 m K gL gW t L i p W) (h1 : w.heap.size ≤ gL) (h2 : gL ≠ gW) (h3 : b < w.heap.size) (e : cnt t (L.getD i []) (p + 1) = cnt t (L.getD i []) p + 1) {cn : Nat} (hcn : cn = cnt t (L.getD i []) p) : Cn w b x0 x1 x2 x4 x5 m K gL gW t L i (p + 1) (W.setCell ⟨gL, i, none⟩ (.int .i64 ((cn : Int) + 1))) := by
  subst hcn
  obtain ⟨f, hf, hH, hlo⟩ := h.box
  refine ⟨⟨f, hf, hH.far (q := ⟨gL, i, none⟩) (by show b ≠ gL; omega) _, hlo⟩, ?_, h.q.of_block (Below.heap_setCell _ _ _ _ (fun e => h2 e.symm)), fun k hk hkb => (Below.heap_setCell _ _ _ _ (by show k ≠ gL; omega)).trans (h.ot k hk hkb), h.bl.setCell (p := ⟨gL, i, none⟩) (by show b ≤ gL; omega) _⟩
  refine (h.row.set i _).congr fun j _ => ?_
  show (if j = i then Value.int .i64 ((cnt t (L.getD i []) p : Int) + 1) else .int .i64 (lfC t L i p j : Nat)) = .int .i64 (lfC t L i (p + 1) j : Nat)
  unfold lfC
  by_cases e1 : j = i
  · subst e1
    rw [if_pos rfl, if_neg (Nat.lt_irrefl _), if_pos rfl, e]; simp
  · rw [if_neg e1]
    by_cases e2 : j < i
    · rw [if_pos e2, if_pos e2]
    · rw [if_neg e2, if_neg e2, if_neg e1, if_neg e1]
theorem lfC_next (t : List Int) (L : List (List Int)) (i j : Nat) : lfC t L i (L.getD i []).length j = lfC t L (i + 1) 0 j := by
  unfold lfC
  have h0 : ∀ c, cnt t c 0 = 0 := fun c => by simp [cnt, nf]
  have h1 : cnt t (L.getD i []) (L.getD i []).length = nl t L i := by unfold cnt nl; rw [List.take_length]
  rw [h0, h1]
  rcases Nat.lt_trichotomy j i with h | h | h
  · rw [if_pos h, if_pos (by omega)]
  · subst h; rw [if_neg (Nat.lt_irrefl _), if_pos rfl, if_pos (by omega)]
  · rw [if_neg (by omega), if_neg (by omega), if_neg (by omega)]; split <;> rfl
theorem Cn.look {f : Nat} (h : Cn w b x0 x1 x2 x4 x5 m K gL gW t L i (L.getD i []).length W) (hf : f ≤ K) (hH : Has W' b 60 (pcs8 x0 x1 x2 (.slice (some ⟨gL, 0, none⟩) m m) x4 x5 gW K f)) (hQ : QAt W' gW K (if nl t L i = 1 then qset (qC t L i) i else qC t L i)) (hO : Only W W' b gW) (hlo : ∀ j, j < 64 * f → (if nl t L i = 1 then qset (qC t L i) i else qC t L i) j = false)
    (h1 : w.heap.size ≤ gL) (h2 : gL ≠ gW) (h3 : b < w.heap.size) (h4 : w.heap.size ≤ gW) : Cn w b x0 x1 x2 x4 x5 m K gL gW t L (i + 1) 0 W' := by
  rw [qC_succ] at hQ hlo
  refine ⟨⟨f, hf, hH, hlo⟩, ?_, hQ, fun k hk hkb => (hO.1 k hkb (by omega)).trans (h.ot k hk hkb), h.bl.trans (hO.2.2 b (Nat.le_refl _) (by omega))⟩
  refine (h.row.of_block (hO.1 gL (by omega) h2)).congr fun j _ => ?_
  show Value.int .i64 (lfC t L i (L.getD i []).length j : Nat) = .int .i64 (lfC t L (i + 1) 0 j : Nat)
  rw [lfC_next]
end
theorem count_head {w w1 : World} {b m gW : Nat} {y0 y1 y2 : Value} (hH : Has w b 60 #[y0, y1, y2, .slice none 0 0, .slice none 0 0, .slice none 0 0, .slice none 0 0, .int .i64 0])
    (hgW : ((w.setCell ⟨b, 3, none⟩ (.slice (some ⟨w.heap.size, 0, none⟩) m m)).alloc (.cells (madeCells #[.int .i64 0] m) 3)).heap.size ≤ gW)
    (hb1 : Below ((w.setCell ⟨b, 3, none⟩ (.slice (some ⟨w.heap.size, 0, none⟩) m m)).alloc (.cells (madeCells #[.int .i64 0] m) 3)).heap.size ((w.setCell ⟨b, 3, none⟩ (.slice (some ⟨w.heap.size, 0, none⟩) m m)).alloc (.cells (madeCells #[.int .i64 0] m) 3)) w1) :
    Has w1 b 60 #[y0, y1, y2, .slice (some ⟨w.heap.size, 0, none⟩) m m, .slice none 0 0, .slice none 0 0, .slice none 0 0, .int .i64 0] ∧ w1.rowIs w.heap.size 3 m (fun _ => .int .i64 0) ∧ w.heap.size ≤ gW ∧ w.heap.size ≠ gW ∧ gW ≠ b ∧ Below b w w1 ∧ ∀ k, k < w.heap.size → k ≠ b → w1.heap[k]? = w.heap[k]? := by
  have hbl := hH.lt
  have hgL : w.heap.size ≠ b := by omega
  have hz0 : (w.setCell ⟨b, 3, none⟩ (.slice (some ⟨w.heap.size, 0, none⟩) m m)).heap.size = w.heap.size := by simp [World.setCell]
  have hX := (hH.set 3 (.slice (some ⟨w.heap.size, 0, none⟩) m m)).al (.cells (madeCells #[.int .i64 0] m) 3)
  have hR := World.rowIs_made (w.setCell ⟨b, 3, none⟩ (.slice (some ⟨w.heap.size, 0, none⟩) m m)) (.int .i64 0) m 3
  rw [hz0] at hR
  have hBX : Below b w ((w.setCell ⟨b, 3, none⟩ (.slice (some ⟨w.heap.size, 0, none⟩) m m)).alloc (.cells (madeCells #[.int .i64 0] m) 3)) := ((Below.refl b w).setCell (p := ⟨b, 3, none⟩) (Nat.le_refl b) _).alloc (by omega) _
  have hOX : ∀ k, k < w.heap.size → k ≠ b → ((w.setCell ⟨b, 3, none⟩ (.slice (some ⟨w.heap.size, 0, none⟩) m m)).alloc (.cells (madeCells #[.int .i64 0] m) 3)).heap[k]? = w.heap[k]? := fun k hk hkb => (Below.heap_alloc _ _ _ (by omega)).trans (Below.heap_setCell _ _ _ _ hkb)
  have hzX : ((w.setCell ⟨b, 3, none⟩ (.slice (some ⟨w.heap.size, 0, none⟩) m m)).alloc (.cells (madeCells #[.int .i64 0] m) 3)).heap.size = w.heap.size + 1 := by simp [World.setCell]
  generalize ((w.setCell ⟨b, 3, none⟩ (.slice (some ⟨w.heap.size, 0, none⟩) m m)).alloc (.cells (madeCells #[.int .i64 0] m) 3)) = X at hX hR hBX hOX hzX hgW hb1
  exact ⟨hX.keep hb1 hX.lt, row_on hR hb1, by omega, by omega, by omega, hBX.trans (hb1.mono (by omega)), fun k hk hkb => (hb1.block k (by omega)).trans (hOX k hk hkb)⟩

set_option maxRecDepth 100000 in
set_option maxHeartbeats 10000000 in
theorem count_any (v b gT gV m' : Nat) (C : Option Addr) (L : List (List Int)) (kc : Nat) (x2 : Value) (t : List Int) (w : World) (hv : v ≤ 4000) (hm' : m' = 2 * v + 2) (ht : OkT v t) (hI : Ill w b C L kc) (hL : L.length ≤ 20000) (hc : ∀ c ∈ L, OkC v c ∧ c.length ≤ 100000) (hT : w.rowIs gT 4 m' (tT t)) (hbT : gT ≠ b)
    (hH : Has w b 60 #[.slice C L.length kc, .slice (some ⟨gT, 0, none⟩) m' m', x2, .slice none 0 0, .slice none 0 0, .slice none 0 0, .slice none 0 0, .int .i64 0]) :
    Calls Tryd.prog 32 #[.pointer (some ⟨b, 0, none⟩)] w fun e w' => ∃ gL gW, w.heap.size ≤ gL ∧ w.heap.size ≤ gW ∧ gL ≠ gW ∧
      ((∃ i : Nat, i < L.length ∧ e = .returned (.int .i64 (i : Int)) ∧ fF t L = some i ∧ (∃ i', Cn w b (.slice C L.length kc) (.slice (some ⟨gT, 0, none⟩) m' m') x2 (.slice none 0 0) (.slice none 0 0) L.length ((L.length + 63) / 64) gL gW t L i' 0 w')) ∨
       (e = .returned (.int .i64 (-1)) ∧ fF t L = none ∧ Cn w b (.slice C L.length kc) (.slice (some ⟨gT, 0, none⟩) m' m') x2 (.slice none 0 0) (.slice none 0 0) L.length ((L.length + 63) / 64) gL gW t L L.length 0 w')) := by
  obtain ⟨m, hm⟩ : ∃ m, m = L.length := ⟨_, rfl⟩
  obtain ⟨K, hK⟩ : ∃ K, K = (m + 63) / 64 := ⟨_, rfl⟩
  rw [← hm] at hH ⊢
  rw [← hK]
  have hm2 : m ≤ 20000 := by omega
  have hmk : ∀ w : World, (Instr.makeSlice 22 (.int .i64 (m : Int)) (.int .i64 (m : Int))).run Tryd.prog w = .ok (.slice (some ⟨w.heap.size, 0, none⟩) m m) (w.alloc (.cells (madeCells #[.int .i64 0] m) 3)) := fun w =>
    run_make_row' 22 3 (.int .i64 0) 8 Tryd.underlying22 info_i15 rfl _ _ m (by omega) (by omega) w
  have y0 : w.cell? ⟨b, 0, none⟩ = some (.slice C m kc) := hH.cell 0
  have y3 : w.cell? ⟨b, 3, none⟩ = some (.slice none 0 0) := hH.cell 3
  have f3 : w.frozen? ⟨b, 3, none⟩ = false := hH.fz 3
  have hbl := hH.lt
  have HH := Lib.hid (And.intro hH (And.intro hT (And.intro hI (And.intro hm (And.intro hK (And.intro hc (And.intro ht hm')))))))
  clear hH hT hI hm hK hc ht hL hm'
  have hgL : w.heap.size ≠ b := by omega
  go_enter Tryd.func32, Tryd.ntmps32
  go_wp2_with (first
    | (go_at_call 36; (with_reducible refine (queueOf_any m (by omega) _).mono ?_); rintro e w1 ⟨gW, rfl, hgW, hQ1, hb1⟩
       rw [show (m + 63) / 64 = K from HH.out.2.2.2.2.1.symm] at hQ1 ⊢
       obtain ⟨hH1, hR1, g1, g2, hgb, hB1, hO1⟩ := count_head HH.out.1 hgW hb1
       have d0 : w1.cell? ⟨b, 0, none⟩ = some (.slice C m kc) := hH1.cell 0
       have d6 : w1.cell? ⟨b, 6, none⟩ = some (.slice none 0 0) := hH1.cell 6
       have d7 : w1.cell? ⟨b, 7, none⟩ = some (.int .i64 0) := hH1.cell 7
       have e6 : w1.frozen? ⟨b, 6, none⟩ = false := hH1.fz 6
       have e7 : w1.frozen? ⟨b, 7, none⟩ = false := hH1.fz 7
       have H1 := Lib.hid (And.intro hH1 (And.intro hR1 (And.intro hQ1 (And.intro g1 (And.intro g2 (And.intro hB1 hO1))))))
       clear hgW hb1 hH1 hR1 hQ1 g1 g2 hB1 hO1))
  obtain ⟨hH1, hR1, hQ1, g1, g2, hB1, hO1⟩ := H1.out
  have hC0 : Cn w b (.slice C m kc) (.slice (some ⟨gT, 0, none⟩) m' m') x2 (.slice none 0 0) (.slice none 0 0) m K w.heap.size gW t L 0 0 ((w1.setCell ⟨b, 6, none⟩ (.slice (some ⟨gW, 0, none⟩) K K)).setCell ⟨b, 7, none⟩ (.int .i64 0)) := by
    refine ⟨⟨0, Nat.zero_le _, (hH1.set 6 _).set 7 _, fun j hj => absurd hj (Nat.not_lt_zero _)⟩, ?_, ?_, fun k hk hkb => ?_, ?_⟩
    · refine ((hR1.setOther (a := ⟨b, 6, none⟩) hgL _).setOther (a := ⟨b, 7, none⟩) hgL _).congr fun j _ => ?_
      show Value.int .i64 0 = .int .i64 (lfC t L 0 0 j : Nat)
      unfold lfC
      rw [if_neg (Nat.not_lt_zero _)]
      split <;> simp [cnt, nf]
    · have : qC t L 0 = fun _ => false := by funext j; unfold qC; simp
      rw [this]
      exact hQ1.of_block ((Below.heap_setCell _ _ _ _ hgb).trans (Below.heap_setCell _ _ _ _ hgb))
    · exact ((Below.heap_setCell _ _ _ _ hkb).trans (Below.heap_setCell _ _ _ _ hkb)).trans (hO1 k hk hkb)
    · exact (hB1.setCell (p := ⟨b, 6, none⟩) (Nat.le_refl b) _).setCell (p := ⟨b, 7, none⟩) (Nat.le_refl b) _
  have HC0 := Lib.hid hC0
  have HG := Lib.hid (And.intro g1 g2)
  clear hH1 hR1 hQ1 hB1 hO1 hC0 y0 y3 f3 d0 d6 d7 e6 e7 g1 hmk
  go_loopw [30] (fun i wr => ∃ j : Nat, j ≤ m ∧ i = .int .i64 (j : Int) ∧ Cn w b (.slice C m kc) (.slice (some ⟨gT, 0, none⟩) m' m') x2 (.slice none 0 0) (.slice none 0 0) m K w.heap.size gW t L j 0 wr ∧ ∀ p, p < j → nl t L p ≠ 0) (fun i _ => m - (intOf i).toNat)
  case atStart => exact ⟨0, Nat.zero_le _, rfl, HC0.out, fun p hp => absurd hp (Nat.not_lt_zero _)⟩
  case round =>
    obtain ⟨j, hj, rfl, hC, hok⟩ := hrel
    by_cases hlt : j < m
    · have hjl : j < L.length := by have := HH.out.2.2.2.1; omega
      obtain ⟨cb, co, rfl, hcb, hcs⟩ := (HH.out.2.2.1.keep hC.bl).h (by omega)
      obtain ⟨A', k', yc, hIc⟩ := hcs j hjl
      have hcm := HH.out.2.2.2.2.2.1 _ (gotD_mem hjl)
      have hj1 : (j : Int) < (m : Int) := by omega
      have hj0 : (0 : Int) ≤ (j : Int) := by omega
      obtain ⟨c, hce⟩ : ∃ c, c = L.getD j [] := ⟨_, rfl⟩
      have HCE := Lib.hid hce
      rw [← hce] at yc hIc hcm
      obtain ⟨n, hn⟩ : ∃ n, n = c.length := ⟨_, rfl⟩
      have hn1 : n ≤ 100000 := by omega
      have HN := Lib.hid (And.intro hn (And.intro hcm.1 hIc))
      rw [← hn] at yc
      have HC := Lib.hid (And.intro hC hok)
      clear hcs hce hn hcm hIc hC hok
      go_wp2
      go_loopw [37] (fun i wr' => ∃ p : Nat, p ≤ n ∧ i = .int .i64 (p : Int) ∧ Cn w b (.slice (some ⟨cb, co, none⟩) m kc) (.slice (some ⟨gT, 0, none⟩) m' m') x2 (.slice none 0 0) (.slice none 0 0) m K w.heap.size gW t L j p wr' ∧ Below b wr wr') (fun i _ => n - (intOf i).toNat)
      case atStart => exact ⟨0, Nat.zero_le _, rfl, HC.out.1, Below.refl _ _⟩
      case round =>
        obtain ⟨p, hp, rfl, hD, hBw⟩ := hrel
        by_cases hpl : p < n
        · have hpc : p < c.length := by have := HN.out.1; omega
          obtain ⟨xb, xo, rfl, hxb, hxs⟩ := (HN.out.2.2.keep hBw).cells (by omega)
          have y := hxs p hpc
          have hx := isL_iff.1 ((HN.out.2.1).1 _ (getD_mem hpc))
          have hNF := cnt_succ (t := t) hpc
          have hcn := cnt_le t c p
          obtain ⟨x, hx0⟩ : ∃ x, x = c.getD p 0 := ⟨_, rfl⟩
          rw [← hx0] at y hx hNF
          obtain ⟨u, rfl⟩ : ∃ u : Nat, x = u := ⟨x.toNat, by omega⟩
          have hp1 : (p : Int) < (n : Int) := by omega
          have hp0 : (0 : Int) ≤ (p : Int) := by omega
          obtain ⟨f, hf, hbox, hlo⟩ := hD.box
          have y1 : wr.cell? ⟨b, 1, none⟩ = some (.slice (some ⟨gT, 0, none⟩) m' m') := hbox.cell 1
          have y3 : wr.cell? ⟨b, 3, none⟩ = some (.slice (some ⟨w.heap.size, 0, none⟩) m m) := hbox.cell 3
          have z : wr.cell? ⟨w.heap.size, j, none⟩ = some (.int .i64 (cnt t c p : Nat)) := by
            have h := hD.row.cell hlt
            rw [show iF (lfC t L j p) j = .int .i64 (cnt t c p : Nat) by show Value.int .i64 (lfC t L j p j : Nat) = _; unfold lfC; rw [if_neg (Nat.lt_irrefl _), if_pos rfl, HCE.out]] at h
            exact h
          have fz := hD.row.frozen j
          have hme := HH.out.2.2.2.2.2.2.2
          have g0 : 0 ≤ ng (u : Int) := by unfold ng; split <;> omega
          have g1 : ng (u : Int) < (m' : Int) := by unfold ng; split <;> omega
          have hT' := HH.out.2.1.of_block (hD.ot gT HH.out.2.1.lt hbT)
          have z2 : wr.cell? ⟨gT, (ng (u : Int)).toNat, none⟩ = some (.bool (decide (ng (u : Int) ∈ t))) := by
            have h := hT'.cell (i := (ng (u : Int)).toNat) (by omega)
            rw [show tT t (ng (u : Int)).toNat = .bool (decide (((ng (u : Int)).toNat : Int) ∈ t)) from rfl, Int.toNat_of_nonneg g0] at h
            exact h
          have DN := fun W => negation_any (u : Int) (by omega) (by omega) W
          have HD := Lib.hid (And.intro hD hBw)
          have HT := Lib.hid hbT
          clear hx0 hme hT' hbox hlo hD hBw hxs hf hx hbT
          obtain ⟨y', hy'⟩ : ∃ y', y' = ng (u : Int) := ⟨_, rfl⟩
          by_cases e2 : ng (u : Int) ∈ t
          · rw [show decide (ng (u : Int) ∈ t) = true from decide_eq_true e2] at z2
            rw [if_pos e2] at hNF
            rw [← hy'] at g0 g1 z2 DN
            have HNF := Lib.hid hNF
            clear hy' e2 hNF
            go_wp2
            go_quiet ((go_at_call 27; exact (DN _).mono (fun e w'' h => ⟨h.1, _, h.2.symm⟩)))
            go_wp2
            go_roundw
            case rel => exact ⟨p + 1, by omega, by go_num, (HD.out.1.skip (by rw [← HCE.out]; exact HNF.out)).drewN _, below_dn HD.out.2 _⟩
            case measure => simp [intOf]; omega
          · rw [show decide (ng (u : Int) ∈ t) = false from decide_eq_false e2] at z2
            rw [if_neg e2] at hNF
            rw [← hy'] at g0 g1 z2 DN
            have HNF := Lib.hid hNF
            obtain ⟨cn, hcne⟩ : ∃ cn, cn = cnt t c p := ⟨_, rfl⟩
            rw [← hcne] at z hcn
            have HCN := Lib.hid hcne
            clear hy' e2 hNF hcne
            go_wp2
            go_quiet ((go_at_call 27; exact (DN _).mono (fun e w'' h => ⟨h.1, _, h.2.symm⟩)))
            go_wp2
            go_roundw
            case rel =>
              refine ⟨p + 1, by omega, by go_num, ?_, ?_⟩
              · exact (HD.out.1.drewN _).step (Nat.le_refl _) HG.out.2 hbl (by rw [← HCE.out, ← HCN.out]; exact (by first | exact HNF.out | (rw [HCN.out]; exact HNF.out))) (by rw [← HCE.out]; exact HCN.out)
              · exact (below_dn HD.out.2 _).setCell (p := ⟨w.heap.size, j, none⟩) (by show b ≤ w.heap.size; omega) _
            case measure => simp [intOf]; omega
        · obtain rfl : p = n := by omega
          have hD' : Cn w b (.slice (some ⟨cb, co, none⟩) m kc) (.slice (some ⟨gT, 0, none⟩) m' m') x2 (.slice none 0 0) (.slice none 0 0) m K w.heap.size gW t L j (L.getD j []).length wr := by
            rw [← HCE.out, ← HN.out.1]; exact hD
          obtain ⟨f, hf, hbox, hlo⟩ := hD'.box
          have hnl : nl t L j ≤ 100000 := by have := nl_le t L j; rw [← HCE.out, ← HN.out.1] at this; omega
          have hlf : lfC t L j (L.getD j []).length j = nl t L j := by
            rw [lfC_next]; unfold lfC; rw [if_pos (Nat.lt_succ_self j)]
          have hKm := HH.out.2.2.2.2.1
          have DL := look_any b w.heap.size gW m K j f (.slice (some ⟨cb, co, none⟩) m kc) (.slice (some ⟨gT, 0, none⟩) m' m') x2 (.slice none 0 0) (.slice none 0 0) (lfC t L j (L.getD j []).length) (qC t L j) wr hbox hD'.row hD'.q hlt (by omega) (by omega) (by rw [hlf]; exact hnl) (by have := HG.out.1; omega) hgL HG.out.2 hlo hf
          rw [hlf] at DL
          have HD := Lib.hid hD'
          have hpn : ¬ (p : Int) < (p : Int) := by omega
          obtain ⟨nn, hnn⟩ : ∃ x, x = nl t L j := ⟨_, rfl⟩
          have HNN := Lib.hid hnn
          rw [← hnn] at DL
          clear hD hD' hf hbox hlo hnl hlf hKm hnn hBw
          by_cases e0 : nn = 0
          · rw [show decide (nn = 0) = true from decide_eq_true e0] at DL
            have HE := Lib.hid e0
            clear e0
            go_wp2_with (first
              | (go_at_call 37; (with_reducible refine DL.mono ?_); rintro e w3 ⟨f', rfl, hf', hH3, hQ3, hO3, hlo3⟩
                 have HL := Lib.hid (And.intro hf' (And.intro hH3 (And.intro hQ3 (And.intro hO3 hlo3))))
                 clear hf' hH3 hQ3 hO3 hlo3))
            go_ret
            obtain ⟨hf', hH3, hQ3, hO3, hlo3⟩ := HL.out
            rw [HNN.out] at hQ3 hlo3
            refine ⟨w.heap.size, gW, Nat.le_refl _, HG.out.1, HG.out.2, Or.inl ⟨j, by omega, rfl, ?_, j + 1, HD.out.look hf' hH3 hQ3 hO3 hlo3 (Nat.le_refl _) HG.out.2 hbl HG.out.1⟩⟩
            refine fF_some hjl ((stC_0 HH.out.2.2.2.2.2.2.1).2 (List.eq_nil_of_length_eq_zero (by have := HNN.out; have := HE.out; unfold nl at *; omega))) fun p hp h0 => ?_
            exact HC.out.2 p hp (by unfold nl; rw [(stC_0 HH.out.2.2.2.2.2.2.1).1 h0]; rfl)
          · rw [show decide (nn = 0) = false from decide_eq_false e0] at DL
            have HE := Lib.hid e0
            clear e0
            go_wp2_with (first
              | (go_at_call 37; (with_reducible refine DL.mono ?_); rintro e w3 ⟨f', rfl, hf', hH3, hQ3, hO3, hlo3⟩
                 have HL := Lib.hid (And.intro hf' (And.intro hH3 (And.intro hQ3 (And.intro hO3 hlo3))))
                 clear hf' hH3 hQ3 hO3 hlo3))
            go_roundw
            case rel =>
              obtain ⟨hf', hH3, hQ3, hO3, hlo3⟩ := HL.out
              rw [HNN.out] at hQ3 hlo3
              exact ⟨j + 1, by omega, by go_num, HD.out.look hf' hH3 hQ3 hO3 hlo3 (Nat.le_refl _) HG.out.2 hbl HG.out.1, fun p hp => by
                rcases Nat.lt_succ_iff_lt_or_eq.1 hp with h' | h'
                · exact HC.out.2 p h'
                · subst h'; rw [← HNN.out]; exact HE.out⟩
            case measure => simp [intOf]; omega
    · obtain rfl : j = m := by omega
      have hjn : ¬ (j : Int) < (j : Int) := by omega
      have HC := Lib.hid (And.intro hC hok)
      clear hC hok
      go_wp2
      go_ret
      have hfn : fF t L = none := fF_none fun p hp h0 => HC.out.2 p (by have := HH.out.2.2.2.1; omega) (by unfold nl; rw [(stC_0 HH.out.2.2.2.2.2.2.1).1 h0]; rfl)
      first
        | exact ⟨w.heap.size, gW, Nat.le_refl _, HG.out.1, HG.out.2, Or.inr ⟨rfl, hfn, HC.out.1⟩⟩
        | exact ⟨w.heap.size, Nat.le_refl _, gW, HG.out.1, HG.out.2, Or.inr ⟨rfl, hfn, HC.out.1⟩⟩

end Go.Proofs.YtecmldnigohjfabDoor

namespace Go.Proofs.YtecmldnigohjfabDoor
open Go Go.RowKit Go.Shelf
set_option linter.unusedVariables false
set_option linter.unusedSimpArgs false

attribute [local go_sem] Oper.semAt_some

/-- what indexOf gives -/
structure IxAt (W : World) (gS gP n lits : Nat) (L : List (List Int)) : Prop where
  s : W.rowIs gS 3 (lits + 1) (iF (sg L))
  p : W.rowIs gP 3 n (iF (plF L (oc L 0)))
  n : n = sg L (lits + 1)

theorem set_sz15 (w : World) (q : Addr) (u : Value) : (w.setCell q u).heap.size = w.heap.size := by simp [World.setCell]
/-- the boxes and the starts, while they are made -/
structure Ix1 (w W : World) (lits : Nat) (vP : Value) (f : Nat → Nat) : Prop where
  rb : Has W w.heap.size 55 #[.slice none 0 0, .slice none 0 0]
  row : W.rowIs (w.heap.size + 1) 3 (lits + 1) (iF f)
  xb : Has W (w.heap.size + 1 + 1) 55 #[.slice (some ⟨w.heap.size + 1, 0, none⟩) (lits + 1) (lits + 1), vP]
  bl : Below w.heap.size w W
  z : w.heap.size + 1 + 1 + 1 ≤ W.heap.size
section
variable {w W W' : World} {lits : Nat} {vP : Value} {f f' : Nat → Nat}
theorem Ix1.congr (h : Ix1 w W lits vP f) (e : ∀ y, y < lits + 1 → f y = f' y) : Ix1 w W lits vP f' := ⟨h.rb, h.row.congr fun j hj => by show Value.int .i64 (f j : Int) = .int .i64 (f' j : Int); rw [e j hj], h.xb, h.bl, h.z⟩
theorem Ix1.put (h : Ix1 w W lits vP f) {u : Nat} {x : Int} (hf : ∀ y, y < lits + 1 → (f' y : Int) = if y = u then x else (f y : Int)) : Ix1 w (W.setCell ⟨w.heap.size + 1, u, none⟩ (.int .i64 x)) lits vP f' := by
  refine ⟨h.rb.far (q := ⟨w.heap.size + 1, u, none⟩) (by show w.heap.size ≠ w.heap.size + 1; omega) _, (h.row.set u _).congr fun y hy => ?_, h.xb.far (q := ⟨w.heap.size + 1, u, none⟩) (by show w.heap.size + 1 + 1 ≠ w.heap.size + 1; omega) _, h.bl.setCell (p := ⟨w.heap.size + 1, u, none⟩) (Nat.le_succ _) _, by rw [set_sz15]; exact h.z⟩
  show (if y = u then Value.int .i64 x else .int .i64 (f y : Int)) = .int .i64 (f' y : Int)
  rw [hf y hy]
  split <;> rfl
theorem Ix1.drewN (h : Ix1 w W lits vP f) (n : Nat) : Ix1 w (W.drewN n) lits vP f := ⟨h.rb, h.row, h.xb, below_dn h.bl n, h.z⟩
end

/-- while the places are laid: where each literal's places begin -/
abbrev sfl (L : List (List Int)) (low : Int → Nat) : Nat → Nat := fun y => sg L y + low (y : Int)
/-- the boxes, the starts and the places -/
structure Ix2 (w W : World) (lits gP np : Nat) (L : List (List Int)) (low : Int → Nat) : Prop where
  rb : Has W w.heap.size 55 #[.slice none 0 0, .slice none 0 0]
  row : W.rowIs (w.heap.size + 1) 3 (lits + 1) (iF (sfl L low))
  xb : Has W (w.heap.size + 1 + 1) 55 #[.slice (some ⟨w.heap.size + 1, 0, none⟩) (lits + 1) (lits + 1), .slice (some ⟨gP, 0, none⟩) np np]
  pl : W.rowIs gP 3 np (iF (plF L low))
  bl : Below w.heap.size w W
section
variable {w W W' : World} {lits gP np : Nat} {L : List (List Int)} {low low' : Int → Nat}
theorem Ix2.congr (h : Ix2 w W lits gP np L low) (e : ∀ y, low y = low' y) : Ix2 w W lits gP np L low' := by
  have : low = low' := funext e
  rwa [this] at h
theorem Ix2.drewN (h : Ix2 w W lits gP np L low) (n : Nat) : Ix2 w (W.drewN n) lits gP np L low := ⟨h.rb, h.row, h.xb, h.pl, below_dn h.bl n⟩
theorem Ix2.put (h : Ix2 w W lits gP np L low) (hg : w.heap.size + 1 + 1 < gP) {u e s : Nat} (hs : s = sg L u + oc L e (u : Int)) (he : e < L.length) (hm : (u : Int) ∈ L.getD e []) (h1 : low (u : Int) = oc L e (u : Int) + 1) (h2 : low' (u : Int) = oc L e (u : Int)) (h3 : ∀ z : Int, z ≠ (u : Int) → low' z = low z) (d : Nat) :
    Ix2 w (((W.setCell ⟨w.heap.size + 1, u, none⟩ (.int .i64 (s : Int))).drewN d).setCell ⟨gP, s, none⟩ (.int .i64 (e : Int))) lits gP np L low' := by
  refine ⟨?_, ?_, ?_, ?_, ?_⟩
  · exact ((h.rb.far (q := ⟨w.heap.size + 1, u, none⟩) (by show w.heap.size ≠ w.heap.size + 1; omega) _).drewN).far (q := ⟨gP, s, none⟩) (by show w.heap.size ≠ gP; omega) _
  · refine (((h.row.set u _)).setOther (a := ⟨gP, s, none⟩) (by show w.heap.size + 1 ≠ gP; omega) _).congr fun y _ => ?_
    show (if y = u then Value.int .i64 (s : Int) else .int .i64 ((sg L y + low (y : Int) : Nat) : Int)) = .int .i64 ((sg L y + low' (y : Int) : Nat) : Int)
    by_cases ey : y = u
    · subst ey; rw [if_pos rfl, h2, hs]
    · rw [if_neg ey, h3 (y : Int) (by omega)]
  · exact ((h.xb.far (q := ⟨w.heap.size + 1, u, none⟩) (by show w.heap.size + 1 + 1 ≠ w.heap.size + 1; omega) _).drewN).far (q := ⟨gP, s, none⟩) (by show w.heap.size + 1 + 1 ≠ gP; omega) _
  · have h4 := h.pl.setOther (a := ⟨w.heap.size + 1, u, none⟩) (by show gP ≠ w.heap.size + 1; omega) (.int .i64 (s : Int))
    refine ((show ((W.setCell ⟨w.heap.size + 1, u, none⟩ (.int .i64 (s : Int))).drewN d).rowIs gP 3 np (iF (plF L low)) from h4).set s _).congr fun j _ => ?_
    show (if j = s then Value.int .i64 (e : Int) else .int .i64 ((plF L low j : Nat) : Int)) = .int .i64 ((plF L low' j : Nat) : Int)
    rw [plF_step L he hm h1 h2 h3 j, ← hs]
    split <;> rfl
  · exact (below_dn (h.bl.setCell (p := ⟨w.heap.size + 1, u, none⟩) (Nat.le_succ _) _) d).setCell (p := ⟨gP, s, none⟩) (by show w.heap.size ≤ gP; omega) _
end

set_option maxRecDepth 100000 in
set_option maxHeartbeats 10000000 in
theorem index_any (v lits : Nat) (C : Option Addr) (L : List (List Int)) (kc : Nat) (w : World) (hv : v ≤ 4000) (hl : lits = 2 * v + 2) (hI : Ill w w.heap.size C L kc) (hL : L.length ≤ 20000) (hc : ∀ c ∈ L, OkC v c ∧ c.length ≤ 100000) :
    Calls Tryd.prog 33 #[.int .i64 (lits : Int), .slice C L.length kc] w fun e w' => ∃ gS gP n, e = .returned (.agg #[.slice (some ⟨gS, 0, none⟩) (lits + 1) (lits + 1), .slice (some ⟨gP, 0, none⟩) n n]) ∧ IxAt w' gS gP n lits L ∧ w.heap.size ≤ gS ∧ w.heap.size ≤ gP ∧ gS ≠ gP ∧ Below w.heap.size w w' := by
  obtain ⟨m, hm⟩ : ∃ m, m = L.length := ⟨_, rfl⟩
  rw [← hm]
  have hm2 : m ≤ 20000 := by omega
  have hl2 : lits ≤ 8002 := by omega
  have hmk : ∀ (n : Nat) (w : World), n ≤ 1000000000 → (Instr.makeSlice 22 (.int .i64 (n : Int)) (.int .i64 (n : Int))).run Tryd.prog w = .ok (.slice (some ⟨w.heap.size, 0, none⟩) n n) (w.alloc (.cells (madeCells #[.int .i64 0] n) 3)) := fun n w hn =>
    run_make_row' 22 3 (.int .i64 0) 8 Tryd.underlying22 info_i15 rfl _ _ n (by omega) (by omega) w
  have hmk1 : ∀ w : World, (Instr.makeSlice 22 (.int .i64 ((lits : Int) + 1)) (.int .i64 ((lits : Int) + 1))).run Tryd.prog w = .ok (.slice (some ⟨w.heap.size, 0, none⟩) (lits + 1) (lits + 1)) (w.alloc (.cells (madeCells #[.int .i64 0] (lits + 1)) 3)) := fun w => hmk (lits + 1) w (by omega)
  have HH := Lib.hid (And.intro hI (And.intro hm (And.intro hc hl)))
  have HMK := Lib.hid hmk
  clear hI hm hc hl hmk hL
  refine (callsIn_wide (n := 9)).1 ?_
  refine callsIn_of_wp_marks Tryd.func33 rfl trivial ?_ rfl
  simp only [Tryd.ntmps33, List.size_toArray, List.length_cons, List.length_nil, Nat.reduceAdd, Nat.reduceSub, Array.replicate_succ, Array.replicate_zero, List.push_toArray, List.append_toArray, List.nil_append, List.cons_append]
  gi_wp2
  have h0 : Ix1 w (((w.alloc (.cells #[.slice none 0 0, .slice none 0 0] 55)).alloc (.cells (madeCells #[.int .i64 0] (lits + 1)) 3)).alloc (.cells #[.slice (some ⟨w.heap.size + 1, 0, none⟩) (lits + 1) (lits + 1), .slice none 0 0] 55)) lits (.slice none 0 0) (fun y => oc L 0 (y : Int)) := by
    have hR := World.rowIs_made (w.alloc (.cells #[.slice none 0 0, .slice none 0 0] 55)) (.int .i64 0) (lits + 1) 3
    rw [World.size_alloc] at hR
    exact ⟨((Has.new _ _ _).al _).al _, hR.alloc _, Has.new' _ _ (by simp), (((Below.refl _ _).alloc (Nat.le_refl _) _).alloc (by simp) _).alloc (by simp; omega) _, by simp⟩
  have H0 := Lib.hid h0
  clear h0 hmk1
  gi_loopw [23] (fun i wr => ∃ j : Nat, j ≤ m ∧ i = .int .i64 (j : Int) ∧ Ix1 w wr lits (.slice none 0 0) (fun y => oc L j (y : Int))) (fun i _ => m - (intOf i).toNat)
  case atStart => exact ⟨0, Nat.zero_le _, rfl, H0.out⟩
  case round =>
    obtain ⟨j, hj, rfl, hC⟩ := hrel
    by_cases hlt : j < m
    · have hjl : j < L.length := by have := HH.out.2.1; omega
      obtain ⟨cb, co, rfl, hcb, hcs⟩ := (HH.out.1.keep hC.bl).h (by omega)
      obtain ⟨A', k', yc, hIc⟩ := hcs j hjl
      have hcm := HH.out.2.2.1 _ (gotD_mem hjl)
      have hj1 : (j : Int) < (m : Int) := by omega
      have hj0 : (0 : Int) ≤ (j : Int) := by omega
      have HOC := Lib.hid (And.intro (ocp_0 L j) (And.intro (ocp_all L j) (fun p (hp : p < (L.getD j []).length) => ocp_at (v := (v : Int)) hcm.1 hp)))
      obtain ⟨c, hce⟩ : ∃ c, c = L.getD j [] := ⟨_, rfl⟩
      rw [← hce] at yc hIc hcm HOC
      obtain ⟨n, hn⟩ : ∃ n, n = c.length := ⟨_, rfl⟩
      have hn1 : n ≤ 100000 := by omega
      have HN := Lib.hid (And.intro hn (And.intro hcm.1 hIc))
      rw [← hn] at yc
      have HC := Lib.hid hC
      clear hcs hce hn hcm hIc hC
      gi_wp2
      gi_loopw [29] (fun i wr' => ∃ p : Nat, p ≤ n ∧ i = .int .i64 (p : Int) ∧ Ix1 w wr' lits (.slice none 0 0) (fun y => ocp L j p (y : Int)) ∧ Below w.heap.size wr wr') (fun i _ => n - (intOf i).toNat)
      case atStart => exact ⟨0, Nat.zero_le _, rfl, HC.out.congr fun y _ => (HOC.out.1 _).symm, Below.refl _ _⟩
      case round =>
        obtain ⟨p, hp, rfl, hD, hBw⟩ := hrel
        by_cases hpl : p < n
        · have hpc : p < c.length := by have := HN.out.1; omega
          obtain ⟨xb, xo, rfl, hxb, hxs⟩ := (HN.out.2.2.keep hBw).cells (by omega)
          have y := hxs p hpc
          have hx := isL_iff.1 ((HN.out.2.1).1 _ (getD_mem hpc))
          have hOA := HOC.out.2.2 p hpc
          obtain ⟨x, hx0⟩ : ∃ x, x = c.getD p 0 := ⟨_, rfl⟩
          rw [← hx0] at y hx hOA
          obtain ⟨u, rfl⟩ : ∃ u : Nat, x = u := ⟨x.toNat, by omega⟩
          have hp1 : (p : Int) < (n : Int) := by omega
          have hp0 : (0 : Int) ≤ (p : Int) := by omega
          have hle := HH.out.2.2.2
          have u0 : (0 : Int) ≤ (u : Int) := by omega
          have u1 : (u : Int) < (lits : Int) + 1 := by omega
          have u2 : u < lits + 1 := by omega
          have x0 : wr.cell? ⟨w.heap.size + 1 + 1, 0, none⟩ = some (.slice (some ⟨w.heap.size + 1, 0, none⟩) (lits + 1) (lits + 1)) := hD.xb.cell 0
          have z : wr.cell? ⟨w.heap.size + 1, u, none⟩ = some (.int .i64 (ocp L j p (u : Int) : Nat)) := hD.row.cell u2
          have fz := hD.row.frozen u
          have hob : ocp L j p (u : Int) ≤ 20001 := by
            unfold ocp
            have := oc_le L (u : Int) j
            split <;> omega
          obtain ⟨o, hoe⟩ : ∃ o, o = ocp L j p (u : Int) := ⟨_, rfl⟩
          rw [← hoe] at z hob hOA
          have HD := Lib.hid (And.intro hD (And.intro hBw hOA))
          clear hx0 hle hD hBw hxs hx hoe hOA
          gi_wp2
          go_roundw
          case rel => exact ⟨p + 1, by omega, by go_num, HD.out.1.put fun y _ => by
            have := HD.out.2.2 (y : Int)
            rw [this]
            by_cases e : y = u
            · subst e; simp
            · rw [if_neg (by omega), if_neg e], HD.out.2.1.setCell (p := ⟨w.heap.size + 1, u, none⟩) (Nat.le_succ _) _⟩
          case measure => simp [intOf]; omega
        · obtain rfl : p = n := by omega
          have hpn : ¬ (p : Int) < (p : Int) := by omega
          have HD := Lib.hid hD
          clear hD hBw
          gi_wp2
          go_roundw
          case rel => exact ⟨j + 1, by omega, by go_num, HD.out.congr fun y _ => by rw [HN.out.1]; exact HOC.out.2.1 _⟩
          case measure => simp [intOf]; omega
    · obtain rfl : m = j := by omega
      have hjn : ¬ (m : Int) < (m : Int) := by omega
      have x0 : wr.cell? ⟨w.heap.size + 1 + 1, 0, none⟩ = some (.slice (some ⟨w.heap.size + 1, 0, none⟩) (lits + 1) (lits + 1)) := hC.xb.cell 0
      have HC := Lib.hid hC
      clear hC
      gi_wp2
      gi_loopw [10, 45] (fun a i wr' => ∃ z : Nat, z ≤ lits + 1 ∧ i = .int .i64 (z : Int) ∧ a = .int .i64 (sg L z : Nat) ∧ Ix1 w wr' lits (.slice none 0 0) (sgp L z)) (fun _ i _ => lits + 1 - (intOf i).toNat)
      case atStart => exact ⟨0, Nat.zero_le _, rfl, rfl, HC.out.congr fun y _ => by unfold sgp; rw [if_neg (Nat.not_lt_zero _), HH.out.2.1]⟩
      case round =>
        obtain ⟨z, hz, rfl, rfl, hD⟩ := hrel
        have hsb := sg_le L z (B := 20000) (fun y => Nat.le_trans (oc_le L y _) (by have := HH.out.2.1; omega))
        have hsb2 : sg L z ≤ 170000000 := by omega
        by_cases hzl : z < lits + 1
        · have x0 : wr.cell? ⟨w.heap.size + 1 + 1, 0, none⟩ = some (.slice (some ⟨w.heap.size + 1, 0, none⟩) (lits + 1) (lits + 1)) := hD.xb.cell 0
          have hy : wr.cell? ⟨w.heap.size + 1, z, none⟩ = some (.int .i64 (sgp L z z : Nat)) := hD.row.cell hzl
          have e1 : sgp L z z = oc L L.length (z : Int) := by unfold sgp; rw [if_neg (Nat.lt_irrefl _)]
          have hob := oc_le L (z : Int) L.length
          have hLl := HH.out.2.1
          have hob2 : oc L L.length (z : Int) ≤ 20000 := by omega
          have hsum : sg L (z + 1) = sg L z + oc L L.length (z : Int) := rfl
          have hss := sgp_succ L z
          rw [e1] at hy
          have fz := hD.row.frozen z
          have z0 : (0 : Int) ≤ (z : Int) := by omega
          have z1 : (z : Int) < (lits : Int) + 1 := by omega
          obtain ⟨s, hse⟩ : ∃ s, s = sg L z := ⟨_, rfl⟩
          obtain ⟨o, hoe⟩ : ∃ s, s = oc L L.length (z : Int) := ⟨_, rfl⟩
          rw [← hse] at hsb2 hsum ⊢
          rw [← hoe] at hy hob2 hsum
          have HD := Lib.hid (And.intro hD (And.intro hss hsum))
          clear hD hss hsum hse hoe hsb hob hLl e1
          gi_wp2
          go_roundw
          case rel => exact ⟨z + 1, by omega, by go_num, by rw [HD.out.2.2]; go_num, HD.out.1.put fun y _ => by
            rw [HD.out.2.1 y, HD.out.2.2]
            split <;> simp⟩
          case measure => simp [intOf]; omega
        · obtain rfl : lits + 1 = z := by omega
          have hzn : ¬ ((lits + 1 : Nat) : Int) < (lits : Int) + 1 := by omega
          have hpl : ∀ w : World, (Instr.makeSlice 22 (.int .i64 (sg L (lits + 1) : Nat)) (.int .i64 (sg L (lits + 1) : Nat))).run Tryd.prog w = .ok (.slice (some ⟨w.heap.size, 0, none⟩) (sg L (lits + 1)) (sg L (lits + 1))) (w.alloc (.cells (madeCells #[.int .i64 0] (sg L (lits + 1))) 3)) := fun w => HMK.out (sg L (lits + 1)) w (by omega)
          have x1 : wr.cell? ⟨w.heap.size + 1 + 1, 1, none⟩ = some (.slice none 0 0) := hD.xb.cell 1
          have f1 : wr.frozen? ⟨w.heap.size + 1 + 1, 1, none⟩ = false := hD.xb.fz 1
          obtain ⟨np, hnp⟩ : ∃ np, np = sg L (lits + 1) := ⟨_, rfl⟩
          rw [← hnp] at hpl hsb2 ⊢
          have HD := Lib.hid (And.intro hD hnp)
          have hzz : w.heap.size + 1 + 1 < wr.heap.size := hD.z
          clear hD hnp hsb
          gi_wp2_with (first
            | (refine ⟨trivial, ?_⟩; gi_at_call 38; refine (callsIn_wide.2 (bk_any _ _ _ _)).mono ?_; rintro e w4 ⟨rfl, rfl⟩))
          have hW0 : Ix2 w (((wr.setCell ⟨w.heap.size + 1 + 1, 1, none⟩ (.slice (some ⟨wr.heap.size, 0, none⟩) np np)).alloc (.cells (madeCells #[.int .i64 0] np) 3)).alloc (.cells #[.slice C m kc] 38)) lits wr.heap.size np L (oc L m) ∧ Has (((wr.setCell ⟨w.heap.size + 1 + 1, 1, none⟩ (.slice (some ⟨wr.heap.size, 0, none⟩) np np)).alloc (.cells (madeCells #[.int .i64 0] np) 3)).alloc (.cells #[.slice C m kc] 38)) (wr.heap.size + 1) 38 #[.slice C m kc] ∧ (((wr.setCell ⟨w.heap.size + 1 + 1, 1, none⟩ (.slice (some ⟨wr.heap.size, 0, none⟩) np np)).alloc (.cells (madeCells #[.int .i64 0] np) 3)).alloc (.cells #[.slice C m kc] 38)).heap.size = wr.heap.size + 1 + 1 := by
            have hD := HD.out.1
            have hz0 : (wr.setCell ⟨w.heap.size + 1 + 1, 1, none⟩ (.slice (some ⟨wr.heap.size, 0, none⟩) np np)).heap.size = wr.heap.size := set_sz15 _ _ _
            have hR := World.rowIs_made (wr.setCell ⟨w.heap.size + 1 + 1, 1, none⟩ (.slice (some ⟨wr.heap.size, 0, none⟩) np np)) (.int .i64 0) np 3
            rw [hz0] at hR
            refine ⟨⟨?_, ?_, ?_, ?_, ?_⟩, Has.new' _ _ (by simp [World.setCell]), by simp [World.setCell]⟩
            · exact ((hD.rb.far (q := ⟨w.heap.size + 1 + 1, 1, none⟩) (by show w.heap.size ≠ w.heap.size + 1 + 1; omega) _).al _).al _
            · refine (((hD.row.setOther (a := ⟨w.heap.size + 1 + 1, 1, none⟩) (by show w.heap.size + 1 ≠ w.heap.size + 1 + 1; omega) _).alloc _).alloc _).congr fun y hy => ?_
              show Value.int .i64 ((sgp L (lits + 1) y : Nat) : Int) = .int .i64 ((sg L y + oc L m (y : Int) : Nat) : Int)
              unfold sgp
              rw [if_pos hy, HH.out.2.1]; rfl
            · exact (((hD.xb.set 1 _).al _).al _)
            · refine (hR.alloc _).congr fun j _ => ?_
              show Value.int .i64 0 = .int .i64 ((plF L (oc L m) j : Nat) : Int)
              rw [plF_no L (oc L m) (fun y k _ g1 g2 => by rw [← HH.out.2.1] at g2; omega)]; rfl
            · exact ((hD.bl.setCell (p := ⟨w.heap.size + 1 + 1, 1, none⟩) (by show w.heap.size ≤ w.heap.size + 1 + 1; omega) _).alloc (by rw [hz0]; omega) _).alloc (by simp [World.setCell]; omega) _
          generalize hWe : (((wr.setCell ⟨w.heap.size + 1 + 1, 1, none⟩ (.slice (some ⟨wr.heap.size, 0, none⟩) np np)).alloc (.cells (madeCells #[.int .i64 0] np) 3)).alloc (.cells #[.slice C m kc] 38)) = W0 at hW0 ⊢
          obtain ⟨hI2, hBs, hzW⟩ := hW0
          obtain ⟨gP, hgP⟩ : ∃ gP, gP = wr.heap.size := ⟨_, rfl⟩
          rw [← hgP] at hI2 hBs hzW hzz ⊢
          have HNP := Lib.hid (And.intro HD.out.2 hgP)
          clear hWe hgP x0 x1 f1 hpl hsb2 hzn
          have hrow : ∃ (CA : Nat → Option Addr) (CK : Nat → Nat), ∀ j, j < m → Ia w w.heap.size (CA j) (L.getD j []) (CK j) ∧ (∃ b o, C = some ⟨b, o, none⟩ ∧ b < w.heap.size ∧ w.cell? ⟨b, o + j, none⟩ = some (.slice (CA j) (L.getD j []).length (CK j))) := by
            rcases Nat.eq_zero_or_pos m with h0 | h0
            · exact ⟨fun _ => none, fun _ => 0, fun j hj => by omega⟩
            · obtain ⟨b, o, e, hb, hcs⟩ := HH.out.1.h (by have := HH.out.2.1; omega)
              have hex : ∀ j, ∃ x : Option Addr × Nat, j < m → Ia w w.heap.size x.1 (L.getD j []) x.2 ∧ w.cell? ⟨b, o + j, none⟩ = some (.slice x.1 (L.getD j []).length x.2) := fun j => by
                by_cases hj : j < m
                · obtain ⟨A', k', h1, h2⟩ := hcs j (by have := HH.out.2.1; omega)
                  exact ⟨(A', k'), fun _ => ⟨h2, h1⟩⟩
                · exact ⟨(none, 0), fun h => absurd h hj⟩
              refine ⟨fun j => (Classical.choose (hex j)).1, fun j => (Classical.choose (hex j)).2, fun j hj => ?_⟩
              have := Classical.choose_spec (hex j) hj
              exact ⟨this.1, b, o, e, hb, this.2⟩
          obtain ⟨CA, CK, hCA⟩ := hrow
          obtain ⟨CN, hCN⟩ : ∃ CN : Nat → Nat, ∀ j, CN j = (L.getD j []).length := ⟨_, fun _ => rfl⟩
          have HCA := Lib.hid (And.intro hCA hCN)
          have HI2 := Lib.hid (And.intro hI2 (And.intro hBs hzW))
          have hzW1 : gP + 1 < W0.heap.size := by omega
          have hzW2 : w.heap.size ≤ W0.heap.size := by omega
          clear hCA hI2 hBs hCN hzW
          refine range_num2 rfl (by omega) (gf := 42) (lb := #[.pointer (some ⟨gP + 1, 0, none⟩)]) rfl trivial (enters_of Tryd.func42 (by kernel_rfl) rfl)
            (fun i => #[.int .i64 ((m - 1 - i : Nat) : Int), .slice (CA (m - 1 - i)) (CN (m - 1 - i)) (CK (m - 1 - i))]) (fun _ => rfl) m (Kb15 w.heap.size (gP + 1)) Kb15.trans (Kb15.put (by omega) (by omega))
            (fun i W => ((Has W w.heap.size 55 #[.slice none 0 0, .slice none 0 0] ∧ W.rowIs (w.heap.size + 1) 3 (lits + 1) (iF (sfl L (oc L (m - i))))) ∧ (Has W (w.heap.size + 1 + 1) 55 #[.slice (some ⟨w.heap.size + 1, 0, none⟩) (lits + 1) (lits + 1), .slice (some ⟨gP, 0, none⟩) np np] ∧ W.rowIs gP 3 np (iF (plF L (oc L (m - i)))))) ∧ (Below w.heap.size w W ∧ W0.heap.size ≤ W.heap.size))
            (OwnFrom.and (OwnFrom.and (OwnFrom.and (Own.from (has_own15 _ _ _) _) (Own.from (row_own15 _ _ _ (fun i => iF (sfl L (oc L (m - i))))) _)) (OwnFrom.and (Own.from (has_own15 _ _ _) _) (Own.from (row_own15 _ _ _ (fun i => iF (plF L (oc L (m - i))))) _))) (OwnFrom.and (ownFrom_below (Nat.le_refl _) (by omega)) (fun s X Y row hs hg _ => Nat.le_trans hs hg.size)))
            ⟨⟨⟨HI2.out.1.rb, HI2.out.1.row⟩, HI2.out.1.xb, HI2.out.1.pl⟩, HI2.out.1.bl, Nat.le_refl _⟩
            13 14 (fun i => .int .i64 ((m - 1 - i : Nat) : Int)) (fun i => .slice (CA (m - 1 - i)) (CN (m - 1 - i)) (CK (m - 1 - i)))
            ?seq ?assign ?body ?done
          case seq =>
            intro l' J W hW hY h0
            have hBsW : W.cell? ⟨gP + 1, 0, none⟩ = some (.slice C m kc) := (hW.cell (p := ⟨gP + 1, 0, none⟩) (by show gP + 1 < W0.heap.size; omega)).trans (HI2.out.2.1.cell 0)
            have hbW : Below w.heap.size w W := HI2.out.1.bl.trans (hW.mono HI2.out.1.bl.size)
            rcases Nat.eq_zero_or_pos m with hm0 | hm0
            · rw [hm0] at hBsW ⊢
              exact bk0_in 8 l' (gP + 1) kc C J W hBsW h0
            · obtain ⟨b, o, hCe, hb, _⟩ := (HCA.out.1 0 hm0).2
              rw [hCe] at hBsW
              refine bk1_in 8 (by omega) l' (gP + 1) w.heap.size m kc hm2 b o hb CA CN CK J hY W hBsW (fun j hj => ?_) h0
              obtain ⟨b', o', hCe', hb', hc'⟩ := (HCA.out.1 j hj).2
              rw [hCe] at hCe'
              cases hCe'
              rw [HCA.out.2 j]
              exact (hbW.cell (p := ⟨b, o + j, none⟩) hb).trans hc'
          case assign =>
            intro l' i W
            gi_wp2
            exact ⟨by simp, by first | rfl | trivial⟩
          case body =>
            intro l' i W hl' hloop hIi hi
            obtain ⟨⟨⟨hrb, hrow⟩, hxb, hpl⟩, hbl, hWs⟩ := hIi
            obtain ⟨e, he⟩ : ∃ e, e = m - 1 - i := ⟨_, rfl⟩
            have hmi : m - i = e + 1 := by omega
            have hel : e < L.length := by have := HH.out.2.1; omega
            rw [hmi] at hrow hpl
            rw [← he]
            have hI0 : Ix2 w W lits gP np L (oc L (e + 1)) := ⟨hrb, hrow, hxb, hpl, hbl⟩
            have hIc := (HCA.out.1 e (by omega)).1
            have hcm := HH.out.2.2.1 _ (gotD_mem hel)
            have hnc := HCA.out.2 e
            have hCAe : ∃ A' k' n', A' = CA e ∧ k' = CK e ∧ n' = CN e := ⟨_, _, _, rfl, rfl, rfl⟩
            obtain ⟨A', k', n, hA', hk', hn⟩ := hCAe
            rw [← hA', ← hk', ← hn]
            rw [← hA', ← hk'] at hIc
            rw [← hn] at hnc
            have HOC := Lib.hid (And.intro (lowp_0 L e) (And.intro (lowp_all L e) (fun p (hp : p < (L.getD e []).length) => lowp_at (v := (v : Int)) hcm.1 hp)))
            have HE := Lib.hid (And.intro hmi hi)
            have HB := Lib.hid (And.intro hI0 (And.intro hIc (And.intro hcm (And.intro hnc (And.intro hel hWs)))))
            have hn1 : n ≤ 100000 := by rw [hnc]; exact hcm.2
            have HIP := Lib.hid (sg_le L (lits + 1) (B := 20000) (fun y => Nat.le_trans (oc_le L y _) (by have := HH.out.2.1; omega)))
            clear hrb hrow hxb hpl hbl hWs he hmi hI0 hIc hcm hnc hA' hk' hn hloop hi
            gi_wp2
            gi_loopw [68] (fun x wr' => ∃ p : Nat, p ≤ n ∧ x = .int .i64 (p : Int) ∧ Ix2 w wr' lits gP np L (lowp L e p) ∧ (∀ k, k ≠ w.heap.size + 1 → k ≠ gP → wr'.heap[k]? = W.heap[k]?) ∧ wr'.heap.size = W.heap.size ∧ Below w.heap.size W wr') (fun x _ => n - (intOf x).toNat)
            case atStart => exact ⟨0, Nat.zero_le _, rfl, HB.out.1.congr fun y => (HOC.out.1 y).symm, fun _ _ _ => rfl, rfl, Below.refl _ _⟩
            case round =>
              obtain ⟨p, hp, rfl, hD, hot, hsz, hBw⟩ := hrel
              by_cases hpl : p < n
              · have hpc : p < (L.getD e []).length := by have := HB.out.2.2.2.1; omega
                obtain ⟨xb, xo, rfl, hxb, hxs⟩ := HB.out.2.1.cells (by omega)
                have y0 := hxs p hpc
                have y := (hD.bl.cell (p := ⟨xb, xo + p, none⟩) hxb).trans y0
                have hx := isL_iff.1 ((HB.out.2.2.1.1).1 _ (getD_mem hpc))
                have hOA := HOC.out.2.2 p hpc
                have hmem := getD_mem hpc
                obtain ⟨x, hx0⟩ : ∃ x, x = (L.getD e []).getD p 0 := ⟨_, rfl⟩
                rw [← hx0] at y hx hOA hmem
                obtain ⟨u, rfl⟩ : ∃ u : Nat, x = u := ⟨x.toNat, by omega⟩
                have hp1 : (p : Int) < (n : Int) := by omega
                have hp0 : (0 : Int) ≤ (p : Int) := by omega
                have hle := HH.out.2.2.2
                have u0 : (0 : Int) ≤ (u : Int) := by omega
                have u1 : (u : Int) < (lits : Int) + 1 := by omega
                have u2 : u < lits + 1 := by omega
                have x0 : wr.cell? ⟨w.heap.size + 1 + 1, 0, none⟩ = some (.slice (some ⟨w.heap.size + 1, 0, none⟩) (lits + 1) (lits + 1)) := hD.xb.cell 0
                have x1 : wr.cell? ⟨w.heap.size + 1 + 1, 1, none⟩ = some (.slice (some ⟨gP, 0, none⟩) np np) := hD.xb.cell 1
                obtain ⟨s, hs⟩ : ∃ s, s = sg L u + oc L e (u : Int) := ⟨_, rfl⟩
                have z : wr.cell? ⟨w.heap.size + 1, u, none⟩ = some (.int .i64 ((s : Int) + 1)) := by
                  have h := hD.row.cell u2
                  rw [show iF (sfl L (lowp L e p)) u = .int .i64 ((s : Int) + 1) by
                    show Value.int .i64 ((sg L u + lowp L e p (u : Int) : Nat) : Int) = _
                    rw [hOA.1, hs]; congr 1 <;> omega] at h
                  exact h
                have fz := hD.row.frozen u
                have hsn : s < np := by
                  have h1 := oc_lt L (u : Int) HB.out.2.2.2.2.1 hmem
                  have h2 : sg L (u + 1) = sg L u + oc L L.length (u : Int) := rfl
                  have h3 := sg_mono L (show u + 1 ≤ lits + 1 by omega)
                  have h4 := HNP.out.1
                  omega
                have hsb : s ≤ 170000000 := by have := HIP.out; have := HNP.out.1; omega
                have s0 : (0 : Int) ≤ (s : Int) := by omega
                have s1 : (s : Int) < (np : Int) := by omega
                have zp := hD.pl.cell hsn
                obtain ⟨vp, hvp⟩ : ∃ vp, vp = iF (plF L (lowp L e p)) s := ⟨_, rfl⟩
                rw [← hvp] at zp
                have HS2 := Lib.hid (show (wr.setCell ⟨w.heap.size + 1, u, none⟩ (.int .i64 (s : Int))).cell? ⟨w.heap.size + 1 + 1, 0, none⟩ = some (.slice (some ⟨w.heap.size + 1, 0, none⟩) (lits + 1) (lits + 1)) ∧ (wr.setCell ⟨w.heap.size + 1, u, none⟩ (.int .i64 (s : Int))).cell? ⟨w.heap.size + 1 + 1, 1, none⟩ = some (.slice (some ⟨gP, 0, none⟩) np np) ∧ (wr.setCell ⟨w.heap.size + 1, u, none⟩ (.int .i64 (s : Int))).cell? ⟨w.heap.size + 1, u, none⟩ = some (.int .i64 (s : Int)) ∧ (wr.setCell ⟨w.heap.size + 1, u, none⟩ (.int .i64 (s : Int))).cell? ⟨gP, s, none⟩ = some vp ∧ (wr.setCell ⟨w.heap.size + 1, u, none⟩ (.int .i64 (s : Int))).frozen? ⟨gP, s, none⟩ = false from
                  ⟨(hD.xb.far (q := ⟨w.heap.size + 1, u, none⟩) (by show w.heap.size + 1 + 1 ≠ w.heap.size + 1; omega) _).cell 0, (hD.xb.far (q := ⟨w.heap.size + 1, u, none⟩) (by show w.heap.size + 1 + 1 ≠ w.heap.size + 1; omega) _).cell 1,
                   by have h := (hD.row.set u (.int .i64 (s : Int))).cell u2; simpa using h,
                   (World.cell?_of_block (w := wr) (Below.heap_setCell _ _ _ _ (by show gP ≠ w.heap.size + 1; omega))).trans zp,
                   (hD.pl.setOther (a := ⟨w.heap.size + 1, u, none⟩) (by show gP ≠ w.heap.size + 1; omega) _).frozen s⟩)
                have HD := Lib.hid (And.intro hD (And.intro hot (And.intro hsz (And.intro hs (And.intro hOA (And.intro hmem hBw))))))
                clear hx0 hle hD hot hsz hxs hx hs hOA hmem y0 hvp hsn zp hBw
                gi_wp2
                have hS0 : (fun X : World => X.cell? ⟨w.heap.size + 1 + 1, 0, none⟩ = some (.slice (some ⟨w.heap.size + 1, 0, none⟩) (lits + 1) (lits + 1)) ∧ X.cell? ⟨w.heap.size + 1 + 1, 1, none⟩ = some (.slice (some ⟨gP, 0, none⟩) np np) ∧ X.cell? ⟨w.heap.size + 1, u, none⟩ = some (.int .i64 (s : Int)) ∧ X.cell? ⟨gP, s, none⟩ = some vp ∧ X.frozen? ⟨gP, s, none⟩ = false) (wr.setCell ⟨w.heap.size + 1, u, none⟩ (.int .i64 (s : Int))).drew := HS2.out
                refine wpIn_slots (fun f => Sz f 90 ∧ Slot f 5 (.pointer (some ⟨w.heap.size + 1 + 1, 0, none⟩)) ∧ Slot f 13 (.int .i64 (e : Int)) ∧ Slot f 16 (.int .i64 (u : Int))) ⟨⟨rfl, rfl⟩, ⟨rfl⟩, ⟨rfl⟩, ⟨rfl⟩⟩ fun a0 hA0 hR => ?_
                obtain ⟨hZ, hs5, hs13, hs16⟩ := hR
                have HA := Lib.hid hA0
                clear hA0
                refine wpIn_region_T (fun X : World => X.cell? ⟨w.heap.size + 1 + 1, 0, none⟩ = some (.slice (some ⟨w.heap.size + 1, 0, none⟩) (lits + 1) (lits + 1)) ∧ X.cell? ⟨w.heap.size + 1 + 1, 1, none⟩ = some (.slice (some ⟨gP, 0, none⟩) np np) ∧ X.cell? ⟨w.heap.size + 1, u, none⟩ = some (.int .i64 (s : Int)) ∧ X.cell? ⟨gP, s, none⟩ = some vp ∧ X.frozen? ⟨gP, s, none⟩ = false) 9 (by kernel_rfl) (by kernel_rfl) ?_
                refine WT.h ?_
                (refine wt_take1 0 5 (v := ?_) rfl rfl (by kernel_rfl) (by kernel_rfl) (by kernel_rfl) (by kernel_rfl) (fun _ _ _ h => h) rfl hS0 (by (repeat (first | (refine slot_hit (N := 90) ?_ (by rfl); (repeat (refine sz_put ?_)); assumption; done) | (apply slot_miss; focus rfl))); all_goals assumption) (fun ev hk hv0 w hS => ?_) ?_; rotate_left; focus (obtain ⟨j0, j1, j2, j3, j4⟩ := hS; go_simp; rfl)); (refine wt_take1 1 79 (v := ?_) rfl rfl (by kernel_rfl) (by kernel_rfl) (by kernel_rfl) (by kernel_rfl) (fun _ _ _ h => h) rfl hS0 (by (repeat (first | (refine slot_hit (N := 90) ?_ (by rfl); (repeat (refine sz_put ?_)); assumption; done) | (apply slot_miss; focus rfl))); all_goals assumption) (fun ev hk hv0 w hS => ?_) ?_; rotate_left; focus (obtain ⟨j0, j1, j2, j3, j4⟩ := hS; go_simp; rfl)); (refine wt_take1 2 5 (v := ?_) rfl rfl (by kernel_rfl) (by kernel_rfl) (by kernel_rfl) (by kernel_rfl) (fun _ _ _ h => h) rfl hS0 (by (repeat (first | (refine slot_hit (N := 90) ?_ (by rfl); (repeat (refine sz_put ?_)); assumption; done) | (apply slot_miss; focus rfl))); all_goals assumption) (fun ev hk hv0 w hS => ?_) ?_; rotate_left; focus (obtain ⟨j0, j1, j2, j3, j4⟩ := hS; go_simp; rfl)); (refine wt_take1 3 81 (v := ?_) rfl rfl (by kernel_rfl) (by kernel_rfl) (by kernel_rfl) (by kernel_rfl) (fun _ _ _ h => h) rfl hS0 (by (repeat (first | (refine slot_hit (N := 90) ?_ (by rfl); (repeat (refine sz_put ?_)); assumption; done) | (apply slot_miss; focus rfl))); all_goals assumption) (fun ev hk hv0 w hS => ?_) ?_; rotate_left; focus (obtain ⟨j0, j1, j2, j3, j4⟩ := hS; go_simp; rfl)); (refine wt_move 4 16 rfl rfl (by kernel_rfl) (by kernel_rfl) (by kernel_rfl) (by kernel_rfl) (fun _ _ _ h => h) rfl hS0 (by (repeat (first | (refine slot_hit (N := 90) ?_ (by rfl); (repeat (refine sz_put ?_)); assumption; done) | (apply slot_miss; focus rfl))); all_goals assumption) rfl ?_); (refine wt_take2 5 82 83 (v := ?_) rfl rfl (by kernel_rfl) (by kernel_rfl) (by kernel_rfl) (by kernel_rfl) (fun _ _ _ h => h) rfl hS0 (by (repeat (first | (refine slot_hit (N := 90) ?_ (by rfl); (repeat (refine sz_put ?_)); assumption; done) | (apply slot_miss; focus rfl))); all_goals assumption) (by (repeat (first | (refine slot_hit (N := 90) ?_ (by rfl); (repeat (refine sz_put ?_)); assumption; done) | (apply slot_miss; focus rfl))); all_goals assumption) (fun ev hk hv0 hv1 w hS => ?_) ?_; rotate_left; focus (obtain ⟨j0, j1, j2, j3, j4⟩ := hS; go_simp; rfl)); (refine wt_take1 6 84 (v := ?_) rfl rfl (by kernel_rfl) (by kernel_rfl) (by kernel_rfl) (by kernel_rfl) (fun _ _ _ h => h) rfl hS0 (by (repeat (first | (refine slot_hit (N := 90) ?_ (by rfl); (repeat (refine sz_put ?_)); assumption; done) | (apply slot_miss; focus rfl))); all_goals assumption) (fun ev hk hv0 w hS => ?_) ?_; rotate_left; focus (obtain ⟨j0, j1, j2, j3, j4⟩ := hS; go_simp; rfl)); (refine wt_move 7 13 rfl rfl (by kernel_rfl) (by kernel_rfl) (by kernel_rfl) (by kernel_rfl) (fun _ _ _ h => h) rfl hS0 (by (repeat (first | (refine slot_hit (N := 90) ?_ (by rfl); (repeat (refine sz_put ?_)); assumption; done) | (apply slot_miss; focus rfl))); all_goals assumption) rfl ?_); (refine wt_take2 8 80 85 (v := ?_) rfl rfl (by kernel_rfl) (by kernel_rfl) (by kernel_rfl) (by kernel_rfl) (fun _ _ _ h => h) rfl hS0 (by (repeat (first | (refine slot_hit (N := 90) ?_ (by rfl); (repeat (refine sz_put ?_)); assumption; done) | (apply slot_miss; focus rfl))); all_goals assumption) (by (repeat (first | (refine slot_hit (N := 90) ?_ (by rfl); (repeat (refine sz_put ?_)); assumption; done) | (apply slot_miss; focus rfl))); all_goals assumption) (fun ev hk hv0 hv1 w hS => ?_) ?_; rotate_left; focus (obtain ⟨j0, j1, j2, j3, j4⟩ := hS; go_simp; rfl))
                obtain ⟨q0, q1, q2, q3, q4⟩ := hS0
                refine wt_act2 9 87 86 (by kernel_rfl) rfl rfl rfl (by (repeat (first | (refine slot_hit (N := 90) ?_ (by rfl); (repeat (refine sz_put ?_)); assumption; done) | (apply slot_miss; focus rfl))); all_goals assumption) (by (repeat (first | (refine slot_hit (N := 90) ?_ (by rfl); (repeat (refine sz_put ?_)); assumption; done) | (apply slot_miss; focus rfl))); all_goals assumption) (w' := ?_) (fun ev hk hv0 hv1 => ?_) ?_; rotate_left; focus (go_simp; rfl)
                refine ⟨fun h => absurd h (by decide), ?_⟩
                refine wt_done (by kernel_rfl) (NoPanic.normal ⟨rfl, ?_⟩) _
                have ha := HA.out
                subst ha
                clear hZ hs5 hs13 hs16 q0 q1 q2 q3 q4
                gi_wp2
                go_roundw
                case rel =>
                  obtain ⟨hD, hot, hsz, hs, hOA, hmem, hBw⟩ := HD.out
                  refine ⟨p + 1, by omega, by go_num, ?_, ?_, ?_, ?_⟩
                  · exact hD.put hzz hs HB.out.2.2.2.2.1 hmem hOA.1 hOA.2.1 hOA.2.2 _
                  · intro k hk1 hk2
                    exact (Below.heap_setCell _ _ _ _ hk2).trans ((Below.heap_setCell _ _ _ _ hk1).trans (hot k hk1 hk2))
                  · show (World.setCell (World.setCell _ _ _) _ _).heap.size = _
                    rw [set_sz15, set_sz15]; exact hsz
                  · exact below_dn ((hBw.setCell (p := ⟨w.heap.size + 1, u, none⟩) (Nat.le_succ _) _).setCell (p := ⟨gP, s, none⟩) (by show w.heap.size ≤ gP; omega) _) 1
                case measure => simp [intOf]; omega
              · obtain rfl : n = p := by omega
                have hpn : ¬ (n : Int) < (n : Int) := by omega
                have HD := Lib.hid (And.intro hD (And.intro hot (And.intro hsz hBw)))
                clear hD hot hsz hBw
                gi_wp2
                obtain ⟨hD, hot, hsz, hBw⟩ := HD.out
                have hD' : Ix2 w wr lits gP np L (oc L e) := hD.congr fun y => by rw [HB.out.2.2.2.1]; exact HOC.out.2.1 y
                have hme : m - (i + 1) = e := by have := HE.out; omega
                have hzW := HI2.out.2.2
                have hWs := HB.out.2.2.2.2.2
                have hI1 : (fun i W => ((Has W w.heap.size 55 #[.slice none 0 0, .slice none 0 0] ∧ W.rowIs (w.heap.size + 1) 3 (lits + 1) (iF (sfl L (oc L (m - i))))) ∧ (Has W (w.heap.size + 1 + 1) 55 #[.slice (some ⟨w.heap.size + 1, 0, none⟩) (lits + 1) (lits + 1), .slice (some ⟨gP, 0, none⟩) np np] ∧ W.rowIs gP 3 np (iF (plF L (oc L (m - i)))))) ∧ (Below w.heap.size w W ∧ W0.heap.size ≤ W.heap.size)) (i + 1) wr := by
                  show ((Has wr _ _ _ ∧ wr.rowIs _ _ _ (iF (sfl L (oc L (m - (i + 1)))))) ∧ (Has wr _ _ _ ∧ wr.rowIs _ _ _ (iF (plF L (oc L (m - (i + 1))))))) ∧ _
                  rw [hme]
                  exact ⟨⟨⟨hD'.rb, hD'.row⟩, hD'.xb, hD'.pl⟩, hD'.bl, by omega⟩
                exact ⟨⟨by omega, fun k o' hk ho _ => (hot k (by omega) (by omega)).trans ho⟩, ⟨hBw, hot (gP + 1) (by omega) (by omega)⟩, hI1⟩
          case done =>
            intro D W hD hIi hK
            obtain ⟨⟨⟨hrb, hrow⟩, hxb, hpl⟩, hbl, hWs⟩ := hIi
            rw [Nat.sub_self] at hrow hpl
            have r0 : W.cell? ⟨w.heap.size, 0, none⟩ = some (.slice none 0 0) := hrb.cell 0
            have r1 : W.cell? ⟨w.heap.size, 1, none⟩ = some (.slice none 0 0) := hrb.cell 1
            have g0 : W.frozen? ⟨w.heap.size, 0, none⟩ = false := hrb.fz 0
            have g1 : W.frozen? ⟨w.heap.size, 1, none⟩ = false := hrb.fz 1
            have x0 : W.cell? ⟨w.heap.size + 1 + 1, 0, none⟩ = some (.slice (some ⟨w.heap.size + 1, 0, none⟩) (lits + 1) (lits + 1)) := hxb.cell 0
            have x1 : W.cell? ⟨w.heap.size + 1 + 1, 1, none⟩ = some (.slice (some ⟨gP, 0, none⟩) np np) := hxb.cell 1
            have HW := Lib.hid (And.intro hrow (And.intro hpl (And.intro hbl (And.intro hrb hWs))))
            clear hrb hrow hxb hpl hbl hWs
            gi_wp2
            have hKw : ((W.setCell ⟨w.heap.size, 0, none⟩ (.slice (some ⟨w.heap.size + 1, 0, none⟩) (lits + 1) (lits + 1))).setCell ⟨w.heap.size, 1, none⟩ (.slice (some ⟨gP, 0, none⟩) np np)).heap[D]? = some (.deferred (some [])) := (Below.heap_setCell _ _ _ _ (by show D ≠ w.heap.size; omega)).trans ((Below.heap_setCell _ _ _ _ (by show D ≠ w.heap.size; omega)).trans hK)
            obtain ⟨hrow, hpl, hbl, hrb, hWs⟩ := HW.out
            have hrb2 := (hrb.set 0 (.slice (some ⟨w.heap.size + 1, 0, none⟩) (lits + 1) (lits + 1))).set 1 (.slice (some ⟨gP, 0, none⟩) np np)
            have hro2 := (hrow.setOther (a := ⟨w.heap.size, 0, none⟩) (by show w.heap.size + 1 ≠ w.heap.size; omega) (.slice (some ⟨w.heap.size + 1, 0, none⟩) (lits + 1) (lits + 1))).setOther (a := ⟨w.heap.size, 1, none⟩) (by show w.heap.size + 1 ≠ w.heap.size; omega) (.slice (some ⟨gP, 0, none⟩) np np)
            have hpl2 := (hpl.setOther (a := ⟨w.heap.size, 0, none⟩) (by show gP ≠ w.heap.size; omega) (.slice (some ⟨w.heap.size + 1, 0, none⟩) (lits + 1) (lits + 1))).setOther (a := ⟨w.heap.size, 1, none⟩) (by show gP ≠ w.heap.size; omega) (.slice (some ⟨gP, 0, none⟩) np np)
            have hbl2 := (hbl.setCell (p := ⟨w.heap.size, 0, none⟩) (Nat.le_refl _) (.slice (some ⟨w.heap.size + 1, 0, none⟩) (lits + 1) (lits + 1))).setCell (p := ⟨w.heap.size, 1, none⟩) (Nat.le_refl _) (.slice (some ⟨gP, 0, none⟩) np np)
            generalize ((W.setCell ⟨w.heap.size, 0, none⟩ (.slice (some ⟨w.heap.size + 1, 0, none⟩) (lits + 1) (lits + 1))).setCell ⟨w.heap.size, 1, none⟩ (.slice (some ⟨gP, 0, none⟩) np np)) = X at hKw hrb2 hro2 hpl2 hbl2 ⊢
            have k0 : ∀ o, (X.putObj D o).cell? ⟨w.heap.size, 0, none⟩ = some (.slice (some ⟨w.heap.size + 1, 0, none⟩) (lits + 1) (lits + 1)) := fun o => (World.cell?_of_block (w := X) (World.putObj_heap_other (by dsimp only; omega))).trans (hrb2.cell 0)
            have k1 : ∀ o, (X.putObj D o).cell? ⟨w.heap.size, 1, none⟩ = some (.slice (some ⟨gP, 0, none⟩) np np) := fun o => (World.cell?_of_block (w := X) (World.putObj_heap_other (by dsimp only; omega))).trans (hrb2.cell 1)
            refine ⟨by simp, .inl ⟨_, _, rfl, run_takeDeferred hKw, ?_⟩⟩
            refine ⟨.agg #[.slice (some ⟨w.heap.size + 1, 0, none⟩) (lits + 1) (lits + 1), .slice (some ⟨gP, 0, none⟩) np np], by simp [results, Tryd.results33, go_sem, k0, k1], w.heap.size + 1, gP, np, rfl, ⟨?_, ?_, HNP.out.1⟩, by omega, by omega, by omega, ?_⟩
            · refine (hro2.of_block (World.putObj_heap_other (by omega))).congr fun y _ => ?_
              show Value.int .i64 ((sg L y + oc L 0 (y : Int) : Nat) : Int) = .int .i64 ((sg L y : Nat) : Int)
              rw [show oc L 0 (y : Int) = 0 from rfl, Nat.add_zero]
            · exact hpl2.of_block (World.putObj_heap_other (by omega))
            · exact hbl2.trans (belowK_b (w := w) (Nat.le_refl _) _ D _ _ (by omega) hKw rfl rfl)

end Go.Proofs.YtecmldnigohjfabDoor

namespace Go.Proofs.YtecmldnigohjfabDoor
open Go Go.RowKit
set_option linter.unusedVariables false
set_option linter.unusedSimpArgs false

theorem ng_ng15 (x : Int) : ng (ng x) = x := by unfold ng; split <;> split <;> omega
theorem filter_one (y : Int) : ∀ (l : List Int), l.Pairwise (· ≠ ·) → (l.filter fun z => decide (ng z ≠ ng y)).length + (if y ∈ l then 1 else 0) = l.length
  | [], _ => by simp
  | z :: l, h => by
    obtain ⟨h1, h2⟩ := List.pairwise_cons.1 h
    have ih := filter_one y l h2
    by_cases e : z = y
    · subst e
      have hno : z ∉ l := fun hm => h1 z hm rfl
      rw [if_neg hno] at ih
      rw [List.filter_cons_of_neg (by simp), if_pos (by simp), List.length_cons]
      omega
    · have e2 : ng z ≠ ng y := fun h => e (by rw [← ng_ng15 z, h, ng_ng15])
      rw [List.filter_cons_of_pos (by simpa using e2), List.length_cons, List.length_cons]
      have e3 : (y ∈ z :: l) ↔ y ∈ l := by
        rw [List.mem_cons]
        exact ⟨fun h => h.resolve_left (fun h => e h.symm), Or.inr⟩
      simp only [e3]
      omega
theorem nf_app_len {v : Int} {t c : List Int} {x : Int} (hc : OkC v c) (hx : x ∉ t) : (nf (t ++ [x]) c).length + (if ng x ∈ c then 1 else 0) = (nf t c).length := by
  have hp : (nf t c).Pairwise (· ≠ ·) := (hc.2.sublist (List.filter_sublist)).imp fun {a b} h e => by subst e; omega
  have h1 := filter_one (ng x) (nf t c) hp
  rw [nf_app]
  have e1 : ((nf t c).filter fun z => decide (ng z ≠ ng (ng x))) = (nf t c).filter fun l => decide (ng l ≠ x) := by rw [ng_ng15]
  rw [e1] at h1
  have e2 : ng x ∈ nf t c ↔ ng x ∈ c := by rw [mem_nf, ng_ng15]; exact ⟨fun h => h.1, fun h => ⟨h, hx⟩⟩
  simp only [e2] at h1
  exact h1
theorem nl_app {v : Int} {t : List Int} {L : List (List Int)} {x : Int} (hL : ∀ c ∈ L, OkC v c) (hx : x ∉ t) {j : Nat} (hj : j < L.length) : nl (t ++ [x]) L j + (if ng x ∈ L.getD j [] then 1 else 0) = nl t L j := nf_app_len (hL _ (gotD_mem hj)) hx

/-! ### the clauses with a literal -/
def ocl (L : List (List Int)) (y : Int) : List Int := (ocs L L.length y).map fun i : Nat => (i : Int)
theorem ocl_len (L : List (List Int)) (y : Int) : (ocl L y).length = oc L L.length y := by unfold ocl; rw [List.length_map, ocs_len]
theorem mem_ocs {L : List (List Int)} {n : Nat} {y : Int} {j : Nat} : j ∈ ocs L n y ↔ j < n ∧ y ∈ L.getD j [] := by unfold ocs; simp
theorem ocs_ss (L : List (List Int)) (n : Nat) (y : Int) : (ocs L n y).Pairwise (· < ·) := List.Pairwise.sublist List.filter_sublist List.pairwise_lt_range
theorem ix_of {W : World} {gS gP np lits : Nat} {L : List (List Int)} (h : IxAt W gS gP np lits L) {u : Nat} (hu : u < lits) :
    ∃ A' k', (∀ W', (Instr.sliceAt 22 (.slice (some ⟨gP, 0, none⟩) np np) (some (.int .i64 (sg L u : Nat))) (some (.int .i64 (sg L (u + 1) : Nat))) none).run Tryd.prog W' = .ok (.slice A' (oc L L.length (u : Int)) k') W') ∧ Ia W W.heap.size A' (ocl L (u : Int)) k' ∧ ∀ a, A' = some a → a.block = gP := by
  have ht : Tryd.prog.underlying 22 = some (.slice (Tryd.prog.elem 22)) := by simp [Program.elem, Tryd.underlying22]
  have he : Tryd.prog.elem 22 = 3 := by simp [Program.elem, Tryd.underlying22]
  have h1 : sg L (u + 1) = sg L u + oc L L.length (u : Int) := rfl
  have h2 := sg_mono L (show u + 1 ≤ lits + 1 by omega)
  have h3 := h.n
  refine ⟨if np = sg L u then some ⟨gP, 0, none⟩ else some ⟨gP, sg L u, none⟩, np - sg L u, fun W' => ?_, ?_⟩
  · rw [run_sliceAt_slice _ _ _ _ _ _ ht, run_slice_lh W' _ _ _ _ ht .i64 .i64 _ _ (by omega) (by omega) (by omega), he, sl_int W' W']
    simp only [Result.andThen, sliced, Int.toNat_natCast, Nat.mul_one]
    rw [h1, Nat.add_sub_cancel_left]
    congr 2
    split
    · rfl
    · show some ((⟨gP, 0, none⟩ : Addr).add (sg L u)) = _
      unfold Addr.add
      split <;> simp_all
  · refine ⟨⟨fun hn => ?_, fun hn => (by split at hn <;> cases hn), by rw [ocl_len]; omega⟩, fun a ha => by split at ha <;> (cases ha; rfl)⟩
    rw [ocl_len] at hn
    rw [if_neg (by omega)]
    refine ⟨_, rfl, h.p.lt, fun j hj => ?_⟩
    rw [ocl_len] at hj
    have hcell := h.p.cell (i := sg L u + j) (by omega)
    rw [show iF (plF L (oc L 0)) (sg L u + j) = .int .i64 ((ocl L (u : Int)).getD j 0) by
      show Value.int .i64 ((plF L (oc L 0) (sg L u + j) : Nat) : Int) = _
      rw [plF_at L (oc L 0) (show oc L 0 (u : Int) ≤ j from Nat.zero_le _) hj]
      have hl : j < (ocs L L.length (u : Int)).length := by rw [ocs_len]; exact hj
      rw [getD_at (by rw [ocl_len]; exact hj)]
      unfold ocl
      rw [List.getElem?_eq_getElem hl]
      simp] at hcell
    rw [show (⟨gP, sg L u, none⟩ : Addr).add j = ⟨gP, sg L u + j, none⟩ by unfold Addr.add; split <;> simp_all]
    exact hcell

theorem IxAt.on {W W' : World} {gS gP np lits : Nat} {L : List (List Int)} (h : IxAt W gS gP np lits L) (hb : Below W.heap.size W W') : IxAt W' gS gP np lits L := ⟨row_on h.s hb, row_on h.p hb, h.n⟩
theorem IxAt.same {W W' : World} {gS gP np lits : Nat} {L : List (List Int)} (h : IxAt W gS gP np lits L) (h1 : W'.heap[gS]? = W.heap[gS]?) (h2 : W'.heap[gP]? = W.heap[gP]?) : IxAt W' gS gP np lits L := ⟨h.s.of_block h1, h.p.of_block h2, h.n⟩

set_option maxRecDepth 100000 in
set_option maxHeartbeats 4000000 in
theorem of_any (gS gP np lits u : Nat) (L : List (List Int)) (w : World) (h : IxAt w gS gP np lits L) (hu : u < lits) (hl : lits ≤ 8002) (hL : L.length ≤ 20000) :
    Calls Tryd.prog 40 #[.agg #[.slice (some ⟨gS, 0, none⟩) (lits + 1) (lits + 1), .slice (some ⟨gP, 0, none⟩) np np], .int .i64 (u : Int)] w fun e w' => ∃ A' k', e = .returned (.slice A' (ocl L (u : Int)).length k') ∧ Ia w' w'.heap.size A' (ocl L (u : Int)) k' ∧ Below w.heap.size w w' ∧ ∀ a, A' = some a → a.block = gP := by
  obtain ⟨A', k', hs, hI, hAg⟩ := ix_of h hu
  have y1 : w.cell? ⟨gS, u, none⟩ = some (.int .i64 (sg L u : Nat)) := h.s.cell (by omega)
  have y2 : w.cell? ⟨gS, u + 1, none⟩ = some (.int .i64 (sg L (u + 1) : Nat)) := h.s.cell (by omega)
  have u0 : (0 : Int) ≤ (u : Int) := by omega
  have u1 : (u : Int) < (lits : Int) + 1 := by omega
  have u2 : (u : Int) + 1 < (lits : Int) + 1 := by omega
  have hgl := h.s.lt
  have ub : u ≤ 8002 := by omega
  rw [ocl_len]
  obtain ⟨n, hn⟩ : ∃ n, n = oc L L.length (u : Int) := ⟨_, rfl⟩
  rw [← hn] at hs ⊢
  have HI := Lib.hid (And.intro hI hAg)
  generalize sg L u = s1 at hs y1
  generalize sg L (u + 1) = s2 at hs y2
  clear hn hI h hL hu hAg
  go_enter Tryd.func40, Tryd.ntmps40
  go_wp2
  go_quiet (fail)
  go_wp2
  go_ret
  refine ⟨A', k', rfl, HI.out.1.on ?_, ?_, HI.out.2⟩
  · exact below_dn (bx_on _ _) _
  · exact below_dn (bx_on _ _) _

end Go.Proofs.YtecmldnigohjfabDoor

namespace Go.Proofs.YtecmldnigohjfabDoor
open Go Go.RowKit
set_option linter.unusedVariables false
set_option linter.unusedSimpArgs false

/-- where the parts of the propagation lie -/
structure Pd where
  b : Nat
  gT : Nat
  gL : Nat
  gW : Nat
  gS : Nat
  gP : Nat
  m : Nat
  K : Nat
  np : Nat
  lits : Nat
  C : Option Addr
  kc : Nat
  L : List (List Int)
structure Pd.Ok (d : Pd) (B v : Nat) : Prop where
  lo : B ≤ d.b ∧ B ≤ d.gT ∧ B ≤ d.gL ∧ B ≤ d.gW ∧ B ≤ d.gS ∧ B ≤ d.gP
  bb : d.b ≠ d.gT ∧ d.b ≠ d.gL ∧ d.b ≠ d.gW ∧ d.b ≠ d.gS ∧ d.b ≠ d.gP
  tt : d.gT ≠ d.gL ∧ d.gT ≠ d.gW ∧ d.gT ≠ d.gS ∧ d.gT ≠ d.gP
  ll : d.gL ≠ d.gW ∧ d.gL ≠ d.gS ∧ d.gL ≠ d.gP
  ww : d.gW ≠ d.gS ∧ d.gW ≠ d.gP
  me : d.m = d.L.length
  Ke : d.K = (d.m + 63) / 64
  m2 : d.m ≤ 20000
  vl : v ≤ 4000
  li : d.lits = 2 * v + 2
  cl : ∀ c ∈ d.L, OkC (v : Int) c ∧ c.length ≤ 100000
/-- the propagation in memory -/
structure Pst (d : Pd) (B : Nat) (W : World) (vT : Value) (t : List Int) (lf : Nat → Nat) (q : Nat → Bool) : Prop where
  box : ∃ f : Nat, f ≤ d.K ∧ Has W d.b 60 (pcs8 (.slice d.C d.m d.kc) (.slice (some ⟨d.gT, 0, none⟩) d.lits d.lits) vT (.slice (some ⟨d.gL, 0, none⟩) d.m d.m) (.slice (some ⟨d.gS, 0, none⟩) (d.lits + 1) (d.lits + 1)) (.slice (some ⟨d.gP, 0, none⟩) d.np d.np) d.gW d.K f) ∧ ∀ j, j < 64 * f → q j = false
  row : W.rowIs d.gL 3 d.m (iF lf)
  qa : QAt W d.gW d.K q
  tr : W.rowIs d.gT 4 d.lits (tT t)
  ix : IxAt W d.gS d.gP d.np d.lits d.L
  tl : Io B W vT t
  ap : ∀ g, vT.ownBlock = some g → g ≠ d.b ∧ g ≠ d.gT ∧ g ≠ d.gL ∧ g ≠ d.gW ∧ g ≠ d.gS ∧ g ≠ d.gP
  z : B ≤ W.heap.size
section
variable {d : Pd} {B v : Nat} {W W' : World} {vT : Value} {t : List Int} {lf lf' : Nat → Nat} {q q' : Nat → Bool}
theorem Pst.congr (h : Pst d B W vT t lf q) (e : ∀ j, j < d.m → lf j = lf' j) (e2 : ∀ j, q j = q' j) : Pst d B W vT t lf' q' := by
  have : q = q' := funext e2
  subst this
  exact ⟨h.box, h.row.congr fun j hj => by show Value.int .i64 (lf j : Int) = .int .i64 (lf' j : Int); rw [e j hj], h.qa, h.tr, h.ix, h.tl, h.ap, h.z⟩
/-- nothing of it has changed -/
theorem Pst.same (h : Pst d B W vT t lf q) (hk : ∀ k, k < W.heap.size → W'.heap[k]? = W.heap[k]?) (hz : W.heap.size ≤ W'.heap.size) : Pst d B W' vT t lf q := by
  obtain ⟨f, hf, hH, hlo⟩ := h.box
  exact ⟨⟨f, hf, (hk d.b hH.lt).trans hH, hlo⟩, h.row.of_block (hk _ h.row.lt), h.qa.of_block (hk _ h.qa.lt), h.tr.of_block (hk _ h.tr.lt), h.ix.same (hk _ h.ix.s.lt) (hk _ h.ix.p.lt), h.tl.same fun g hg => hk g (h.tl.lt hg), h.ap, by have := h.z; omega⟩
theorem Pst.on (h : Pst d B W vT t lf q) (hb : Below W.heap.size W W') : Pst d B W' vT t lf q := h.same (fun k hk => hb.block k hk) hb.size
theorem Pst.drewN (h : Pst d B W vT t lf q) (n : Nat) : Pst d B (W.drewN n) vT t lf q := h.same (fun k _ => rfl) (Nat.le_refl _)
/-- look, or take -/
theorem Pst.only (h : Pst d B W vT t lf q) (ho : d.Ok B v) {f : Nat} (hf : f ≤ d.K) (hH : Has W' d.b 60 (pcs8 (.slice d.C d.m d.kc) (.slice (some ⟨d.gT, 0, none⟩) d.lits d.lits) vT (.slice (some ⟨d.gL, 0, none⟩) d.m d.m) (.slice (some ⟨d.gS, 0, none⟩) (d.lits + 1) (d.lits + 1)) (.slice (some ⟨d.gP, 0, none⟩) d.np d.np) d.gW d.K f)) (hQ : QAt W' d.gW d.K q') (hO : Only W W' d.b d.gW) (hlo : ∀ j, j < 64 * f → q' j = false) : Pst d B W' vT t lf q' := by
  obtain ⟨b1, b2, b3, b4, b5⟩ := ho.bb
  obtain ⟨t1, t2, t3, t4⟩ := ho.tt
  obtain ⟨l1, l2, l3⟩ := ho.ll
  obtain ⟨w1, w2⟩ := ho.ww
  exact ⟨⟨f, hf, hH, hlo⟩, h.row.of_block (hO.1 _ (fun e => b2 e.symm) l1), hQ, h.tr.of_block (hO.1 _ (fun e => b1 e.symm) t2), h.ix.same (hO.1 _ (fun e => b4 e.symm) (fun e => w1 e.symm)) (hO.1 _ (fun e => b5 e.symm) (fun e => w2 e.symm)), h.tl.same fun g hg => hO.1 g (h.ap g hg).1 (h.ap g hg).2.2.2.1, h.ap, by have := hO.2.1; have := h.z; omega⟩
/-- a count stored -/
theorem Pst.left (h : Pst d B W vT t lf q) (ho : d.Ok B v) {j : Nat} {x : Int} (hf : ∀ i, i < d.m → (lf' i : Int) = if i = j then x else (lf i : Int)) : Pst d B (W.setCell ⟨d.gL, j, none⟩ (.int .i64 x)) vT t lf' q := by
  obtain ⟨b1, b2, b3, b4, b5⟩ := ho.bb
  obtain ⟨t1, t2, t3, t4⟩ := ho.tt
  obtain ⟨l1, l2, l3⟩ := ho.ll
  obtain ⟨f, hf', hH, hlo⟩ := h.box
  have hs : ∀ k, k ≠ d.gL → (W.setCell ⟨d.gL, j, none⟩ (.int .i64 x)).heap[k]? = W.heap[k]? := fun k hk => Below.heap_setCell _ _ _ _ hk
  refine ⟨⟨f, hf', (hs _ b2).trans hH, hlo⟩, (h.row.set j _).congr fun i hi => ?_, h.qa.of_block (hs _ (fun e => l1 e.symm)), h.tr.of_block (hs _ t1), h.ix.same (hs _ (fun e => l2 e.symm)) (hs _ (fun e => l3 e.symm)), h.tl.same fun g hg => hs g (h.ap g hg).2.2.1, h.ap, by rw [set_sz15]; exact h.z⟩
  show (if i = j then Value.int .i64 x else .int .i64 (lf i : Int)) = .int .i64 (lf' i : Int)
  rw [hf i hi]
  split <;> rfl
/-- a literal more: its truth value, and the trail -/
theorem Pst.lit (h : Pst d B W vT t lf q) (ho : d.Ok B v) {u : Nat} {w3 : World} {v3 : Value} (h2 : Io B w3 v3 (t ++ [(u : Int)])) (h4 : ∀ g, g < W.heap.size → vT.ownBlock ≠ some g → w3.heap[g]? = (W.setCell ⟨d.gT, u, none⟩ (.bool true)).heap[g]?) (h5 : W.heap.size ≤ w3.heap.size) (h6 : ∀ k, v3.ownBlock = some k → vT.ownBlock = some k ∨ W.heap.size < k) :
    Pst d B (w3.setCell ⟨d.b, 2, none⟩ v3) v3 (t ++ [(u : Int)]) lf q := by
  obtain ⟨b1, b2, b3, b4, b5⟩ := ho.bb
  obtain ⟨t1, t2, t3, t4⟩ := ho.tt
  obtain ⟨f, hf', hH, hlo⟩ := h.box
  have hap : ∀ g, g < W.heap.size → (g = d.b ∨ g = d.gT ∨ g = d.gL ∨ g = d.gW ∨ g = d.gS ∨ g = d.gP) → w3.heap[g]? = (W.setCell ⟨d.gT, u, none⟩ (.bool true)).heap[g]? := fun g hg he => h4 g hg fun e => by
    obtain ⟨c1, c2, c3, c4, c5, c6⟩ := h.ap g e
    rcases he with he | he | he | he | he | he <;> contradiction
  have hs : ∀ k, k ≠ d.gT → (W.setCell ⟨d.gT, u, none⟩ (.bool true)).heap[k]? = W.heap[k]? := fun k hk => Below.heap_setCell _ _ _ _ hk
  have hs2 : ∀ k, k ≠ d.b → (w3.setCell ⟨d.b, 2, none⟩ v3).heap[k]? = w3.heap[k]? := fun k hk => Below.heap_setCell _ _ _ _ hk
  have hk : ∀ g, v3.ownBlock = some g → g ≠ d.b ∧ g ≠ d.gT ∧ g ≠ d.gL ∧ g ≠ d.gW ∧ g ≠ d.gS ∧ g ≠ d.gP := fun g hg => by
    rcases h6 g hg with h' | h'
    · exact h.ap g h'
    · have := hH.lt; have := h.tr.lt; have := h.row.lt; have := h.qa.lt; have := h.ix.s.lt; have := h.ix.p.lt
      exact ⟨by omega, by omega, by omega, by omega, by omega, by omega⟩
  have hHw : Has w3 d.b 60 _ := (hap _ hH.lt (Or.inl rfl)).trans ((hs _ b1).trans hH)
  have same : ∀ g, g < W.heap.size → g ≠ d.b → g ≠ d.gT → (g = d.gL ∨ g = d.gW ∨ g = d.gS ∨ g = d.gP) → (w3.setCell ⟨d.b, 2, none⟩ v3).heap[g]? = W.heap[g]? := fun g hg hb hT he => (hs2 g hb).trans ((hap g hg (Or.inr (Or.inr he))).trans (hs g hT))
  refine ⟨⟨f, hf', hHw.set 2 v3, hlo⟩, h.row.of_block (same _ h.row.lt (fun e => b2 e.symm) (fun e => t1 e.symm) (Or.inl rfl)), h.qa.of_block (same _ h.qa.lt (fun e => b3 e.symm) (fun e => t2 e.symm) (Or.inr (Or.inl rfl))), ?_, h.ix.same (same _ h.ix.s.lt (fun e => b4 e.symm) (fun e => t3 e.symm) (Or.inr (Or.inr (Or.inl rfl)))) (same _ h.ix.p.lt (fun e => b5 e.symm) (fun e => t4 e.symm) (Or.inr (Or.inr (Or.inr rfl)))), h2.setne (q := ⟨d.b, 2, none⟩) (fun g hg => (hk g hg).1) _, hk, by rw [set_sz15]; have := h.z; omega⟩
  refine (((h.tr.set u (.bool true)).of_block (hap _ h.tr.lt (Or.inr (Or.inl rfl)))).of_block (hs2 _ (fun e => b1 e.symm))).congr fun i _ => ?_
  show (if i = u then Value.bool true else .bool (decide ((i : Int) ∈ t))) = .bool (decide ((i : Int) ∈ t ++ [(u : Int)]))
  by_cases e : i = u
  · subst e; simp
  · rw [if_neg e]
    congr 1
    refine decide_eq_decide.2 ⟨fun h => List.mem_append.2 (Or.inl h), fun h => (List.mem_append.1 h).resolve_right fun h' => ?_⟩
    have := List.mem_singleton.1 h'
    omega
end

/-- while the clauses with a literal are counted again -/
def lfI (t t' : List Int) (L : List (List Int)) (y : Int) (r j : Nat) : Nat := if j ∈ (ocs L L.length y).take r then nl t' L j else nl t L j
def qI (q : Nat → Bool) (t' : List Int) (L : List (List Int)) (y : Int) (r : Nat) : Nat → Bool := fun j => q j || decide (j ∈ (ocs L L.length y).take r ∧ nl t' L j = 1)
theorem mem_take_n {l : List Nat} {r j : Nat} (h : l[r]? = some j) (i : Nat) : i ∈ l.take (r + 1) ↔ i ∈ l.take r ∨ i = j := by
  obtain ⟨hr, e⟩ := List.getElem?_eq_some_iff.1 h
  rw [List.take_succ_eq_append_getElem hr, List.mem_append, List.mem_singleton, e]
theorem ocs_new {L : List (List Int)} {y : Int} {r j : Nat} (h : (ocs L L.length y)[r]? = some j) : j ∉ (ocs L L.length y).take r := fun hm => by
  obtain ⟨hr, e⟩ := List.getElem?_eq_some_iff.1 h
  obtain ⟨s, hs, e2⟩ := List.getElem_of_mem hm
  rw [List.length_take] at hs
  rw [List.getElem_take] at e2
  have := List.pairwise_iff_getElem.1 (ocs_ss L L.length y) s r (by omega) hr (by omega)
  omega
theorem qI_succ (q : Nat → Bool) (t' : List Int) {L : List (List Int)} {y : Int} {r j : Nat} (h : (ocs L L.length y)[r]? = some j) (i : Nat) : (if nl t' L j = 1 then qset (qI q t' L y r) j else qI q t' L y r) i = qI q t' L y (r + 1) i := by
  have hm := mem_take_n h i
  by_cases h1 : nl t' L j = 1
  · rw [if_pos h1]
    unfold qset qI
    by_cases e : i = j
    · subst e
      rw [decide_eq_true rfl, Bool.true_or, decide_eq_true (⟨hm.2 (Or.inr rfl), h1⟩ : i ∈ _ ∧ _), Bool.or_true]
    · rw [decide_eq_false e, Bool.false_or]
      congr 1
      exact decide_eq_decide.2 ⟨fun h => ⟨hm.2 (Or.inl h.1), h.2⟩, fun h => ⟨(hm.1 h.1).resolve_right e, h.2⟩⟩
  · rw [if_neg h1]
    unfold qI
    congr 1
    refine decide_eq_decide.2 ⟨fun hh => ⟨hm.2 (Or.inl hh.1), hh.2⟩, fun hh => ⟨(hm.1 hh.1).resolve_right fun e => ?_, hh.2⟩⟩
    subst e; exact h1 hh.2

/-- what imply gives -/
def ImIs (d : Pd) (B : Nat) (w : World) (t : List Int) (u : Nat) (q : Nat → Bool) (e : Ending) (w' : World) : Prop := Below B w w' ∧ ∃ A' n' k' lf' q', Pst d B w' (.slice A' n' k') (t ++ [(u : Int)]) lf' q' ∧
  ((∃ i : Nat, i < d.m ∧ e = .returned (.int .i64 (i : Int)) ∧ fF (t ++ [(u : Int)]) d.L = some i) ∨
   (e = .returned (.int .i64 (-1)) ∧ (∀ j, j < d.m → lf' j = nl (t ++ [(u : Int)]) d.L j ∧ nl (t ++ [(u : Int)]) d.L j ≠ 0) ∧ q' = qI q (t ++ [(u : Int)]) d.L (ng (u : Int)) (oc d.L d.L.length (ng (u : Int)))))

set_option maxRecDepth 100000 in
set_option maxHeartbeats 10000000 in
theorem imply15_any (d : Pd) (B v u : Nat) (w : World) (A : Option Addr) (n k : Nat) (t : List Int) (q : Nat → Bool) (ho : d.Ok B v) (h : Pst d B w (.slice A n k) t (nl t d.L) q) (ht : OkT (v : Int) t) (hu : isL (v : Int) (u : Int) = true) (hn1 : (u : Int) ∉ t) (hn2 : ng (u : Int) ∉ t) (hpre : ∀ j, j < d.m → nl t d.L j ≠ 0) :
    Calls Tryd.prog 35 #[.pointer (some ⟨d.b, 0, none⟩), .int .i64 (u : Int)] w (ImIs d B w t u q) := by
  have hul := isL_iff.1 hu
  have hli := ho.li
  have hvl := ho.vl
  obtain ⟨f, hf, hbox, hlo⟩ := h.box
  have y1 : w.cell? ⟨d.b, 1, none⟩ = some (.slice (some ⟨d.gT, 0, none⟩) d.lits d.lits) := hbox.cell 1
  have y2 : w.cell? ⟨d.b, 2, none⟩ = some (.slice A n k) := hbox.cell 2
  have f2 : w.frozen? ⟨d.b, 2, none⟩ = false := hbox.fz 2
  have z1 := h.tr.cell (i := u) (by omega)
  have fz1 := h.tr.frozen u
  obtain ⟨b0, hb0⟩ : ∃ b0, tT t u = .bool b0 := ⟨_, rfl⟩
  rw [hb0] at z1
  have u0 : (0 : Int) ≤ (u : Int) := by omega
  have u1 : (u : Int) < (d.lits : Int) := by omega
  have htl := ht.len (by omega)
  have hbT : d.b ≠ d.gT := ho.bb.1
  have hne' : ¬ d.gT = d.b := fun e => hbT e.symm
  have ht' : OkT (v : Int) (t ++ [(u : Int)]) := ht.more hu (vin_not (v := (v : Int)) hn1 hn2)
  have g0 : 0 ≤ ng (u : Int) := by unfold ng; split <;> omega
  have g1 : ng (u : Int) < (d.lits : Int) := by unfold ng; split <;> omega
  have DN := fun W => negation_any (u : Int) (by omega) (by omega) W
  obtain ⟨y, hy⟩ : ∃ y : Nat, ng (u : Int) = (y : Int) := ⟨(ng (u : Int)).toNat, by omega⟩
  rw [hy] at DN g0 g1
  have hNL := fun (j : Nat) (hj : j < d.L.length) => nl_app (v := (v : Int)) (t := t) (x := (u : Int)) (fun c hc => (ho.cl c hc).1) hn1 hj
  rw [hy] at hNL
  have hX1 : (w.setCell ⟨d.gT, u, none⟩ (.bool true)).heap.size = w.heap.size := set_sz15 _ _ _
  have hIo1 : Io B (w.setCell ⟨d.gT, u, none⟩ (.bool true)) (.slice A n k) t := h.tl.setne (q := ⟨d.gT, u, none⟩) (fun g hg => (h.ap g hg).2.1) _
  have HH := Lib.hid (And.intro h (And.intro hIo1 (And.intro ht' (And.intro hNL (And.intro hpre (And.intro hy htl))))))
  clear h hIo1 ht' hNL hpre hbox hlo hf hb0 hul hn1 hn2 hu ht htl hli
  unfold ImIs
  rw [hy]
  have HY := Lib.hid hy
  clear hy
  go_enter Tryd.func35, Tryd.ntmps35
  go_wp2_with (first
    | (at_builtin; (refine append_own1 (w := w.setCell ⟨d.gT, u, none⟩ (.bool true)) rfl (.tmp 17) (.tmp 19) rfl B (.slice A n k) t (u : Int) rfl HH.out.2.1 (by have := HH.out.2.2.2.2.2.2; omega) (by rw [set_sz15]; exact HH.out.1.z) w.heap.size (by rw [set_sz15]) rfl ?_); intro v3 w3 ho3 hb3 hg3 hz3 hk3
       rw [set_sz15] at hg3 hz3 hk3
       have hP := HH.out.1.lit ho ho3 hg3 hz3 hk3
       have hbw : Below B w w3 := ((Below.refl B w).setCell (p := ⟨d.gT, u, none⟩) ho.lo.2.1 _).trans hb3
       obtain ⟨A3, k3, rfl, _⟩ := ho3.at
       generalize (t ++ [(u : Int)]).length = n3 at hP ho3 hk3 ⊢
       have hHb : Has w3 d.b 60 _ := ((hg3 d.b (by have := cell_lt y2; simpa using this) (fun e => (HH.out.1.ap d.b e).1 rfl)).trans (Below.heap_setCell _ _ _ _ hbT)).trans (HH.out.1.box.choose_spec.2.1)
       have c2 : w3.cell? ⟨d.b, 2, none⟩ = some (.slice A n k) := hHb.cell 2
       have e2 : w3.frozen? ⟨d.b, 2, none⟩ = false := hHb.fz 2
       have H3 := Lib.hid (And.intro hP hbw)
       clear hP hbw ho3 hb3 hg3 hz3 hk3 hHb))
  obtain ⟨hP4, hbw3⟩ := H3.out
  have hbw4 : Below B w (w3.setCell ⟨d.b, 2, none⟩ (.slice A3 n3 k3)) := hbw3.setCell (p := ⟨d.b, 2, none⟩) ho.lo.1 _
  have hS0 : (fun X : World => X.cell? ⟨d.b, 4, none⟩ = some (.slice (some ⟨d.gS, 0, none⟩) (d.lits + 1) (d.lits + 1)) ∧ X.cell? ⟨d.b, 5, none⟩ = some (.slice (some ⟨d.gP, 0, none⟩) d.np d.np)) (w3.setCell ⟨d.b, 2, none⟩ (.slice A3 n3 k3)).drew := by
    obtain ⟨f', _, hH', _⟩ := hP4.box
    exact ⟨hH'.cell 4, hH'.cell 5⟩
  have HP4 := Lib.hid (And.intro hP4 hbw4)
  clear hP4 hbw3 hbw4 c2 e2 H3 y1 y2 f2 z1 fz1
  generalize (w3.setCell ⟨d.b, 2, none⟩ (.slice A3 n3 k3)) = W4 at HP4 hS0 ⊢
  refine wp_slots (fun f => Sz f 49 ∧ Slot f 0 (.pointer (some ⟨d.b, 0, none⟩)) ∧ Slot f 1 (.int .i64 (u : Int))) ⟨⟨rfl, rfl⟩, ⟨rfl⟩, ⟨rfl⟩⟩ fun a0 hA0 hR => ?_
  obtain ⟨hZ, hs0, hs1⟩ := hR
  have HA := Lib.hid hA0
  clear hA0
  refine wp_region_T (fun X : World => X.cell? ⟨d.b, 4, none⟩ = some (.slice (some ⟨d.gS, 0, none⟩) (d.lits + 1) (d.lits + 1)) ∧ X.cell? ⟨d.b, 5, none⟩ = some (.slice (some ⟨d.gP, 0, none⟩) d.np d.np)) 9 (by kernel_rfl) ?_
  refine WT.h ?_
  (refine wt_move 0 0 rfl rfl (by kernel_rfl) (by kernel_rfl) (by kernel_rfl) (by kernel_rfl) (fun _ _ _ h => h) rfl hS0 (by (repeat (first | (refine slot_hit (N := 49) ?_ (by rfl); (repeat (refine sz_put ?_)); assumption; done) | (apply slot_miss; focus rfl))); all_goals assumption) rfl ?_); (refine wt_take1 1 23 (v := ?_) rfl rfl (by kernel_rfl) (by kernel_rfl) (by kernel_rfl) (by kernel_rfl) (fun _ _ _ h => h) rfl hS0 (by (repeat (first | (refine slot_hit (N := 49) ?_ (by rfl); (repeat (refine sz_put ?_)); assumption; done) | (apply slot_miss; focus rfl))); all_goals assumption) (fun ev hk hv0 w hS => ?_) ?_; rotate_left; focus (obtain ⟨j0, j1⟩ := hS; go_simp; rfl)); (refine wt_take1 2 24 (v := ?_) rfl rfl (by kernel_rfl) (by kernel_rfl) (by kernel_rfl) (by kernel_rfl) (fun _ _ _ h => h) rfl hS0 (by (repeat (first | (refine slot_hit (N := 49) ?_ (by rfl); (repeat (refine sz_put ?_)); assumption; done) | (apply slot_miss; focus rfl))); all_goals assumption) (fun ev hk hv0 w hS => ?_) ?_; rotate_left; focus (obtain ⟨j0, j1⟩ := hS; go_simp; rfl)); (refine wt_take1 3 25 (v := ?_) rfl rfl (by kernel_rfl) (by kernel_rfl) (by kernel_rfl) (by kernel_rfl) (fun _ _ _ h => h) rfl hS0 (by (repeat (first | (refine slot_hit (N := 49) ?_ (by rfl); (repeat (refine sz_put ?_)); assumption; done) | (apply slot_miss; focus rfl))); all_goals assumption) (fun ev hk hv0 w hS => ?_) ?_; rotate_left; focus (obtain ⟨j0, j1⟩ := hS; go_simp; rfl)); (refine wt_move 4 1 rfl rfl (by kernel_rfl) (by kernel_rfl) (by kernel_rfl) (by kernel_rfl) (fun _ _ _ h => h) rfl hS0 (by (repeat (first | (refine slot_hit (N := 49) ?_ (by rfl); (repeat (refine sz_put ?_)); assumption; done) | (apply slot_miss; focus rfl))); all_goals assumption) rfl ?_); (refine wt_take0 8  (v := ?_) rfl rfl (by kernel_rfl) (by kernel_rfl) (by kernel_rfl) (by kernel_rfl) (fun _ _ _ h => h) rfl hS0  (fun ev hk  w hS => ?_) ?_; rotate_left; focus (obtain ⟨j0, j1⟩ := hS; go_simp; rfl))
  have D1 := DN W4.drew
  refine wt_call1 5 27 (by kernel_rfl) rfl rfl rfl (by (repeat (first | (refine slot_hit (N := 49) ?_ (by rfl); (repeat (refine sz_put ?_)); assumption; done) | (apply slot_miss; focus rfl))); all_goals assumption) (f := ?_) (args := ?_) (fun ev hk hkf hv0 => ?_) ?_; rotate_left 2; focus (go_simp; first | rfl | (constructor <;> rfl))
  refine D1.mono ?_
  rintro e w5 ⟨rfl, rfl⟩
  refine ⟨_, rfl, fun _ => hS0, ?_⟩
  have D2 := of_any d.gS d.gP d.np d.lits y d.L W4.drew (HP4.out.1.drewN 1).ix (by omega) (by have := ho.li; have := ho.vl; omega) (by have := ho.me; have := ho.m2; omega)
  refine wt_call2 6 26 28 (by kernel_rfl) rfl rfl rfl (by (repeat (first | (refine slot_hit (N := 49) ?_ (by rfl); (repeat (refine sz_put ?_)); assumption; done) | (apply slot_miss; focus rfl))); all_goals assumption) (by (repeat (first | (refine slot_hit (N := 49) ?_ (by rfl); (repeat (refine sz_put ?_)); assumption; done) | (apply slot_miss; focus rfl))); all_goals assumption) (f := ?_) (args := ?_) (fun ev hk hkf hv0 hv1 => ?_) ?_; rotate_left 2; focus (go_simp; first | rfl | (constructor <;> rfl))
  refine D2.mono ?_
  rintro e w6 ⟨A', k', rfl, hI6, hb6, hAg⟩
  have hb6 := bn (below_dn (Below.refl W4.heap.size W4) 1) hb6
  have hP6 := HP4.out.1.on hb6
  have hS0 : (fun X : World => X.cell? ⟨d.b, 4, none⟩ = some (.slice (some ⟨d.gS, 0, none⟩) (d.lits + 1) (d.lits + 1)) ∧ X.cell? ⟨d.b, 5, none⟩ = some (.slice (some ⟨d.gP, 0, none⟩) d.np d.np)) w6 := by
    obtain ⟨f', _, hH', _⟩ := hP6.box
    exact ⟨hH'.cell 4, hH'.cell 5⟩
  obtain ⟨n, hn⟩ : ∃ n, n = (ocl d.L (y : Int)).length := ⟨_, rfl⟩
  rw [← hn]
  refine ⟨_, rfl, fun _ => hS0, ?_⟩
  (refine wt_take1 7 29 (v := ?_) rfl rfl (by kernel_rfl) (by kernel_rfl) (by kernel_rfl) (by kernel_rfl) (fun _ _ _ h => h) rfl hS0 (by (repeat (first | (refine slot_hit (N := 49) ?_ (by rfl); (repeat (refine sz_put ?_)); assumption; done) | (apply slot_miss; focus rfl))); all_goals assumption) (fun ev hk hv0 w hS => ?_) ?_; rotate_left; focus (obtain ⟨j0, j1⟩ := hS; go_simp; rfl))
  refine wt_done (by kernel_rfl) (NoPanic.normal ?_) _
  have ha := HA.out
  subst ha
  rw [← hn]
  have hnb : n ≤ 100000 := by
    have h1 := oc_le d.L (y : Int) d.L.length
    have h2 := ho.me
    have h3 := ho.m2
    rw [hn, ocl_len]; omega
  have H6 := Lib.hid (And.intro hP6 (And.intro hI6 (And.intro hAg (And.intro hn (show Below B w w6 from HP4.out.2.trans (hb6.mono HP4.out.1.z))))))
  clear hZ hs0 hs1 hS0 hP6 hI6 hAg hn hb6 HP4 D1 D2 DN
  go_wp2
  go_loopw [31] (fun i wr => ∃ r : Nat, r ≤ n ∧ i = .int .i64 (r : Int) ∧ Pst d B wr (.slice A3 n3 k3) (t ++ [(u : Int)]) (lfI t (t ++ [(u : Int)]) d.L (y : Int) r) (qI q (t ++ [(u : Int)]) d.L (y : Int) r) ∧ (∀ j, j ∈ (ocs d.L d.L.length (y : Int)).take r → nl (t ++ [(u : Int)]) d.L j ≠ 0) ∧ (wr.heap[d.gP]? = w6.heap[d.gP]?) ∧ Below B w wr) (fun i _ => n - (intOf i).toNat)
  case atStart => exact ⟨0, Nat.zero_le _, rfl, H6.out.1.congr (fun j _ => by unfold lfI; simp) (fun j => by unfold qI; simp), fun j hj => by simp at hj, rfl, H6.out.2.2.2.2⟩
  case round =>
    obtain ⟨r, hr, rfl, hD, hok, hgP, hBw⟩ := hrel
    have hnl := H6.out.2.2.2.1
    by_cases hlt : r < n
    · have hrl : r < (ocl d.L (y : Int)).length := by omega
      have hro : r < (ocs d.L d.L.length (y : Int)).length := by rw [ocs_len, ← ocl_len]; exact hrl
      obtain ⟨xb, xo, hA', hxb, hxs⟩ := H6.out.2.1.cells (by omega)
      have hxg : xb = d.gP := H6.out.2.2.1 _ hA'
      obtain ⟨j, hj⟩ : ∃ j, (ocs d.L d.L.length (y : Int))[r]? = some j := ⟨_, List.getElem?_eq_getElem hro⟩
      have hje : (ocl d.L (y : Int)).getD r 0 = (j : Int) := by
        have h1 : (ocl d.L (y : Int))[r]? = some (j : Int) := by unfold ocl; rw [List.getElem?_map, hj]; rfl
        rw [List.getD_eq_getElem?_getD, h1]; rfl
      have hjm := mem_ocs.1 (List.mem_of_getElem? hj)
      have hjd : j < d.m := by have := ho.me; omega
      have yr : wr.cell? ⟨xb, xo + r, none⟩ = some (.int .i64 (j : Int)) := by
        rw [← hje]
        exact (World.cell?_of_block (w := w6) (by rw [hxg]; exact hgP)).trans (hxs r hrl)
      have hnew := ocs_new hj
      have hNLj := HH.out.2.2.2.1 j hjm.1
      rw [if_pos hjm.2] at hNLj
      have hcb := nl_le t d.L j
      have hcb2 := (ho.cl _ (gotD_mem hjm.1)).2
      obtain ⟨f', hf', hbox', hlo'⟩ := hD.box
      have y3 : wr.cell? ⟨d.b, 3, none⟩ = some (.slice (some ⟨d.gL, 0, none⟩) d.m d.m) := hbox'.cell 3
      obtain ⟨c, hc⟩ : ∃ c, c = nl (t ++ [(u : Int)]) d.L j := ⟨_, rfl⟩
      have z : wr.cell? ⟨d.gL, j, none⟩ = some (.int .i64 ((c : Int) + 1)) := by
        have h := hD.row.cell hjd
        rw [show iF (lfI t (t ++ [(u : Int)]) d.L (y : Int) r) j = .int .i64 ((c : Int) + 1) by
          show Value.int .i64 ((lfI t (t ++ [(u : Int)]) d.L (y : Int) r j : Nat) : Int) = _
          unfold lfI
          rw [if_neg hnew, ← hNLj, ← hc]
          congr 1] at h
        exact h
      have fz := hD.row.frozen j
      have r0 : (0 : Int) ≤ (r : Int) := by omega
      have r1 : (r : Int) < (n : Int) := by omega
      have i0 : (0 : Int) ≤ (j : Int) := by omega
      have i1 : (j : Int) < (d.m : Int) := by omega
      have hcc : c ≤ 100000 := by omega
      have hD2 : Pst d B (wr.setCell ⟨d.gL, j, none⟩ (.int .i64 (c : Int))) (.slice A3 n3 k3) (t ++ [(u : Int)]) (lfI t (t ++ [(u : Int)]) d.L (y : Int) (r + 1)) (qI q (t ++ [(u : Int)]) d.L (y : Int) r) := hD.left ho fun i hi => by
        unfold lfI
        have hm := mem_take_n hj i
        by_cases e : i = j
        · subst e; rw [if_pos (hm.2 (Or.inr rfl)), if_pos rfl, hc]
        · rw [if_neg e]
          by_cases h' : i ∈ (ocs d.L d.L.length (y : Int)).take r
          · rw [if_pos h', if_pos (hm.2 (Or.inl h'))]
          · rw [if_neg h', if_neg fun h => (hm.1 h).elim h' e]
      have hlj : lfI t (t ++ [(u : Int)]) d.L (y : Int) (r + 1) j = c := by
        unfold lfI; rw [if_pos ((mem_take_n hj j).2 (Or.inr rfl)), hc]
      obtain ⟨f2', hf2', hbox2', hlo2'⟩ := hD2.box
      have hKe := ho.Ke
      have DL := look_any d.b d.gL d.gW d.m d.K j f2' _ _ _ _ _ (lfI t (t ++ [(u : Int)]) d.L (y : Int) (r + 1)) (qI q (t ++ [(u : Int)]) d.L (y : Int) r) (wr.setCell ⟨d.gL, j, none⟩ (.int .i64 (c : Int))) hbox2' hD2.row hD2.qa hjd (by omega) (by have := ho.m2; omega) (by rw [hlj]; omega) ho.bb.2.2.1 (fun e => ho.bb.2.1 e.symm) ho.ll.1 hlo2' hf2'
      rw [hlj] at DL
      have hgP2 : (wr.setCell ⟨d.gL, j, none⟩ (.int .i64 (c : Int))).heap[d.gP]? = w6.heap[d.gP]? := (Below.heap_setCell _ _ _ _ (fun e => ho.ll.2.2 e.symm)).trans hgP
      have hBw2 : Below B w (wr.setCell ⟨d.gL, j, none⟩ (.int .i64 (c : Int))) := hBw.setCell (p := ⟨d.gL, j, none⟩) ho.lo.2.2.1 _
      have hqs := fun i => qI_succ q (t ++ [(u : Int)]) hj i
      rw [← hc] at hqs
      have HD := Lib.hid (And.intro hD2 (And.intro hgP2 (And.intro hBw2 (And.intro hqs (And.intro hok (And.intro hj (And.intro hc hjd)))))))
      clear hD hok hgP hBw hnl hrl hro hxb hxs hje hjm hnew hNLj hcb hcb2 hf' hbox' hlo' hD2 hlj hf2' hbox2' hlo2' hKe hgP2 hBw2 hqs hj hc hjd hxg
      subst hA'
      by_cases e0 : c = 0
      · rw [show decide (c = 0) = true from decide_eq_true e0] at DL
        have HE := Lib.hid e0
        clear e0
        go_wp2_with (first
          | (go_at_call 37; (with_reducible refine DL.mono ?_); rintro e w7 ⟨f'', rfl, hf'', hH7, hQ7, hO7, hlo7⟩
             have HL := Lib.hid (And.intro hf'' (And.intro hH7 (And.intro hQ7 (And.intro hO7 hlo7))))
             clear hf'' hH7 hQ7 hO7 hlo7))
        go_ret
        obtain ⟨hD2, hgP2, hBw2, hqs, hok, hj, hc, hjd⟩ := HD.out
        obtain ⟨hf'', hH7, hQ7, hO7, hlo7⟩ := HL.out
        have hP7 := (hD2.only ho hf'' hH7 hQ7 hO7 hlo7).congr (fun _ _ => rfl) hqs
        have hc0 : nl (t ++ [(u : Int)]) d.L j = 0 := by rw [← hc]; exact HE.out
        have hff : fF (t ++ [(u : Int)]) d.L = some j := by
          have ht' := HH.out.2.2.1
          refine fF_some (mem_ocs.1 (List.mem_of_getElem? hj)).1 ((stC_0 ht').2 (List.eq_nil_of_length_eq_zero hc0)) fun i hi h0 => ?_
          have h1 : nl (t ++ [(u : Int)]) d.L i = 0 := by unfold nl; rw [(stC_0 ht').1 h0]; rfl
          have hil : i < d.L.length := by have := (mem_ocs.1 (List.mem_of_getElem? hj)).1; omega
          have h2 := HH.out.2.2.2.1 i hil
          rw [h1] at h2
          by_cases hm : (y : Int) ∈ d.L.getD i []
          · refine hok i ?_ h1
            have hmo : i ∈ ocs d.L d.L.length (y : Int) := mem_ocs.2 ⟨hil, hm⟩
            obtain ⟨s, hs, e⟩ := List.getElem_of_mem hmo
            obtain ⟨hr2, e2⟩ := List.getElem?_eq_some_iff.1 hj
            have hsr : s < r := by
              rcases Nat.lt_or_ge s r with h' | h'
              · exact h'
              · rcases Nat.lt_or_ge r s with h'' | h''
                · have := List.pairwise_iff_getElem.1 (ocs_ss d.L d.L.length (y : Int)) r s hr2 hs h''
                  omega
                · have : s = r := by omega
                  subst this; omega
            rw [List.mem_iff_getElem?]
            exact ⟨s, by rw [List.getElem?_take, if_pos hsr, List.getElem?_eq_getElem hs, e]⟩
          · rw [if_neg hm] at h2
            exact HH.out.2.2.2.2.1 i (by have := ho.me; omega) (by omega)
        exact ⟨hBw2.trans (hO7.2.2 B ho.lo.1 ho.lo.2.2.2.1), A3, n3, k3, _, _, hP7, Or.inl ⟨j, hjd, rfl, hff⟩⟩
      · rw [show decide (c = 0) = false from decide_eq_false e0] at DL
        have HE := Lib.hid e0
        clear e0
        go_wp2_with (first
          | (go_at_call 37; (with_reducible refine DL.mono ?_); rintro e w7 ⟨f'', rfl, hf'', hH7, hQ7, hO7, hlo7⟩
             have HL := Lib.hid (And.intro hf'' (And.intro hH7 (And.intro hQ7 (And.intro hO7 hlo7))))
             clear hf'' hH7 hQ7 hO7 hlo7))
        go_roundw
        case rel =>
          obtain ⟨hD2, hgP2, hBw2, hqs, hok, hj, hc, hjd⟩ := HD.out
          obtain ⟨hf'', hH7, hQ7, hO7, hlo7⟩ := HL.out
          refine ⟨r + 1, by omega, by go_num, (hD2.only ho hf'' hH7 hQ7 hO7 hlo7).congr (fun _ _ => rfl) hqs, fun i hi => ?_, (hO7.1 _ (fun e => ho.bb.2.2.2.2 e.symm) (fun e => ho.ww.2 e.symm)).trans hgP2, hBw2.trans (hO7.2.2 B ho.lo.1 ho.lo.2.2.2.1)⟩
          rcases (mem_take_n hj i).1 hi with h' | h'
          · exact hok i h'
          · subst h'; rw [← hc]; exact HE.out
        case measure => simp [intOf]; omega
    · obtain rfl : n = r := by omega
      have hjn : ¬ (n : Int) < (n : Int) := by omega
      have HD := Lib.hid (And.intro hD (And.intro hok hBw))
      clear hD hok hBw hgP hnl
      go_wp2
      go_ret
      obtain ⟨hD, hok, hBw⟩ := HD.out
      have hnl := H6.out.2.2.2.1
      rw [ocl_len] at hnl
      have hall : (ocs d.L d.L.length (y : Int)).take n = ocs d.L d.L.length (y : Int) := List.take_of_length_le (by rw [ocs_len, hnl]; exact Nat.le_refl _)
      refine ⟨hBw, A3, n3, k3, _, _, hD, Or.inr ⟨rfl, fun j hj => ?_, by rw [hnl]⟩⟩
      rw [hall] at hok
      have hjl : j < d.L.length := by have := ho.me; omega
      have h2 := HH.out.2.2.2.1 j hjl
      unfold lfI
      rw [hall]
      by_cases hm : (y : Int) ∈ d.L.getD j []
      · have hmo : j ∈ ocs d.L d.L.length (y : Int) := mem_ocs.2 ⟨hjl, hm⟩
        rw [if_pos hmo]
        exact ⟨rfl, hok j hmo⟩
      · rw [if_neg hm] at h2
        rw [if_neg (fun h => hm (mem_ocs.1 h).2)]
        exact ⟨by omega, by have := HH.out.2.2.2.2.1 j hj; omega⟩

end Go.Proofs.YtecmldnigohjfabDoor
