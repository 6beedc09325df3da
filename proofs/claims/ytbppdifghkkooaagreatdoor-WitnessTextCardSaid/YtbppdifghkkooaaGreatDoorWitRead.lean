/- The run that a text tells, and what Read returns. -/
import Derived.Test.YtbppdifghkkooaaGreatDoorWitTold
namespace Go.Proofs.YtbppdifghkkooaaGreatDoor
open Go Go.RowKit
set_option linter.unusedVariables false
set_option linter.unusedSimpArgs false

theorem grown_over {w w1 w2 : World} {r s : Option Nat} (h : w.grownBy w1 r) (h2 : w1.grownBy w2 s) (hs : ∀ g, s = some g → w.heap.size ≤ g) : w.grownBy w2 r :=
  ⟨h2.os.trans h.os, h2.tape.trans h.tape, h2.output.trans h.output, Nat.le_trans h.size h2.size, fun i hi hr => (h2.block i (Nat.lt_of_lt_of_le hi h.size) (fun e => by have := hs i e.symm; omega)).trans (h.block i hi hr)⟩
theorem wOk_parts {c : Cr} {s : List UInt8} : wOk c s = (rwB s && ((nbr (mR s 0)).isSome && (isD (mR s 1) c.nl && decide (∀ j, j < (mL s).length - 2 → isD (mR s (2 + j)) c.i.toNat = true)))) := by
  unfold wOk rwB
  simp only [Bool.and_assoc]
theorem TNew.weak {w : World} {base base' : Nat} {t : Tr} {q : Tp} (h : TNew w base t q) (hb : base' ≤ base) : TNew w base' t q := ⟨h.fi, h.n1, fun a ha => Nat.le_trans hb (h.l1 a ha), h.ip.weak hb hb⟩
theorem TNew.call {w w' : World} {base : Nat} {t : Tr} {q : Tp} (h : TNew w base t q) (hb : Below w.heap.size w w') : TNew w' base t q := ⟨h.fi.to hb hb.size, h.n1, h.l1, h.ip.call hb⟩
/-- what told returns -/
def ToldIs (c : Cr) (s : List UInt8) (w : World) (e : Ending) (w' : World) : Prop :=
  ∃ t : Tr, ∃ q : Tp, ∃ b : Int, e = .returned (.tuple #[tv t q, .int .i64 b, .bool (wOk c s)]) ∧ Below w.heap.size w w' ∧ (wOk c s = true → t = wTr c s ∧ b = wBd s ∧ TNew w' w.heap.size t q)
theorem told_zero {c : Cr} {s : List UInt8} {w w' : World} (hb : Below w.heap.size w w') (h : wOk c s = false) : ToldIs c s w (.returned (.tuple #[.agg #[.slice none 0 0, .slice none 0 0], .int .i64 0, .bool false])) w' :=
  ⟨z0T, ⟨none, 0, none, 0⟩, 0, by rw [h]; rfl, hb, fun h' => by rw [h] at h'; cases h'⟩
theorem below_s2 {B : Nat} {w w' : World} (h : Below B w w') {b : Nat} (hb : B ≤ b) (u v : Value) : Below B w ((w'.setCell ⟨b, 0, none⟩ u).setCell ⟨b, 1, none⟩ v) := (h.setCell (p := ⟨b, 0, none⟩) hb u).setCell (p := ⟨b, 1, none⟩) hb v
/-- both cells of a run's box -/
theorem box_two {w : World} {b : Nat} {u v : Value} (h : Has w b 47 #[u, v]) : w.cell? ⟨b, 0, none⟩ = some u ∧ w.cell? ⟨b, 1, none⟩ = some v ∧ w.frozen? ⟨b, 0, none⟩ = false ∧ w.frozen? ⟨b, 1, none⟩ = false := ⟨h.cell 0, h.cell 1, h.fz 0, h.fz 1⟩

set_option maxRecDepth 100000 in
set_option maxHeartbeats 8000000 in
theorem told_any (c : Cr) (s : List UInt8) (x y : Int) (hx : x = c.nl) (hy : y = c.i.toNat) (hnl : c.nl ≤ 1000) (hni : c.i.toNat ≤ 1000) (hs : s.length ≤ 100000) (B : Nat) (w : World) (hE : EnvW B w) (hB : B ≤ w.heap.size) :
    Calls Tryz.prog 49 #[.string (str s), .int .i64 x, .int .i64 y] w (ToldIs c s w) := by
  obtain ⟨ni, hni2⟩ : ∃ ni, ni = c.i.toNat := ⟨_, rfl⟩
  obtain ⟨nl, hnl2⟩ : ∃ nl, nl = c.nl := ⟨_, rfl⟩
  rw [← hnl2] at hx hnl
  rw [← hni2] at hy hni
  have hml : ∀ j, (mR s j).length ≤ 100000 := fun j => Nat.le_trans (getD_short 10 (mid s) j) (by unfold mid; rw [List.length_take, List.length_drop]; omega)
  have hB0 : Below w.heap.size w (w.alloc (.cells #[.slice none 0 0, .slice none 0 0] 47)) := (Below.refl _ _).alloc (Nat.le_refl _) _
  have hT0 : Has (w.alloc (.cells #[.slice none 0 0, .slice none 0 0] 47)) w.heap.size 47 #[.slice none 0 0, .slice none 0 0] := Has.new _ _ _
  have D1 := Lib.hid (rowsOf_any s hs B (w.alloc (.cells #[.slice none 0 0, .slice none 0 0] 47)) (hE.e.next hB hB0))
  have D2 : Hid (∀ l : List UInt8, l.length ≤ 100000 → ∀ W, Below w.heap.size w W → Calls Tryz.prog 96 #[.string (str l)] W (IdwIs l W)) := Lib.hid fun l hl W hb => indexOf_any l hl B W (hE.next hB hb) (Nat.le_trans hB hb.size)
  have D3 : Hid (∀ l : List UInt8, l.length ≤ 100000 → ∀ W, Calls Tryz.prog 97 #[.string (str l), .int .i64 x] W (ValsIs l nl W)) := Lib.hid fun l hl W => valuesOf_any l nl x hx hl (by omega) W
  have D4 : Hid (∀ l : List UInt8, l.length ≤ 100000 → ∀ W, Calls Tryz.prog 97 #[.string (str l), .int .i64 y] W (ValsIs l ni W)) := Lib.hid fun l hl W => valuesOf_any l ni y hy hl (by omega) W
  have HP := Lib.hid (wOk_parts (c := c) (s := s))
  have HC := Lib.hid (And.intro hni2 hnl2)
  have HML := Lib.hid hml
  have HB0 := Lib.hid (And.intro hB0 hT0)
  rw [← hni2, ← hnl2] at HP
  clear hx hy hni2 hnl2 hE hB hml hB0 hT0
  cases hr : rwB s
  · have HW : Hid (wOk c s = false) := Lib.hid (by rw [HP.out, hr]; rfl)
    have D1' : Hid (Calls Tryz.prog 95 #[.string (str s)] (w.alloc (.cells #[.slice none 0 0, .slice none 0 0] 47)) fun e w' => (∃ v, e = .returned (.tuple #[v, .bool false])) ∧ Below (w.alloc (.cells #[.slice none 0 0, .slice none 0 0] 47)).heap.size (w.alloc (.cells #[.slice none 0 0, .slice none 0 0] 47)) w') := Lib.hid (D1.out.mono fun e w' h => by
      obtain ⟨L, g, k, he, _, _, _, hb, _⟩ := h
      rw [hr] at he
      exact ⟨⟨_, he⟩, hb⟩)
    clear hr D1 D2 D3 D4
    go_enter Tryz.func49, Tryz.ntmps49
    go_wp2_with (go_at_call 95; (with_reducible refine D1'.out.mono ?_); rintro e w1 ⟨⟨v, rfl⟩, hb1⟩; have hT1 := HB0.out.2.keep hb1 HB0.out.2.lt; have hB1 := Below.step HB0.out.1 HB0.out.1.size hb1; obtain ⟨z0, z1, f0, f1⟩ := box_two hT1; clear hb1)
    refine bodyPost_ret (v := .tuple #[.agg #[.slice none 0 0, .slice none 0 0], .int .i64 0, .bool false]) (by simp [results, Tryz.results49, go_sem, z0, z1]) rfl (told_zero (below_s2 hB1 (Nat.le_refl _) _ _) HW.out)
  · have HR := Lib.hid (show wOk c s = ((nbr (mR s 0)).isSome && (isD (mR s 1) nl && decide (∀ j, j < (mL s).length - 2 → isD (mR s (2 + j)) ni = true))) by rw [HP.out, hr, Bool.true_and])
    have hn3 : 3 ≤ (mL s).length ∧ (mL s).length ≤ 102 := by
      unfold rwB at hr
      rw [Bool.and_eq_true] at hr
      exact of_decide_eq_true hr.2
    obtain ⟨n, hn⟩ : ∃ n, n = (mL s).length := ⟨_, rfl⟩
    have D1' : Hid (Calls Tryz.prog 95 #[.string (str s)] (w.alloc (.cells #[.slice none 0 0, .slice none 0 0] 47)) fun e w' => ∃ g k, e = .returned (.tuple #[.slice (some ⟨g, 0, none⟩) n k, .bool true]) ∧ StrsAt w' w'.heap.size (some ⟨g, 0, none⟩) n (mR s) ∧ w.heap.size + 1 ≤ g ∧ Below (w.alloc (.cells #[.slice none 0 0, .slice none 0 0] 47)).heap.size (w.alloc (.cells #[.slice none 0 0, .slice none 0 0] 47)) w' ∧ n ≤ k ∧ k ≤ 103) := Lib.hid (D1.out.mono fun e w' h => by
      obtain ⟨L, g, k, he, hL, hS, hg, hb, h1, h2⟩ := h
      have hL := hL hr
      subst hL
      rw [hr, ← hn] at he
      rw [← hn] at hS h1
      exact ⟨g, k, he, hS, by simpa using hg, hb, h1, h2⟩)
    have HN := Lib.hid hn
    rw [← hn] at hn3 HR
    obtain ⟨h3, h102⟩ := hn3
    obtain ⟨r0, hr0⟩ : ∃ r0, r0 = str (mR s 0) := ⟨_, rfl⟩
    obtain ⟨r1, hr1⟩ : ∃ r1, r1 = str (mR s 1) := ⟨_, rfl⟩
    obtain ⟨bi, hbi⟩ : ∃ bi, bi = (nbr (mR s 0)).isSome := ⟨_, rfl⟩
    obtain ⟨bf, hbf⟩ : ∃ bf, bf = isD (mR s 1) nl := ⟨_, rfl⟩
    have DI : Hid (∀ W, Below w.heap.size w W → Calls Tryz.prog 96 #[.string r0] W fun e w' => ∃ v, e = .returned (.tuple #[.int .i64 v, .bool bi]) ∧ Below W.heap.size W w' ∧ (bi = true → v = (wBd s : Int))) := Lib.hid fun W hb => by
      rw [hr0]
      refine (D2.out _ (HML.out 0) W hb).mono fun e w' h => ?_
      obtain ⟨v, he, hb2, hv⟩ := h
      rw [← hbi] at he
      refine ⟨v, he, hb2, fun h => ?_⟩
      rw [hbi] at h
      obtain ⟨x, hx⟩ := Option.isSome_iff_exists.1 h
      rw [hv x hx]
      unfold wBd
      rw [hx]; rfl
    have DV : Hid (∀ W, Calls Tryz.prog 97 #[.string r1, .int .i64 x] W fun e w' => ∃ A m k, e = .returned (.tuple #[.slice A m k, .bool bf]) ∧ Below W.heap.size W w' ∧ (bf = true → m = nl ∧ BlsAt w' w'.heap.size A nl (bvD (mR s 1)) ∧ A ≠ none ∧ nl ≤ k ∧ k ≤ maxLen ∧ ∀ a, A = some a → W.heap.size ≤ a.block)) := Lib.hid fun W => by
      rw [hr1, hbf]
      exact D3.out _ (HML.out 1) W
    have HRR := Lib.hid (And.intro hr0 hr1)
    rw [← hbi, ← hbf] at HR
    have HBI := Lib.hid (And.intro hbi hbf)
    clear hr hn hr0 hr1 hbi hbf D1 D2 D3 HP
    cases bi
    · have HW : Hid (wOk c s = false) := Lib.hid (by rw [HR.out]; rfl)
      clear HR D4
      go_enter Tryz.func49, Tryz.ntmps49
      go_wp2_with (first
        | (go_at_call 95; (with_reducible refine D1'.out.mono ?_); rintro e w1 ⟨g, k, rfl, hS1, hg1, hb1, hk1, hk2⟩; have hT1 := HB0.out.2.keep hb1 HB0.out.2.lt; have hB1 := Below.step HB0.out.1 HB0.out.1.size hb1; have y0 : w1.cell? ⟨g, 0, none⟩ = some (.string r0) := (by rw [HRR.out.1, ← at_add]; exact (hS1 (by omega)).elim fun a h => (by obtain ⟨e, _, hc⟩ := h; cases e; exact hc 0 (by omega))); have y1 : w1.cell? ⟨g, 1, none⟩ = some (.string r1) := (by rw [HRR.out.2, ← at_add]; exact (hS1 (by omega)).elim fun a h => (by obtain ⟨e, _, hc⟩ := h; cases e; exact hc 1 (by omega))); have hg1l := cell_lt y0; have HS1 := Lib.hid hS1; clear hS1)
        | (go_at_call 96; (with_reducible refine (DI.out w1 hB1).mono ?_); rintro e w2 ⟨iv, rfl, hb2, hv2⟩; have hT2 := hT1.keep hb2 hT1.lt; have hB2 := Below.step hB1 hB1.size hb2; have y2 : w2.cell? ⟨g, 1, none⟩ = some (.string r1) := (hb2.cell (p := ⟨g, 1, none⟩) hg1l).trans y1; have HV2 := Lib.hid hv2; clear hv2)
        | (go_at_call 97; (with_reducible refine (DV.out w2).mono ?_); rintro e w3 ⟨A3, m3, k3, rfl, hb3, hv3⟩; have hT3 := hT2.keep hb3 hT2.lt; have hB3 := Below.step hB2 hB2.size hb3; obtain ⟨z0, z1, f0, f1⟩ := box_two hT3; have HV3 := Lib.hid hv3; clear hv3))
      refine bodyPost_ret (v := .tuple #[.agg #[.slice none 0 0, .slice none 0 0], .int .i64 0, .bool false]) (by simp [results, Tryz.results49, go_sem, z0, z1]) rfl (told_zero (below_s2 hB3 (Nat.le_refl _) _ _) HW.out)
    · cases bf
      · have HW : Hid (wOk c s = false) := Lib.hid (by rw [HR.out]; rfl)
        clear HR D4
        go_enter Tryz.func49, Tryz.ntmps49
        go_wp2_with (first
          | (go_at_call 95; (with_reducible refine D1'.out.mono ?_); rintro e w1 ⟨g, k, rfl, hS1, hg1, hb1, hk1, hk2⟩; have hT1 := HB0.out.2.keep hb1 HB0.out.2.lt; have hB1 := Below.step HB0.out.1 HB0.out.1.size hb1; have y0 : w1.cell? ⟨g, 0, none⟩ = some (.string r0) := (by rw [HRR.out.1, ← at_add]; exact (hS1 (by omega)).elim fun a h => (by obtain ⟨e, _, hc⟩ := h; cases e; exact hc 0 (by omega))); have y1 : w1.cell? ⟨g, 1, none⟩ = some (.string r1) := (by rw [HRR.out.2, ← at_add]; exact (hS1 (by omega)).elim fun a h => (by obtain ⟨e, _, hc⟩ := h; cases e; exact hc 1 (by omega))); have hg1l := cell_lt y0; have HS1 := Lib.hid hS1; clear hS1)
          | (go_at_call 96; (with_reducible refine (DI.out w1 hB1).mono ?_); rintro e w2 ⟨iv, rfl, hb2, hv2⟩; have hT2 := hT1.keep hb2 hT1.lt; have hB2 := Below.step hB1 hB1.size hb2; have y2 : w2.cell? ⟨g, 1, none⟩ = some (.string r1) := (hb2.cell (p := ⟨g, 1, none⟩) hg1l).trans y1; have HV2 := Lib.hid hv2; clear hv2)
          | (go_at_call 97; (with_reducible refine (DV.out w2).mono ?_); rintro e w3 ⟨A3, m3, k3, rfl, hb3, hv3⟩; have hT3 := hT2.keep hb3 hT2.lt; have hB3 := Below.step hB2 hB2.size hb3; obtain ⟨z0, z1, f0, f1⟩ := box_two hT3; have HV3 := Lib.hid hv3; clear hv3))
        refine bodyPost_ret (v := .tuple #[.agg #[.slice none 0 0, .slice none 0 0], .int .i64 0, .bool false]) (by simp [results, Tryz.results49, go_sem, z0, z1]) rfl (told_zero (below_s2 hB3 (Nat.le_refl _) _ _) HW.out)
      · go_enter Tryz.func49, Tryz.ntmps49
        go_wp2_with (first
          | (go_at_call 95; (with_reducible refine D1'.out.mono ?_); rintro e w1 ⟨g, k, rfl, hS1, hg1, hb1, hk1, hk2⟩; have hT1 := HB0.out.2.keep hb1 HB0.out.2.lt; have hB1 := Below.step HB0.out.1 HB0.out.1.size hb1; have y0 : w1.cell? ⟨g, 0, none⟩ = some (.string r0) := (by rw [HRR.out.1, ← at_add]; exact (hS1 (by omega)).elim fun a h => (by obtain ⟨e, _, hc⟩ := h; cases e; exact hc 0 (by omega))); have y1 : w1.cell? ⟨g, 1, none⟩ = some (.string r1) := (by rw [HRR.out.2, ← at_add]; exact (hS1 (by omega)).elim fun a h => (by obtain ⟨e, _, hc⟩ := h; cases e; exact hc 1 (by omega))); have hg1l := cell_lt y0; have HS1 := Lib.hid hS1; clear hS1)
          | (go_at_call 96; (with_reducible refine (DI.out w1 hB1).mono ?_); rintro e w2 ⟨iv, rfl, hb2, hv2⟩; have hT2 := hT1.keep hb2 hT1.lt; have hB2 := Below.step hB1 hB1.size hb2; have y2 : w2.cell? ⟨g, 1, none⟩ = some (.string r1) := (hb2.cell (p := ⟨g, 1, none⟩) hg1l).trans y1; have HV2 := Lib.hid hv2; clear hv2)
          | (go_at_call 97; (with_reducible refine (DV.out w2).mono ?_); rintro e w3 ⟨A3, m3, k3, rfl, hb3, hv3⟩; have hT3 := hT2.keep hb3 hT2.lt; have hB3 := Below.step hB2 hB2.size hb3; obtain ⟨z0, z1, f0, f1⟩ := box_two hT3; obtain ⟨rfl, hi3, hn3, hk3, hk3b, hl3⟩ := hv3 (by trivial)))
        have hX4 : Has (w3.setCell ⟨w.heap.size, 0, none⟩ (.slice A3 m3 k3)) w.heap.size 47 #[.slice A3 m3 k3, .slice none 0 0] := hT3.set 0 _
        have hgr := grown_set w3 w.heap.size 0 (.slice A3 m3 k3)
        have hS2 := (HS1.out.to hb2 hb2.size).to hb3 hb3.size
        have hS4 := hS2.by hgr (fun _ a ha e => by cases ha; injection e with e; have e2 : g = w.heap.size := e; omega)
        have hz2 := hT2.lt
        have hi4 := hi3.by hgr (fun _ a ha e => by have := hl3 a ha; injection e with e; omega)
        have hB4 : Below w.heap.size w (w3.setCell ⟨w.heap.size, 0, none⟩ (.slice A3 m3 k3)) := hB3.setCell (Nat.le_refl _) _
        have hz4 : w.heap.size < (w3.setCell ⟨w.heap.size, 0, none⟩ (.slice A3 m3 k3)).heap.size := hX4.lt
        have hl4 : ∀ a, A3 = some a → w.heap.size + 1 ≤ a.block := fun a ha => by have := hl3 a ha; omega
        obtain ⟨W4, hW4⟩ : ∃ W4, w3.setCell ⟨w.heap.size, 0, none⟩ (.slice A3 m3 k3) = W4 := ⟨_, rfl⟩
        rw [hW4] at hX4 hS4 hi4 hB4 hz4 ⊢
        have HF := Lib.hid (And.intro hS4 (And.intro hi4 (And.intro hl4 (And.intro hn3 (And.intro hk3 hk3b)))))
        have HX4 := Lib.hid (And.intro hX4 hB4)
        have hgne : g ≠ w.heap.size := by omega
        clear hW4 hT1 hT2 hT3 hB1 hB2 hB3 y0 y1 y2 z0 z1 f0 f1 hb1 hb2 hb3 hS2 hS4 hi3 hi4 hl3 hl4 hn3 hgr HS1 hX4 hB4
        go_loopw [7, 52] (fun u7 i wr => ∃ r : Nat, ∃ v, r ≤ n - 2 ∧ i = .int .i64 r ∧ u7 = .int .i64 iv ∧ Has wr w.heap.size 47 #[.slice A3 m3 k3, v] ∧ Grid wr W4.heap.size v r (fun _ => ni) (fun j => bvD (mR s (2 + j))) (some w.heap.size) W4.heap.size ∧ W4.grownBy wr (some w.heap.size) ∧ Hid (∀ j, j < r → isD (mR s (2 + j)) ni = true)) (fun _ i _ => n - (intOf i).toNat)
        case atStart => exact ⟨0, _, Nat.zero_le _, rfl, rfl, HX4.out.1, Grid.nil _ _ _ _ _, grown_of (Below.refl _ _), Lib.hid fun j hj => absurd hj (Nat.not_lt_zero _)⟩
        case round =>
          obtain ⟨r, v, hr, rfl, rfl, hX, hG, hgw, hD⟩ := hrel
          have hBr : Below w.heap.size w wr := HX4.out.2.grown hgw HX4.out.2.size (fun k hk => by cases hk; exact Nat.le_refl _)
          have hzr := hgw.size
          have hXl := hX.lt
          have x0 : wr.cell? ⟨w.heap.size, 0, none⟩ = some (.slice A3 m3 k3) := hX.cell 0
          have x1 : wr.cell? ⟨w.heap.size, 1, none⟩ = some v := hX.cell 1
          have f0 := hX.fz 0
          have f1 := hX.fz 1
          by_cases hlt : r < n - 2
          · have hSr := HF.out.1.by hgw (fun _ a ha e => by cases ha; injection e with e; have e2 : g = w.heap.size := e; omega)
            obtain ⟨l, hl⟩ : ∃ l, l = mR s (2 + r) := ⟨_, rfl⟩
            obtain ⟨rs, hrs⟩ : ∃ rs, rs = str l := ⟨_, rfl⟩
            have y3 : wr.cell? ⟨g, 2 + r, none⟩ = some (.string rs) := by
              rw [hrs, hl, ← at_add]
              obtain ⟨a, e, _, hc⟩ := hSr (by omega)
              cases e
              exact hc (2 + r) (by omega)
            obtain ⟨bd, hbd⟩ : ∃ bd, bd = isD l ni := ⟨_, rfl⟩
            have DR : Hid (Calls Tryz.prog 97 #[.string rs, .int .i64 y] wr fun e w' => ∃ A m k, e = .returned (.tuple #[.slice A m k, .bool bd]) ∧ Below wr.heap.size wr w' ∧ (bd = true → m = ni ∧ BlsAt w' w'.heap.size A ni (bvD l) ∧ A ≠ none ∧ ni ≤ k ∧ k ≤ maxLen ∧ ∀ a, A = some a → wr.heap.size ≤ a.block)) := Lib.hid (by
              rw [hrs, hbd]
              exact D4.out _ (by rw [hl]; exact HML.out _) wr)
            have hq0 : (0 : Int) ≤ (r : Int) := by omega
            have hq1 : (r : Int) < ((n - 2 : Nat) : Int) := by omega
            have HL := Lib.hid hl
            have HBD := Lib.hid hbd
            have HBR := Lib.hid (And.intro hBr hgw)
            cases hbc : bd
            · have HW : Hid (wOk c s = false) := Lib.hid (by
                rw [HR.out, Bool.true_and, Bool.true_and]
                refine decide_eq_false fun h => ?_
                have := h r hlt
                rw [← HL.out, ← HBD.out, hbc] at this
                cases this)
              rw [hbc] at DR
              clear hbc hbd hl hrs hSr hG hgw hBr HBD
              go_wp2_with (go_at_call 97; (with_reducible refine DR.out.mono ?_); rintro e w6 ⟨A6, m6, k6, rfl, hb6, _⟩; obtain ⟨u0, u1, v0, v1⟩ := box_two (hX.keep hb6 hXl); have hB6 := Below.step HBR.out.1 HBR.out.1.size hb6)
              refine bodyPost_ret (v := .tuple #[.agg #[.slice none 0 0, .slice none 0 0], .int .i64 0, .bool false]) (by simp [results, Tryz.results49, go_sem, u0, u1]) rfl (told_zero (below_s2 hB6 (Nat.le_refl _) _ _) HW.out)
            · rw [hbc] at DR
              have HDN : Hid (∀ j, j < r + 1 → isD (mR s (2 + j)) ni = true) := Lib.hid fun j hj => by
                rcases Nat.lt_succ_iff_lt_or_eq.1 hj with h' | h'
                · exact hD.out j h'
                · subst h'; rw [← HL.out, ← HBD.out, hbc]
              have HLF : Hid (∀ {W : World} {B : Nat} {A : Option Addr}, BlsAt W B A ni (bvD l) → BlsAt W B A ni (bvD (mR s (2 + r)))) := Lib.hid fun h => by rw [← HL.out]; exact h
              clear hbc hbd hl hrs hSr hBr HBD hD
              go_wp2_with (first
                | (go_at_call 97; (with_reducible refine DR.out.mono ?_); rintro e w6 ⟨A6, m6, k6, rfl, hb6, hv6⟩; obtain ⟨rfl, hi6, hn6, _, _, hl6⟩ := hv6 (by trivial); have hX6 := hX.keep hb6 hXl; have hG6 := hG.call hb6; obtain ⟨u0, u1, v0, v1⟩ := box_two hX6; have hg6 := grown_trans HBR.out.2 (grown_of hb6); have hap := hG.apart (m := m6) hl6 (E := some w.heap.size) (fun g hg => by cases hg; exact hXl); have hz6 := hb6.size; have hz6b := hX6.lt; clear hv6)
                | (at_builtin; (refine append_row rfl _ _ _ rfl Tryz.underlying45 W4.heap.size v r (fun _ => m6) (fun j => bvD (mR s (2 + j))) (some w.heap.size) rfl (hG6.al _) w6.heap.size 1 A6 k6 rfl ((Has.new w6 44 #[.slice A6 m6 k6]).cell 0) (HLF.out (hi6.to ((Below.refl _ _).alloc (Nat.le_refl _) _) (by simp))) (fun e => absurd e hn6) hap (by omega) (by simp; omega) ?_ (fun _ a ha => by have := hl6 a ha; omega)); intro v8 w8 hG8 hg8 _; obtain ⟨A8, k8, rfl, _⟩ := hG8.at
                   have hX8 := (hG6.al (.cells #[.slice A6 m6 k6] 44)).has (hX6.al _) hg8 (by omega)
                   have hg8' := grown_over (grown_trans hg6 (grown_al w6 (.cells #[.slice A6 m6 k6] 44) |> fun h => ⟨h.os, h.tape, h.output, h.size, fun i hi hr => h.block i hi (by simp)⟩)) hg8 (fun k hk => (hG6.lt hk).1)
                   obtain ⟨t0, t1, p0, p1⟩ := box_two hX8))
              go_roundw
              case rel => exact ⟨r + 1, _, by omega, by go_num, rfl, hX8.set 1 _, hG8.far (grown_set w8 w.heap.size 1 _) (Or.inr rfl) (Or.inr (fun e => by have := (hG8.lt e).1; omega)) (Or.inl rfl), grown_trans hg8' (grown_set w8 w.heap.size 1 _), HDN⟩
              case measure => simp [intOf]; omega
          · obtain rfl : r = n - 2 := by omega
            obtain ⟨A2, k2, rfl, hi2, hn2, hc2, _⟩ := hG.at
            have hT : TNew wr (w.heap.size + 1) ⟨m3, bvD (mR s 1), n - 2, fun _ => ni, fun j => bvD (mR s (2 + j))⟩ ⟨A3, k3, A2, k2⟩ :=
              ⟨HF.out.2.1.by hgw (fun _ a ha e => by have := HF.out.2.2.1 a ha; injection e with e; omega), fun e => absurd e HF.out.2.2.2.1, HF.out.2.2.1, hG.weak (by omega) (by omega)⟩
            have HW : Hid (wOk c s = true) := Lib.hid (by rw [HR.out, Bool.true_and, Bool.true_and]; exact decide_eq_true hD.out)
            have HT := Lib.hid hT
            have HD := Lib.hid (And.intro hD.out (And.intro hBr hlt))
            clear hT hG hgw hD hi2 hn2 hc2 hr hlt hBr
            go_wp2
            refine bodyPost_ret (v := .tuple #[tv ⟨m3, bvD (mR s 1), n - 2, fun _ => ni, fun j => bvD (mR s (2 + j))⟩ ⟨A3, k3, A2, k2⟩, .int .i64 iv, .bool true]) (by simp [results, Tryz.results49, go_sem, x0, x1]) rfl ⟨_, _, _, by rw [HW.out], below_s2 HD.out.2.1 (Nat.le_refl _) _ _, fun _ => ⟨by unfold wTr; rw [← HN.out, ← HC.out.1, ← HC.out.2], HV2.out (by trivial), ((HT.out.set (Nat.lt_succ_self _) 0 _).set (Nat.lt_succ_self _) 1 _).weak (Nat.le_succ _)⟩⟩

end Go.Proofs.YtbppdifghkkooaaGreatDoor

namespace Go.Proofs.YtbppdifghkkooaaGreatDoor
open Go Go.RowKit
set_option linter.unusedVariables false
set_option linter.unusedSimpArgs false

abbrev rdw (w : World) (c : Cr) (p : Pl) : World := (w.alloc (.cells #[.int .i64 c.i, .slice p.A1 c.nl p.k1, .slice p.A2 c.na p.k2, .slice p.A3 c.nb p.k3, .slice p.A4 c.nc p.k4] 34)).alloc (.cells #[.slice none 0 0, .slice none 0 0] 47)
/-- what Read returns -/
def WrdIs (c : Cr) (s : List UInt8) (w : World) (e : Ending) (w' : World) : Prop :=
  ∃ q : Tp, e = .returned (.tuple #[tv (c.wrT s) q, .int .i64 (c.wrB s : Int), .int .i64 (c.wrE s)]) ∧ TMem w' w'.heap.size (c.wrT s) q ∧ Below w.heap.size w w'
theorem wrd_err {c : Cr} {s : List UInt8} {w w' : World} (hb : Below w.heap.size w w') {x : Int} (h : c.wrE s = x) (h0 : x ≠ 0) : WrdIs c s w (.returned (.tuple #[.agg #[.slice none 0 0, .slice none 0 0], .int .i64 0, .int .i64 x])) w' := by
  have e1 : c.wrT s = z0T := by unfold Cr.wrT; rw [if_neg (by omega)]
  have e2 : c.wrB s = 0 := by unfold Cr.wrB; rw [if_neg (by omega)]
  refine ⟨⟨none, 0, none, 0⟩, by rw [e1, e2, h]; rfl, ?_, hb⟩
  rw [e1]
  exact z0T_mem _ _
theorem wTr_sm {c : Cr} {s : List UInt8} (hs : Sm c) (h : WOk c s) (hi : c.i.toNat ≤ 1000) : TSm (wTr c s) := ⟨hs.nl, by show (mL s).length - 2 ≤ 1000; have := h.n; omega, fun j _ => hi⟩

section
variable {c : Cr} {p : Pl}
set_option maxRecDepth 100000 in
set_option maxHeartbeats 8000000 in
theorem wRead_any (s : List UInt8) (hs : s.length ≤ 100000) (B : Nat) (w : World) (hm : Mem w w.heap.size c p) (hsm : Sm c) (hk3 : c.nb ≤ p.k3 ∧ p.k3 ≤ maxLen) (hE : EnvW B w) (hB : B ≤ w.heap.size) :
    Calls Tryz.prog 22 #[cv c p, .string (str s)] w (WrdIs c s w) := by
  have hB0 : Below w.heap.size w (rdw w c p) := ((Below.refl _ _).alloc (Nat.le_refl _) _).alloc (by simp) _
  have hC0 : Has (rdw w c p) w.heap.size 34 (cc c p) := (Has.new w 34 (cc c p)).al _
  have hZ0 : Has (rdw w c p) (w.heap.size + 1) 47 #[.slice none 0 0, .slice none 0 0] := Has.new' _ _ (by simp)
  have DG : Hid (Calls Tryz.prog 48 #[cv c p] (rdw w c p) fun e w' => e = .returned (.int .i64 c.chk) ∧ Below (rdw w c p).heap.size (rdw w c p) w') := Lib.hid (gCheck_any c p _ (hm.to hB0 hB0.size) hsm)
  have HB0 := Lib.hid (And.intro hB0 (And.intro hC0 hZ0))
  have hb1 : w.heap.size ≤ w.heap.size + 1 := Nat.le_succ _
  by_cases hk : c.chk = 0
  · have hi0 := Cr.chk_i (c := c) (by simpa using hk) hsm
    rw [hk] at DG
    have DT : Hid (∀ W, Below w.heap.size w W → Calls Tryz.prog 49 #[.string (str s), .int .i64 (c.nl : Int), .int .i64 c.i] W (ToldIs c s W)) := Lib.hid fun W hb => told_any c s _ _ rfl (by omega) hsm.nl (by omega) hs B W (hE.next hB hb) (Nat.le_trans hB hb.size)
    obtain ⟨S, hS⟩ : ∃ S, S = str s := ⟨_, rfl⟩
    rw [← hS] at DT ⊢
    cases ho : wOk c s
    · have HR := Lib.hid (show c.wrE s = 12 by unfold Cr.wrE; rw [if_neg (by omega), if_pos ho])
      have DT' : Hid (∀ W, Below w.heap.size w W → Calls Tryz.prog 49 #[.string S, .int .i64 (c.nl : Int), .int .i64 c.i] W fun e w' => (∃ t : Tr, ∃ q : Tp, ∃ b : Int, e = .returned (.tuple #[tv t q, .int .i64 b, .bool false])) ∧ Below W.heap.size W w') := Lib.hid fun W hb => (DT.out W hb).mono fun e w' h => by
        obtain ⟨t, q, b, he, hb', _⟩ := h
        rw [ho] at he
        exact ⟨⟨t, q, b, he⟩, hb'⟩
      clear hB0 hC0 hZ0 hk hm hsm hk3 hE hB DT hS ho hi0
      go_enter Tryz.func22, Tryz.ntmps22
      go_wp2_with (first
        | (go_at_call 48; (with_reducible refine DG.out.mono ?_); rintro e w1 ⟨rfl, hb1'⟩; have hC1 := HB0.out.2.1.keep hb1' HB0.out.2.1.lt; have hZ1 := HB0.out.2.2.keep hb1' HB0.out.2.2.lt; have hB1 := Below.step HB0.out.1 HB0.out.1.size hb1'; obtain ⟨x0, x1, x2, x3, x4⟩ := hC1.box; clear hb1')
        | (go_at_call 49; (with_reducible refine (DT'.out w1 hB1).mono ?_); rintro e w2 ⟨⟨t, q, b, rfl⟩, hb2⟩; have hZ2 := hZ1.keep hb2 hZ1.lt; have hB2 := Below.step hB1 hB1.size hb2; obtain ⟨z0, z1, f0, f1⟩ := box_two (hZ2.al (.cells #[.slice q.A1 t.nf q.k1, .slice q.A2 t.ni q.k2] 47))))
      refine bodyPost_ret (v := .tuple #[.agg #[.slice none 0 0, .slice none 0 0], .int .i64 0, .int .i64 12]) (by simp [results, Tryz.results22, go_sem, z0, z1]) rfl (wrd_err (below_s2 (hB2.alloc hB2.size _) hb1 _ _) HR.out (by decide))
    · have hW := wOk_iff.1 ho
      obtain ⟨t, ht⟩ : ∃ t, t = wTr c s := ⟨_, rfl⟩
      obtain ⟨n, hn⟩ : ∃ n : Int, n = (wBd s : Int) := ⟨_, rfl⟩
      obtain ⟨x, hx⟩ : ∃ x, x = c.wck t n := ⟨_, rfl⟩
      have hx2 : c.wrE s = x := by unfold Cr.wrE; rw [if_neg (by omega), ho, if_neg (by simp), hx, ht, hn]
      have hts := wTr_sm hsm hW (by omega)
      rw [← ht] at hts
      have hnb : I64 n := by
        have := nbr_le hW.b
        rw [hn]
        exact ⟨by omega, by omega⟩
      have DT' : Hid (∀ W, Below w.heap.size w W → Calls Tryz.prog 49 #[.string S, .int .i64 (c.nl : Int), .int .i64 c.i] W fun e w' => ∃ q : Tp, e = .returned (.tuple #[tv t q, .int .i64 n, .bool true]) ∧ TNew w' W.heap.size t q ∧ Below W.heap.size W w') := Lib.hid fun W hb => (DT.out W hb).mono fun e w' h => by
        obtain ⟨t', q, b, he, hb', h3⟩ := h
        rw [ho] at he
        obtain ⟨e1, e2, e3⟩ := h3 ho
        rw [e1, ← ht, e2, ← hn] at he
        rw [e1, ← ht] at e3
        exact ⟨q, he, e3, hb'⟩
      have DC : Hid (∀ W q, Below w.heap.size w W → TNew W (w.heap.size + 1 + 1) t q → Calls Tryz.prog 17 #[cv c p, tv t q, .int .i64 n] W fun e w' => e = .returned (.int .i64 x) ∧ Below W.heap.size W w') := Lib.hid fun W q hb hT => by
        rw [hx]
        exact wCheck_any n hnb W ⟨hm.to hb hb.size, hsm, hT.mem, hts⟩ hk3
      have HX := Lib.hid (And.intro hx2 (And.intro ht hn))
      clear hB0 hC0 hZ0 hk hm hsm hk3 hE hB DT hS ho hi0 hx hx2 ht hn hnb hts hW
      by_cases h0 : x = 0
      · have e0 : (x != 0) = false := by simpa using h0
        have HR : Hid (c.wrT s = t ∧ (c.wrB s : Int) = n ∧ c.wrE s = 0) := Lib.hid (by
          have he : c.wrE s = 0 := HX.out.1.trans h0
          refine ⟨?_, ?_, he⟩
          · unfold Cr.wrT; rw [if_pos he, HX.out.2.1]
          · unfold Cr.wrB; rw [if_pos he, HX.out.2.2])
        clear h0
        go_enter Tryz.func22, Tryz.ntmps22
        go_wp2_with (first
          | (go_at_call 48; (with_reducible refine DG.out.mono ?_); rintro e w1 ⟨rfl, hb1'⟩; have hC1 := HB0.out.2.1.keep hb1' HB0.out.2.1.lt; have hZ1 := HB0.out.2.2.keep hb1' HB0.out.2.2.lt; have hB1 := Below.step HB0.out.1 HB0.out.1.size hb1'; obtain ⟨x0, x1, x2, x3, x4⟩ := hC1.box; clear hb1')
          | (go_at_call 49; (with_reducible refine (DT'.out w1 hB1).mono ?_); rintro e w2 ⟨q, rfl, hT2, hb2⟩; have hC3 := (hC1.keep hb2 hC1.lt).al (.cells #[.slice q.A1 t.nf q.k1, .slice q.A2 t.ni q.k2] 47); have hZ3 := (hZ1.keep hb2 hZ1.lt).al (.cells #[.slice q.A1 t.nf q.k1, .slice q.A2 t.ni q.k2] 47); have hB3 := (Below.step hB1 hB1.size hb2).alloc (Below.step hB1 hB1.size hb2).size (.cells #[.slice q.A1 t.nf q.k1, .slice q.A2 t.ni q.k2] 47); have hX3 : Has (w2.alloc (.cells #[.slice q.A1 t.nf q.k1, .slice q.A2 t.ni q.k2] 47)) w2.heap.size 47 #[.slice q.A1 t.nf q.k1, .slice q.A2 t.ni q.k2] := Has.new _ _ _; have hz1 := hZ1.lt; have hT3 := (hT2.call ((Below.refl w2.heap.size w2).alloc (Nat.le_refl _) (.cells #[.slice q.A1 t.nf q.k1, .slice q.A2 t.ni q.k2] 47))).weak (base' := w.heap.size + 1 + 1) (by omega); obtain ⟨u0, u1, u2, u3, u4⟩ := hC3.box; obtain ⟨v0, v1, v2, v3⟩ := box_two hX3)
          | (go_at_call 17; (with_reducible refine (DC.out _ q hB3 hT3).mono ?_); rintro e w4 ⟨rfl, hb4⟩; have hX4 := hX3.keep hb4 hX3.lt; obtain ⟨y0, y1, y2, y3⟩ := box_two hX4; obtain ⟨z0, z1, f0, f1⟩ := box_two (hZ3.keep hb4 hZ3.lt); have hB4 := Below.step hB3 hB3.size hb4; have hT4 := hT3.call hb4))
        refine bodyPost_ret (v := .tuple #[tv t q, .int .i64 n, .int .i64 0]) (by simp [results, Tryz.results22, go_sem, z0, z1]) rfl ⟨q, by rw [HR.out.1, HR.out.2.1, HR.out.2.2], ?_, below_s2 hB4 hb1 _ _⟩
        rw [HR.out.1]
        exact ((hT4.set (Nat.lt_succ_self _) 0 _).set (Nat.lt_succ_self _) 1 _).mem
      · have e0 : (x != 0) = true := by simpa using h0
        have H0 := Lib.hid h0
        clear h0
        go_enter Tryz.func22, Tryz.ntmps22
        go_wp2_with (first
          | (go_at_call 48; (with_reducible refine DG.out.mono ?_); rintro e w1 ⟨rfl, hb1'⟩; have hC1 := HB0.out.2.1.keep hb1' HB0.out.2.1.lt; have hZ1 := HB0.out.2.2.keep hb1' HB0.out.2.2.lt; have hB1 := Below.step HB0.out.1 HB0.out.1.size hb1'; obtain ⟨x0, x1, x2, x3, x4⟩ := hC1.box; clear hb1')
          | (go_at_call 49; (with_reducible refine (DT'.out w1 hB1).mono ?_); rintro e w2 ⟨q, rfl, hT2, hb2⟩; have hC3 := (hC1.keep hb2 hC1.lt).al (.cells #[.slice q.A1 t.nf q.k1, .slice q.A2 t.ni q.k2] 47); have hZ3 := (hZ1.keep hb2 hZ1.lt).al (.cells #[.slice q.A1 t.nf q.k1, .slice q.A2 t.ni q.k2] 47); have hB3 := (Below.step hB1 hB1.size hb2).alloc (Below.step hB1 hB1.size hb2).size (.cells #[.slice q.A1 t.nf q.k1, .slice q.A2 t.ni q.k2] 47); have hX3 : Has (w2.alloc (.cells #[.slice q.A1 t.nf q.k1, .slice q.A2 t.ni q.k2] 47)) w2.heap.size 47 #[.slice q.A1 t.nf q.k1, .slice q.A2 t.ni q.k2] := Has.new _ _ _; have hz1 := hZ1.lt; have hT3 := (hT2.call ((Below.refl w2.heap.size w2).alloc (Nat.le_refl _) (.cells #[.slice q.A1 t.nf q.k1, .slice q.A2 t.ni q.k2] 47))).weak (base' := w.heap.size + 1 + 1) (by omega); obtain ⟨u0, u1, u2, u3, u4⟩ := hC3.box; obtain ⟨v0, v1, v2, v3⟩ := box_two hX3)
          | (go_at_call 17; (with_reducible refine (DC.out _ q hB3 hT3).mono ?_); rintro e w4 ⟨rfl, hb4⟩; obtain ⟨z0, z1, f0, f1⟩ := box_two (hZ3.keep hb4 hZ3.lt); have hB4 := Below.step hB3 hB3.size hb4))
        refine bodyPost_ret (v := .tuple #[.agg #[.slice none 0 0, .slice none 0 0], .int .i64 0, .int .i64 x]) (by simp [results, Tryz.results22, go_sem, z0, z1]) rfl (wrd_err (below_s2 hB4 hb1 _ _) HX.out.1 H0.out)
  · have HR := Lib.hid (show c.wrE s = c.chk by unfold Cr.wrE; rw [if_pos hk])
    obtain ⟨x, hx⟩ : ∃ x, x = c.chk := ⟨_, rfl⟩
    have e0 : (x != 0) = true := by rw [hx]; simpa using hk
    have H0 : Hid (x ≠ 0) := Lib.hid (by rw [hx]; exact hk)
    rw [← hx] at DG HR
    clear hB0 hC0 hZ0 hk hx hm hsm hk3 hE hB
    go_enter Tryz.func22, Tryz.ntmps22
    go_wp2_with (go_at_call 48; (with_reducible refine DG.out.mono ?_); rintro e w1 ⟨rfl, hb1'⟩; have hB1 := Below.step HB0.out.1 HB0.out.1.size hb1'; obtain ⟨z0, z1, f0, f1⟩ := box_two (HB0.out.2.2.keep hb1' HB0.out.2.2.lt))
    refine bodyPost_ret (v := .tuple #[.agg #[.slice none 0 0, .slice none 0 0], .int .i64 0, .int .i64 x]) (by simp [results, Tryz.results22, go_sem, z0, z1]) rfl (wrd_err (below_s2 hB1 hb1 _ _) HR.out H0.out)
end

end Go.Proofs.YtbppdifghkkooaaGreatDoor
