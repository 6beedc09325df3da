/- States of clauses: the law's walk (written by tools/unstates.py). -/
import Derived.Test.YtecmldnigohjfabDoorUnLaw2
namespace Go.Proofs.YtecmldnigohjfabDoor
open Go Go.RowKit
set_option linter.unusedVariables false
set_option linter.unusedSimpArgs false

theorem wrap_in15 {x : Int} (h0 : -9223372036854775808 ≤ x) (h1 : x ≤ 9223372036854775807) : IntKind.i64.wrap x = x := by
  simp [IntKind.wrap, IntKind.bits, IntKind.signed]; omega
/-- how many of the first literals are true, false, or without a value -/
def mn (t c : List Int) (k : Int) (j : Nat) : Nat := (c.take j).countP fun x => decide (isv t x = k)
theorem mn_0 (t c : List Int) (k : Int) : mn t c k 0 = 0 := by unfold mn; simp
theorem mn_le (t c : List Int) (k : Int) (j : Nat) : mn t c k j ≤ j := Nat.le_trans List.countP_le_length (by rw [List.length_take]; omega)
theorem mn_succ (t c : List Int) (k : Int) {j : Nat} (h : j < c.length) : mn t c k (j + 1) = mn t c k j + (if isv t (c.getD j 0) = k then 1 else 0) := by
  unfold mn
  rw [List.take_succ_eq_append_getElem h, List.countP_append, getD_at h, List.countP_singleton]
  by_cases e : isv t c[j] = k <;> simp [e]
theorem mn_all (t c : List Int) (k : Int) : mn t c k c.length = c.countP fun x => decide (isv t x = k) := by unfold mn; rw [List.take_length]
theorem isv_1 {t : List Int} {x : Int} : isv t x = 1 ↔ x ∈ t := by
  unfold isv
  constructor
  · intro h
    split at h
    · assumption
    · split at h <;> omega
  · intro h; rw [if_pos h]
theorem isv_2 {t : List Int} {x : Int} (h : x ∉ t) : isv t x = 2 ↔ ng x ∉ t := by
  unfold isv
  rw [if_neg h]
  constructor
  · intro h2 h3; rw [if_pos h3] at h2; omega
  · intro h2; rw [if_neg h2]
theorem mn_tru {t c : List Int} : 0 < mn t c 1 c.length ↔ tru t c = true := by
  rw [mn_all, List.countP_pos_iff, tru_iff]
  constructor
  · rintro ⟨x, h1, h2⟩; exact ⟨x, h1, isv_1.1 (of_decide_eq_true h2)⟩
  · rintro ⟨x, h1, h2⟩; exact ⟨x, h1, decide_eq_true (isv_1.2 h2)⟩
theorem mn_nf {t c : List Int} (h : tru t c = false) : mn t c 2 c.length = (nf t c).length := by
  rw [mn_all]
  unfold nf
  rw [List.countP_eq_length_filter]
  congr 1
  refine List.filter_congr fun x hx => ?_
  have hn : x ∉ t := fun hh => by rw [tru_iff.2 ⟨x, hx, hh⟩] at h; cases h
  by_cases e : ng x ∈ t
  · have h2 : ¬ isv t x = 2 := fun h => (isv_2 hn).1 h e
    simp [e, h2]
  · simp [e, (isv_2 hn).2 e]
/-- the state, by the counts -/
theorem st_cases (t c : List Int) : (0 < mn t c 1 c.length ∧ stC t c = 1) ∨ (mn t c 1 c.length = 0 ∧ mn t c 2 c.length = 0 ∧ stC t c = 0) ∨ (mn t c 1 c.length = 0 ∧ mn t c 2 c.length = 1 ∧ stC t c = 3) ∨ (mn t c 1 c.length = 0 ∧ 2 ≤ mn t c 2 c.length ∧ stC t c = 2) := by
  cases ht : tru t c with
  | true => exact Or.inl ⟨mn_tru.2 ht, by unfold stC; rw [if_pos ht]⟩
  | false =>
    have h1 : mn t c 1 c.length = 0 := by
      rcases Nat.eq_zero_or_pos (mn t c 1 c.length) with h | h
      · exact h
      · rw [mn_tru.1 h] at ht; cases ht
    have h2 := mn_nf ht
    refine Or.inr ?_
    unfold stC
    rw [if_neg (by rw [ht]; decide), h1, h2]
    by_cases e0 : (nf t c).length = 0
    · rw [if_pos e0]; exact Or.inl ⟨rfl, e0, rfl⟩
    · rw [if_neg e0]
      by_cases e1 : (nf t c).length = 1
      · rw [if_pos e1]; exact Or.inr (Or.inl ⟨rfl, e1, rfl⟩)
      · rw [if_neg e1]; exact Or.inr (Or.inr ⟨rfl, by omega, rfl⟩)
theorem stX_no {t c : List Int} (h : stC t c ≠ 3) : stX t c = 0 := if_neg h
/-- a literal less -/
theorem st_less {t c : List Int} {i : Nat} (h : stC t (c.take i ++ c.drop (i + 1)) = 2) : stC t c = 2 ∨ stC t c = 1 := by
  have hsub : (c.take i ++ c.drop (i + 1)).Sublist c := by
    conv => rhs; rw [← List.take_append_drop i c]
    refine List.Sublist.append_left ?_ _
    rw [← List.drop_drop (i := 1) (j := i)]
    exact List.drop_sublist _ _
  have hnf : (nf t (c.take i ++ c.drop (i + 1))).length ≤ (nf t c).length := (hsub.filter _).length_le
  have h2 : 2 ≤ (nf t (c.take i ++ c.drop (i + 1))).length := by
    unfold stC at h
    split at h
    · omega
    · split at h
      · omega
      · split at h
        · omega
        · omega
  unfold stC
  by_cases ht : tru t c = true
  · rw [if_pos ht]; exact Or.inr rfl
  · rw [if_neg ht, if_neg (by omega), if_neg (by omega)]; exact Or.inl rfl
theorem less_ok {v : Int} {c : List Int} (h : OkC v c) (i : Nat) : OkC v (c.take i ++ c.drop (i + 1)) := by
  have hsub : (c.take i ++ c.drop (i + 1)).Sublist c := by
    conv => rhs; rw [← List.take_append_drop i c]
    refine List.Sublist.append_left ?_ _
    rw [← List.drop_drop (i := 1) (j := i)]
    exact List.drop_sublist _ _
  exact ⟨fun x hx => h.1 x (hsub.subset hx), h.2.sublist hsub⟩

set_option maxRecDepth 100000 in
set_option maxHeartbeats 40000000 in
theorem states15_any (v : Int) (A : Option Addr) (t : List Int) (k : Nat) (B : Option Addr) (s : List Int) (q : Nat) (D : Option Addr) (c : List Int) (kd : Nat) (ai : Int) (w : World) (hm0 : Ia w w.heap.size A t k) (hr0 : ∀ x ∈ t, I64 x) (hn0 : Ia w w.heap.size B s q) (hk0 : k ≤ 9223372036854775807 ∧ q ≤ 9223372036854775807)
    (hm2 : Ia w w.heap.size D c kd) (hr2 : ∀ x ∈ c, I64 x) (hk2 : kd ≤ 9223372036854775807) (htab : Tab w.heap.size w) :
    Calls Tryd.prog 3 #[asv v A t.length k B s.length q, .slice D c.length kd, .int .i64 ai] w fun e w' => e = .returned (.bool true) ∧ Below w.heap.size w w' := by
  have H0 := Bs.new w (.int .i64 v) (.slice A t.length k) (.slice B s.length q)
  have hb0 := bx_on w (.cells #[.int .i64 v, .slice A t.length k, .slice B s.length q] 24)
  obtain ⟨n, hn⟩ : ∃ n, n = t.length := ⟨_, rfl⟩
  obtain ⟨m, hm⟩ : ∃ m, m = s.length := ⟨_, rfl⟩
  obtain ⟨nc, hnc⟩ : ∃ m, m = c.length := ⟨_, rfl⟩
  have hn63 : t.length ≤ 9223372036854775807 := by have := hm0.c; omega
  have hm63 : s.length ≤ 9223372036854775807 := by have := hn0.c; omega
  have hc63 : c.length ≤ 9223372036854775807 := by have := hm2.c; omega
  have DA := fun (W : World) (hb : Below w.heap.size w W) => alive15_any W (htab.next hb)
  have DG := fun W => rGreat14_any v A t.length k B s.length q W hn63 hm63
  have DK := fun (W : World) (hb : Below w.heap.size w W) => rCheck_any v D c kd W (hm2.on hb) hc63 hr2
  have HB := Lib.hid (And.intro H0 hb0)
  rw [← hn, ← hm] at HB DG ⊢
  rw [← hnc] at DK ⊢
  by_cases hg : 200 < n ∨ 200 < m
  case pos =>
    rw [show decide (200 < n ∨ 200 < m) = true from decide_eq_true hg] at DG
    clear hm0 hr0 hn0 hk0 hm2 hr2 hk2 htab hn hm hnc H0 hb0 hn63 hm63 hc63 hg DK
    go_enter Tryd.func3, Tryd.ntmps3
    go_wp2_with (first
      | (go_at_call 4; (with_reducible refine (DA _ HB.out.2).mono ?_); rintro e w1 ⟨rfl, hb1⟩
         have HB1 := Lib.hid (And.intro (HB.out.1.on hb1) (bn HB.out.2 hb1))
         obtain ⟨c0, c1, c2⟩ := HB1.out.1.c
         clear hb1)
      | (go_at_call 5; (with_reducible refine (DG _).mono ?_); rintro e w2 ⟨rfl, hb2⟩
         have HB2 := Lib.hid (And.intro (HB1.out.1.on hb2) (bn HB1.out.2 hb2))
         obtain ⟨c20, c21, c22⟩ := HB2.out.1.c
         clear hb2))
    go_ret
    exact ⟨rfl, HB2.out.2⟩
  rw [show decide (200 < n ∨ 200 < m) = false from decide_eq_false hg] at DG
  by_cases hg2 : 100 < nc
  case pos =>
    have g1 : decide (100 < nc) = true := decide_eq_true hg2
    have g2 : decide ((100 : Int) < (nc : Int)) = true := decide_eq_true (by omega)
    clear hm0 hr0 hn0 hk0 hm2 hr2 hk2 htab hn hm hnc H0 hb0 hn63 hm63 hc63 hg hg2 DK
    go_enter Tryd.func3, Tryd.ntmps3
    go_wp2_with (first
      | (go_at_call 4; (with_reducible refine (DA _ HB.out.2).mono ?_); rintro e w1 ⟨rfl, hb1⟩
         have HB1 := Lib.hid (And.intro (HB.out.1.on hb1) (bn HB.out.2 hb1))
         obtain ⟨c0, c1, c2⟩ := HB1.out.1.c
         clear hb1)
      | (go_at_call 5; (with_reducible refine (DG _).mono ?_); rintro e w2 ⟨rfl, hb2⟩
         have HB2 := Lib.hid (And.intro (HB1.out.1.on hb2) (bn HB1.out.2 hb2))
         obtain ⟨c20, c21, c22⟩ := HB2.out.1.c
         clear hb2))
    go_ret
    exact ⟨rfl, HB2.out.2⟩
  have g1 : decide (100 < nc) = false := decide_eq_false hg2
  have g2 : decide ((100 : Int) < (nc : Int)) = false := decide_eq_false (by omega)
  have DC := fun (W : World) (hb : Below w.heap.size w W) => rCheck14_any v A t k B s q W (hm0.on hb) (by omega) (hn0.on hb) (by omega)
  rw [← hn, ← hm] at DC
  by_cases hO : OkA v t s
  case neg =>
    rw [aE_no hO] at DC
    clear hm0 hr0 hn0 hk0 hm2 hr2 hk2 htab hn hm hnc H0 hb0 hn63 hm63 hc63 hg hg2 DK hO
    go_enter Tryd.func3, Tryd.ntmps3
    go_wp2_with (first
      | (go_at_call 4; (with_reducible refine (DA _ HB.out.2).mono ?_); rintro e w1 ⟨rfl, hb1⟩
         have HB1 := Lib.hid (And.intro (HB.out.1.on hb1) (bn HB.out.2 hb1))
         obtain ⟨c0, c1, c2⟩ := HB1.out.1.c
         clear hb1)
      | (go_at_call 5; (with_reducible refine (DG _).mono ?_); rintro e w2 ⟨rfl, hb2⟩
         have HB2 := Lib.hid (And.intro (HB1.out.1.on hb2) (bn HB1.out.2 hb2))
         obtain ⟨c20, c21, c22⟩ := HB2.out.1.c
         clear hb2)
      | (go_at_call 6; (with_reducible refine (DC _ HB2.out.2).mono ?_); rintro e w3 ⟨rfl, hb3⟩
         have HB3 := Lib.hid (And.intro (HB2.out.1.on hb3) (bn HB2.out.2 hb3))
         obtain ⟨c30, c31, c32⟩ := HB3.out.1.c
         clear hb3))
    go_ret
    exact ⟨rfl, HB3.out.2⟩
  rw [aE_yes hO] at DC
  by_cases hck : ckE v c = 0
  case neg =>
    have hck2 : (ckE v c != 0) = true := by simpa using hck
    generalize ckE v c = ck at DK hck2
    clear hm0 hr0 hn0 hk0 hm2 hr2 hk2 htab hn hm hnc H0 hb0 hn63 hm63 hc63 hg hg2 hO hck
    go_enter Tryd.func3, Tryd.ntmps3
    go_wp2_with (first
      | (go_at_call 4; (with_reducible refine (DA _ HB.out.2).mono ?_); rintro e w1 ⟨rfl, hb1⟩
         have HB1 := Lib.hid (And.intro (HB.out.1.on hb1) (bn HB.out.2 hb1))
         obtain ⟨c0, c1, c2⟩ := HB1.out.1.c
         clear hb1)
      | (go_at_call 5; (with_reducible refine (DG _).mono ?_); rintro e w2 ⟨rfl, hb2⟩
         have HB2 := Lib.hid (And.intro (HB1.out.1.on hb2) (bn HB1.out.2 hb2))
         obtain ⟨c20, c21, c22⟩ := HB2.out.1.c
         clear hb2)
      | (go_at_call 6; (with_reducible refine (DC _ HB2.out.2).mono ?_); rintro e w3 ⟨rfl, hb3⟩
         have HB3 := Lib.hid (And.intro (HB2.out.1.on hb3) (bn HB2.out.2 hb3))
         obtain ⟨c30, c31, c32⟩ := HB3.out.1.c
         clear hb3)
      | (go_at_call 7; (with_reducible refine (DK _ HB3.out.2).mono ?_); rintro e w4 ⟨rfl, dd, rfl⟩
         have hbd := below_dn (Below.refl w3.heap.size w3) dd
         have HB4 := Lib.hid (And.intro (HB3.out.1.on hbd) (bn HB3.out.2 hbd))
         obtain ⟨c40, c41, c42⟩ := HB4.out.1.c
         clear hbd))
    go_ret
    exact ⟨rfl, HB4.out.2⟩
  rw [hck] at DK
  have hOc := (ckE_0 hck).2.2
  have hv4 : v ≤ 4000 := by have := hO.1; omega
  have hNw := Nw.arg hm0 hn0 hn hm
  have DS := fun (W : World) (hb : Below w.heap.size w W) => (hNw.on hb).state (v := v) (by omega) hO (hm2.on hb) hOc hnc
  have hnc2 : nc ≤ 100 := by omega
  have hz : ∀ w : World, (zeroValue 32).run Tryd.prog w = .ok (.agg #[.int .i64 0, .int .i64 0, .int .i64 0]) w := by intro w; kernel_rfl
  have HX := Lib.hid (And.intro hO (And.intro hOc (And.intro hn (And.intro hm (And.intro hnc (And.intro hNw hm2))))))
  have HSC := Lib.hid (st_cases t c)
  have HLS := Lib.hid (And.intro (fun (h : stC t c = 3) => (stX_3 h)) (fun h => stX_no (t := t) (c := c) h))
  have HG := Lib.hid hg
  have HST : Hid (∀ i : Nat, stC t (c.take i ++ c.drop (i + 1)) = 2 → stC t c = 2 ∨ stC t c = 1) := Lib.hid fun i h => st_less h
  obtain ⟨sc, hsc⟩ : ∃ sc, sc = stC t c := ⟨_, rfl⟩
  obtain ⟨sx, hsx⟩ : ∃ sx, sx = stX t c := ⟨_, rfl⟩
  rw [← hsc, ← hsx] at DS
  rw [← hsc] at HSC HST
  rw [← hsc, ← hsx] at HLS
  clear hsc hsx
  clear hm0 hr0 hn0 hk0 hm2 hr2 hk2 htab hn hm hnc H0 hb0 hn63 hm63 hc63 hg hg2 hO hck hOc hNw
  go_enter Tryd.func3, Tryd.ntmps3
  go_wp2_with (first
    | (go_at_call 4; (with_reducible refine (DA _ HB.out.2).mono ?_); rintro e w1 ⟨rfl, hb1⟩
       have HB1 := Lib.hid (And.intro (HB.out.1.on hb1) (bn HB.out.2 hb1))
       obtain ⟨c0, c1, c2⟩ := HB1.out.1.c
       clear hb1)
    | (go_at_call 5; (with_reducible refine (DG _).mono ?_); rintro e w2 ⟨rfl, hb2⟩
       have HB2 := Lib.hid (And.intro (HB1.out.1.on hb2) (bn HB1.out.2 hb2))
       obtain ⟨c20, c21, c22⟩ := HB2.out.1.c
       clear hb2)
    | (go_at_call 6; (with_reducible refine (DC _ HB2.out.2).mono ?_); rintro e w3 ⟨rfl, hb3⟩
       have HB3 := Lib.hid (And.intro (HB2.out.1.on hb3) (bn HB2.out.2 hb3))
       obtain ⟨c30, c31, c32⟩ := HB3.out.1.c
       clear hb3)
    | (go_at_call 7; (with_reducible refine (DK _ HB3.out.2).mono ?_); rintro e w4 ⟨rfl, dd, rfl⟩
       have hbd := below_dn (Below.refl w3.heap.size w3) dd
       have HB4 := Lib.hid (And.intro (HB3.out.1.on hbd) (bn HB3.out.2 hbd))
       obtain ⟨c40, c41, c42⟩ := HB4.out.1.c
       clear hbd)
    | (go_at_call 8; (with_reducible refine (DS _ HB4.out.2).mono ?_); rintro e w5 ⟨rfl, hb5⟩
       have HB5 := Lib.hid (And.intro (HB4.out.1.on hb5) (bn HB4.out.2 hb5))
       clear hb5))
  clear DA DG DC DK DS c0 c1 c2 c20 c21 c22 c30 c31 c32 c40 c41 c42 HB HB1 HB2 HB3 HB4 g1 g2 hz
  have H5 := Has.new w5 32 #[.int .i64 0, .int .i64 0, .int .i64 0]
  have HB6 := Lib.hid (And.intro (bn HB5.out.2 (bx_on w5 (.cells #[.int .i64 0, .int .i64 0, .int .i64 0] 32))) (HB5.out.1.on (bx_on w5 (.cells #[.int .i64 0, .int .i64 0, .int .i64 0] 32))))
  go_loopw [12] (fun i wr => ∃ j : Nat, j ≤ nc ∧ i = .int .i64 (j : Int) ∧ Below w5.heap.size w5 wr ∧ Has wr w5.heap.size 32 #[.int .i64 (mn t c 0 j : Nat), .int .i64 (mn t c 1 j : Nat), .int .i64 (mn t c 2 j : Nat)]) (fun i _ => nc - (intOf i).toNat)
  case atStart => exact ⟨0, Nat.zero_le _, rfl, bx_on _ _, by rw [mn_0, mn_0, mn_0]; exact H5⟩
  case round =>
    clear H5
    obtain ⟨j, hj, rfl, hB, hH⟩ := hrel
    by_cases hlt : j < nc
    case pos =>
      have hjl : j < c.length := by have := HX.out.2.2.2.2.1; omega
      obtain ⟨b, o, rfl, hbl, hcs⟩ := HX.out.2.2.2.2.2.2.cells (by omega)
      have hbw := bn HB5.out.2 hB
      have y0 := hcs j hjl
      have yy := (hbw.cell (cell_lt y0)).trans y0
      have hj1 : (j : Int) < (nc : Int) := by omega
      have hj0 : (0 : Int) ≤ (j : Int) := by omega
      have DI := fun (W : World) (hb : Below w.heap.size w W) => rIs_any v v hv4 A t k B m q (c.getD j 0) W ((HX.out.2.2.2.2.2.1.on hb).ti) (by have := HX.out.2.2.1; have := HG.out; omega) HX.out.1.2.1 (HX.out.2.1.1 _ (getD_mem hjl))
      rw [← HX.out.2.2.1] at DI
      have HM := Lib.hid (And.intro (mn_succ t c 0 hjl) (And.intro (mn_succ t c 1 hjl) (mn_succ t c 2 hjl)))
      have hM0 := mn_le t c 0 j
      have hM1 := mn_le t c 1 j
      have hM2 := mn_le t c 2 j
      have hir := isv_range t (c.getD j 0)
      generalize c.getD j 0 = u at yy DI HM hir
      generalize isv t u = z at DI HM hir
      generalize mn t c 0 j = m0 at hH HM hM0
      generalize mn t c 1 j = m1 at hH HM hM1
      generalize mn t c 2 j = m2 at hH HM hM2
      obtain ⟨r0, r1, r2⟩ := (HB5.out.1.on hB).c
      have hS0 : (fun W : World => (W.cell? ⟨w.heap.size, 0, none⟩ = some (.int .i64 v) ∧ W.cell? ⟨w.heap.size, 1, none⟩ = some (.slice A n k) ∧ W.cell? ⟨w.heap.size, 2, none⟩ = some (.slice B m q)) ∧ W.cell? ⟨b, o + j, none⟩ = some (.int .i64 u) ∧ W.cell? ⟨w5.heap.size, 0, none⟩ = some (.int .i64 m0) ∧ W.cell? ⟨w5.heap.size, 1, none⟩ = some (.int .i64 m1) ∧ W.cell? ⟨w5.heap.size, 2, none⟩ = some (.int .i64 m2)) wr.drew := ⟨⟨r0, r1, r2⟩, yy, hH.cell 0, hH.cell 1, hH.cell 2⟩
      have HSk : Hid (∀ W, Below wr.heap.size wr W → (fun W : World => (W.cell? ⟨w.heap.size, 0, none⟩ = some (.int .i64 v) ∧ W.cell? ⟨w.heap.size, 1, none⟩ = some (.slice A n k) ∧ W.cell? ⟨w.heap.size, 2, none⟩ = some (.slice B m q)) ∧ W.cell? ⟨b, o + j, none⟩ = some (.int .i64 u) ∧ W.cell? ⟨w5.heap.size, 0, none⟩ = some (.int .i64 m0) ∧ W.cell? ⟨w5.heap.size, 1, none⟩ = some (.int .i64 m1) ∧ W.cell? ⟨w5.heap.size, 2, none⟩ = some (.int .i64 m2)) W) := Lib.hid fun W hb => ⟨(HB5.out.1.on (bn hB hb)).c, (hb.cell (cell_lt yy)).trans yy, (hH.keep hb hH.lt).cell 0, (hH.keep hb hH.lt).cell 1, (hH.keep hb hH.lt).cell 2⟩
      have hz3 : z = 0 ∨ z = 1 ∨ z = 2 := by omega
      have HBr := Lib.hid hB
      have HHr := Lib.hid hH
      clear hB hbw hcs y0 yy r0 r1 r2 hH hir hj
      rcases hz3 with rfl | hz3
      · skip
        go_wp2
        refine wp_slots (fun f => Sz f 146 ∧ Slot f 1 (.slice (some ⟨b, o, none⟩) nc kd) ∧ Slot f 3 (.pointer (some ⟨w.heap.size, 0, none⟩)) ∧ Slot f 11 (.pointer (some ⟨w5.heap.size, 0, none⟩)) ∧ Slot f 12 (.int .i64 (j : Int))) ⟨⟨rfl, rfl⟩, ⟨rfl⟩, ⟨rfl⟩, ⟨rfl⟩, ⟨rfl⟩⟩ fun a0' hA0 hR => ?_
        obtain ⟨hZ, hs1, hs3, hs11, hs12⟩ := hR
        have HA := Lib.hid hA0
        clear hA0
        refine wp_region_T (fun W : World => (W.cell? ⟨w.heap.size, 0, none⟩ = some (.int .i64 v) ∧ W.cell? ⟨w.heap.size, 1, none⟩ = some (.slice A n k) ∧ W.cell? ⟨w.heap.size, 2, none⟩ = some (.slice B m q)) ∧ W.cell? ⟨b, o + j, none⟩ = some (.int .i64 u) ∧ W.cell? ⟨w5.heap.size, 0, none⟩ = some (.int .i64 m0) ∧ W.cell? ⟨w5.heap.size, 1, none⟩ = some (.int .i64 m1) ∧ W.cell? ⟨w5.heap.size, 2, none⟩ = some (.int .i64 m2)) 10 (by kernel_rfl) ?_
        refine WT.h ?_
        (refine wt_take1 0 3 (v := ?_) rfl rfl (by kernel_rfl) (by kernel_rfl) (by kernel_rfl) (by kernel_rfl) (fun _ _ _ h => h) rfl hS0 (by (repeat (first | (refine slot_hit (N := 146) ?_ (by rfl); (repeat (refine sz_put ?_)); assumption; done) | (apply slot_miss; focus rfl))); all_goals assumption) (fun ev hk hv0 w hS => ?_) ?_; rotate_left; focus (obtain ⟨⟨j0, j1, j2⟩, j3, j4, j5, j6⟩ := hS; go_simp; rfl)); (refine wt_move 1 1 rfl rfl (by kernel_rfl) (by kernel_rfl) (by kernel_rfl) (by kernel_rfl) (fun _ _ _ h => h) rfl hS0 (by (repeat (first | (refine slot_hit (N := 146) ?_ (by rfl); (repeat (refine sz_put ?_)); assumption; done) | (apply slot_miss; focus rfl))); all_goals assumption) rfl ?_); (refine wt_move 2 12 rfl rfl (by kernel_rfl) (by kernel_rfl) (by kernel_rfl) (by kernel_rfl) (fun _ _ _ h => h) rfl hS0 (by (repeat (first | (refine slot_hit (N := 146) ?_ (by rfl); (repeat (refine sz_put ?_)); assumption; done) | (apply slot_miss; focus rfl))); all_goals assumption) rfl ?_); (refine wt_take2 3 56 57 (v := ?_) rfl rfl (by kernel_rfl) (by kernel_rfl) (by kernel_rfl) (by kernel_rfl) (fun _ _ _ h => h) rfl hS0 (by (repeat (first | (refine slot_hit (N := 146) ?_ (by rfl); (repeat (refine sz_put ?_)); assumption; done) | (apply slot_miss; focus rfl))); all_goals assumption) (by (repeat (first | (refine slot_hit (N := 146) ?_ (by rfl); (repeat (refine sz_put ?_)); assumption; done) | (apply slot_miss; focus rfl))); all_goals assumption) (fun ev hk hv0 hv1 w hS => ?_) ?_; rotate_left; focus (obtain ⟨⟨j0, j1, j2⟩, j3, j4, j5, j6⟩ := hS; go_simp; rfl)); (refine wt_take1 4 58 (v := ?_) rfl rfl (by kernel_rfl) (by kernel_rfl) (by kernel_rfl) (by kernel_rfl) (fun _ _ _ h => h) rfl hS0 (by (repeat (first | (refine slot_hit (N := 146) ?_ (by rfl); (repeat (refine sz_put ?_)); assumption; done) | (apply slot_miss; focus rfl))); all_goals assumption) (fun ev hk hv0 w hS => ?_) ?_; rotate_left; focus (obtain ⟨⟨j0, j1, j2⟩, j3, j4, j5, j6⟩ := hS; go_simp; rfl))
        refine wt_call2 5 55 59 (by kernel_rfl) rfl rfl rfl (by (repeat (first | (refine slot_hit (N := 146) ?_ (by rfl); (repeat (refine sz_put ?_)); assumption; done) | (apply slot_miss; focus rfl))); all_goals assumption) (by (repeat (first | (refine slot_hit (N := 146) ?_ (by rfl); (repeat (refine sz_put ?_)); assumption; done) | (apply slot_miss; focus rfl))); all_goals assumption) (f := ?_) (args := ?_) (fun ev hk hkf hv0 hv1 => ?_) ?_; rotate_left 2; focus (go_simp; first | rfl | (constructor <;> rfl))
        refine (DI _ (bn (bn HB5.out.2 HBr.out) (below_dn (Below.refl _ _) 1))).mono ?_
        rintro e w6 ⟨rfl, hb6⟩
        have hb6 := bn (below_dn (Below.refl _ _) 1) hb6
        have hS0 := HSk.out w6 hb6
        refine ⟨_, rfl, fun _ => hS0, ?_⟩
        have h6 := HHr.out.keep hb6 HHr.out.lt
        have hc6 := h6.cell 0
        have hf6 := h6.fz 0
        have hlc : w6.cell? ⟨w5.heap.size, 0, none⟩ = some (.int .i64 (m0 : Int)) := hc6
        (refine wt_take2 6 11 60 (v := ?_) rfl rfl (by kernel_rfl) (by kernel_rfl) (by kernel_rfl) (by kernel_rfl) (fun _ _ _ h => h) rfl hS0 (by (repeat (first | (refine slot_hit (N := 146) ?_ (by rfl); (repeat (refine sz_put ?_)); assumption; done) | (apply slot_miss; focus rfl))); all_goals assumption) (by (repeat (first | (refine slot_hit (N := 146) ?_ (by rfl); (repeat (refine sz_put ?_)); assumption; done) | (apply slot_miss; focus rfl))); all_goals assumption) (fun ev hk hv0 hv1 w hS => ?_) ?_; rotate_left; focus (obtain ⟨⟨j0, j1, j2⟩, j3, j4, j5, j6⟩ := hS; go_simp; rfl)); (refine wt_take1 7 61 (v := ?_) rfl rfl (by kernel_rfl) (by kernel_rfl) (by kernel_rfl) (by kernel_rfl) (fun _ _ _ h => h) rfl hS0 (by (repeat (first | (refine slot_hit (N := 146) ?_ (by rfl); (repeat (refine sz_put ?_)); assumption; done) | (apply slot_miss; focus rfl))); all_goals assumption) (fun ev hk hv0 w hS => ?_) ?_; rotate_left; focus (obtain ⟨⟨j0, j1, j2⟩, j3, j4, j5, j6⟩ := hS; go_simp; rfl)); (refine wt_take1 8 62 (v := ?_) rfl rfl (by kernel_rfl) (by kernel_rfl) (by kernel_rfl) (by kernel_rfl) (fun _ _ _ h => h) rfl hS0 (by (repeat (first | (refine slot_hit (N := 146) ?_ (by rfl); (repeat (refine sz_put ?_)); assumption; done) | (apply slot_miss; focus rfl))); all_goals assumption) (fun ev hk hv0 w hS => ?_) ?_; rotate_left; focus (obtain ⟨⟨j0, j1, j2⟩, j3, j4, j5, j6⟩ := hS; go_simp; rfl)); (refine wt_take2 9 11 60 (v := ?_) rfl rfl (by kernel_rfl) (by kernel_rfl) (by kernel_rfl) (by kernel_rfl) (fun _ _ _ h => h) rfl hS0 (by (repeat (first | (refine slot_hit (N := 146) ?_ (by rfl); (repeat (refine sz_put ?_)); assumption; done) | (apply slot_miss; focus rfl))); all_goals assumption) (by (repeat (first | (refine slot_hit (N := 146) ?_ (by rfl); (repeat (refine sz_put ?_)); assumption; done) | (apply slot_miss; focus rfl))); all_goals assumption) (fun ev hk hv0 hv1 w hS => ?_) ?_; rotate_left; focus (obtain ⟨⟨j0, j1, j2⟩, j3, j4, j5, j6⟩ := hS; go_simp; rfl))
        refine wt_act2 10 64 63 (by kernel_rfl) rfl rfl rfl (by (repeat (first | (refine slot_hit (N := 146) ?_ (by rfl); (repeat (refine sz_put ?_)); assumption; done) | (apply slot_miss; focus rfl))); all_goals assumption) (by (repeat (first | (refine slot_hit (N := 146) ?_ (by rfl); (repeat (refine sz_put ?_)); assumption; done) | (apply slot_miss; focus rfl))); all_goals assumption) (w' := ?_) (fun ev hk hv0 hv1 => ?_) ?_; rotate_left; focus (go_simp; rfl)
        have hB7 := (bn HBr.out hb6).setCell (p := ⟨w5.heap.size, 0, none⟩) (Nat.le_refl _) (.int .i64 ((m0 : Int) + 1))
        have hH7 := h6.set 0 (.int .i64 ((m0 : Int) + 1))
        refine ⟨fun h => absurd h (by decide), ?_⟩
        refine wt_done (by kernel_rfl) (NoPanic.normal ?_) _
        have ha := HA.out
        subst ha
        have HW := Lib.hid (And.intro hB7 hH7)
        clear hs1 hs3 hs11 hs12 hZ hS0 HSk DI h6 hc6 hf6 hlc hB7 hH7 hb6
        go_wp2
        go_roundw
        case rel => exact ⟨j + 1, by omega, by go_num, HW.out.1, by rw [HM.out.1, HM.out.2.1, HM.out.2.2]; exact HW.out.2⟩
        case measure => simp [intOf]; omega
      rcases hz3 with rfl | hz3
      · skip
        go_wp2
        refine wp_slots (fun f => Sz f 146 ∧ Slot f 1 (.slice (some ⟨b, o, none⟩) nc kd) ∧ Slot f 3 (.pointer (some ⟨w.heap.size, 0, none⟩)) ∧ Slot f 11 (.pointer (some ⟨w5.heap.size, 0, none⟩)) ∧ Slot f 12 (.int .i64 (j : Int))) ⟨⟨rfl, rfl⟩, ⟨rfl⟩, ⟨rfl⟩, ⟨rfl⟩, ⟨rfl⟩⟩ fun a0' hA0 hR => ?_
        obtain ⟨hZ, hs1, hs3, hs11, hs12⟩ := hR
        have HA := Lib.hid hA0
        clear hA0
        refine wp_region_T (fun W : World => (W.cell? ⟨w.heap.size, 0, none⟩ = some (.int .i64 v) ∧ W.cell? ⟨w.heap.size, 1, none⟩ = some (.slice A n k) ∧ W.cell? ⟨w.heap.size, 2, none⟩ = some (.slice B m q)) ∧ W.cell? ⟨b, o + j, none⟩ = some (.int .i64 u) ∧ W.cell? ⟨w5.heap.size, 0, none⟩ = some (.int .i64 m0) ∧ W.cell? ⟨w5.heap.size, 1, none⟩ = some (.int .i64 m1) ∧ W.cell? ⟨w5.heap.size, 2, none⟩ = some (.int .i64 m2)) 10 (by kernel_rfl) ?_
        refine WT.h ?_
        (refine wt_take1 0 3 (v := ?_) rfl rfl (by kernel_rfl) (by kernel_rfl) (by kernel_rfl) (by kernel_rfl) (fun _ _ _ h => h) rfl hS0 (by (repeat (first | (refine slot_hit (N := 146) ?_ (by rfl); (repeat (refine sz_put ?_)); assumption; done) | (apply slot_miss; focus rfl))); all_goals assumption) (fun ev hk hv0 w hS => ?_) ?_; rotate_left; focus (obtain ⟨⟨j0, j1, j2⟩, j3, j4, j5, j6⟩ := hS; go_simp; rfl)); (refine wt_move 1 1 rfl rfl (by kernel_rfl) (by kernel_rfl) (by kernel_rfl) (by kernel_rfl) (fun _ _ _ h => h) rfl hS0 (by (repeat (first | (refine slot_hit (N := 146) ?_ (by rfl); (repeat (refine sz_put ?_)); assumption; done) | (apply slot_miss; focus rfl))); all_goals assumption) rfl ?_); (refine wt_move 2 12 rfl rfl (by kernel_rfl) (by kernel_rfl) (by kernel_rfl) (by kernel_rfl) (fun _ _ _ h => h) rfl hS0 (by (repeat (first | (refine slot_hit (N := 146) ?_ (by rfl); (repeat (refine sz_put ?_)); assumption; done) | (apply slot_miss; focus rfl))); all_goals assumption) rfl ?_); (refine wt_take2 3 56 57 (v := ?_) rfl rfl (by kernel_rfl) (by kernel_rfl) (by kernel_rfl) (by kernel_rfl) (fun _ _ _ h => h) rfl hS0 (by (repeat (first | (refine slot_hit (N := 146) ?_ (by rfl); (repeat (refine sz_put ?_)); assumption; done) | (apply slot_miss; focus rfl))); all_goals assumption) (by (repeat (first | (refine slot_hit (N := 146) ?_ (by rfl); (repeat (refine sz_put ?_)); assumption; done) | (apply slot_miss; focus rfl))); all_goals assumption) (fun ev hk hv0 hv1 w hS => ?_) ?_; rotate_left; focus (obtain ⟨⟨j0, j1, j2⟩, j3, j4, j5, j6⟩ := hS; go_simp; rfl)); (refine wt_take1 4 58 (v := ?_) rfl rfl (by kernel_rfl) (by kernel_rfl) (by kernel_rfl) (by kernel_rfl) (fun _ _ _ h => h) rfl hS0 (by (repeat (first | (refine slot_hit (N := 146) ?_ (by rfl); (repeat (refine sz_put ?_)); assumption; done) | (apply slot_miss; focus rfl))); all_goals assumption) (fun ev hk hv0 w hS => ?_) ?_; rotate_left; focus (obtain ⟨⟨j0, j1, j2⟩, j3, j4, j5, j6⟩ := hS; go_simp; rfl))
        refine wt_call2 5 55 59 (by kernel_rfl) rfl rfl rfl (by (repeat (first | (refine slot_hit (N := 146) ?_ (by rfl); (repeat (refine sz_put ?_)); assumption; done) | (apply slot_miss; focus rfl))); all_goals assumption) (by (repeat (first | (refine slot_hit (N := 146) ?_ (by rfl); (repeat (refine sz_put ?_)); assumption; done) | (apply slot_miss; focus rfl))); all_goals assumption) (f := ?_) (args := ?_) (fun ev hk hkf hv0 hv1 => ?_) ?_; rotate_left 2; focus (go_simp; first | rfl | (constructor <;> rfl))
        refine (DI _ (bn (bn HB5.out.2 HBr.out) (below_dn (Below.refl _ _) 1))).mono ?_
        rintro e w6 ⟨rfl, hb6⟩
        have hb6 := bn (below_dn (Below.refl _ _) 1) hb6
        have hS0 := HSk.out w6 hb6
        refine ⟨_, rfl, fun _ => hS0, ?_⟩
        have h6 := HHr.out.keep hb6 HHr.out.lt
        have hc6 := h6.cell 1
        have hf6 := h6.fz 1
        have hlc : w6.cell? ⟨w5.heap.size, 1, none⟩ = some (.int .i64 (m1 : Int)) := hc6
        (refine wt_take2 6 11 60 (v := ?_) rfl rfl (by kernel_rfl) (by kernel_rfl) (by kernel_rfl) (by kernel_rfl) (fun _ _ _ h => h) rfl hS0 (by (repeat (first | (refine slot_hit (N := 146) ?_ (by rfl); (repeat (refine sz_put ?_)); assumption; done) | (apply slot_miss; focus rfl))); all_goals assumption) (by (repeat (first | (refine slot_hit (N := 146) ?_ (by rfl); (repeat (refine sz_put ?_)); assumption; done) | (apply slot_miss; focus rfl))); all_goals assumption) (fun ev hk hv0 hv1 w hS => ?_) ?_; rotate_left; focus (obtain ⟨⟨j0, j1, j2⟩, j3, j4, j5, j6⟩ := hS; go_simp; rfl)); (refine wt_take1 7 61 (v := ?_) rfl rfl (by kernel_rfl) (by kernel_rfl) (by kernel_rfl) (by kernel_rfl) (fun _ _ _ h => h) rfl hS0 (by (repeat (first | (refine slot_hit (N := 146) ?_ (by rfl); (repeat (refine sz_put ?_)); assumption; done) | (apply slot_miss; focus rfl))); all_goals assumption) (fun ev hk hv0 w hS => ?_) ?_; rotate_left; focus (obtain ⟨⟨j0, j1, j2⟩, j3, j4, j5, j6⟩ := hS; go_simp; rfl)); (refine wt_take1 8 62 (v := ?_) rfl rfl (by kernel_rfl) (by kernel_rfl) (by kernel_rfl) (by kernel_rfl) (fun _ _ _ h => h) rfl hS0 (by (repeat (first | (refine slot_hit (N := 146) ?_ (by rfl); (repeat (refine sz_put ?_)); assumption; done) | (apply slot_miss; focus rfl))); all_goals assumption) (fun ev hk hv0 w hS => ?_) ?_; rotate_left; focus (obtain ⟨⟨j0, j1, j2⟩, j3, j4, j5, j6⟩ := hS; go_simp; rfl)); (refine wt_take2 9 11 60 (v := ?_) rfl rfl (by kernel_rfl) (by kernel_rfl) (by kernel_rfl) (by kernel_rfl) (fun _ _ _ h => h) rfl hS0 (by (repeat (first | (refine slot_hit (N := 146) ?_ (by rfl); (repeat (refine sz_put ?_)); assumption; done) | (apply slot_miss; focus rfl))); all_goals assumption) (by (repeat (first | (refine slot_hit (N := 146) ?_ (by rfl); (repeat (refine sz_put ?_)); assumption; done) | (apply slot_miss; focus rfl))); all_goals assumption) (fun ev hk hv0 hv1 w hS => ?_) ?_; rotate_left; focus (obtain ⟨⟨j0, j1, j2⟩, j3, j4, j5, j6⟩ := hS; go_simp; rfl))
        refine wt_act2 10 64 63 (by kernel_rfl) rfl rfl rfl (by (repeat (first | (refine slot_hit (N := 146) ?_ (by rfl); (repeat (refine sz_put ?_)); assumption; done) | (apply slot_miss; focus rfl))); all_goals assumption) (by (repeat (first | (refine slot_hit (N := 146) ?_ (by rfl); (repeat (refine sz_put ?_)); assumption; done) | (apply slot_miss; focus rfl))); all_goals assumption) (w' := ?_) (fun ev hk hv0 hv1 => ?_) ?_; rotate_left; focus (go_simp; rfl)
        have hB7 := (bn HBr.out hb6).setCell (p := ⟨w5.heap.size, 1, none⟩) (Nat.le_refl _) (.int .i64 ((m1 : Int) + 1))
        have hH7 := h6.set 1 (.int .i64 ((m1 : Int) + 1))
        refine ⟨fun h => absurd h (by decide), ?_⟩
        refine wt_done (by kernel_rfl) (NoPanic.normal ?_) _
        have ha := HA.out
        subst ha
        have HW := Lib.hid (And.intro hB7 hH7)
        clear hs1 hs3 hs11 hs12 hZ hS0 HSk DI h6 hc6 hf6 hlc hB7 hH7 hb6
        go_wp2
        go_roundw
        case rel => exact ⟨j + 1, by omega, by go_num, HW.out.1, by rw [HM.out.1, HM.out.2.1, HM.out.2.2]; exact HW.out.2⟩
        case measure => simp [intOf]; omega
      obtain rfl := hz3
      go_wp2
      refine wp_slots (fun f => Sz f 146 ∧ Slot f 1 (.slice (some ⟨b, o, none⟩) nc kd) ∧ Slot f 3 (.pointer (some ⟨w.heap.size, 0, none⟩)) ∧ Slot f 11 (.pointer (some ⟨w5.heap.size, 0, none⟩)) ∧ Slot f 12 (.int .i64 (j : Int))) ⟨⟨rfl, rfl⟩, ⟨rfl⟩, ⟨rfl⟩, ⟨rfl⟩, ⟨rfl⟩⟩ fun a0' hA0 hR => ?_
      obtain ⟨hZ, hs1, hs3, hs11, hs12⟩ := hR
      have HA := Lib.hid hA0
      clear hA0
      refine wp_region_T (fun W : World => (W.cell? ⟨w.heap.size, 0, none⟩ = some (.int .i64 v) ∧ W.cell? ⟨w.heap.size, 1, none⟩ = some (.slice A n k) ∧ W.cell? ⟨w.heap.size, 2, none⟩ = some (.slice B m q)) ∧ W.cell? ⟨b, o + j, none⟩ = some (.int .i64 u) ∧ W.cell? ⟨w5.heap.size, 0, none⟩ = some (.int .i64 m0) ∧ W.cell? ⟨w5.heap.size, 1, none⟩ = some (.int .i64 m1) ∧ W.cell? ⟨w5.heap.size, 2, none⟩ = some (.int .i64 m2)) 10 (by kernel_rfl) ?_
      refine WT.h ?_
      (refine wt_take1 0 3 (v := ?_) rfl rfl (by kernel_rfl) (by kernel_rfl) (by kernel_rfl) (by kernel_rfl) (fun _ _ _ h => h) rfl hS0 (by (repeat (first | (refine slot_hit (N := 146) ?_ (by rfl); (repeat (refine sz_put ?_)); assumption; done) | (apply slot_miss; focus rfl))); all_goals assumption) (fun ev hk hv0 w hS => ?_) ?_; rotate_left; focus (obtain ⟨⟨j0, j1, j2⟩, j3, j4, j5, j6⟩ := hS; go_simp; rfl)); (refine wt_move 1 1 rfl rfl (by kernel_rfl) (by kernel_rfl) (by kernel_rfl) (by kernel_rfl) (fun _ _ _ h => h) rfl hS0 (by (repeat (first | (refine slot_hit (N := 146) ?_ (by rfl); (repeat (refine sz_put ?_)); assumption; done) | (apply slot_miss; focus rfl))); all_goals assumption) rfl ?_); (refine wt_move 2 12 rfl rfl (by kernel_rfl) (by kernel_rfl) (by kernel_rfl) (by kernel_rfl) (fun _ _ _ h => h) rfl hS0 (by (repeat (first | (refine slot_hit (N := 146) ?_ (by rfl); (repeat (refine sz_put ?_)); assumption; done) | (apply slot_miss; focus rfl))); all_goals assumption) rfl ?_); (refine wt_take2 3 56 57 (v := ?_) rfl rfl (by kernel_rfl) (by kernel_rfl) (by kernel_rfl) (by kernel_rfl) (fun _ _ _ h => h) rfl hS0 (by (repeat (first | (refine slot_hit (N := 146) ?_ (by rfl); (repeat (refine sz_put ?_)); assumption; done) | (apply slot_miss; focus rfl))); all_goals assumption) (by (repeat (first | (refine slot_hit (N := 146) ?_ (by rfl); (repeat (refine sz_put ?_)); assumption; done) | (apply slot_miss; focus rfl))); all_goals assumption) (fun ev hk hv0 hv1 w hS => ?_) ?_; rotate_left; focus (obtain ⟨⟨j0, j1, j2⟩, j3, j4, j5, j6⟩ := hS; go_simp; rfl)); (refine wt_take1 4 58 (v := ?_) rfl rfl (by kernel_rfl) (by kernel_rfl) (by kernel_rfl) (by kernel_rfl) (fun _ _ _ h => h) rfl hS0 (by (repeat (first | (refine slot_hit (N := 146) ?_ (by rfl); (repeat (refine sz_put ?_)); assumption; done) | (apply slot_miss; focus rfl))); all_goals assumption) (fun ev hk hv0 w hS => ?_) ?_; rotate_left; focus (obtain ⟨⟨j0, j1, j2⟩, j3, j4, j5, j6⟩ := hS; go_simp; rfl))
      refine wt_call2 5 55 59 (by kernel_rfl) rfl rfl rfl (by (repeat (first | (refine slot_hit (N := 146) ?_ (by rfl); (repeat (refine sz_put ?_)); assumption; done) | (apply slot_miss; focus rfl))); all_goals assumption) (by (repeat (first | (refine slot_hit (N := 146) ?_ (by rfl); (repeat (refine sz_put ?_)); assumption; done) | (apply slot_miss; focus rfl))); all_goals assumption) (f := ?_) (args := ?_) (fun ev hk hkf hv0 hv1 => ?_) ?_; rotate_left 2; focus (go_simp; first | rfl | (constructor <;> rfl))
      refine (DI _ (bn (bn HB5.out.2 HBr.out) (below_dn (Below.refl _ _) 1))).mono ?_
      rintro e w6 ⟨rfl, hb6⟩
      have hb6 := bn (below_dn (Below.refl _ _) 1) hb6
      have hS0 := HSk.out w6 hb6
      refine ⟨_, rfl, fun _ => hS0, ?_⟩
      have h6 := HHr.out.keep hb6 HHr.out.lt
      have hc6 := h6.cell 2
      have hf6 := h6.fz 2
      have hlc : w6.cell? ⟨w5.heap.size, 2, none⟩ = some (.int .i64 (m2 : Int)) := hc6
      (refine wt_take2 6 11 60 (v := ?_) rfl rfl (by kernel_rfl) (by kernel_rfl) (by kernel_rfl) (by kernel_rfl) (fun _ _ _ h => h) rfl hS0 (by (repeat (first | (refine slot_hit (N := 146) ?_ (by rfl); (repeat (refine sz_put ?_)); assumption; done) | (apply slot_miss; focus rfl))); all_goals assumption) (by (repeat (first | (refine slot_hit (N := 146) ?_ (by rfl); (repeat (refine sz_put ?_)); assumption; done) | (apply slot_miss; focus rfl))); all_goals assumption) (fun ev hk hv0 hv1 w hS => ?_) ?_; rotate_left; focus (obtain ⟨⟨j0, j1, j2⟩, j3, j4, j5, j6⟩ := hS; go_simp; rfl)); (refine wt_take1 7 61 (v := ?_) rfl rfl (by kernel_rfl) (by kernel_rfl) (by kernel_rfl) (by kernel_rfl) (fun _ _ _ h => h) rfl hS0 (by (repeat (first | (refine slot_hit (N := 146) ?_ (by rfl); (repeat (refine sz_put ?_)); assumption; done) | (apply slot_miss; focus rfl))); all_goals assumption) (fun ev hk hv0 w hS => ?_) ?_; rotate_left; focus (obtain ⟨⟨j0, j1, j2⟩, j3, j4, j5, j6⟩ := hS; go_simp; rfl)); (refine wt_take1 8 62 (v := ?_) rfl rfl (by kernel_rfl) (by kernel_rfl) (by kernel_rfl) (by kernel_rfl) (fun _ _ _ h => h) rfl hS0 (by (repeat (first | (refine slot_hit (N := 146) ?_ (by rfl); (repeat (refine sz_put ?_)); assumption; done) | (apply slot_miss; focus rfl))); all_goals assumption) (fun ev hk hv0 w hS => ?_) ?_; rotate_left; focus (obtain ⟨⟨j0, j1, j2⟩, j3, j4, j5, j6⟩ := hS; go_simp; rfl)); (refine wt_take2 9 11 60 (v := ?_) rfl rfl (by kernel_rfl) (by kernel_rfl) (by kernel_rfl) (by kernel_rfl) (fun _ _ _ h => h) rfl hS0 (by (repeat (first | (refine slot_hit (N := 146) ?_ (by rfl); (repeat (refine sz_put ?_)); assumption; done) | (apply slot_miss; focus rfl))); all_goals assumption) (by (repeat (first | (refine slot_hit (N := 146) ?_ (by rfl); (repeat (refine sz_put ?_)); assumption; done) | (apply slot_miss; focus rfl))); all_goals assumption) (fun ev hk hv0 hv1 w hS => ?_) ?_; rotate_left; focus (obtain ⟨⟨j0, j1, j2⟩, j3, j4, j5, j6⟩ := hS; go_simp; rfl))
      refine wt_act2 10 64 63 (by kernel_rfl) rfl rfl rfl (by (repeat (first | (refine slot_hit (N := 146) ?_ (by rfl); (repeat (refine sz_put ?_)); assumption; done) | (apply slot_miss; focus rfl))); all_goals assumption) (by (repeat (first | (refine slot_hit (N := 146) ?_ (by rfl); (repeat (refine sz_put ?_)); assumption; done) | (apply slot_miss; focus rfl))); all_goals assumption) (w' := ?_) (fun ev hk hv0 hv1 => ?_) ?_; rotate_left; focus (go_simp; rfl)
      have hB7 := (bn HBr.out hb6).setCell (p := ⟨w5.heap.size, 2, none⟩) (Nat.le_refl _) (.int .i64 ((m2 : Int) + 1))
      have hH7 := h6.set 2 (.int .i64 ((m2 : Int) + 1))
      refine ⟨fun h => absurd h (by decide), ?_⟩
      refine wt_done (by kernel_rfl) (NoPanic.normal ?_) _
      have ha := HA.out
      subst ha
      have HW := Lib.hid (And.intro hB7 hH7)
      clear hs1 hs3 hs11 hs12 hZ hS0 HSk DI h6 hc6 hf6 hlc hB7 hH7 hb6
      go_wp2
      go_roundw
      case rel => exact ⟨j + 1, by omega, by go_num, HW.out.1, by rw [HM.out.1, HM.out.2.1, HM.out.2.2]; exact HW.out.2⟩
      case measure => simp [intOf]; omega
    case neg =>
      obtain rfl : j = nc := by omega
      have hjn : ¬ (j : Int) < (j : Int) := by omega
      have hw := HSC.out
      rw [← HX.out.2.2.2.2.1] at hw
      have hM1 := mn_le t c 1 j
      have hM2 := mn_le t c 2 j
      generalize mn t c 0 j = m0 at hH
      generalize mn t c 1 j = m1 at hH hw hM1
      generalize mn t c 2 j = m2 at hH hw hM2
      have HBr := Lib.hid (And.intro (bn HB5.out.2 hB) (And.intro (HB5.out.1.on hB) hH))
      obtain ⟨r0, r1, r2⟩ := HBr.out.2.1.c
      have q0 : wr.cell? ⟨w5.heap.size, 0, none⟩ = some (.int .i64 (m0 : Int)) := hH.cell 0
      have q1 : wr.cell? ⟨w5.heap.size, 1, none⟩ = some (.int .i64 (m1 : Int)) := hH.cell 1
      have q2 : wr.cell? ⟨w5.heap.size, 2, none⟩ = some (.int .i64 (m2 : Int)) := hH.cell 2
      have hz5 : w5.heap.size < wr.heap.size := hH.lt
      clear hB hH
      have DI := fun (hL : isL v sx = true) (W : World) (hb : Below w.heap.size w W) => rIs_any v v hv4 A t k B m q sx W ((HX.out.2.2.2.2.2.1.on hb).ti) (by have := HX.out.2.2.1; have := HG.out; omega) HX.out.1.2.1 hL
      rw [← HX.out.2.2.1] at DI
      have DH := fun (W : World) (hb : Below w.heap.size w W) => rHas_any D c kd sx W.heap.size W (HX.out.2.2.2.2.2.2.on hb) (by have := HX.out.2.2.2.2.1; omega)
      rw [← HX.out.2.2.2.2.1] at DH
      rcases hw with ⟨h1, rfl⟩ | ⟨rfl, h2, rfl⟩ | ⟨rfl, h2, rfl⟩ | ⟨rfl, h2, rfl⟩
      · skip
        obtain rfl : sx = 0 := HLS.out.2 (by omega)
        have hf : ((m1 : Int) == 0) = false := by simpa using (show ¬ (m1 : Int) = 0 by omega)
        have hf' : (m1 == 0) = false := by simpa using (show ¬ m1 = 0 by omega)
        clear DI DH
        have HBq := Lib.hid (And.intro HBr.out.1 HBr.out.2.1)
        by_cases ha1 : ai < 0
        case pos =>
          have g1 : decide (ai < 0) = true := decide_eq_true ha1
          clear ha1
          go_wp2
          go_ret
          exact ⟨rfl, HBq.out.1⟩
        have g1 : decide (ai < 0) = false := decide_eq_false ha1
        by_cases ha2 : (j : Int) ≤ ai
        case pos =>
          have g2 : decide ((j : Int) ≤ ai) = true := decide_eq_true ha2
          clear ha1 ha2
          go_wp2
          go_ret
          exact ⟨rfl, HBq.out.1⟩
        obtain ⟨i, rfl⟩ : ∃ i : Nat, ai = i := ⟨ai.toNat, by omega⟩
        have g2 : decide (j ≤ i) = false := decide_eq_false (by omega)
        have g2' : decide ((j : Int) ≤ (i : Int)) = false := decide_eq_false (by omega)
        have hil : i < j := by omega
        obtain ⟨At, hto, hIt⟩ := HX.out.2.2.2.2.2.2.upto i (by have := HX.out.2.2.2.2.1; omega)
        obtain ⟨Af, kf, hfrom, hIf⟩ := HX.out.2.2.2.2.2.2.from (i + 1) (by have := HX.out.2.2.2.2.1; omega)
        rw [← HX.out.2.2.2.2.1] at hto hfrom
        rw [show ((i + 1 : Nat) : Int) = (i : Int) + 1 by omega] at hfrom
        obtain ⟨nt, hnt⟩ : ∃ nt, nt = (c.take i).length := ⟨_, rfl⟩
        obtain ⟨nd, hnd⟩ : ∃ nd, nd = (c.drop (i + 1)).length := ⟨_, rfl⟩
        rw [← hnt] at hto
        rw [← hnd] at hfrom
        have HCU := Lib.hid (And.intro hIt (And.intro hIf (And.intro hnt (And.intro hnd (And.intro (show (c.take i).length ≤ 100 by rw [List.length_take]; have := HX.out.2.2.2.2.1; omega) (show (c.drop (i + 1)).length ≤ 100 by rw [List.length_drop]; have := HX.out.2.2.2.2.1; omega))))))
        have hi100 : i ≤ 100 := by omega
        have hwr : IntKind.i64.wrap ((i : Int) + 1) = (i : Int) + 1 := wrap_in15 (by omega) (by omega)
        have hs2 := HST.out i
        have D2 := fun (b0 : Nat) (W : World) (hb : Below w.heap.size w W) (A' : Option Addr) (k' nn : Nat) (hI : Ia W W.heap.size A' (c.take i ++ c.drop (i + 1)) k') (hnn : nn = (c.take i ++ c.drop (i + 1)).length) => (HX.out.2.2.2.2.2.1.on hb).state (v := v) (by have := HG.out; omega) HX.out.1 hI (less_ok HX.out.2.1 i) hnn
        generalize stC t (c.take i ++ c.drop (i + 1)) = s2 at D2 hs2
        generalize stX t (c.take i ++ c.drop (i + 1)) = x2 at D2
        have HS2 := Lib.hid hs2
        clear ha1 ha2 hIt hIf hnt hnd hs2 hil
        go_wp2
        have HB7 := HBq
        have hS0 : (fun W : World => W.cell? ⟨w.heap.size, 0, none⟩ = some (.int .i64 v) ∧ W.cell? ⟨w.heap.size, 1, none⟩ = some (.slice A n k) ∧ W.cell? ⟨w.heap.size, 2, none⟩ = some (.slice B m q)) (wr).drew := HB7.out.2.c
        have HSk : Hid (∀ W, Below (wr).heap.size (wr) W → (fun W : World => W.cell? ⟨w.heap.size, 0, none⟩ = some (.int .i64 v) ∧ W.cell? ⟨w.heap.size, 1, none⟩ = some (.slice A n k) ∧ W.cell? ⟨w.heap.size, 2, none⟩ = some (.slice B m q)) W) := Lib.hid fun W hb => (HB7.out.2.on hb).c
        refine wp_slots (fun f => Sz f 146 ∧ Slot f 1 (.slice D j kd) ∧ Slot f 2 (.int .i64 (i : Int)) ∧ Slot f 3 (.pointer (some ⟨w.heap.size, 0, none⟩)) ∧ Slot f 7 (.bool true) ∧ Slot f 8 (.int .u8 1)) ⟨⟨rfl, rfl⟩, ⟨rfl⟩, ⟨rfl⟩, ⟨rfl⟩, ⟨rfl⟩, ⟨rfl⟩⟩ fun a0 hA0 hR => ?_
        obtain ⟨hZ, hs1, hs2, hs3, hs7, hs8⟩ := hR
        clear hA0
        refine wp_region_T (fun W : World => W.cell? ⟨w.heap.size, 0, none⟩ = some (.int .i64 v) ∧ W.cell? ⟨w.heap.size, 1, none⟩ = some (.slice A n k) ∧ W.cell? ⟨w.heap.size, 2, none⟩ = some (.slice B m q)) 19 (by kernel_rfl) ?_
        refine WT.h ?_
        (refine wt_take1 0 3 (v := ?_) rfl rfl (by kernel_rfl) (by kernel_rfl) (by kernel_rfl) (by kernel_rfl) (fun _ _ _ h => h) rfl hS0 (by (repeat (first | (refine slot_hit (N := 146) ?_ (by rfl); (repeat (refine sz_put ?_)); assumption; done) | (apply slot_miss; focus rfl))); all_goals assumption) (fun ev hk hv0 w hS => ?_) ?_; rotate_left; focus (obtain ⟨j0, j1, j2⟩ := hS; go_simp; rfl)); (refine wt_move 2 1 rfl rfl (by kernel_rfl) (by kernel_rfl) (by kernel_rfl) (by kernel_rfl) (fun _ _ _ h => h) rfl hS0 (by (repeat (first | (refine slot_hit (N := 146) ?_ (by rfl); (repeat (refine sz_put ?_)); assumption; done) | (apply slot_miss; focus rfl))); all_goals assumption) rfl ?_); (refine wt_move 3 2 rfl rfl (by kernel_rfl) (by kernel_rfl) (by kernel_rfl) (by kernel_rfl) (fun _ _ _ h => h) rfl hS0 (by (repeat (first | (refine slot_hit (N := 146) ?_ (by rfl); (repeat (refine sz_put ?_)); assumption; done) | (apply slot_miss; focus rfl))); all_goals assumption) rfl ?_)
        (refine wt_take2 4 116 117 (v := ?_) rfl rfl (by kernel_rfl) (by kernel_rfl) (by kernel_rfl) (by kernel_rfl) (fun _ _ _ h => h) rfl hS0 (by (repeat (first | (refine slot_hit (N := 146) ?_ (by rfl); (repeat (refine sz_put ?_)); assumption; done) | (apply slot_miss; focus rfl))); all_goals assumption) (by (repeat (first | (refine slot_hit (N := 146) ?_ (by rfl); (repeat (refine sz_put ?_)); assumption; done) | (apply slot_miss; focus rfl))); all_goals assumption) (fun ev hk hv0 hv1 w hS => ?_) ?_; rotate_left; focus (go_simp; first | exact hto _ | (rw [hto]; done) | (simp only [hto]; done) | rfl))
        (refine wt_move 6 1 rfl rfl (by kernel_rfl) (by kernel_rfl) (by kernel_rfl) (by kernel_rfl) (fun _ _ _ h => h) rfl hS0 (by (repeat (first | (refine slot_hit (N := 146) ?_ (by rfl); (repeat (refine sz_put ?_)); assumption; done) | (apply slot_miss; focus rfl))); all_goals assumption) rfl ?_); (refine wt_move 7 2 rfl rfl (by kernel_rfl) (by kernel_rfl) (by kernel_rfl) (by kernel_rfl) (fun _ _ _ h => h) rfl hS0 (by (repeat (first | (refine slot_hit (N := 146) ?_ (by rfl); (repeat (refine sz_put ?_)); assumption; done) | (apply slot_miss; focus rfl))); all_goals assumption) rfl ?_); (refine wt_take1 8 121 (v := ?_) rfl rfl (by kernel_rfl) (by kernel_rfl) (by kernel_rfl) (by kernel_rfl) (fun _ _ _ h => h) rfl hS0 (by (repeat (first | (refine slot_hit (N := 146) ?_ (by rfl); (repeat (refine sz_put ?_)); assumption; done) | (apply slot_miss; focus rfl))); all_goals assumption) (fun ev hk hv0 w hS => ?_) ?_; rotate_left; focus (obtain ⟨j0, j1, j2⟩ := hS; go_simp; rfl))
        (refine wt_take2 9 120 122 (v := ?_) rfl rfl (by kernel_rfl) (by kernel_rfl) (by kernel_rfl) (by kernel_rfl) (fun _ _ _ h => h) rfl hS0 (by (repeat (first | (refine slot_hit (N := 146) ?_ (by rfl); (repeat (refine sz_put ?_)); assumption; done) | (apply slot_miss; focus rfl))); all_goals assumption) (by (repeat (first | (refine slot_hit (N := 146) ?_ (by rfl); (repeat (refine sz_put ?_)); assumption; done) | (apply slot_miss; focus rfl))); all_goals assumption) (fun ev hk hv0 hv1 w hS => ?_) ?_; rotate_left; focus (go_simp; first | exact hfrom _ | (rw [hfrom]; done) | (simp only [hfrom]; done) | rfl))
        refine wt_val0 1  (by kernel_rfl) rfl rfl rfl  (v := ?_) (w' := ?_) (fun ev hk  => ?_) ?_; rotate_left 2; focus (go_simp; first | rfl | (constructor <;> rfl))
        have hb8 := bn (below_dn (Below.refl (wr).heap.size (wr)) 1) (bx_on (wr).drew (.cells #[] 3))
        refine ⟨fun _ => HSk.out _ hb8, ?_⟩
        have ho8 : Io (wr).heap.size ((wr).drew.alloc (.cells #[] 3)) (.slice (some ⟨(wr).heap.size, 0, none⟩) 0 0) [] := Io.lit (w := (wr).drew) rfl (Nat.le_refl _) (by simp)
        have hs8' : Src ((wr).drew.alloc (.cells #[] 3)) At (c.take i).length kd (iC (c.take i)) := ((HCU.out.1.on HB7.out.1).on hb8).src
        refine wt_append13 5 115 118 (by kernel_rfl) rfl rfl rfl (by (repeat (first | (refine slot_hit (N := 146) ?_ (by rfl); (repeat (refine sz_put ?_)); assumption; done) | (apply slot_miss; focus rfl))); all_goals assumption) (by (repeat (first | (refine slot_hit (N := 146) ?_ (by rfl); (repeat (refine sz_put ?_)); assumption; done) | (apply slot_miss; focus rfl))); all_goals assumption) rfl (fun ty => io_run (wr).heap.size _ [] ho8 At nt kd (c.take i) HCU.out.2.2.1 hs8' (by have := HCU.out.2.2.2.2.1; simp only [List.length_nil]; omega) hb8.size ty) (fun v9 w9 hG9 => ?_)
        have hb9 := hb8.trans hG9.2
        refine ⟨fun _ => HSk.out _ hb9, ?_⟩
        have hs9 : Src w9 Af (c.drop (i + 1)).length kf (iC (c.drop (i + 1))) := ((HCU.out.2.1.on HB7.out.1).on hb9).src
        refine wt_append13 10 119 123 (by kernel_rfl) rfl rfl rfl (by (repeat (first | (refine slot_hit (N := 146) ?_ (by rfl); (repeat (refine sz_put ?_)); assumption; done) | (apply slot_miss; focus rfl))); all_goals assumption) (by (repeat (first | (refine slot_hit (N := 146) ?_ (by rfl); (repeat (refine sz_put ?_)); assumption; done) | (apply slot_miss; focus rfl))); all_goals assumption) rfl (fun ty => io_run (wr).heap.size _ ([] ++ c.take i) hG9.1 Af nd kf (c.drop (i + 1)) HCU.out.2.2.2.1 hs9 (by have := HCU.out.2.2.2.2.1; have := HCU.out.2.2.2.2.2; rw [List.nil_append]; omega) hb9.size ty) (fun v10 w10 hG10 => ?_)
        have hb10 := hb9.trans hG10.2
        refine ⟨fun _ => HSk.out _ hb10, ?_⟩
        have ho10 : Io (wr).heap.size w10 v10 (c.take i ++ c.drop (i + 1)) := hG10.1
        obtain ⟨A10, k10, e10, hI10⟩ := ho10.at
        obtain ⟨n10, hn10⟩ : ∃ n10, n10 = (c.take i ++ c.drop (i + 1)).length := ⟨_, rfl⟩
        rw [← hn10] at e10
        subst e10
        have D10 := D2 0 w10 (bn HB7.out.1 hb10) A10 k10 n10 hI10 hn10
        clear ho8 hs8' hG9 hs9 hG10 ho10 hI10 hn10 D2 hto hfrom
        refine wt_call2 11 114 124 (by kernel_rfl) rfl rfl rfl (by (repeat (first | (refine slot_hit (N := 146) ?_ (by rfl); (repeat (refine sz_put ?_)); assumption; done) | (apply slot_miss; focus rfl))); all_goals assumption) (by (repeat (first | (refine slot_hit (N := 146) ?_ (by rfl); (repeat (refine sz_put ?_)); assumption; done) | (apply slot_miss; focus rfl))); all_goals assumption) (f := ?_) (args := ?_) (fun ev hk hkf hv0 hv1 => ?_) ?_; rotate_left 2; focus (go_simp; first | rfl | (constructor <;> rfl))
        refine D10.mono ?_
        rintro e w11 ⟨rfl, hb11⟩
        have hb11 := Below.step hb10 hb10.size hb11
        have hS0 := HSk.out _ hb11
        refine ⟨_, rfl, fun _ => hS0, ?_⟩
        (refine wt_move 12 125 rfl rfl (by kernel_rfl) (by kernel_rfl) (by kernel_rfl) (by kernel_rfl) (fun _ _ _ h => h) rfl hS0 (by (repeat (first | (refine slot_hit (N := 146) ?_ (by rfl); (repeat (refine sz_put ?_)); assumption; done) | (apply slot_miss; focus rfl))); all_goals assumption) rfl ?_); (refine wt_take1 13 113 (v := ?_) rfl rfl (by kernel_rfl) (by kernel_rfl) (by kernel_rfl) (by kernel_rfl) (fun _ _ _ h => h) rfl hS0 (by (repeat (first | (refine slot_hit (N := 146) ?_ (by rfl); (repeat (refine sz_put ?_)); assumption; done) | (apply slot_miss; focus rfl))); all_goals assumption) (fun ev hk hv0 w hS => ?_) ?_; rotate_left; focus (obtain ⟨j0, j1, j2⟩ := hS; go_simp; rfl)); (refine wt_take1 14 113 (v := ?_) rfl rfl (by kernel_rfl) (by kernel_rfl) (by kernel_rfl) (by kernel_rfl) (fun _ _ _ h => h) rfl hS0 (by (repeat (first | (refine slot_hit (N := 146) ?_ (by rfl); (repeat (refine sz_put ?_)); assumption; done) | (apply slot_miss; focus rfl))); all_goals assumption) (fun ev hk hv0 w hS => ?_) ?_; rotate_left; focus (obtain ⟨j0, j1, j2⟩ := hS; go_simp; rfl)); (refine wt_take1 15 113 (v := ?_) rfl rfl (by kernel_rfl) (by kernel_rfl) (by kernel_rfl) (by kernel_rfl) (fun _ _ _ h => h) rfl hS0 (by (repeat (first | (refine slot_hit (N := 146) ?_ (by rfl); (repeat (refine sz_put ?_)); assumption; done) | (apply slot_miss; focus rfl))); all_goals assumption) (fun ev hk hv0 w hS => ?_) ?_; rotate_left; focus (obtain ⟨j0, j1, j2⟩ := hS; go_simp; rfl)); (refine wt_assign 16 126 rfl rfl (by kernel_rfl) (by kernel_rfl) (by kernel_rfl) (by kernel_rfl) (fun _ _ _ h => h) rfl hS0 (by (repeat (first | (refine slot_hit (N := 146) ?_ (by rfl); (repeat (refine sz_put ?_)); assumption; done) | (apply slot_miss; focus rfl))); all_goals assumption) rfl ?_); (refine wt_assign 17 127 rfl rfl (by kernel_rfl) (by kernel_rfl) (by kernel_rfl) (by kernel_rfl) (fun _ _ _ h => h) rfl hS0 (by (repeat (first | (refine slot_hit (N := 146) ?_ (by rfl); (repeat (refine sz_put ?_)); assumption; done) | (apply slot_miss; focus rfl))); all_goals assumption) rfl ?_); (refine wt_assign 18 128 rfl rfl (by kernel_rfl) (by kernel_rfl) (by kernel_rfl) (by kernel_rfl) (fun _ _ _ h => h) rfl hS0 (by (repeat (first | (refine slot_hit (N := 146) ?_ (by rfl); (repeat (refine sz_put ?_)); assumption; done) | (apply slot_miss; focus rfl))); all_goals assumption) rfl ?_)
        refine wt_known (N := 146) (by kernel_rfl) (by (repeat (refine sz_put ?_)); assumption) [(7, .bool true), (8, .int .u8 1), (14, .int .u8 s2), (16, .int .i64 0)] ⟨(by (repeat (first | (refine slot_hit (N := 146) ?_ (by rfl); (repeat (refine sz_put ?_)); assumption; done) | (apply slot_miss; focus rfl))); all_goals assumption), (by (repeat (first | (refine slot_hit (N := 146) ?_ (by rfl); (repeat (refine sz_put ?_)); assumption; done) | (apply slot_miss; focus rfl))); all_goals assumption), (by (repeat (first | (refine slot_hit (N := 146) ?_ (by rfl); (repeat (refine sz_put ?_)); assumption; done) | (apply slot_miss; focus rfl))); all_goals assumption), (by (repeat (first | (refine slot_hit (N := 146) ?_ (by rfl); (repeat (refine sz_put ?_)); assumption; done) | (apply slot_miss; focus rfl))); all_goals assumption), trivial⟩ fun fv fl hfl => ?_; obtain rfl : fl = [fv 0, fv 1, fv 2, fv 3, fv 4, fv 5, fv 6, (.bool true : Value), (.int .u8 1 : Value), fv 9, fv 10, fv 11, fv 12, fv 13, (.int .u8 s2 : Value), fv 15, (.int .i64 0 : Value), fv 17, fv 18, fv 19, fv 20, fv 21, fv 22, fv 23, fv 24, fv 25, fv 26, fv 27, fv 28, fv 29, fv 30, fv 31, fv 32, fv 33, fv 34, fv 35, fv 36, fv 37, fv 38, fv 39, fv 40, fv 41, fv 42, fv 43, fv 44, fv 45, fv 46, fv 47, fv 48, fv 49, fv 50, fv 51, fv 52, fv 53, fv 54, fv 55, fv 56, fv 57, fv 58, fv 59, fv 60, fv 61, fv 62, fv 63, fv 64, fv 65, fv 66, fv 67, fv 68, fv 69, fv 70, fv 71, fv 72, fv 73, fv 74, fv 75, fv 76, fv 77, fv 78, fv 79, fv 80, fv 81, fv 82, fv 83, fv 84, fv 85, fv 86, fv 87, fv 88, fv 89, fv 90, fv 91, fv 92, fv 93, fv 94, fv 95, fv 96, fv 97, fv 98, fv 99, fv 100, fv 101, fv 102, fv 103, fv 104, fv 105, fv 106, fv 107, fv 108, fv 109, fv 110, fv 111, fv 112, fv 113, fv 114, fv 115, fv 116, fv 117, fv 118, fv 119, fv 120, fv 121, fv 122, fv 123, fv 124, fv 125, fv 126, fv 127, fv 128, fv 129, fv 130, fv 131, fv 132, fv 133, fv 134, fv 135, fv 136, fv 137, fv 138, fv 139, fv 140, fv 141, fv 142, fv 143, fv 144, fv 145] := hfl.symm.trans (by kernel_rfl); clear hfl
        have HB11 := Lib.hid (bn HB7.out.1 hb11)
        clear hS0 HSk hs1 hs2 hs3 hs7 hs8 hb8 hb9 hb10 hb11 D10 hZ
        by_cases h22 : s2 = 2
        case pos =>
          subst h22
          go_wp2
          go_ret
          exact ⟨rfl, HB11.out⟩
        have h23 : (s2 != 2) = true := by simpa using h22
        clear h22
        go_wp2
        go_ret
        exact ⟨rfl, HB11.out⟩
      · skip
        obtain rfl : sx = 0 := HLS.out.2 (by omega)
        obtain rfl := h2
        have hmin : min (2 : Int) 0 = 0 := by decide
        clear DI DH
        have hbs := bx_on wr (.cells #[.int .u8 0, .int .u8 3, .int .u8 2] 5)
        have HBq := Lib.hid (And.intro (bn HBr.out.1 hbs) (HBr.out.2.1.on hbs))
        obtain ⟨p0, p1, p2⟩ := HBq.out.2.c
        by_cases ha1 : ai < 0
        case pos =>
          have g1 : decide (ai < 0) = true := decide_eq_true ha1
          clear ha1
          go_wp2
          go_ret
          exact ⟨rfl, HBq.out.1⟩
        have g1 : decide (ai < 0) = false := decide_eq_false ha1
        by_cases ha2 : (j : Int) ≤ ai
        case pos =>
          have g2 : decide ((j : Int) ≤ ai) = true := decide_eq_true ha2
          clear ha1 ha2
          go_wp2
          go_ret
          exact ⟨rfl, HBq.out.1⟩
        obtain ⟨i, rfl⟩ : ∃ i : Nat, ai = i := ⟨ai.toNat, by omega⟩
        have g2 : decide (j ≤ i) = false := decide_eq_false (by omega)
        have g2' : decide ((j : Int) ≤ (i : Int)) = false := decide_eq_false (by omega)
        have hil : i < j := by omega
        obtain ⟨At, hto, hIt⟩ := HX.out.2.2.2.2.2.2.upto i (by have := HX.out.2.2.2.2.1; omega)
        obtain ⟨Af, kf, hfrom, hIf⟩ := HX.out.2.2.2.2.2.2.from (i + 1) (by have := HX.out.2.2.2.2.1; omega)
        rw [← HX.out.2.2.2.2.1] at hto hfrom
        rw [show ((i + 1 : Nat) : Int) = (i : Int) + 1 by omega] at hfrom
        obtain ⟨nt, hnt⟩ : ∃ nt, nt = (c.take i).length := ⟨_, rfl⟩
        obtain ⟨nd, hnd⟩ : ∃ nd, nd = (c.drop (i + 1)).length := ⟨_, rfl⟩
        rw [← hnt] at hto
        rw [← hnd] at hfrom
        have HCU := Lib.hid (And.intro hIt (And.intro hIf (And.intro hnt (And.intro hnd (And.intro (show (c.take i).length ≤ 100 by rw [List.length_take]; have := HX.out.2.2.2.2.1; omega) (show (c.drop (i + 1)).length ≤ 100 by rw [List.length_drop]; have := HX.out.2.2.2.2.1; omega))))))
        have hi100 : i ≤ 100 := by omega
        have hwr : IntKind.i64.wrap ((i : Int) + 1) = (i : Int) + 1 := wrap_in15 (by omega) (by omega)
        have hs2 := HST.out i
        have D2 := fun (b0 : Nat) (W : World) (hb : Below w.heap.size w W) (A' : Option Addr) (k' nn : Nat) (hI : Ia W W.heap.size A' (c.take i ++ c.drop (i + 1)) k') (hnn : nn = (c.take i ++ c.drop (i + 1)).length) => (HX.out.2.2.2.2.2.1.on hb).state (v := v) (by have := HG.out; omega) HX.out.1 hI (less_ok HX.out.2.1 i) hnn
        generalize stC t (c.take i ++ c.drop (i + 1)) = s2 at D2 hs2
        generalize stX t (c.take i ++ c.drop (i + 1)) = x2 at D2
        have HS2 := Lib.hid hs2
        clear ha1 ha2 hIt hIf hnt hnd hs2 hil
        go_wp2
        generalize hwq : wr.alloc (.cells #[.int .u8 0, .int .u8 3, .int .u8 2] 5) = wq at HBq ⊢
        clear hwq p0 p1 p2
        have HB7 := HBq
        have hS0 : (fun W : World => W.cell? ⟨w.heap.size, 0, none⟩ = some (.int .i64 v) ∧ W.cell? ⟨w.heap.size, 1, none⟩ = some (.slice A n k) ∧ W.cell? ⟨w.heap.size, 2, none⟩ = some (.slice B m q)) (wq).drew := HB7.out.2.c
        have HSk : Hid (∀ W, Below (wq).heap.size (wq) W → (fun W : World => W.cell? ⟨w.heap.size, 0, none⟩ = some (.int .i64 v) ∧ W.cell? ⟨w.heap.size, 1, none⟩ = some (.slice A n k) ∧ W.cell? ⟨w.heap.size, 2, none⟩ = some (.slice B m q)) W) := Lib.hid fun W hb => (HB7.out.2.on hb).c
        refine wp_slots (fun f => Sz f 146 ∧ Slot f 1 (.slice D j kd) ∧ Slot f 2 (.int .i64 (i : Int)) ∧ Slot f 3 (.pointer (some ⟨w.heap.size, 0, none⟩)) ∧ Slot f 7 (.bool true) ∧ Slot f 8 (.int .u8 0)) ⟨⟨rfl, rfl⟩, ⟨rfl⟩, ⟨rfl⟩, ⟨rfl⟩, ⟨rfl⟩, ⟨rfl⟩⟩ fun a0 hA0 hR => ?_
        obtain ⟨hZ, hs1, hs2, hs3, hs7, hs8⟩ := hR
        clear hA0
        refine wp_region_T (fun W : World => W.cell? ⟨w.heap.size, 0, none⟩ = some (.int .i64 v) ∧ W.cell? ⟨w.heap.size, 1, none⟩ = some (.slice A n k) ∧ W.cell? ⟨w.heap.size, 2, none⟩ = some (.slice B m q)) 19 (by kernel_rfl) ?_
        refine WT.h ?_
        (refine wt_take1 0 3 (v := ?_) rfl rfl (by kernel_rfl) (by kernel_rfl) (by kernel_rfl) (by kernel_rfl) (fun _ _ _ h => h) rfl hS0 (by (repeat (first | (refine slot_hit (N := 146) ?_ (by rfl); (repeat (refine sz_put ?_)); assumption; done) | (apply slot_miss; focus rfl))); all_goals assumption) (fun ev hk hv0 w hS => ?_) ?_; rotate_left; focus (obtain ⟨j0, j1, j2⟩ := hS; go_simp; rfl)); (refine wt_move 2 1 rfl rfl (by kernel_rfl) (by kernel_rfl) (by kernel_rfl) (by kernel_rfl) (fun _ _ _ h => h) rfl hS0 (by (repeat (first | (refine slot_hit (N := 146) ?_ (by rfl); (repeat (refine sz_put ?_)); assumption; done) | (apply slot_miss; focus rfl))); all_goals assumption) rfl ?_); (refine wt_move 3 2 rfl rfl (by kernel_rfl) (by kernel_rfl) (by kernel_rfl) (by kernel_rfl) (fun _ _ _ h => h) rfl hS0 (by (repeat (first | (refine slot_hit (N := 146) ?_ (by rfl); (repeat (refine sz_put ?_)); assumption; done) | (apply slot_miss; focus rfl))); all_goals assumption) rfl ?_)
        (refine wt_take2 4 116 117 (v := ?_) rfl rfl (by kernel_rfl) (by kernel_rfl) (by kernel_rfl) (by kernel_rfl) (fun _ _ _ h => h) rfl hS0 (by (repeat (first | (refine slot_hit (N := 146) ?_ (by rfl); (repeat (refine sz_put ?_)); assumption; done) | (apply slot_miss; focus rfl))); all_goals assumption) (by (repeat (first | (refine slot_hit (N := 146) ?_ (by rfl); (repeat (refine sz_put ?_)); assumption; done) | (apply slot_miss; focus rfl))); all_goals assumption) (fun ev hk hv0 hv1 w hS => ?_) ?_; rotate_left; focus (go_simp; first | exact hto _ | (rw [hto]; done) | (simp only [hto]; done) | rfl))
        (refine wt_move 6 1 rfl rfl (by kernel_rfl) (by kernel_rfl) (by kernel_rfl) (by kernel_rfl) (fun _ _ _ h => h) rfl hS0 (by (repeat (first | (refine slot_hit (N := 146) ?_ (by rfl); (repeat (refine sz_put ?_)); assumption; done) | (apply slot_miss; focus rfl))); all_goals assumption) rfl ?_); (refine wt_move 7 2 rfl rfl (by kernel_rfl) (by kernel_rfl) (by kernel_rfl) (by kernel_rfl) (fun _ _ _ h => h) rfl hS0 (by (repeat (first | (refine slot_hit (N := 146) ?_ (by rfl); (repeat (refine sz_put ?_)); assumption; done) | (apply slot_miss; focus rfl))); all_goals assumption) rfl ?_); (refine wt_take1 8 121 (v := ?_) rfl rfl (by kernel_rfl) (by kernel_rfl) (by kernel_rfl) (by kernel_rfl) (fun _ _ _ h => h) rfl hS0 (by (repeat (first | (refine slot_hit (N := 146) ?_ (by rfl); (repeat (refine sz_put ?_)); assumption; done) | (apply slot_miss; focus rfl))); all_goals assumption) (fun ev hk hv0 w hS => ?_) ?_; rotate_left; focus (obtain ⟨j0, j1, j2⟩ := hS; go_simp; rfl))
        (refine wt_take2 9 120 122 (v := ?_) rfl rfl (by kernel_rfl) (by kernel_rfl) (by kernel_rfl) (by kernel_rfl) (fun _ _ _ h => h) rfl hS0 (by (repeat (first | (refine slot_hit (N := 146) ?_ (by rfl); (repeat (refine sz_put ?_)); assumption; done) | (apply slot_miss; focus rfl))); all_goals assumption) (by (repeat (first | (refine slot_hit (N := 146) ?_ (by rfl); (repeat (refine sz_put ?_)); assumption; done) | (apply slot_miss; focus rfl))); all_goals assumption) (fun ev hk hv0 hv1 w hS => ?_) ?_; rotate_left; focus (go_simp; first | exact hfrom _ | (rw [hfrom]; done) | (simp only [hfrom]; done) | rfl))
        refine wt_val0 1  (by kernel_rfl) rfl rfl rfl  (v := ?_) (w' := ?_) (fun ev hk  => ?_) ?_; rotate_left 2; focus (go_simp; first | rfl | (constructor <;> rfl))
        have hb8 := bn (below_dn (Below.refl (wq).heap.size (wq)) 1) (bx_on (wq).drew (.cells #[] 3))
        refine ⟨fun _ => HSk.out _ hb8, ?_⟩
        have ho8 : Io (wq).heap.size ((wq).drew.alloc (.cells #[] 3)) (.slice (some ⟨(wq).heap.size, 0, none⟩) 0 0) [] := Io.lit (w := (wq).drew) rfl (Nat.le_refl _) (by simp)
        have hs8' : Src ((wq).drew.alloc (.cells #[] 3)) At (c.take i).length kd (iC (c.take i)) := ((HCU.out.1.on HB7.out.1).on hb8).src
        refine wt_append13 5 115 118 (by kernel_rfl) rfl rfl rfl (by (repeat (first | (refine slot_hit (N := 146) ?_ (by rfl); (repeat (refine sz_put ?_)); assumption; done) | (apply slot_miss; focus rfl))); all_goals assumption) (by (repeat (first | (refine slot_hit (N := 146) ?_ (by rfl); (repeat (refine sz_put ?_)); assumption; done) | (apply slot_miss; focus rfl))); all_goals assumption) rfl (fun ty => io_run (wq).heap.size _ [] ho8 At nt kd (c.take i) HCU.out.2.2.1 hs8' (by have := HCU.out.2.2.2.2.1; simp only [List.length_nil]; omega) hb8.size ty) (fun v9 w9 hG9 => ?_)
        have hb9 := hb8.trans hG9.2
        refine ⟨fun _ => HSk.out _ hb9, ?_⟩
        have hs9 : Src w9 Af (c.drop (i + 1)).length kf (iC (c.drop (i + 1))) := ((HCU.out.2.1.on HB7.out.1).on hb9).src
        refine wt_append13 10 119 123 (by kernel_rfl) rfl rfl rfl (by (repeat (first | (refine slot_hit (N := 146) ?_ (by rfl); (repeat (refine sz_put ?_)); assumption; done) | (apply slot_miss; focus rfl))); all_goals assumption) (by (repeat (first | (refine slot_hit (N := 146) ?_ (by rfl); (repeat (refine sz_put ?_)); assumption; done) | (apply slot_miss; focus rfl))); all_goals assumption) rfl (fun ty => io_run (wq).heap.size _ ([] ++ c.take i) hG9.1 Af nd kf (c.drop (i + 1)) HCU.out.2.2.2.1 hs9 (by have := HCU.out.2.2.2.2.1; have := HCU.out.2.2.2.2.2; rw [List.nil_append]; omega) hb9.size ty) (fun v10 w10 hG10 => ?_)
        have hb10 := hb9.trans hG10.2
        refine ⟨fun _ => HSk.out _ hb10, ?_⟩
        have ho10 : Io (wq).heap.size w10 v10 (c.take i ++ c.drop (i + 1)) := hG10.1
        obtain ⟨A10, k10, e10, hI10⟩ := ho10.at
        obtain ⟨n10, hn10⟩ : ∃ n10, n10 = (c.take i ++ c.drop (i + 1)).length := ⟨_, rfl⟩
        rw [← hn10] at e10
        subst e10
        have D10 := D2 0 w10 (bn HB7.out.1 hb10) A10 k10 n10 hI10 hn10
        clear ho8 hs8' hG9 hs9 hG10 ho10 hI10 hn10 D2 hto hfrom
        refine wt_call2 11 114 124 (by kernel_rfl) rfl rfl rfl (by (repeat (first | (refine slot_hit (N := 146) ?_ (by rfl); (repeat (refine sz_put ?_)); assumption; done) | (apply slot_miss; focus rfl))); all_goals assumption) (by (repeat (first | (refine slot_hit (N := 146) ?_ (by rfl); (repeat (refine sz_put ?_)); assumption; done) | (apply slot_miss; focus rfl))); all_goals assumption) (f := ?_) (args := ?_) (fun ev hk hkf hv0 hv1 => ?_) ?_; rotate_left 2; focus (go_simp; first | rfl | (constructor <;> rfl))
        refine D10.mono ?_
        rintro e w11 ⟨rfl, hb11⟩
        have hb11 := Below.step hb10 hb10.size hb11
        have hS0 := HSk.out _ hb11
        refine ⟨_, rfl, fun _ => hS0, ?_⟩
        (refine wt_move 12 125 rfl rfl (by kernel_rfl) (by kernel_rfl) (by kernel_rfl) (by kernel_rfl) (fun _ _ _ h => h) rfl hS0 (by (repeat (first | (refine slot_hit (N := 146) ?_ (by rfl); (repeat (refine sz_put ?_)); assumption; done) | (apply slot_miss; focus rfl))); all_goals assumption) rfl ?_); (refine wt_take1 13 113 (v := ?_) rfl rfl (by kernel_rfl) (by kernel_rfl) (by kernel_rfl) (by kernel_rfl) (fun _ _ _ h => h) rfl hS0 (by (repeat (first | (refine slot_hit (N := 146) ?_ (by rfl); (repeat (refine sz_put ?_)); assumption; done) | (apply slot_miss; focus rfl))); all_goals assumption) (fun ev hk hv0 w hS => ?_) ?_; rotate_left; focus (obtain ⟨j0, j1, j2⟩ := hS; go_simp; rfl)); (refine wt_take1 14 113 (v := ?_) rfl rfl (by kernel_rfl) (by kernel_rfl) (by kernel_rfl) (by kernel_rfl) (fun _ _ _ h => h) rfl hS0 (by (repeat (first | (refine slot_hit (N := 146) ?_ (by rfl); (repeat (refine sz_put ?_)); assumption; done) | (apply slot_miss; focus rfl))); all_goals assumption) (fun ev hk hv0 w hS => ?_) ?_; rotate_left; focus (obtain ⟨j0, j1, j2⟩ := hS; go_simp; rfl)); (refine wt_take1 15 113 (v := ?_) rfl rfl (by kernel_rfl) (by kernel_rfl) (by kernel_rfl) (by kernel_rfl) (fun _ _ _ h => h) rfl hS0 (by (repeat (first | (refine slot_hit (N := 146) ?_ (by rfl); (repeat (refine sz_put ?_)); assumption; done) | (apply slot_miss; focus rfl))); all_goals assumption) (fun ev hk hv0 w hS => ?_) ?_; rotate_left; focus (obtain ⟨j0, j1, j2⟩ := hS; go_simp; rfl)); (refine wt_assign 16 126 rfl rfl (by kernel_rfl) (by kernel_rfl) (by kernel_rfl) (by kernel_rfl) (fun _ _ _ h => h) rfl hS0 (by (repeat (first | (refine slot_hit (N := 146) ?_ (by rfl); (repeat (refine sz_put ?_)); assumption; done) | (apply slot_miss; focus rfl))); all_goals assumption) rfl ?_); (refine wt_assign 17 127 rfl rfl (by kernel_rfl) (by kernel_rfl) (by kernel_rfl) (by kernel_rfl) (fun _ _ _ h => h) rfl hS0 (by (repeat (first | (refine slot_hit (N := 146) ?_ (by rfl); (repeat (refine sz_put ?_)); assumption; done) | (apply slot_miss; focus rfl))); all_goals assumption) rfl ?_); (refine wt_assign 18 128 rfl rfl (by kernel_rfl) (by kernel_rfl) (by kernel_rfl) (by kernel_rfl) (fun _ _ _ h => h) rfl hS0 (by (repeat (first | (refine slot_hit (N := 146) ?_ (by rfl); (repeat (refine sz_put ?_)); assumption; done) | (apply slot_miss; focus rfl))); all_goals assumption) rfl ?_)
        refine wt_known (N := 146) (by kernel_rfl) (by (repeat (refine sz_put ?_)); assumption) [(7, .bool true), (8, .int .u8 0), (14, .int .u8 s2), (16, .int .i64 0)] ⟨(by (repeat (first | (refine slot_hit (N := 146) ?_ (by rfl); (repeat (refine sz_put ?_)); assumption; done) | (apply slot_miss; focus rfl))); all_goals assumption), (by (repeat (first | (refine slot_hit (N := 146) ?_ (by rfl); (repeat (refine sz_put ?_)); assumption; done) | (apply slot_miss; focus rfl))); all_goals assumption), (by (repeat (first | (refine slot_hit (N := 146) ?_ (by rfl); (repeat (refine sz_put ?_)); assumption; done) | (apply slot_miss; focus rfl))); all_goals assumption), (by (repeat (first | (refine slot_hit (N := 146) ?_ (by rfl); (repeat (refine sz_put ?_)); assumption; done) | (apply slot_miss; focus rfl))); all_goals assumption), trivial⟩ fun fv fl hfl => ?_; obtain rfl : fl = [fv 0, fv 1, fv 2, fv 3, fv 4, fv 5, fv 6, (.bool true : Value), (.int .u8 0 : Value), fv 9, fv 10, fv 11, fv 12, fv 13, (.int .u8 s2 : Value), fv 15, (.int .i64 0 : Value), fv 17, fv 18, fv 19, fv 20, fv 21, fv 22, fv 23, fv 24, fv 25, fv 26, fv 27, fv 28, fv 29, fv 30, fv 31, fv 32, fv 33, fv 34, fv 35, fv 36, fv 37, fv 38, fv 39, fv 40, fv 41, fv 42, fv 43, fv 44, fv 45, fv 46, fv 47, fv 48, fv 49, fv 50, fv 51, fv 52, fv 53, fv 54, fv 55, fv 56, fv 57, fv 58, fv 59, fv 60, fv 61, fv 62, fv 63, fv 64, fv 65, fv 66, fv 67, fv 68, fv 69, fv 70, fv 71, fv 72, fv 73, fv 74, fv 75, fv 76, fv 77, fv 78, fv 79, fv 80, fv 81, fv 82, fv 83, fv 84, fv 85, fv 86, fv 87, fv 88, fv 89, fv 90, fv 91, fv 92, fv 93, fv 94, fv 95, fv 96, fv 97, fv 98, fv 99, fv 100, fv 101, fv 102, fv 103, fv 104, fv 105, fv 106, fv 107, fv 108, fv 109, fv 110, fv 111, fv 112, fv 113, fv 114, fv 115, fv 116, fv 117, fv 118, fv 119, fv 120, fv 121, fv 122, fv 123, fv 124, fv 125, fv 126, fv 127, fv 128, fv 129, fv 130, fv 131, fv 132, fv 133, fv 134, fv 135, fv 136, fv 137, fv 138, fv 139, fv 140, fv 141, fv 142, fv 143, fv 144, fv 145] := hfl.symm.trans (by kernel_rfl); clear hfl
        have HB11 := Lib.hid (bn HB7.out.1 hb11)
        clear hS0 HSk hs1 hs2 hs3 hs7 hs8 hb8 hb9 hb10 hb11 D10 hZ
        have h23 : (s2 != 2) = true := by
          have h24 : ¬ s2 = 2 := fun h => by have := HS2.out h; omega
          simpa using h24
        go_wp2
        go_ret
        exact ⟨rfl, HB11.out⟩
      · skip
        obtain rfl := h2
        have hmin : min (2 : Int) 1 = 1 := by decide
        have hbs := bx_on wr (.cells #[.int .u8 0, .int .u8 3, .int .u8 2] 5)
        have HBq := Lib.hid (And.intro (bn HBr.out.1 hbs) (HBr.out.2.1.on hbs))
        obtain ⟨p0, p1, p2⟩ := HBq.out.2.c
        obtain ⟨x1, x2, x3, x4⟩ := HLS.out.1 rfl
        have hx0 : (sx != 0) = true := by
          have := isL_iff.1 (HX.out.2.1.1 sx x2)
          have h0 : ¬ sx = 0 := by omega
          simpa using h0
        have DH3 := DH _ HBq.out.1
        have DI3 := DI (HX.out.2.1.1 sx x2) _ HBq.out.1
        rw [show hs c sx = true from hs_iff.2 x2] at DH3
        rw [show isv t sx = 2 by unfold isv; rw [if_neg x3, if_neg x4]] at DI3
        clear DI DH x1 x2 x3 x4
        by_cases ha1 : ai < 0
        case pos =>
          have g1 : decide (ai < 0) = true := decide_eq_true ha1
          clear ha1
          go_wp2_with (first
            | (go_at_call 10; (with_reducible refine DH3.mono ?_); rintro e wz ⟨rfl, rfl⟩)
            | (go_at_call 9; (with_reducible refine DI3.mono ?_); rintro e w7 ⟨rfl, hb7⟩
               have HB7 := Lib.hid (And.intro (bn HBq.out.1 hb7) (HBq.out.2.on hb7))
               clear hb7))
          go_ret
          exact ⟨rfl, HB7.out.1⟩
        have g1 : decide (ai < 0) = false := decide_eq_false ha1
        by_cases ha2 : (j : Int) ≤ ai
        case pos =>
          have g2 : decide ((j : Int) ≤ ai) = true := decide_eq_true ha2
          clear ha1 ha2
          go_wp2_with (first
            | (go_at_call 10; (with_reducible refine DH3.mono ?_); rintro e wz ⟨rfl, rfl⟩)
            | (go_at_call 9; (with_reducible refine DI3.mono ?_); rintro e w7 ⟨rfl, hb7⟩
               have HB7 := Lib.hid (And.intro (bn HBq.out.1 hb7) (HBq.out.2.on hb7))
               clear hb7))
          go_ret
          exact ⟨rfl, HB7.out.1⟩
        obtain ⟨i, rfl⟩ : ∃ i : Nat, ai = i := ⟨ai.toNat, by omega⟩
        have g2 : decide (j ≤ i) = false := decide_eq_false (by omega)
        have g2' : decide ((j : Int) ≤ (i : Int)) = false := decide_eq_false (by omega)
        have hil : i < j := by omega
        obtain ⟨At, hto, hIt⟩ := HX.out.2.2.2.2.2.2.upto i (by have := HX.out.2.2.2.2.1; omega)
        obtain ⟨Af, kf, hfrom, hIf⟩ := HX.out.2.2.2.2.2.2.from (i + 1) (by have := HX.out.2.2.2.2.1; omega)
        rw [← HX.out.2.2.2.2.1] at hto hfrom
        rw [show ((i + 1 : Nat) : Int) = (i : Int) + 1 by omega] at hfrom
        obtain ⟨nt, hnt⟩ : ∃ nt, nt = (c.take i).length := ⟨_, rfl⟩
        obtain ⟨nd, hnd⟩ : ∃ nd, nd = (c.drop (i + 1)).length := ⟨_, rfl⟩
        rw [← hnt] at hto
        rw [← hnd] at hfrom
        have HCU := Lib.hid (And.intro hIt (And.intro hIf (And.intro hnt (And.intro hnd (And.intro (show (c.take i).length ≤ 100 by rw [List.length_take]; have := HX.out.2.2.2.2.1; omega) (show (c.drop (i + 1)).length ≤ 100 by rw [List.length_drop]; have := HX.out.2.2.2.2.1; omega))))))
        have hi100 : i ≤ 100 := by omega
        have hwr : IntKind.i64.wrap ((i : Int) + 1) = (i : Int) + 1 := wrap_in15 (by omega) (by omega)
        have hs2 := HST.out i
        have D2 := fun (b0 : Nat) (W : World) (hb : Below w.heap.size w W) (A' : Option Addr) (k' nn : Nat) (hI : Ia W W.heap.size A' (c.take i ++ c.drop (i + 1)) k') (hnn : nn = (c.take i ++ c.drop (i + 1)).length) => (HX.out.2.2.2.2.2.1.on hb).state (v := v) (by have := HG.out; omega) HX.out.1 hI (less_ok HX.out.2.1 i) hnn
        generalize stC t (c.take i ++ c.drop (i + 1)) = s2 at D2 hs2
        generalize stX t (c.take i ++ c.drop (i + 1)) = x2 at D2
        have HS2 := Lib.hid hs2
        clear ha1 ha2 hIt hIf hnt hnd hs2 hil
        go_wp2_with (first
          | (go_at_call 10; (with_reducible refine DH3.mono ?_); rintro e wz ⟨rfl, rfl⟩)
          | (go_at_call 9; (with_reducible refine DI3.mono ?_); rintro e w7 ⟨rfl, hb7⟩
             have HB7 := Lib.hid (And.intro (bn HBq.out.1 hb7) (HBq.out.2.on hb7))
             clear hb7))
        have hS0 : (fun W : World => W.cell? ⟨w.heap.size, 0, none⟩ = some (.int .i64 v) ∧ W.cell? ⟨w.heap.size, 1, none⟩ = some (.slice A n k) ∧ W.cell? ⟨w.heap.size, 2, none⟩ = some (.slice B m q)) (w7).drew := HB7.out.2.c
        have HSk : Hid (∀ W, Below (w7).heap.size (w7) W → (fun W : World => W.cell? ⟨w.heap.size, 0, none⟩ = some (.int .i64 v) ∧ W.cell? ⟨w.heap.size, 1, none⟩ = some (.slice A n k) ∧ W.cell? ⟨w.heap.size, 2, none⟩ = some (.slice B m q)) W) := Lib.hid fun W hb => (HB7.out.2.on hb).c
        refine wp_slots (fun f => Sz f 146 ∧ Slot f 1 (.slice D j kd) ∧ Slot f 2 (.int .i64 (i : Int)) ∧ Slot f 3 (.pointer (some ⟨w.heap.size, 0, none⟩)) ∧ Slot f 7 (.bool true) ∧ Slot f 8 (.int .u8 3)) ⟨⟨rfl, rfl⟩, ⟨rfl⟩, ⟨rfl⟩, ⟨rfl⟩, ⟨rfl⟩, ⟨rfl⟩⟩ fun a0 hA0 hR => ?_
        obtain ⟨hZ, hs1, hs2, hs3, hs7, hs8⟩ := hR
        clear hA0
        refine wp_region_T (fun W : World => W.cell? ⟨w.heap.size, 0, none⟩ = some (.int .i64 v) ∧ W.cell? ⟨w.heap.size, 1, none⟩ = some (.slice A n k) ∧ W.cell? ⟨w.heap.size, 2, none⟩ = some (.slice B m q)) 19 (by kernel_rfl) ?_
        refine WT.h ?_
        (refine wt_take1 0 3 (v := ?_) rfl rfl (by kernel_rfl) (by kernel_rfl) (by kernel_rfl) (by kernel_rfl) (fun _ _ _ h => h) rfl hS0 (by (repeat (first | (refine slot_hit (N := 146) ?_ (by rfl); (repeat (refine sz_put ?_)); assumption; done) | (apply slot_miss; focus rfl))); all_goals assumption) (fun ev hk hv0 w hS => ?_) ?_; rotate_left; focus (obtain ⟨j0, j1, j2⟩ := hS; go_simp; rfl)); (refine wt_move 2 1 rfl rfl (by kernel_rfl) (by kernel_rfl) (by kernel_rfl) (by kernel_rfl) (fun _ _ _ h => h) rfl hS0 (by (repeat (first | (refine slot_hit (N := 146) ?_ (by rfl); (repeat (refine sz_put ?_)); assumption; done) | (apply slot_miss; focus rfl))); all_goals assumption) rfl ?_); (refine wt_move 3 2 rfl rfl (by kernel_rfl) (by kernel_rfl) (by kernel_rfl) (by kernel_rfl) (fun _ _ _ h => h) rfl hS0 (by (repeat (first | (refine slot_hit (N := 146) ?_ (by rfl); (repeat (refine sz_put ?_)); assumption; done) | (apply slot_miss; focus rfl))); all_goals assumption) rfl ?_)
        (refine wt_take2 4 116 117 (v := ?_) rfl rfl (by kernel_rfl) (by kernel_rfl) (by kernel_rfl) (by kernel_rfl) (fun _ _ _ h => h) rfl hS0 (by (repeat (first | (refine slot_hit (N := 146) ?_ (by rfl); (repeat (refine sz_put ?_)); assumption; done) | (apply slot_miss; focus rfl))); all_goals assumption) (by (repeat (first | (refine slot_hit (N := 146) ?_ (by rfl); (repeat (refine sz_put ?_)); assumption; done) | (apply slot_miss; focus rfl))); all_goals assumption) (fun ev hk hv0 hv1 w hS => ?_) ?_; rotate_left; focus (go_simp; first | exact hto _ | (rw [hto]; done) | (simp only [hto]; done) | rfl))
        (refine wt_move 6 1 rfl rfl (by kernel_rfl) (by kernel_rfl) (by kernel_rfl) (by kernel_rfl) (fun _ _ _ h => h) rfl hS0 (by (repeat (first | (refine slot_hit (N := 146) ?_ (by rfl); (repeat (refine sz_put ?_)); assumption; done) | (apply slot_miss; focus rfl))); all_goals assumption) rfl ?_); (refine wt_move 7 2 rfl rfl (by kernel_rfl) (by kernel_rfl) (by kernel_rfl) (by kernel_rfl) (fun _ _ _ h => h) rfl hS0 (by (repeat (first | (refine slot_hit (N := 146) ?_ (by rfl); (repeat (refine sz_put ?_)); assumption; done) | (apply slot_miss; focus rfl))); all_goals assumption) rfl ?_); (refine wt_take1 8 121 (v := ?_) rfl rfl (by kernel_rfl) (by kernel_rfl) (by kernel_rfl) (by kernel_rfl) (fun _ _ _ h => h) rfl hS0 (by (repeat (first | (refine slot_hit (N := 146) ?_ (by rfl); (repeat (refine sz_put ?_)); assumption; done) | (apply slot_miss; focus rfl))); all_goals assumption) (fun ev hk hv0 w hS => ?_) ?_; rotate_left; focus (obtain ⟨j0, j1, j2⟩ := hS; go_simp; rfl))
        (refine wt_take2 9 120 122 (v := ?_) rfl rfl (by kernel_rfl) (by kernel_rfl) (by kernel_rfl) (by kernel_rfl) (fun _ _ _ h => h) rfl hS0 (by (repeat (first | (refine slot_hit (N := 146) ?_ (by rfl); (repeat (refine sz_put ?_)); assumption; done) | (apply slot_miss; focus rfl))); all_goals assumption) (by (repeat (first | (refine slot_hit (N := 146) ?_ (by rfl); (repeat (refine sz_put ?_)); assumption; done) | (apply slot_miss; focus rfl))); all_goals assumption) (fun ev hk hv0 hv1 w hS => ?_) ?_; rotate_left; focus (go_simp; first | exact hfrom _ | (rw [hfrom]; done) | (simp only [hfrom]; done) | rfl))
        refine wt_val0 1  (by kernel_rfl) rfl rfl rfl  (v := ?_) (w' := ?_) (fun ev hk  => ?_) ?_; rotate_left 2; focus (go_simp; first | rfl | (constructor <;> rfl))
        have hb8 := bn (below_dn (Below.refl (w7).heap.size (w7)) 1) (bx_on (w7).drew (.cells #[] 3))
        refine ⟨fun _ => HSk.out _ hb8, ?_⟩
        have ho8 : Io (w7).heap.size ((w7).drew.alloc (.cells #[] 3)) (.slice (some ⟨(w7).heap.size, 0, none⟩) 0 0) [] := Io.lit (w := (w7).drew) rfl (Nat.le_refl _) (by simp)
        have hs8' : Src ((w7).drew.alloc (.cells #[] 3)) At (c.take i).length kd (iC (c.take i)) := ((HCU.out.1.on HB7.out.1).on hb8).src
        refine wt_append13 5 115 118 (by kernel_rfl) rfl rfl rfl (by (repeat (first | (refine slot_hit (N := 146) ?_ (by rfl); (repeat (refine sz_put ?_)); assumption; done) | (apply slot_miss; focus rfl))); all_goals assumption) (by (repeat (first | (refine slot_hit (N := 146) ?_ (by rfl); (repeat (refine sz_put ?_)); assumption; done) | (apply slot_miss; focus rfl))); all_goals assumption) rfl (fun ty => io_run (w7).heap.size _ [] ho8 At nt kd (c.take i) HCU.out.2.2.1 hs8' (by have := HCU.out.2.2.2.2.1; simp only [List.length_nil]; omega) hb8.size ty) (fun v9 w9 hG9 => ?_)
        have hb9 := hb8.trans hG9.2
        refine ⟨fun _ => HSk.out _ hb9, ?_⟩
        have hs9 : Src w9 Af (c.drop (i + 1)).length kf (iC (c.drop (i + 1))) := ((HCU.out.2.1.on HB7.out.1).on hb9).src
        refine wt_append13 10 119 123 (by kernel_rfl) rfl rfl rfl (by (repeat (first | (refine slot_hit (N := 146) ?_ (by rfl); (repeat (refine sz_put ?_)); assumption; done) | (apply slot_miss; focus rfl))); all_goals assumption) (by (repeat (first | (refine slot_hit (N := 146) ?_ (by rfl); (repeat (refine sz_put ?_)); assumption; done) | (apply slot_miss; focus rfl))); all_goals assumption) rfl (fun ty => io_run (w7).heap.size _ ([] ++ c.take i) hG9.1 Af nd kf (c.drop (i + 1)) HCU.out.2.2.2.1 hs9 (by have := HCU.out.2.2.2.2.1; have := HCU.out.2.2.2.2.2; rw [List.nil_append]; omega) hb9.size ty) (fun v10 w10 hG10 => ?_)
        have hb10 := hb9.trans hG10.2
        refine ⟨fun _ => HSk.out _ hb10, ?_⟩
        have ho10 : Io (w7).heap.size w10 v10 (c.take i ++ c.drop (i + 1)) := hG10.1
        obtain ⟨A10, k10, e10, hI10⟩ := ho10.at
        obtain ⟨n10, hn10⟩ : ∃ n10, n10 = (c.take i ++ c.drop (i + 1)).length := ⟨_, rfl⟩
        rw [← hn10] at e10
        subst e10
        have D10 := D2 0 w10 (bn HB7.out.1 hb10) A10 k10 n10 hI10 hn10
        clear ho8 hs8' hG9 hs9 hG10 ho10 hI10 hn10 D2 hto hfrom
        refine wt_call2 11 114 124 (by kernel_rfl) rfl rfl rfl (by (repeat (first | (refine slot_hit (N := 146) ?_ (by rfl); (repeat (refine sz_put ?_)); assumption; done) | (apply slot_miss; focus rfl))); all_goals assumption) (by (repeat (first | (refine slot_hit (N := 146) ?_ (by rfl); (repeat (refine sz_put ?_)); assumption; done) | (apply slot_miss; focus rfl))); all_goals assumption) (f := ?_) (args := ?_) (fun ev hk hkf hv0 hv1 => ?_) ?_; rotate_left 2; focus (go_simp; first | rfl | (constructor <;> rfl))
        refine D10.mono ?_
        rintro e w11 ⟨rfl, hb11⟩
        have hb11 := Below.step hb10 hb10.size hb11
        have hS0 := HSk.out _ hb11
        refine ⟨_, rfl, fun _ => hS0, ?_⟩
        (refine wt_move 12 125 rfl rfl (by kernel_rfl) (by kernel_rfl) (by kernel_rfl) (by kernel_rfl) (fun _ _ _ h => h) rfl hS0 (by (repeat (first | (refine slot_hit (N := 146) ?_ (by rfl); (repeat (refine sz_put ?_)); assumption; done) | (apply slot_miss; focus rfl))); all_goals assumption) rfl ?_); (refine wt_take1 13 113 (v := ?_) rfl rfl (by kernel_rfl) (by kernel_rfl) (by kernel_rfl) (by kernel_rfl) (fun _ _ _ h => h) rfl hS0 (by (repeat (first | (refine slot_hit (N := 146) ?_ (by rfl); (repeat (refine sz_put ?_)); assumption; done) | (apply slot_miss; focus rfl))); all_goals assumption) (fun ev hk hv0 w hS => ?_) ?_; rotate_left; focus (obtain ⟨j0, j1, j2⟩ := hS; go_simp; rfl)); (refine wt_take1 14 113 (v := ?_) rfl rfl (by kernel_rfl) (by kernel_rfl) (by kernel_rfl) (by kernel_rfl) (fun _ _ _ h => h) rfl hS0 (by (repeat (first | (refine slot_hit (N := 146) ?_ (by rfl); (repeat (refine sz_put ?_)); assumption; done) | (apply slot_miss; focus rfl))); all_goals assumption) (fun ev hk hv0 w hS => ?_) ?_; rotate_left; focus (obtain ⟨j0, j1, j2⟩ := hS; go_simp; rfl)); (refine wt_take1 15 113 (v := ?_) rfl rfl (by kernel_rfl) (by kernel_rfl) (by kernel_rfl) (by kernel_rfl) (fun _ _ _ h => h) rfl hS0 (by (repeat (first | (refine slot_hit (N := 146) ?_ (by rfl); (repeat (refine sz_put ?_)); assumption; done) | (apply slot_miss; focus rfl))); all_goals assumption) (fun ev hk hv0 w hS => ?_) ?_; rotate_left; focus (obtain ⟨j0, j1, j2⟩ := hS; go_simp; rfl)); (refine wt_assign 16 126 rfl rfl (by kernel_rfl) (by kernel_rfl) (by kernel_rfl) (by kernel_rfl) (fun _ _ _ h => h) rfl hS0 (by (repeat (first | (refine slot_hit (N := 146) ?_ (by rfl); (repeat (refine sz_put ?_)); assumption; done) | (apply slot_miss; focus rfl))); all_goals assumption) rfl ?_); (refine wt_assign 17 127 rfl rfl (by kernel_rfl) (by kernel_rfl) (by kernel_rfl) (by kernel_rfl) (fun _ _ _ h => h) rfl hS0 (by (repeat (first | (refine slot_hit (N := 146) ?_ (by rfl); (repeat (refine sz_put ?_)); assumption; done) | (apply slot_miss; focus rfl))); all_goals assumption) rfl ?_); (refine wt_assign 18 128 rfl rfl (by kernel_rfl) (by kernel_rfl) (by kernel_rfl) (by kernel_rfl) (fun _ _ _ h => h) rfl hS0 (by (repeat (first | (refine slot_hit (N := 146) ?_ (by rfl); (repeat (refine sz_put ?_)); assumption; done) | (apply slot_miss; focus rfl))); all_goals assumption) rfl ?_)
        refine wt_known (N := 146) (by kernel_rfl) (by (repeat (refine sz_put ?_)); assumption) [(7, .bool true), (8, .int .u8 3), (14, .int .u8 s2), (16, .int .i64 0)] ⟨(by (repeat (first | (refine slot_hit (N := 146) ?_ (by rfl); (repeat (refine sz_put ?_)); assumption; done) | (apply slot_miss; focus rfl))); all_goals assumption), (by (repeat (first | (refine slot_hit (N := 146) ?_ (by rfl); (repeat (refine sz_put ?_)); assumption; done) | (apply slot_miss; focus rfl))); all_goals assumption), (by (repeat (first | (refine slot_hit (N := 146) ?_ (by rfl); (repeat (refine sz_put ?_)); assumption; done) | (apply slot_miss; focus rfl))); all_goals assumption), (by (repeat (first | (refine slot_hit (N := 146) ?_ (by rfl); (repeat (refine sz_put ?_)); assumption; done) | (apply slot_miss; focus rfl))); all_goals assumption), trivial⟩ fun fv fl hfl => ?_; obtain rfl : fl = [fv 0, fv 1, fv 2, fv 3, fv 4, fv 5, fv 6, (.bool true : Value), (.int .u8 3 : Value), fv 9, fv 10, fv 11, fv 12, fv 13, (.int .u8 s2 : Value), fv 15, (.int .i64 0 : Value), fv 17, fv 18, fv 19, fv 20, fv 21, fv 22, fv 23, fv 24, fv 25, fv 26, fv 27, fv 28, fv 29, fv 30, fv 31, fv 32, fv 33, fv 34, fv 35, fv 36, fv 37, fv 38, fv 39, fv 40, fv 41, fv 42, fv 43, fv 44, fv 45, fv 46, fv 47, fv 48, fv 49, fv 50, fv 51, fv 52, fv 53, fv 54, fv 55, fv 56, fv 57, fv 58, fv 59, fv 60, fv 61, fv 62, fv 63, fv 64, fv 65, fv 66, fv 67, fv 68, fv 69, fv 70, fv 71, fv 72, fv 73, fv 74, fv 75, fv 76, fv 77, fv 78, fv 79, fv 80, fv 81, fv 82, fv 83, fv 84, fv 85, fv 86, fv 87, fv 88, fv 89, fv 90, fv 91, fv 92, fv 93, fv 94, fv 95, fv 96, fv 97, fv 98, fv 99, fv 100, fv 101, fv 102, fv 103, fv 104, fv 105, fv 106, fv 107, fv 108, fv 109, fv 110, fv 111, fv 112, fv 113, fv 114, fv 115, fv 116, fv 117, fv 118, fv 119, fv 120, fv 121, fv 122, fv 123, fv 124, fv 125, fv 126, fv 127, fv 128, fv 129, fv 130, fv 131, fv 132, fv 133, fv 134, fv 135, fv 136, fv 137, fv 138, fv 139, fv 140, fv 141, fv 142, fv 143, fv 144, fv 145] := hfl.symm.trans (by kernel_rfl); clear hfl
        have HB11 := Lib.hid (bn HB7.out.1 hb11)
        clear hS0 HSk hs1 hs2 hs3 hs7 hs8 hb8 hb9 hb10 hb11 D10 hZ
        have h23 : (s2 != 2) = true := by
          have h24 : ¬ s2 = 2 := fun h => by have := HS2.out h; omega
          simpa using h24
        go_wp2
        go_ret
        exact ⟨rfl, HB11.out⟩
      · skip
        obtain rfl : sx = 0 := HLS.out.2 (by omega)
        have hmin : min (2 : Int) (m2 : Int) = 2 := by omega
        clear DI DH h2
        have hbs := bx_on wr (.cells #[.int .u8 0, .int .u8 3, .int .u8 2] 5)
        have HBq := Lib.hid (And.intro (bn HBr.out.1 hbs) (HBr.out.2.1.on hbs))
        obtain ⟨p0, p1, p2⟩ := HBq.out.2.c
        by_cases ha1 : ai < 0
        case pos =>
          have g1 : decide (ai < 0) = true := decide_eq_true ha1
          clear ha1
          go_wp2
          go_ret
          exact ⟨rfl, HBq.out.1⟩
        have g1 : decide (ai < 0) = false := decide_eq_false ha1
        by_cases ha2 : (j : Int) ≤ ai
        case pos =>
          have g2 : decide ((j : Int) ≤ ai) = true := decide_eq_true ha2
          clear ha1 ha2
          go_wp2
          go_ret
          exact ⟨rfl, HBq.out.1⟩
        obtain ⟨i, rfl⟩ : ∃ i : Nat, ai = i := ⟨ai.toNat, by omega⟩
        have g2 : decide (j ≤ i) = false := decide_eq_false (by omega)
        have g2' : decide ((j : Int) ≤ (i : Int)) = false := decide_eq_false (by omega)
        have hil : i < j := by omega
        obtain ⟨At, hto, hIt⟩ := HX.out.2.2.2.2.2.2.upto i (by have := HX.out.2.2.2.2.1; omega)
        obtain ⟨Af, kf, hfrom, hIf⟩ := HX.out.2.2.2.2.2.2.from (i + 1) (by have := HX.out.2.2.2.2.1; omega)
        rw [← HX.out.2.2.2.2.1] at hto hfrom
        rw [show ((i + 1 : Nat) : Int) = (i : Int) + 1 by omega] at hfrom
        obtain ⟨nt, hnt⟩ : ∃ nt, nt = (c.take i).length := ⟨_, rfl⟩
        obtain ⟨nd, hnd⟩ : ∃ nd, nd = (c.drop (i + 1)).length := ⟨_, rfl⟩
        rw [← hnt] at hto
        rw [← hnd] at hfrom
        have HCU := Lib.hid (And.intro hIt (And.intro hIf (And.intro hnt (And.intro hnd (And.intro (show (c.take i).length ≤ 100 by rw [List.length_take]; have := HX.out.2.2.2.2.1; omega) (show (c.drop (i + 1)).length ≤ 100 by rw [List.length_drop]; have := HX.out.2.2.2.2.1; omega))))))
        have hi100 : i ≤ 100 := by omega
        have hwr : IntKind.i64.wrap ((i : Int) + 1) = (i : Int) + 1 := wrap_in15 (by omega) (by omega)
        have hs2 := HST.out i
        have D2 := fun (b0 : Nat) (W : World) (hb : Below w.heap.size w W) (A' : Option Addr) (k' nn : Nat) (hI : Ia W W.heap.size A' (c.take i ++ c.drop (i + 1)) k') (hnn : nn = (c.take i ++ c.drop (i + 1)).length) => (HX.out.2.2.2.2.2.1.on hb).state (v := v) (by have := HG.out; omega) HX.out.1 hI (less_ok HX.out.2.1 i) hnn
        generalize stC t (c.take i ++ c.drop (i + 1)) = s2 at D2 hs2
        generalize stX t (c.take i ++ c.drop (i + 1)) = x2 at D2
        have HS2 := Lib.hid hs2
        clear ha1 ha2 hIt hIf hnt hnd hs2 hil
        go_wp2
        generalize hwq : wr.alloc (.cells #[.int .u8 0, .int .u8 3, .int .u8 2] 5) = wq at HBq ⊢
        clear hwq p0 p1 p2
        have HB7 := HBq
        have hS0 : (fun W : World => W.cell? ⟨w.heap.size, 0, none⟩ = some (.int .i64 v) ∧ W.cell? ⟨w.heap.size, 1, none⟩ = some (.slice A n k) ∧ W.cell? ⟨w.heap.size, 2, none⟩ = some (.slice B m q)) (wq).drew := HB7.out.2.c
        have HSk : Hid (∀ W, Below (wq).heap.size (wq) W → (fun W : World => W.cell? ⟨w.heap.size, 0, none⟩ = some (.int .i64 v) ∧ W.cell? ⟨w.heap.size, 1, none⟩ = some (.slice A n k) ∧ W.cell? ⟨w.heap.size, 2, none⟩ = some (.slice B m q)) W) := Lib.hid fun W hb => (HB7.out.2.on hb).c
        refine wp_slots (fun f => Sz f 146 ∧ Slot f 1 (.slice D j kd) ∧ Slot f 2 (.int .i64 (i : Int)) ∧ Slot f 3 (.pointer (some ⟨w.heap.size, 0, none⟩)) ∧ Slot f 7 (.bool true) ∧ Slot f 8 (.int .u8 2)) ⟨⟨rfl, rfl⟩, ⟨rfl⟩, ⟨rfl⟩, ⟨rfl⟩, ⟨rfl⟩, ⟨rfl⟩⟩ fun a0 hA0 hR => ?_
        obtain ⟨hZ, hs1, hs2, hs3, hs7, hs8⟩ := hR
        clear hA0
        refine wp_region_T (fun W : World => W.cell? ⟨w.heap.size, 0, none⟩ = some (.int .i64 v) ∧ W.cell? ⟨w.heap.size, 1, none⟩ = some (.slice A n k) ∧ W.cell? ⟨w.heap.size, 2, none⟩ = some (.slice B m q)) 19 (by kernel_rfl) ?_
        refine WT.h ?_
        (refine wt_take1 0 3 (v := ?_) rfl rfl (by kernel_rfl) (by kernel_rfl) (by kernel_rfl) (by kernel_rfl) (fun _ _ _ h => h) rfl hS0 (by (repeat (first | (refine slot_hit (N := 146) ?_ (by rfl); (repeat (refine sz_put ?_)); assumption; done) | (apply slot_miss; focus rfl))); all_goals assumption) (fun ev hk hv0 w hS => ?_) ?_; rotate_left; focus (obtain ⟨j0, j1, j2⟩ := hS; go_simp; rfl)); (refine wt_move 2 1 rfl rfl (by kernel_rfl) (by kernel_rfl) (by kernel_rfl) (by kernel_rfl) (fun _ _ _ h => h) rfl hS0 (by (repeat (first | (refine slot_hit (N := 146) ?_ (by rfl); (repeat (refine sz_put ?_)); assumption; done) | (apply slot_miss; focus rfl))); all_goals assumption) rfl ?_); (refine wt_move 3 2 rfl rfl (by kernel_rfl) (by kernel_rfl) (by kernel_rfl) (by kernel_rfl) (fun _ _ _ h => h) rfl hS0 (by (repeat (first | (refine slot_hit (N := 146) ?_ (by rfl); (repeat (refine sz_put ?_)); assumption; done) | (apply slot_miss; focus rfl))); all_goals assumption) rfl ?_)
        (refine wt_take2 4 116 117 (v := ?_) rfl rfl (by kernel_rfl) (by kernel_rfl) (by kernel_rfl) (by kernel_rfl) (fun _ _ _ h => h) rfl hS0 (by (repeat (first | (refine slot_hit (N := 146) ?_ (by rfl); (repeat (refine sz_put ?_)); assumption; done) | (apply slot_miss; focus rfl))); all_goals assumption) (by (repeat (first | (refine slot_hit (N := 146) ?_ (by rfl); (repeat (refine sz_put ?_)); assumption; done) | (apply slot_miss; focus rfl))); all_goals assumption) (fun ev hk hv0 hv1 w hS => ?_) ?_; rotate_left; focus (go_simp; first | exact hto _ | (rw [hto]; done) | (simp only [hto]; done) | rfl))
        (refine wt_move 6 1 rfl rfl (by kernel_rfl) (by kernel_rfl) (by kernel_rfl) (by kernel_rfl) (fun _ _ _ h => h) rfl hS0 (by (repeat (first | (refine slot_hit (N := 146) ?_ (by rfl); (repeat (refine sz_put ?_)); assumption; done) | (apply slot_miss; focus rfl))); all_goals assumption) rfl ?_); (refine wt_move 7 2 rfl rfl (by kernel_rfl) (by kernel_rfl) (by kernel_rfl) (by kernel_rfl) (fun _ _ _ h => h) rfl hS0 (by (repeat (first | (refine slot_hit (N := 146) ?_ (by rfl); (repeat (refine sz_put ?_)); assumption; done) | (apply slot_miss; focus rfl))); all_goals assumption) rfl ?_); (refine wt_take1 8 121 (v := ?_) rfl rfl (by kernel_rfl) (by kernel_rfl) (by kernel_rfl) (by kernel_rfl) (fun _ _ _ h => h) rfl hS0 (by (repeat (first | (refine slot_hit (N := 146) ?_ (by rfl); (repeat (refine sz_put ?_)); assumption; done) | (apply slot_miss; focus rfl))); all_goals assumption) (fun ev hk hv0 w hS => ?_) ?_; rotate_left; focus (obtain ⟨j0, j1, j2⟩ := hS; go_simp; rfl))
        (refine wt_take2 9 120 122 (v := ?_) rfl rfl (by kernel_rfl) (by kernel_rfl) (by kernel_rfl) (by kernel_rfl) (fun _ _ _ h => h) rfl hS0 (by (repeat (first | (refine slot_hit (N := 146) ?_ (by rfl); (repeat (refine sz_put ?_)); assumption; done) | (apply slot_miss; focus rfl))); all_goals assumption) (by (repeat (first | (refine slot_hit (N := 146) ?_ (by rfl); (repeat (refine sz_put ?_)); assumption; done) | (apply slot_miss; focus rfl))); all_goals assumption) (fun ev hk hv0 hv1 w hS => ?_) ?_; rotate_left; focus (go_simp; first | exact hfrom _ | (rw [hfrom]; done) | (simp only [hfrom]; done) | rfl))
        refine wt_val0 1  (by kernel_rfl) rfl rfl rfl  (v := ?_) (w' := ?_) (fun ev hk  => ?_) ?_; rotate_left 2; focus (go_simp; first | rfl | (constructor <;> rfl))
        have hb8 := bn (below_dn (Below.refl (wq).heap.size (wq)) 1) (bx_on (wq).drew (.cells #[] 3))
        refine ⟨fun _ => HSk.out _ hb8, ?_⟩
        have ho8 : Io (wq).heap.size ((wq).drew.alloc (.cells #[] 3)) (.slice (some ⟨(wq).heap.size, 0, none⟩) 0 0) [] := Io.lit (w := (wq).drew) rfl (Nat.le_refl _) (by simp)
        have hs8' : Src ((wq).drew.alloc (.cells #[] 3)) At (c.take i).length kd (iC (c.take i)) := ((HCU.out.1.on HB7.out.1).on hb8).src
        refine wt_append13 5 115 118 (by kernel_rfl) rfl rfl rfl (by (repeat (first | (refine slot_hit (N := 146) ?_ (by rfl); (repeat (refine sz_put ?_)); assumption; done) | (apply slot_miss; focus rfl))); all_goals assumption) (by (repeat (first | (refine slot_hit (N := 146) ?_ (by rfl); (repeat (refine sz_put ?_)); assumption; done) | (apply slot_miss; focus rfl))); all_goals assumption) rfl (fun ty => io_run (wq).heap.size _ [] ho8 At nt kd (c.take i) HCU.out.2.2.1 hs8' (by have := HCU.out.2.2.2.2.1; simp only [List.length_nil]; omega) hb8.size ty) (fun v9 w9 hG9 => ?_)
        have hb9 := hb8.trans hG9.2
        refine ⟨fun _ => HSk.out _ hb9, ?_⟩
        have hs9 : Src w9 Af (c.drop (i + 1)).length kf (iC (c.drop (i + 1))) := ((HCU.out.2.1.on HB7.out.1).on hb9).src
        refine wt_append13 10 119 123 (by kernel_rfl) rfl rfl rfl (by (repeat (first | (refine slot_hit (N := 146) ?_ (by rfl); (repeat (refine sz_put ?_)); assumption; done) | (apply slot_miss; focus rfl))); all_goals assumption) (by (repeat (first | (refine slot_hit (N := 146) ?_ (by rfl); (repeat (refine sz_put ?_)); assumption; done) | (apply slot_miss; focus rfl))); all_goals assumption) rfl (fun ty => io_run (wq).heap.size _ ([] ++ c.take i) hG9.1 Af nd kf (c.drop (i + 1)) HCU.out.2.2.2.1 hs9 (by have := HCU.out.2.2.2.2.1; have := HCU.out.2.2.2.2.2; rw [List.nil_append]; omega) hb9.size ty) (fun v10 w10 hG10 => ?_)
        have hb10 := hb9.trans hG10.2
        refine ⟨fun _ => HSk.out _ hb10, ?_⟩
        have ho10 : Io (wq).heap.size w10 v10 (c.take i ++ c.drop (i + 1)) := hG10.1
        obtain ⟨A10, k10, e10, hI10⟩ := ho10.at
        obtain ⟨n10, hn10⟩ : ∃ n10, n10 = (c.take i ++ c.drop (i + 1)).length := ⟨_, rfl⟩
        rw [← hn10] at e10
        subst e10
        have D10 := D2 0 w10 (bn HB7.out.1 hb10) A10 k10 n10 hI10 hn10
        clear ho8 hs8' hG9 hs9 hG10 ho10 hI10 hn10 D2 hto hfrom
        refine wt_call2 11 114 124 (by kernel_rfl) rfl rfl rfl (by (repeat (first | (refine slot_hit (N := 146) ?_ (by rfl); (repeat (refine sz_put ?_)); assumption; done) | (apply slot_miss; focus rfl))); all_goals assumption) (by (repeat (first | (refine slot_hit (N := 146) ?_ (by rfl); (repeat (refine sz_put ?_)); assumption; done) | (apply slot_miss; focus rfl))); all_goals assumption) (f := ?_) (args := ?_) (fun ev hk hkf hv0 hv1 => ?_) ?_; rotate_left 2; focus (go_simp; first | rfl | (constructor <;> rfl))
        refine D10.mono ?_
        rintro e w11 ⟨rfl, hb11⟩
        have hb11 := Below.step hb10 hb10.size hb11
        have hS0 := HSk.out _ hb11
        refine ⟨_, rfl, fun _ => hS0, ?_⟩
        (refine wt_move 12 125 rfl rfl (by kernel_rfl) (by kernel_rfl) (by kernel_rfl) (by kernel_rfl) (fun _ _ _ h => h) rfl hS0 (by (repeat (first | (refine slot_hit (N := 146) ?_ (by rfl); (repeat (refine sz_put ?_)); assumption; done) | (apply slot_miss; focus rfl))); all_goals assumption) rfl ?_); (refine wt_take1 13 113 (v := ?_) rfl rfl (by kernel_rfl) (by kernel_rfl) (by kernel_rfl) (by kernel_rfl) (fun _ _ _ h => h) rfl hS0 (by (repeat (first | (refine slot_hit (N := 146) ?_ (by rfl); (repeat (refine sz_put ?_)); assumption; done) | (apply slot_miss; focus rfl))); all_goals assumption) (fun ev hk hv0 w hS => ?_) ?_; rotate_left; focus (obtain ⟨j0, j1, j2⟩ := hS; go_simp; rfl)); (refine wt_take1 14 113 (v := ?_) rfl rfl (by kernel_rfl) (by kernel_rfl) (by kernel_rfl) (by kernel_rfl) (fun _ _ _ h => h) rfl hS0 (by (repeat (first | (refine slot_hit (N := 146) ?_ (by rfl); (repeat (refine sz_put ?_)); assumption; done) | (apply slot_miss; focus rfl))); all_goals assumption) (fun ev hk hv0 w hS => ?_) ?_; rotate_left; focus (obtain ⟨j0, j1, j2⟩ := hS; go_simp; rfl)); (refine wt_take1 15 113 (v := ?_) rfl rfl (by kernel_rfl) (by kernel_rfl) (by kernel_rfl) (by kernel_rfl) (fun _ _ _ h => h) rfl hS0 (by (repeat (first | (refine slot_hit (N := 146) ?_ (by rfl); (repeat (refine sz_put ?_)); assumption; done) | (apply slot_miss; focus rfl))); all_goals assumption) (fun ev hk hv0 w hS => ?_) ?_; rotate_left; focus (obtain ⟨j0, j1, j2⟩ := hS; go_simp; rfl)); (refine wt_assign 16 126 rfl rfl (by kernel_rfl) (by kernel_rfl) (by kernel_rfl) (by kernel_rfl) (fun _ _ _ h => h) rfl hS0 (by (repeat (first | (refine slot_hit (N := 146) ?_ (by rfl); (repeat (refine sz_put ?_)); assumption; done) | (apply slot_miss; focus rfl))); all_goals assumption) rfl ?_); (refine wt_assign 17 127 rfl rfl (by kernel_rfl) (by kernel_rfl) (by kernel_rfl) (by kernel_rfl) (fun _ _ _ h => h) rfl hS0 (by (repeat (first | (refine slot_hit (N := 146) ?_ (by rfl); (repeat (refine sz_put ?_)); assumption; done) | (apply slot_miss; focus rfl))); all_goals assumption) rfl ?_); (refine wt_assign 18 128 rfl rfl (by kernel_rfl) (by kernel_rfl) (by kernel_rfl) (by kernel_rfl) (fun _ _ _ h => h) rfl hS0 (by (repeat (first | (refine slot_hit (N := 146) ?_ (by rfl); (repeat (refine sz_put ?_)); assumption; done) | (apply slot_miss; focus rfl))); all_goals assumption) rfl ?_)
        refine wt_known (N := 146) (by kernel_rfl) (by (repeat (refine sz_put ?_)); assumption) [(7, .bool true), (8, .int .u8 2), (14, .int .u8 s2), (16, .int .i64 0)] ⟨(by (repeat (first | (refine slot_hit (N := 146) ?_ (by rfl); (repeat (refine sz_put ?_)); assumption; done) | (apply slot_miss; focus rfl))); all_goals assumption), (by (repeat (first | (refine slot_hit (N := 146) ?_ (by rfl); (repeat (refine sz_put ?_)); assumption; done) | (apply slot_miss; focus rfl))); all_goals assumption), (by (repeat (first | (refine slot_hit (N := 146) ?_ (by rfl); (repeat (refine sz_put ?_)); assumption; done) | (apply slot_miss; focus rfl))); all_goals assumption), (by (repeat (first | (refine slot_hit (N := 146) ?_ (by rfl); (repeat (refine sz_put ?_)); assumption; done) | (apply slot_miss; focus rfl))); all_goals assumption), trivial⟩ fun fv fl hfl => ?_; obtain rfl : fl = [fv 0, fv 1, fv 2, fv 3, fv 4, fv 5, fv 6, (.bool true : Value), (.int .u8 2 : Value), fv 9, fv 10, fv 11, fv 12, fv 13, (.int .u8 s2 : Value), fv 15, (.int .i64 0 : Value), fv 17, fv 18, fv 19, fv 20, fv 21, fv 22, fv 23, fv 24, fv 25, fv 26, fv 27, fv 28, fv 29, fv 30, fv 31, fv 32, fv 33, fv 34, fv 35, fv 36, fv 37, fv 38, fv 39, fv 40, fv 41, fv 42, fv 43, fv 44, fv 45, fv 46, fv 47, fv 48, fv 49, fv 50, fv 51, fv 52, fv 53, fv 54, fv 55, fv 56, fv 57, fv 58, fv 59, fv 60, fv 61, fv 62, fv 63, fv 64, fv 65, fv 66, fv 67, fv 68, fv 69, fv 70, fv 71, fv 72, fv 73, fv 74, fv 75, fv 76, fv 77, fv 78, fv 79, fv 80, fv 81, fv 82, fv 83, fv 84, fv 85, fv 86, fv 87, fv 88, fv 89, fv 90, fv 91, fv 92, fv 93, fv 94, fv 95, fv 96, fv 97, fv 98, fv 99, fv 100, fv 101, fv 102, fv 103, fv 104, fv 105, fv 106, fv 107, fv 108, fv 109, fv 110, fv 111, fv 112, fv 113, fv 114, fv 115, fv 116, fv 117, fv 118, fv 119, fv 120, fv 121, fv 122, fv 123, fv 124, fv 125, fv 126, fv 127, fv 128, fv 129, fv 130, fv 131, fv 132, fv 133, fv 134, fv 135, fv 136, fv 137, fv 138, fv 139, fv 140, fv 141, fv 142, fv 143, fv 144, fv 145] := hfl.symm.trans (by kernel_rfl); clear hfl
        have HB11 := Lib.hid (bn HB7.out.1 hb11)
        clear hS0 HSk hs1 hs2 hs3 hs7 hs8 hb8 hb9 hb10 hb11 D10 hZ
        by_cases h22 : s2 = 2
        case pos =>
          subst h22
          go_wp2
          go_ret
          exact ⟨rfl, HB11.out⟩
        have h23 : (s2 != 2) = true := by simpa using h22
        clear h22
        go_wp2
        go_ret
        exact ⟨rfl, HB11.out⟩

end Go.Proofs.YtecmldnigohjfabDoor
