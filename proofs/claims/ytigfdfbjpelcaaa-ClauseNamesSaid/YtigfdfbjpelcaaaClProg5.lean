/- The contract of clause.Resolve. -/
import Derived.Test.YtigfdfbjpelcaaaClProg4
namespace Go.Proofs.Ytigfdfbjpelcaaa
open Go Go.RowKit Go.Lib Go.Sort
set_option linter.unusedVariables false
set_option linter.unusedSimpArgs false

theorem rv_im {n : Int} {a b : List Int} {v : Int} (h : imE n a b ≠ 0) : rvE n a b v = imE n a b ∧ rvC n a b v = [] ∧ rvA n a b v = false := by
  have e : rvE n a b v = imE n a b := by unfold rvE; rw [if_pos h]
  exact ⟨e, by unfold rvC; rw [if_neg (by rw [e]; exact h)], by unfold rvA; rw [e]; simp [h]⟩
theorem rv_no {n : Int} {a b : List Int} {v : Int} (h : imE n a b = 0) (h2 : rvOk a b v = false) : rvE n a b v = 6 ∧ rvC n a b v = [] ∧ rvA n a b v = false := by
  have e : rvE n a b v = 6 := by unfold rvE; rw [if_neg (by rw [h]; simp), if_neg (by rw [h2]; decide)]
  exact ⟨e, by unfold rvC; rw [if_neg (by rw [e]; decide)], by unfold rvA; rw [e]; rfl⟩
theorem rv_yes {n : Int} {a b : List Int} {v : Int} (h : imE n a b = 0) (h2 : rvOk a b v = true) : rvE n a b v = 0 ∧ rvC n a b v = mkL n (rvL a b v) ∧ rvA n a b v = mkA n (rvL a b v) := by
  have e : rvE n a b v = 0 := rvE_iff.2 ⟨h, h2⟩
  exact ⟨e, by unfold rvC; rw [if_pos e], by unfold rvA; rw [e]; simp⟩
theorem rvOk_no {a b : List Int} {v : Int} (h : (∀ x ∈ a, x / 2 ≠ v) ∨ (∀ x ∈ b, x / 2 ≠ v)) : rvOk a b v = false := by
  rw [← Bool.not_eq_true, rvOk_iff]
  rintro (⟨p, q⟩ | ⟨p, q⟩)
  · rcases h with h | h
    · exact h _ p (by omega)
    · exact h _ q (by omega)
  · rcases h with h | h
    · exact h _ p (by omega)
    · exact h _ q (by omega)
theorem rvOk_two {n : Int} {a b : List Int} {v x y : Int} (ha : OkC n a) (hb : OkC n b) (hx : x ∈ a) (hy : y ∈ b) (ex : x / 2 = v) (ey : y / 2 = v) : rvOk a b v = decide (x ≠ y) := by
  rw [Bool.eq_iff_iff, rvOk_iff, decide_eq_true_iff]
  constructor
  · rintro (⟨p, q⟩ | ⟨p, q⟩)
    · have := ha.one hx p (by omega); have := hb.one hy q (by omega); omega
    · have := ha.one hx p (by omega); have := hb.one hy q (by omega); omega
  · intro h
    rcases (show x = 2 * v ∨ x = 2 * v + 1 by omega) with e | e
    · exact Or.inl ⟨e ▸ hx, (show y = 2 * v + 1 by omega) ▸ hy⟩
    · exact Or.inr ⟨e ▸ hx, (show y = 2 * v by omega) ▸ hy⟩
theorem td {x : Int} (h : 2 ≤ x) : x.tdiv 2 = x / 2 := Int.tdiv_eq_ediv_of_nonneg (by omega)

set_option maxRecDepth 100000 in
set_option maxHeartbeats 4000000 in
theorem resolve_any (v : Int) (A : Option Addr) (l : List Int) (k : Nat) (A' : Option Addr) (l' : List Int) (k' : Nat) (x : Int) (w : World) (h : Ia w w.heap.size A l k) (hl : l.length ≤ 50000) (hr : ∀ x ∈ l, I64 x) (h' : Ia w w.heap.size A' l' k') (hl' : l'.length ≤ 50000) (hr' : ∀ x ∈ l', I64 x) :
    Calls Try.prog 19 #[.int .i64 v, .slice A l.length k, .slice A' l'.length k', .int .i64 x] w (LsIs3 (rvC v l l' x) (rvA v l l' x) (rvE v l l' x) w) := by
  have hB1 : Below w.heap.size w (w.alloc (.cells #[.int .i64 x] 3)) := (Below.refl _ _).alloc (Nat.le_refl _) _
  have hcell : (w.alloc (.cells #[.int .i64 x] 3)).cell? ⟨w.heap.size, 0, none⟩ = some (.int .i64 x) := by simp
  have eg : ∀ args w, (callFunc 41 args).run Try.prog w = .ok (.enter 41 args) w := enters_of Try.func41 (by kernel_rfl) rfl
  have hc := both_any v A l k A' l' k' (w.alloc (.cells #[.int .i64 x] 3)) (h.on hB1) (by omega) hr (h'.on hB1) (by omega) hr'
  by_cases he : imE v l l' = 0
  · obtain ⟨_, _, ho, ho'⟩ := imE_iff.1 he
    have h1 := fun d => indexF_any (resolve_clo x w.heap.size) eg A l k ((w.alloc (.cells #[.int .i64 x] 3)).drewN d) (h.on (below_dn hB1 d)) (by omega) hr hcell
    have h2 := fun d => indexF_any (resolve_clo x w.heap.size) eg A' l' k' ((w.alloc (.cells #[.int .i64 x] 3)).drewN d) (h'.on (below_dn hB1 d)) (by omega) hr' hcell
    have HH := Lib.hid (And.intro h (And.intro hl (And.intro hr (And.intro h' (And.intro hl' (And.intro hr' (And.intro ho (And.intro ho' he))))))))
    rw [he] at hc
    clear h hl hr h' hl' hr' ho ho' he
    go_enter Try.func19, Try.ntmps19
    go_wp2_with (first
      | (go_at_call 38; (with_reducible refine hc.mono ?_); rintro e w1 ⟨rfl, d, rfl⟩)
      | (go_at_call 42; (with_reducible refine (h1 d).mono ?_); rintro e w2 ⟨i1, rfl, hi1, d1, rfl⟩)
      | (go_at_call 42; (with_reducible refine (h2 _).mono ?_); rintro e w3 ⟨i2, rfl, hi2, d2, rfl⟩))
    have hX := Lib.hid (And.intro hi1 hi2)
    have HB2 := Lib.hid hB1
    clear hi1 hi2 h1 h2 hc
    rcases hX.out.1 with ⟨rfl, hno⟩ | ⟨i, hi, rfl, hp⟩
    · obtain ⟨e1, e2, e3⟩ := rv_no (v := x) HH.out.2.2.2.2.2.2.2.2 (rvOk_no (Or.inl fun y hy => by have := hno y hy; rw [td (isL_iff.1 (HH.out.2.2.2.2.2.2.1.1 y hy)).1] at this; simpa using this))
      have HR := Lib.hid (And.intro e1 (And.intro e2 e3))
      clear e1 e2 e3 hno
      go_quiet (fail)
      go_wp2
      go_ret3
      rw [HR.out.1, HR.out.2.1, HR.out.2.2]
      exact ⟨none, 0, rfl, Ia.nil _ _, by first | exact below_dn HB2.out _ | exact below_dn (below_dn HB2.out _) _⟩
    · rcases hX.out.2 with ⟨rfl, hno⟩ | ⟨j, hj, rfl, hq⟩
      · obtain ⟨e1, e2, e3⟩ := rv_no (v := x) HH.out.2.2.2.2.2.2.2.2 (rvOk_no (Or.inr fun y hy => by have := hno y hy; rw [td (isL_iff.1 (HH.out.2.2.2.2.2.2.2.1.1 y hy)).1] at this; simpa using this))
        have HR := Lib.hid (And.intro e1 (And.intro e2 e3))
        clear e1 e2 e3 hno hp
        have d0 : decide ((i : Int) < 0) = false := decide_eq_false (by omega)
        go_quiet (fail)
        go_wp2
        go_ret3
        rw [HR.out.1, HR.out.2.1, HR.out.2.2]
        exact ⟨none, 0, rfl, Ia.nil _ _, by first | exact below_dn HB2.out _ | exact below_dn (below_dn HB2.out _) _⟩
      · have mi := getD_mem hi
        have mj := getD_mem hj
        have li := (isL_iff.1 (HH.out.2.2.2.2.2.2.1.1 _ mi)).1
        have lj := (isL_iff.1 (HH.out.2.2.2.2.2.2.2.1.1 _ mj)).1
        rw [td li] at hp
        rw [td lj] at hq
        have hok := rvOk_two HH.out.2.2.2.2.2.2.1 HH.out.2.2.2.2.2.2.2.1 mi mj (by simpa using hp) (by simpa using hq)
        obtain ⟨b, o, rfl, hb0, hcs⟩ := HH.out.1.cells (by omega)
        obtain ⟨b', o', rfl, hb0', hcs'⟩ := HH.out.2.2.2.1.cells (by omega)
        have y := hcs i hi
        have y' := hcs' j hj
        obtain ⟨p, hpp⟩ : ∃ p, p = l.getD i 0 := ⟨_, rfl⟩
        obtain ⟨q, hqq⟩ : ∃ q, q = l'.getD j 0 := ⟨_, rfl⟩
        rw [← hpp] at y hok
        rw [← hqq] at y' hok
        have d0 : decide ((i : Int) < 0) = false := decide_eq_false (by omega)
        have d1' : decide ((j : Int) < 0) = false := decide_eq_false (by omega)
        have li0 : (0 : Int) ≤ (i : Int) := by omega
        have lj0 : (0 : Int) ≤ (j : Int) := by omega
        have li1 : (i : Int) < (l.length : Int) := by omega
        have lj1 : (j : Int) < (l'.length : Int) := by omega
        clear hp hq mi mj li lj hcs hcs' hpp hqq hi hj
        by_cases epq : p = q
        · rw [show decide (p ≠ q) = false by simpa using epq] at hok
          obtain ⟨e1, e2, e3⟩ := rv_no (v := x) HH.out.2.2.2.2.2.2.2.2 hok
          have HR := Lib.hid (And.intro e1 (And.intro e2 e3))
          have e5 : (p == q) = true := by simpa using epq
          clear e1 e2 e3 hok epq
          go_quiet (fail)
          go_wp2
          go_ret3
          rw [HR.out.1, HR.out.2.1, HR.out.2.2]
          exact ⟨none, 0, rfl, Ia.nil _ _, by first | exact below_dn HB2.out _ | exact below_dn (below_dn HB2.out _) _⟩
        · rw [show decide (p ≠ q) = true by simpa using epq] at hok
          obtain ⟨e1, e2, e3⟩ := rv_yes (v := x) HH.out.2.2.2.2.2.2.2.2 hok
          have em : rvE v l l' x = mkE v (rvL l l' x) := by rw [e1]; exact (rv_mk e1).symm
          have HR := Lib.hid (And.intro em (And.intro e2 e3))
          have e5 : (p == q) = false := by simpa using epq
          have HQ : ∀ z ∈ l ++ l', I64 z := fun z hz => (List.mem_append.1 hz).elim (HH.out.2.2.1 z) (HH.out.2.2.2.2.2.1 z)
          have ef : ((l ++ l').filter fun z => !decide (z.tdiv 2 = x)) = rvL l l' x := by
            unfold rvL
            refine List.filter_congr fun z hz => ?_
            have hz2 : 2 ≤ z := (List.mem_append.1 hz).elim (fun h => (isL_iff.1 (HH.out.2.2.2.2.2.2.1.1 z h)).1) (fun h => (isL_iff.1 (HH.out.2.2.2.2.2.2.2.1.1 z h)).1)
            rw [td hz2]
          have hfl : (rvL l l' x).length ≤ 100000 := by
            refine Nat.le_trans (List.length_filter_le _ _) ?_
            rw [List.length_append]; have := HH.out.2.1; have := HH.out.2.2.2.2.1; omega
          have hQf : ∀ z ∈ rvL l l' x, I64 z := fun z hz => HQ z (List.mem_append.2 (mem_rvL.1 hz).1)
          have HF := Lib.hid (And.intro HQ (And.intro ef (And.intro hfl hQf)))
          have hcat : ∀ m : Nat, Calls Try.prog 44 #[.slice (some ⟨w.heap.size + 1, 0, none⟩) 2 2] (((w.alloc (.cells #[.int .i64 x] 3)).drewN m).alloc (.cells #[.slice (some ⟨b, o, none⟩) l.length k, .slice (some ⟨b', o', none⟩) l'.length k'] 22)) fun e w' =>
              ∃ v, e = .returned v ∧ Io (w.heap.size + 1) w' v (l ++ l') ∧ Below w.heap.size w w' ∧ w'.cell? ⟨w.heap.size, 0, none⟩ = some (.int .i64 x) ∧ w.heap.size + 1 ≤ w'.heap.size := fun m => by
            have hBm : Below w.heap.size w ((w.alloc (.cells #[.int .i64 x] 3)).drewN m) := below_dn HB2.out m
            have hBm2 := hBm.alloc (o := .cells #[.slice (some ⟨b, o, none⟩) l.length k, .slice (some ⟨b', o', none⟩) l'.length k'] 22) hBm.size
            have hz : ((w.alloc (.cells #[.int .i64 x] 3)).drewN m).heap.size = w.heap.size + 1 := World.size_alloc _ _
            have hN := Has.new' (t := 22) (cs := #[.slice (some ⟨b, o, none⟩) l.length k, .slice (some ⟨b', o', none⟩) l'.length k']) _ _ hz
            have hc1 : (((w.alloc (.cells #[.int .i64 x] 3)).drewN m).alloc (.cells #[.slice (some ⟨b, o, none⟩) l.length k, .slice (some ⟨b', o', none⟩) l'.length k'] 22)).cell? ⟨w.heap.size, 0, none⟩ = some (.int .i64 x) := ca hcell _
            refine (concat2_any (w.heap.size + 1) _ l k _ l' k' _ (hN.cell 0) (hN.cell 1) (HH.out.1.on hBm2) (HH.out.2.2.2.1.on hBm2) (by have := HH.out.2.1; omega) (by have := HH.out.2.2.2.2.1; omega)).mono fun e w' hh => ?_
            obtain ⟨v, h1, h2, h3⟩ := hh
            have h3s := h3.size
            rw [World.size_alloc, hz] at h3s
            exact ⟨v, h1, h2.base (by rw [World.size_alloc, hz]; omega), Below.step hBm2 hBm2.size h3, (h3.cell (cell_lt hc1)).trans hc1, by omega⟩
          clear e1 e2 e3 hok epq em HQ ef hfl hQf
          go_quiet (fail)
          go_wp2_with (first
            | (go_at_call 44; (with_reducible refine (hcat _).mono ?_); rintro e w4 ⟨v4, rfl, ho4, hb4, hcell4, hs4⟩
               have hde := deleteF_any (resolve_clo x w.heap.size) eg (w.heap.size + 1) v4 (l ++ l') w4 ho4 (by rw [List.length_append]; have := HH.out.2.1; have := HH.out.2.2.2.2.1; omega) HF.out.1 hcell4 (Nat.lt_succ_self _) hs4
               rw [HF.out.2.1] at hde)
            | (go_at_call 43; (with_reducible refine hde.mono ?_); rintro e w5 ⟨v5, rfl, ho5, hb5⟩
               obtain ⟨A5, k5, rfl, hI5⟩ := ho5.at
               have HB5 : Hid (Below w.heap.size w w5) := Lib.hid (hb4.trans (hb5.mono (Nat.le_succ _)))
               have hmk := make_any v A5 (rvL l l' x) k5 w5 hI5 HF.out.2.2.1 HF.out.2.2.2)
            | (go_at_call 10; (with_reducible refine hmk.mono ?_); rintro e w6 ⟨A6, k6, rfl, hI6, hb6⟩))
          go_ret3
          rw [HR.out.1, HR.out.2.1, HR.out.2.2]
          exact ⟨A6, k6, rfl, hI6, Below.step HB5.out HB5.out.size hb6⟩
  · obtain ⟨e1, e2, e3⟩ := rv_im (v := x) he
    rw [e1, e2, e3]
    have e4 : (imE v l l' != 0) = true := by simpa using he
    obtain ⟨u, hu⟩ : ∃ u, u = imE v l l' := ⟨_, rfl⟩
    rw [← hu] at hc e4 ⊢
    clear h hl hr h' hl' hr' he e1 e2 e3 hu
    go_enter Try.func19, Try.ntmps19
    go_wp2_with (first
      | (go_at_call 38; (with_reducible refine hc.mono ?_); rintro e w1 ⟨rfl, d, rfl⟩))
    go_ret3
    exact ⟨none, 0, rfl, Ia.nil _ _, below_dn hB1 d⟩

end Go.Proofs.Ytigfdfbjpelcaaa
