/- The same in any order: the law's walk. -/
import Derived.Test.YtecmldnigohjfaaDoorUnOwn
import Derived.Test.YtecmldnigohjfaaDoorUnEnd
namespace Go.Proofs.YtecmldnigohjfaaDoor
open Go Go.RowKit
set_option linter.unusedVariables false
set_option linter.unusedSimpArgs false

theorem Ill.cl {w : World} {B k : Nat} {A : Option Addr} {L : List (List Int)} (h : Ill w B A L k) : ∃ cl : Nat → Value, ∀ j, j < L.length → ∃ b o, A = some ⟨b, o, none⟩ ∧ b < B ∧ w.cell? ⟨b, o + j, none⟩ = some (cl j) ∧ ∃ A' k', cl j = .slice A' (L.getD j []).length k' ∧ Ia w B A' (L.getD j []) k' := by
  rcases Nat.eq_zero_or_pos L.length with h0 | h0
  · exact ⟨fun _ => .slice none 0 0, fun j hj => by omega⟩
  · obtain ⟨b, o, e, hb, hc⟩ := h.h h0
    refine ⟨fun j => (w.cell? ⟨b, o + j, none⟩).getD (.slice none 0 0), fun j hj => ?_⟩
    obtain ⟨A', k', h1, h2⟩ := hc j hj
    exact ⟨b, o, e, hb, by simp [h1], A', k', by simp [h1], h2⟩
theorem rev_getD (L : List (List Int)) {j : Nat} (hj : j < L.length) : L.reverse.getD j [] = L.getD (L.length - 1 - j) [] := by
  rw [List.getD_eq_getElem?_getD, List.getD_eq_getElem?_getD, List.getElem?_reverse hj]
/-- what Sorted gives of literals that are the same -/
theorem sorted_of {x y : List Int} {n : Nat} (hs : srt y = srt x) (hl : (srt x).length = n) (hy : y.length = n) (hn : n ≤ 4000) (A : Option Addr) (k : Nat) (W : World) (h : Ia W W.heap.size A y k) :
    Calls Tryd.prog 19 #[.slice A n k] W fun e w' => ∃ A' k', e = .returned (.slice A' n k') ∧ Ia w' w'.heap.size A' (srt x) k' ∧ Below W.heap.size W w' := by
  have h1 := rSorted_any A y k W h (by omega)
  rw [hs, hy] at h1
  refine h1.mono fun e w' hh => ?_
  obtain ⟨v', rfl, ho, hb⟩ := hh
  obtain ⟨A', k', e1, hI⟩ := ho.at
  rw [hl] at e1
  exact ⟨A', k', by rw [e1], hI, hb⟩
/-- of the clauses in three orders -/
structure Fo (v : Int) (t : List Int) (L L' : List (List Int)) (x : List Int) (a : Int) (n1 nl : Nat) (x' : List Int) (a' : Int) (n' : Nat) : Prop where
  okL : ∀ c ∈ L', OkC v c
  len : nl = L'.length
  up : upR v t L' = (x', a')
  hn : n' = x'.length
  n4 : n' ≤ 4000
  sg : a < 0 ↔ a' < 0
  sm : a < 0 → srt x' = srt x ∧ n' = n1 ∧ (srt x).length = n1
theorem Fo.mk' {v : Int} {t s : List Int} {L L' : List (List Int)} {x : List Int} {a : Int} {n n1 m nl : Nat} (h : Fx v t s L x a n n1 m nl) (hm : ∀ c, c ∈ L ↔ c ∈ L') (hl : L'.length = L.length) : ∃ x' a' n', Fo v t L L' x a n1 nl x' a' n' := by
  have hv0 : 0 ≤ v := by have := h.ok.1; omega
  have hL' : ∀ c ∈ L', OkC v c := fun c hc => h.okL c ((hm c).2 hc)
  obtain ⟨p1, p2⟩ := upR_perm h.okL hv0 h.ok.2.1 hm
  have hx' := upR_ok' hL' h.ok.2.1
  refine ⟨_, _, _, hL', by rw [hl, h.hnl], rfl, rfl, upR_len hL' h.ok.2.1 hv0 h.v4, ?_, fun ha => ?_⟩
  · rw [h.up] at p1; exact p1
  · rw [h.up] at p2
    have e := srt_congr fun l => (p2 ha l).symm
    refine ⟨e, ?_, ?_⟩
    · show (upR v t L').1.length = n1
      rw [← hx'.srt_len, e, h.okx.2.1.srt_len, h.hn1]
    · rw [h.okx.2.1.srt_len, h.hn1]

set_option maxRecDepth 100000 in
set_option maxHeartbeats 40000000 in
theorem order15_any (v : Int) (A : Option Addr) (t : List Int) (k : Nat) (B : Option Addr) (s : List Int) (q : Nat) (C : Option Addr) (L : List (List Int)) (kc : Nat) (fi : Int) (w : World) (hm0 : Ia w w.heap.size A t k) (hn0 : Ia w w.heap.size B s q) (hk0 : k ≤ 9223372036854775807 ∧ q ≤ 9223372036854775807)
    (hm1 : Ill w w.heap.size C L kc) (hk1 : kc ≤ 9223372036854775807) (hr1 : ∀ c ∈ L, (∀ x ∈ c, I64 x) ∧ c.length ≤ 9223372036854775807) (htab : Tab w.heap.size w) :
    Calls Tryd.prog 5 #[asv v A t.length k B s.length q, .slice C L.length kc, .int .i64 fi] w fun e w' => e = .returned (.bool true) ∧ Below w.heap.size w w' := by
  have H0 := Bs.new w (.int .i64 v) (.slice A t.length k) (.slice B s.length q)
  have hb0 := bx_on w (.cells #[.int .i64 v, .slice A t.length k, .slice B s.length q] 24)
  obtain ⟨n, hn⟩ : ∃ n, n = t.length := ⟨_, rfl⟩
  obtain ⟨m, hm⟩ : ∃ m, m = s.length := ⟨_, rfl⟩
  obtain ⟨nl, hnl⟩ : ∃ m, m = L.length := ⟨_, rfl⟩
  have DA := fun (W : World) (hb : Below w.heap.size w W) => alive15_any W (htab.next hb)
  have DF := fun (W : World) (hb : Below w.heap.size w W) => fit15_any v A t k B s q C L kc W (hm0.on hb) (hn0.on hb) hk0 (hm1.on hb) hk1 hr1 hn hm hnl
  have HB := Lib.hid (And.intro H0 hb0)
  rw [← hn, ← hm] at HB ⊢
  rw [← hnl]
  by_cases hf : ftB v t s L = true
  case neg =>
    have hf : ftB v t s L = false := by simpa using hf
    rw [hf] at DF
    clear hm0 hn0 hk0 hm1 hk1 hr1 htab hn hm hnl hf H0 hb0
    go_enter Tryd.func5, Tryd.ntmps5
    go_wp2_with (first
      | (go_at_call 17; (with_reducible refine (DA _ HB.out.2).mono ?_); rintro e w1 ⟨rfl, hb1⟩
         have HB1 := Lib.hid (And.intro (HB.out.1.on hb1) (bn HB.out.2 hb1))
         obtain ⟨c0, c1, c2⟩ := HB1.out.1.c
         clear hb1)
      | (go_at_call 18; (with_reducible refine (DF _ HB1.out.2).mono ?_); rintro e w2 ⟨rfl, hb2⟩
         have HB2 := Lib.hid (bn HB1.out.2 hb2)
         clear hb2))
    go_ret
    exact ⟨rfl, HB2.out⟩
  case pos =>
    rw [hf] at DF
    by_cases hf1 : fi < 0 ∨ (nl : Int) < fi
    · by_cases hf2 : fi < 0
      · have g1 : decide (fi < 0) = true := decide_eq_true hf2
        clear hm0 hn0 hk0 hm1 hk1 hr1 htab hn hm hnl hf H0 hb0 hf1 hf2
        go_enter Tryd.func5, Tryd.ntmps5
        go_wp2_with (first
          | (go_at_call 17; (with_reducible refine (DA _ HB.out.2).mono ?_); rintro e w1 ⟨rfl, hb1⟩
             have HB1 := Lib.hid (And.intro (HB.out.1.on hb1) (bn HB.out.2 hb1))
             obtain ⟨c0, c1, c2⟩ := HB1.out.1.c
             clear hb1)
          | (go_at_call 18; (with_reducible refine (DF _ HB1.out.2).mono ?_); rintro e w2 ⟨rfl, hb2⟩
             have HB2 := Lib.hid (bn HB1.out.2 hb2)
             clear hb2))
        go_ret
        exact ⟨rfl, HB2.out⟩
      · have g1 : decide (fi < 0) = false := decide_eq_false hf2
        have g2 : decide ((nl : Int) < fi) = true := decide_eq_true (by omega)
        clear hm0 hn0 hk0 hm1 hk1 hr1 htab hn hm hnl hf H0 hb0 hf1 hf2
        go_enter Tryd.func5, Tryd.ntmps5
        go_wp2_with (first
          | (go_at_call 17; (with_reducible refine (DA _ HB.out.2).mono ?_); rintro e w1 ⟨rfl, hb1⟩
             have HB1 := Lib.hid (And.intro (HB.out.1.on hb1) (bn HB.out.2 hb1))
             obtain ⟨c0, c1, c2⟩ := HB1.out.1.c
             clear hb1)
          | (go_at_call 18; (with_reducible refine (DF _ HB1.out.2).mono ?_); rintro e w2 ⟨rfl, hb2⟩
             have HB2 := Lib.hid (bn HB1.out.2 hb2)
             clear hb2))
        go_ret
        exact ⟨rfl, HB2.out⟩
    obtain ⟨f, rfl⟩ : ∃ f : Nat, fi = f := ⟨fi.toNat, by omega⟩
    have hfn : f ≤ nl := by omega
    have g1 : decide ((f : Int) < 0) = false := decide_eq_false (by omega)
    have g2 : decide (nl < f) = false := decide_eq_false (by omega)
    have g2' : decide ((nl : Int) < (f : Int)) = false := decide_eq_false (by omega)
    obtain ⟨x, a, n1, hx⟩ := Fx.mk' hf hn hm hnl
    obtain ⟨x2, a2, n2, hx2⟩ := Fo.mk' (L' := L.drop f ++ L.take f) hx (fun c => by
      rw [List.mem_append]
      conv => lhs; rw [← List.take_append_drop f L, List.mem_append]
      exact Or.comm) (by rw [List.length_append, List.length_drop, List.length_take]; omega)
    obtain ⟨x3, a3, n3, hx3⟩ := Fo.mk' (L' := L.reverse) hx (fun c => by rw [List.mem_reverse]) (List.length_reverse ..)
    have hNw := Nw.arg hm0 hn0 hn hm
    have D1 := fun (W : World) (hb : Below w.heap.size w W) => (hNw.on hb).run (v := v) (by have := hx.m2; omega) hx.ok (hm1.on hb) hx.okL (by have := hx.l6; omega) (htab.next hb) (n' := n1) (by rw [hx.up]; exact hx.hn1) hnl
    have D2 := fun (W : World) (hb : Below w.heap.size w W) (C' : Option Addr) (k' : Nat) (hI : Ill W W.heap.size C' (L.drop f ++ L.take f) k') => (hNw.on hb).run (v := v) (by have := hx.m2; omega) hx.ok hI hx2.okL (by have := hx.l6; have := hx2.len; omega) (htab.next hb) (n' := n2) (by rw [hx2.up]; exact hx2.hn) hx2.len
    have D3 := fun (W : World) (hb : Below w.heap.size w W) (C' : Option Addr) (k' : Nat) (hI : Ill W W.heap.size C' L.reverse k') => (hNw.on hb).run (v := v) (by have := hx.m2; omega) hx.ok hI hx3.okL (by have := hx.l6; have := hx3.len; omega) (htab.next hb) (n' := n3) (by rw [hx3.up]; exact hx3.hn) hx3.len
    rw [hx.up] at D1
    rw [hx2.up] at D2
    rw [hx3.up] at D3
    obtain ⟨Af, kf, hfrom, hIf⟩ := hm1.from f (by omega)
    obtain ⟨At, hto, hIt⟩ := hm1.upto f (by omega)
    rw [← hnl] at hfrom hto
    obtain ⟨nd, hnd⟩ : ∃ nd, nd = (L.drop f).length := ⟨_, rfl⟩
    obtain ⟨nt, hnt⟩ : ∃ nt, nt = (L.take f).length := ⟨_, rfl⟩
    rw [← hnd] at hfrom
    rw [← hnt] at hto
    have hl6 : nl ≤ 60 := hx.l6
    have hn1k : n1 ≤ 4000 := hx.n1k
    obtain ⟨cl, hcl⟩ := hm1.cl
    obtain ⟨ys, hsy, hry⟩ := hIf.rl
    obtain ⟨zs, hsz, hrz⟩ := hIt.rl
    have HX := Lib.hid (And.intro hx (And.intro hx2 hx3))
    have HC := Lib.hid (And.intro hIf (And.intro hIt (And.intro hnd (And.intro hnt (And.intro hcl hnl)))))
    have HY := Lib.hid (And.intro (And.intro hsy hry) (And.intro hsz hrz))
    have HL := Lib.hid (And.intro (show ([] ++ L.drop f ++ L.take f).length = nl by rw [List.nil_append]; exact hx2.len.symm) (And.intro (show (L.drop f).length ≤ 60 by rw [List.length_drop]; omega) (show (L.take f).length ≤ 60 by rw [List.length_take]; omega)))
    have hmk : ∀ w : World, (Instr.makeSlice 25 (.int .i64 (nl : Int)) (.int .i64 (nl : Int))).run Tryd.prog w = .ok (.slice (some ⟨w.heap.size, 0, none⟩) nl nl) (w.alloc (.cells (madeCells #[.slice none 0 0] nl) 22)) := fun w =>
      run_make_row' 25 22 (.slice none 0 0) 24 Tryd.underlying25 info_row15 rfl _ _ nl (by omega) (by omega) w
    clear hm0 hn0 hk0 hm1 hk1 hr1 htab hn hm hnl hf H0 hb0 hNw hx hx2 hx3 hIf hIt hnd hnt hcl hsy hry hsz hrz hf1
    go_enter Tryd.func5, Tryd.ntmps5
    go_wp2_with (first
      | (go_at_call 17; (with_reducible refine (DA _ HB.out.2).mono ?_); rintro e w1 ⟨rfl, hb1⟩
         have HB1 := Lib.hid (And.intro (HB.out.1.on hb1) (bn HB.out.2 hb1))
         obtain ⟨c0, c1, c2⟩ := HB1.out.1.c
         clear hb1)
      | (go_at_call 18; (with_reducible refine (DF _ HB1.out.2).mono ?_); rintro e w2 ⟨rfl, hb2⟩
         have HB2 := Lib.hid (And.intro (HB1.out.1.on hb2) (bn HB1.out.2 hb2))
         clear hb2))
    clear DA DF c0 c1 c2 HB HB1 g1 g2 g2'
    have hS0 : (fun _ : World => True) w2.drew := trivial
    refine wp_slots (fun f' => Sz f' 160 ∧ Slot f' 1 (.slice C nl kc) ∧ Slot f' 2 (.int .i64 (f : Int)) ∧ Slot f' 3 (.pointer (some ⟨w.heap.size, 0, none⟩)) ∧ Slot f' 7 (.bool true)) ⟨⟨rfl, rfl⟩, ⟨rfl⟩, ⟨rfl⟩, ⟨rfl⟩, ⟨rfl⟩⟩ fun a0 hA0 hR => ?_
    obtain ⟨hZ, hs1, hs2, hs3, hs7⟩ := hR
    clear hA0
    refine wp_region_T (fun _ : World => True) 10 (by kernel_rfl) ?_
    refine WT.h ?_
    (refine wt_move 1 1 rfl rfl (by kernel_rfl) (by kernel_rfl) (by kernel_rfl) (by kernel_rfl) (fun _ _ _ h => h) rfl hS0 (by (repeat (first | (refine slot_hit (N := 160) ?_ (by rfl); (repeat (refine sz_put ?_)); assumption; done) | (apply slot_miss; focus rfl))); all_goals assumption) rfl ?_); (refine wt_move 2 2 rfl rfl (by kernel_rfl) (by kernel_rfl) (by kernel_rfl) (by kernel_rfl) (fun _ _ _ h => h) rfl hS0 (by (repeat (first | (refine slot_hit (N := 160) ?_ (by rfl); (repeat (refine sz_put ?_)); assumption; done) | (apply slot_miss; focus rfl))); all_goals assumption) rfl ?_)
    (refine wt_take2 3 42 43 (v := ?_) rfl rfl (by kernel_rfl) (by kernel_rfl) (by kernel_rfl) (by kernel_rfl) (fun _ _ _ h => h) rfl hS0 (by (repeat (first | (refine slot_hit (N := 160) ?_ (by rfl); (repeat (refine sz_put ?_)); assumption; done) | (apply slot_miss; focus rfl))); all_goals assumption) (by (repeat (first | (refine slot_hit (N := 160) ?_ (by rfl); (repeat (refine sz_put ?_)); assumption; done) | (apply slot_miss; focus rfl))); all_goals assumption) (fun ev hk hv0 hv1 w hS => ?_) ?_; rotate_left; focus (go_simp; first | exact hfrom _ | (rw [hfrom]; done) | (simp only [hfrom]; done) | rfl))
    (refine wt_move 5 1 rfl rfl (by kernel_rfl) (by kernel_rfl) (by kernel_rfl) (by kernel_rfl) (fun _ _ _ h => h) rfl hS0 (by (repeat (first | (refine slot_hit (N := 160) ?_ (by rfl); (repeat (refine sz_put ?_)); assumption; done) | (apply slot_miss; focus rfl))); all_goals assumption) rfl ?_); (refine wt_move 6 2 rfl rfl (by kernel_rfl) (by kernel_rfl) (by kernel_rfl) (by kernel_rfl) (fun _ _ _ h => h) rfl hS0 (by (repeat (first | (refine slot_hit (N := 160) ?_ (by rfl); (repeat (refine sz_put ?_)); assumption; done) | (apply slot_miss; focus rfl))); all_goals assumption) rfl ?_)
    (refine wt_take2 7 46 47 (v := ?_) rfl rfl (by kernel_rfl) (by kernel_rfl) (by kernel_rfl) (by kernel_rfl) (fun _ _ _ h => h) rfl hS0 (by (repeat (first | (refine slot_hit (N := 160) ?_ (by rfl); (repeat (refine sz_put ?_)); assumption; done) | (apply slot_miss; focus rfl))); all_goals assumption) (by (repeat (first | (refine slot_hit (N := 160) ?_ (by rfl); (repeat (refine sz_put ?_)); assumption; done) | (apply slot_miss; focus rfl))); all_goals assumption) (fun ev hk hv0 hv1 w hS => ?_) ?_; rotate_left; focus (go_simp; first | exact hto _ | (rw [hto]; done) | (simp only [hto]; done) | rfl))
    refine wt_val0 0  (by kernel_rfl) rfl rfl rfl  (v := ?_) (w' := ?_) (fun ev hk  => ?_) ?_; rotate_left 2; focus (go_simp; first | rfl | (constructor <;> rfl))
    have hb3 := bn (below_dn (Below.refl w2.heap.size w2) 1) (bx_on w2.drew (.cells #[] 22))
    refine ⟨fun _ => trivial, ?_⟩
    have ho3 : Oo w2.heap.size (w2.drew.alloc (.cells #[] 22)) (.slice (some ⟨w2.heap.size, 0, none⟩) 0 0) [] := Oo.new (Has.new w2.drew 22 #[]) (Nat.le_refl _)
    have hw2 : Below w.heap.size w w2 := HB2.out.2
    have hsr : ∀ {A : Option Addr} {m k : Nat} {xs : List Value} {W : World}, Src w A m k xs → Below w2.heap.size w2 W → Src W A m k xs := by
      intro A m k xs W h hb
      rcases h with h | ⟨ad, e, hc⟩
      · exact Or.inl h
      · refine Or.inr ⟨ad, e, fun j u hu => ?_⟩
        have h1 := hc j u hu
        exact (hb.cell (Nat.lt_of_lt_of_le (cell_lt h1) hw2.size)).trans ((hw2.cell (cell_lt h1)).trans h1)
    have hrl : ∀ {xs : List Value} {M : List (List Int)} {W : World}, Rl w w.heap.size xs M → Below w2.heap.size w2 W → Rl W w2.heap.size xs M := fun h hb => ⟨h.1, fun j hj => by
      obtain ⟨A, k, h1, h2⟩ := h.2 j hj
      exact ⟨A, k, h1, ((h2.keep hw2).more hw2.size).keep hb⟩⟩
    refine wt_append13 4 41 44 (by kernel_rfl) rfl rfl rfl (by (repeat (first | (refine slot_hit (N := 160) ?_ (by rfl); (repeat (refine sz_put ?_)); assumption; done) | (apply slot_miss; focus rfl))); all_goals assumption) (by (repeat (first | (refine slot_hit (N := 160) ?_ (by rfl); (repeat (refine sz_put ?_)); assumption; done) | (apply slot_miss; focus rfl))); all_goals assumption) rfl (fun ty => oo_run w2.heap.size _ [] ho3 Af nd kf (L.drop f) HC.out.2.2.1 (hsr HY.out.1.1 hb3) (hrl HY.out.1.2 hb3) (by have := HL.out.2.1; simp only [List.length_nil]; omega) hb3.size ty) (fun v4 w4 hG4 => ?_)
    have hb4 := hb3.trans hG4.2.1
    refine ⟨fun _ => trivial, ?_⟩
    refine wt_append13 8 45 48 (by kernel_rfl) rfl rfl rfl (by (repeat (first | (refine slot_hit (N := 160) ?_ (by rfl); (repeat (refine sz_put ?_)); assumption; done) | (apply slot_miss; focus rfl))); all_goals assumption) (by (repeat (first | (refine slot_hit (N := 160) ?_ (by rfl); (repeat (refine sz_put ?_)); assumption; done) | (apply slot_miss; focus rfl))); all_goals assumption) rfl (fun ty => oo_run w2.heap.size _ ([] ++ L.drop f) hG4.1 At nt kc (L.take f) HC.out.2.2.2.1 (hsr HY.out.2.1 hb4) (hrl HY.out.2.2 hb4) (by have := HL.out.2.1; have := HL.out.2.2; rw [List.nil_append]; omega) hb4.size ty) (fun v5 w5 hG5 => ?_)
    have hb5 := hb4.trans hG5.2.1
    refine ⟨fun _ => trivial, ?_⟩
    obtain ⟨A5, k5, e5, hI5⟩ := hG5.1.ill hb5.size
    rw [HL.out.1] at e5
    rw [List.nil_append] at hI5
    subst e5
    have HB5 := Lib.hid (And.intro (bn hw2 hb5) (And.intro hI5 (HB2.out.1.on hb5)))
    (refine wt_assign 9 49 rfl rfl (by kernel_rfl) (by kernel_rfl) (by kernel_rfl) (by kernel_rfl) (fun _ _ _ h => h) rfl hS0 (by (repeat (first | (refine slot_hit (N := 160) ?_ (by rfl); (repeat (refine sz_put ?_)); assumption; done) | (apply slot_miss; focus rfl))); all_goals assumption) rfl ?_)
    clear hG4 hG5 ho3 hb3 hb4 hI5 hsr hrl hw2 hfrom hto HB2 hb5
    refine wt_known (N := 160) (by kernel_rfl) (by (repeat (refine sz_put ?_)); assumption) [(1, .slice C nl kc), (3, .pointer (some ⟨w.heap.size, 0, none⟩)), (7, .bool true), (8, .slice A5 nl k5)] ⟨(by (repeat (first | (refine slot_hit (N := 160) ?_ (by rfl); (repeat (refine sz_put ?_)); assumption; done) | (apply slot_miss; focus rfl))); all_goals assumption), (by (repeat (first | (refine slot_hit (N := 160) ?_ (by rfl); (repeat (refine sz_put ?_)); assumption; done) | (apply slot_miss; focus rfl))); all_goals assumption), (by (repeat (first | (refine slot_hit (N := 160) ?_ (by rfl); (repeat (refine sz_put ?_)); assumption; done) | (apply slot_miss; focus rfl))); all_goals assumption), (by (repeat (first | (refine slot_hit (N := 160) ?_ (by rfl); (repeat (refine sz_put ?_)); assumption; done) | (apply slot_miss; focus rfl))); all_goals assumption), trivial⟩ fun fv fl hfl => ?_; obtain rfl : fl = [fv 0, (.slice C nl kc : Value), fv 2, (.pointer (some ⟨w.heap.size, 0, none⟩) : Value), fv 4, fv 5, fv 6, (.bool true : Value), (.slice A5 nl k5 : Value), fv 9, fv 10, fv 11, fv 12, fv 13, fv 14, fv 15, fv 16, fv 17, fv 18, fv 19, fv 20, fv 21, fv 22, fv 23, fv 24, fv 25, fv 26, fv 27, fv 28, fv 29, fv 30, fv 31, fv 32, fv 33, fv 34, fv 35, fv 36, fv 37, fv 38, fv 39, fv 40, fv 41, fv 42, fv 43, fv 44, fv 45, fv 46, fv 47, fv 48, fv 49, fv 50, fv 51, fv 52, fv 53, fv 54, fv 55, fv 56, fv 57, fv 58, fv 59, fv 60, fv 61, fv 62, fv 63, fv 64, fv 65, fv 66, fv 67, fv 68, fv 69, fv 70, fv 71, fv 72, fv 73, fv 74, fv 75, fv 76, fv 77, fv 78, fv 79, fv 80, fv 81, fv 82, fv 83, fv 84, fv 85, fv 86, fv 87, fv 88, fv 89, fv 90, fv 91, fv 92, fv 93, fv 94, fv 95, fv 96, fv 97, fv 98, fv 99, fv 100, fv 101, fv 102, fv 103, fv 104, fv 105, fv 106, fv 107, fv 108, fv 109, fv 110, fv 111, fv 112, fv 113, fv 114, fv 115, fv 116, fv 117, fv 118, fv 119, fv 120, fv 121, fv 122, fv 123, fv 124, fv 125, fv 126, fv 127, fv 128, fv 129, fv 130, fv 131, fv 132, fv 133, fv 134, fv 135, fv 136, fv 137, fv 138, fv 139, fv 140, fv 141, fv 142, fv 143, fv 144, fv 145, fv 146, fv 147, fv 148, fv 149, fv 150, fv 151, fv 152, fv 153, fv 154, fv 155, fv 156, fv 157, fv 158, fv 159] := hfl.symm.trans (by kernel_rfl); clear hfl
    clear hS0 hs1 hs2 hs3 hs7
    have HR0 := Lib.hid (World.rowIs_made w5 (.slice none 0 0) nl 22)
    go_wp2
    clear hmk
    go_loopw [10] (fun i wr => ∃ j : Nat, j ≤ nl ∧ i = .int .i64 (j : Int) ∧ wr.rowIs w5.heap.size 22 nl (fun p => if nl ≤ p + j then cl (nl - 1 - p) else .slice none 0 0) ∧ Below w5.heap.size w5 wr) (fun i _ => nl - (intOf i).toNat)
    case atStart => exact ⟨0, Nat.zero_le _, rfl, HR0.out.congr fun p hp => by rw [if_neg (by omega)], (Below.refl _ _).alloc (Nat.le_refl _) _⟩
    case round =>
      obtain ⟨j, hj, rfl, hR, hB⟩ := hrel
      by_cases hlt : j < nl
      case pos =>
        obtain ⟨b, o, rfl, hbl, y0, A', k', ec, hIc⟩ := HC.out.2.2.2.2.1 j (by have := HC.out.2.2.2.2.2; omega)
        have hbw := bn HB5.out.1 hB
        have yy : wr.cell? ⟨b, o + j, none⟩ = some (cl j) := (hbw.cell (p := ⟨b, o + j, none⟩) hbl).trans y0
        rw [ec] at yy
        have hj1 : (j : Int) < (nl : Int) := by omega
        have hj0 : (0 : Int) ≤ (j : Int) := by omega
        obtain ⟨lc, hlc⟩ : ∃ lc, lc = (L.getD j []).length := ⟨_, rfl⟩
        rw [← hlc] at yy ec
        obtain ⟨p, hp⟩ : ∃ p, p = nl - 1 - j := ⟨_, rfl⟩
        have hp1 : p < nl := by omega
        have hp2 : (nl : Int) - 1 - (j : Int) = (p : Int) := by omega
        have p0 : (0 : Int) ≤ (p : Int) := by omega
        have p1 : (p : Int) < (nl : Int) := by omega
        have yf := hR.frozen p
        have ya := hR.cell (i := p) hp1
        have HK := Lib.hid (And.intro hR (And.intro hB (And.intro ec (And.intro hp hj))))
        clear hR hB y0 hIc hlc hbw ec hbl hp
        go_wp2
        go_roundw
        case rel => exact ⟨j + 1, by omega, by go_num, (HK.out.1.set p (.slice A' lc k')).congr fun q' hq' => by
          have hp := HK.out.2.2.2.1
          by_cases e : q' = p
          · rw [if_pos e, if_pos (by omega), ← HK.out.2.2.1]
            congr 1
            omega
          · rw [if_neg e]
            by_cases e2 : nl ≤ q' + j
            · rw [if_pos e2, if_pos (by omega)]
            · rw [if_neg e2, if_neg (by omega)], HK.out.2.1.setCell (p := ⟨w5.heap.size, p, none⟩) (Nat.le_refl _) _⟩
        case measure => simp [intOf]; omega
      case neg =>
        obtain rfl : j = nl := by omega
        have hjn : ¬ (j : Int) < (j : Int) := by omega
        have hI6 : Ill wr wr.heap.size (some ⟨w5.heap.size, 0, none⟩) L.reverse j := Ill.ofRow hR (by rw [List.length_reverse]; exact HC.out.2.2.2.2.2) (B := w.heap.size) (bn HB5.out.1 hB).size (fun p hp => by
          obtain ⟨b, o, _, _, _, A', k', ec, hIc⟩ := HC.out.2.2.2.2.1 (j - 1 - p) (by have := HC.out.2.2.2.2.2; omega)
          rw [if_pos (by omega), rev_getD L (by have := HC.out.2.2.2.2.2; omega), ← HC.out.2.2.2.2.2]
          exact ⟨A', k', ec, hIc.keep (bn HB5.out.1 hB)⟩)
        have HB6 := Lib.hid (And.intro (bn HB5.out.1 hB) (And.intro (HB5.out.2.1.on hB) (And.intro hI6 (HB5.out.2.2.on hB))))
        obtain ⟨c0, c1, c2⟩ := HB6.out.2.2.2.c
        clear hR hB hI6
        by_cases hneg : a < 0
        case neg =>
          have q1 : decide (a < 0) = false := decide_eq_false hneg
          have q2 : decide (a2 < 0) = false := decide_eq_false fun h => hneg (HX.out.2.1.sg.2 h)
          have q3 : decide (a3 < 0) = false := decide_eq_false fun h => hneg (HX.out.2.2.sg.2 h)
          have q4 : decide (0 ≤ a) = true := decide_eq_true (by omega)
          clear hneg
          go_wp2_with (first
            | (go_at_call 14; (with_reducible refine (D1 _ HB6.out.1).mono ?_); rintro e w7 ⟨A7, k7, B7, q7, rfl, hN7, hb7⟩
               have hbz := bn hb7 (bx_on w7 (.cells #[.int .i64 v, .slice A7 n1 k7, .slice B7 m q7] 24))
               have HB7 := Lib.hid (And.intro (bn HB6.out.1 hbz) (And.intro (HB6.out.2.1.on hbz) (And.intro (HB6.out.2.2.1.on hbz) (HB6.out.2.2.2.on hbz))))
               obtain ⟨c70, c71, c72⟩ := HB7.out.2.2.2.c
               clear hN7 hb7 hbz)
            | (go_at_call 14; (with_reducible refine (D2 _ HB7.out.1 _ _ HB7.out.2.1).mono ?_); rintro e w8 ⟨A8, k8, B8, q8, rfl, hN8, hb8⟩
               have hbz := bn hb8 (bx_on w8 (.cells #[.int .i64 v, .slice A8 n2 k8, .slice B8 m q8] 24))
               have HB8 := Lib.hid (And.intro (bn HB7.out.1 hbz) (And.intro (HB7.out.2.2.1.on hbz) (HB7.out.2.2.2.on hbz)))
               obtain ⟨c80, c81, c82⟩ := HB8.out.2.2.c
               clear hN8 hb8 hbz)
            | (go_at_call 14; (with_reducible refine (D3 _ HB8.out.1 _ _ HB8.out.2.1).mono ?_); rintro e w9 ⟨A9, k9, B9, q9, rfl, hN9, hb9⟩
               have hbz := bn hb9 (bx_on w9 (.cells #[.int .i64 v, .slice A9 n3 k9, .slice B9 m q9] 24))
               have HB9 := Lib.hid (bn HB8.out.1 hbz)
               clear hN9 hb9 hbz))
          go_ret
          exact ⟨rfl, HB9.out⟩
        case pos =>
          have q1 : decide (a < 0) = true := decide_eq_true hneg
          have q2 : decide (a2 < 0) = true := decide_eq_true (HX.out.2.1.sg.1 hneg)
          have q3 : decide (a3 < 0) = true := decide_eq_true (HX.out.2.2.sg.1 hneg)
          have q4 : decide (0 ≤ a) = false := decide_eq_false (by omega)
          obtain ⟨s1, rfl, s3⟩ := HX.out.2.1.sm hneg
          obtain ⟨s4, rfl, s6⟩ := HX.out.2.2.sm hneg
          have HS := Lib.hid (And.intro s3 (And.intro s1 s4))
          have enn : ((n3 : Int) == (n3 : Int)) = true := by simp
          have DS := fun (A B : Option Addr) (k k' : Nat) (W : World) (h : Ia W W.heap.size A (srt x) k) (h' : Ia W W.heap.size B (srt x) k') => rSame_any A (srt x) k B (srt x) k' W h (by have := HS.out.1; omega) h' (by have := HS.out.1; omega)
          rw [sm_self, s3] at DS
          clear hneg s1 s3 s4 s6
          go_wp2_with (first
            | (go_at_call 14; (with_reducible refine (D1 _ HB6.out.1).mono ?_); rintro e w7 ⟨A7, k7, B7, q7, rfl, hN7, hb7⟩
               have hz := bx_on w7 (.cells #[.int .i64 v, .slice A7 n3 k7, .slice B7 m q7] 24)
               have hbz := bn hb7 hz
               have HB7 := Lib.hid (And.intro (bn HB6.out.1 hbz) (And.intro (HB6.out.2.1.on hbz) (And.intro (HB6.out.2.2.1.on hbz) (And.intro (HB6.out.2.2.2.on hbz) (And.intro (hN7.on hz) (Bs.new w7 (.int .i64 v) (.slice A7 n3 k7) (.slice B7 m q7)))))))
               obtain ⟨c70, c71, c72⟩ := HB7.out.2.2.2.1.c
               clear hN7 hb7 hbz hz)
            | (go_at_call 14; (with_reducible refine (D2 _ HB7.out.1 _ _ HB7.out.2.1).mono ?_); rintro e w8 ⟨A8, k8, B8, q8, rfl, hN8, hb8⟩
               have hz := bx_on w8 (.cells #[.int .i64 v, .slice A8 n3 k8, .slice B8 m q8] 24)
               have hbz := bn hb8 hz
               have HB8 := Lib.hid (And.intro (bn HB7.out.1 hbz) (And.intro (HB7.out.2.2.1.on hbz) (And.intro (HB7.out.2.2.2.1.on hbz) (And.intro (And.intro (HB7.out.2.2.2.2.1.on hbz) (HB7.out.2.2.2.2.2.on hbz)) (And.intro (hN8.on hz) (Bs.new w8 (.int .i64 v) (.slice A8 n3 k8) (.slice B8 m q8)))))))
               obtain ⟨c80, c81, c82⟩ := HB8.out.2.2.1.c
               clear hN8 hb8 hbz hz)
            | (go_at_call 14; (with_reducible refine (D3 _ HB8.out.1 _ _ HB8.out.2.1).mono ?_); rintro e w9 ⟨A9, k9, B9, q9, rfl, hN9, hb9⟩
               have hz := bx_on w9 (.cells #[.int .i64 v, .slice A9 n3 k9, .slice B9 m q9] 24)
               have hbz := bn hb9 hz
               have HB9 := Lib.hid (And.intro (bn HB8.out.1 hbz) (And.intro (And.intro (HB8.out.2.2.2.1.1.on hbz) (HB8.out.2.2.2.1.2.on hbz)) (And.intro (And.intro (HB8.out.2.2.2.2.1.on hbz) (HB8.out.2.2.2.2.2.on hbz)) (And.intro (hN9.on hz) (Bs.new w9 (.int .i64 v) (.slice A9 n3 k9) (.slice B9 m q9))))))
               obtain ⟨c90, c91, c92⟩ := HB9.out.2.1.2.c
               have E10 := sorted_of (x := x) (y := x) rfl HS.out.1 HX.out.1.hn1.symm hn1k A7 k7 _ HB9.out.2.1.1.ti
               clear hN9 hb9 hbz hz)
            | (go_at_call 19; (with_reducible refine E10.mono ?_); rintro e w10 ⟨A10, k10, rfl, hI10, hb10⟩
               have HB10 := Lib.hid (And.intro (bn HB9.out.1 hb10) (And.intro (HB9.out.2.1.2.on hb10) (And.intro (And.intro (HB9.out.2.2.1.1.on hb10) (HB9.out.2.2.1.2.on hb10)) (And.intro (And.intro (HB9.out.2.2.2.1.on hb10) (HB9.out.2.2.2.2.on hb10)) hI10))))
               obtain ⟨d10, d11, d12⟩ := HB10.out.2.1.c
               obtain ⟨e10, e11, e12⟩ := HB10.out.2.2.1.2.c
               have E11 := sorted_of (x := x) (y := x2) HS.out.2.1 HS.out.1 HX.out.2.1.hn.symm hn1k A8 k8 _ HB10.out.2.2.1.1.ti
               clear hI10 hb10 E10)
            | (go_at_call 19; (with_reducible refine E11.mono ?_); rintro e w11 ⟨A11, k11, rfl, hI11, hb11⟩
               have HB11 := Lib.hid (And.intro (bn HB10.out.1 hb11) (And.intro (HB10.out.2.2.1.2.on hb11) (And.intro (And.intro (HB10.out.2.2.2.1.1.on hb11) (HB10.out.2.2.2.1.2.on hb11)) (HB10.out.2.2.2.2.on hb11))))
               have E12 := DS A10 A11 k10 k11 w11 HB11.out.2.2.2 hI11
               clear hI11 hb11 E11)
            | (go_at_call 20; (with_reducible refine E12.mono ?_); rintro e w12 ⟨rfl, hb12⟩
               have HB12 := Lib.hid (And.intro (bn HB11.out.1 hb12) (And.intro (HB11.out.2.1.on hb12) (And.intro (And.intro (HB11.out.2.2.1.1.on hb12) (HB11.out.2.2.1.2.on hb12)) (HB11.out.2.2.2.on hb12))))
               obtain ⟨h10, h11, h12⟩ := HB12.out.2.2.1.2.c
               have E13 := sorted_of (x := x) (y := x3) HS.out.2.2 HS.out.1 HX.out.2.2.hn.symm hn1k A9 k9 _ HB12.out.2.2.1.1.ti
               clear hb12 E12)
            | (go_at_call 19; (with_reducible refine E13.mono ?_); rintro e w13 ⟨A13, k13, rfl, hI13, hb13⟩
               have HB13 := Lib.hid (And.intro (bn HB12.out.1 hb13) (And.intro (HB12.out.2.1.on hb13) (HB12.out.2.2.1.2.on hb13)))
               have E14 := DS A10 A13 k10 k13 w13 (HB12.out.2.2.2.on hb13) hI13
               clear hI13 hb13 E13)
            | (go_at_call 20; (with_reducible refine E14.mono ?_); rintro e w14 ⟨rfl, hb14⟩
               have HB14 := Lib.hid (bn HB13.out.1 hb14)
               obtain ⟨i10, i11, i12⟩ := (HB13.out.2.1.on hb14).c
               obtain ⟨j10, j11, j12⟩ := (HB13.out.2.2.on hb14).c
               clear hb14 E14))
          go_ret
          exact ⟨rfl, HB14.out⟩

end Go.Proofs.YtecmldnigohjfaaDoor
