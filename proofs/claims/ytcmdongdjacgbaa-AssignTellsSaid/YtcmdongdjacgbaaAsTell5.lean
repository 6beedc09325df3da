/- The reference's contracts: Put. -/
import Derived.Test.YtcmdongdjacgbaaAsTell4
namespace Go.Proofs.Ytcmdongdjacgbaa
open Go Go.RowKit
set_option linter.unusedVariables false
set_option linter.unusedSimpArgs false

set_option maxRecDepth 100000 in
set_option maxHeartbeats 4000000 in
theorem rPut_any (v : Int) (A : Option Addr) (t : List Int) (k : Nat) (B : Option Addr) (s : List Int) (q : Nat) (x : Int) (d : Bool) (w : World) (h : Ia w w.heap.size A t k) (hl : t.length ≤ 100000) (h' : Ia w w.heap.size B s q) (hl' : s.length ≤ 100000) :
    Calls Try.prog 9 #[asv v A t.length k B s.length q, .int .i64 x, .bool d] w (AsIs (pV v t s x) (pT v t s x) (pS v t s x d) (pE v t s x) w) := by
  have H0 := Bx2.new w (.int .i64 v) (.slice A t.length k) (.slice B s.length q)
  have DC := rCheck14_any v A t k B s q (bx2 w (.int .i64 v) (.slice A t.length k) (.slice B s.length q)) (h.on H0.b) hl (h'.on H0.b) hl'
  unfold bx2 at DC
  obtain ⟨n, hn⟩ : ∃ n, n = t.length := ⟨_, rfl⟩
  obtain ⟨m, hm⟩ : ∃ m, m = s.length := ⟨_, rfl⟩
  have HB := Lib.hid H0
  rw [← hn, ← hm] at HB
  by_cases hO : OkA v t s
  · have DT := fun W => rLit_any v x (by have := hO.1; omega) W
    rw [aE_yes hO] at DC
    cases hL : isL v x with
    | true =>
      rw [hL] at DT
      have DI := fun (W : World) (hb : Below w.heap.size w W) => rIs_any v v (by have := hO.1; omega) A t k B s.length q x W (h.on hb) hl hO.2.1 hL
      cases hin : vin t x with
      | false =>
        have e0 : pE v t s x = 0 := pE_0.2 ⟨hO, hL, hin⟩
        obtain ⟨p1, p2, p3, p4⟩ := p_yes e0
        have p5 : pS v t s x d = if d = true then s ++ [(t.length : Int)] else s := by cases d; exact p4; exact p3
        have DW := fun (W : World) (hb : Below w.heap.size w W) => (show Calls Try.prog 24 #[asv v A t.length k B s.length q, .int .i64 x, .bool d] W (TwIs v (t ++ [x]) (if d = true then s ++ [(t.length : Int)] else s) W) from by
          cases d
          · exact rWithF_any v A t k B s q x W (h.on hb) hl (h'.on hb) hl'
          · exact rWith_any v A t k B s q x W (h.on hb) hl (h'.on hb) hl')
        rw [p1, p2, p5, e0]
        rw [isv_none.2 hin] at DI
        obtain ⟨S, hS⟩ : ∃ S, S = if d = true then s ++ [(t.length : Int)] else s := ⟨_, rfl⟩
        rw [← hS] at DW ⊢
        rw [← hn, ← hm] at DC DI DW ⊢
        clear h hl h' hl' hn hm H0 hO hL hin e0 p1 p2 p3 p4 p5 hS
        go_enter Try.func9, Try.ntmps9
        go_wp2_with (first
          | (go_at_call 19; (with_reducible refine DC.mono ?_); rintro e w2 ⟨rfl, hb2⟩
             have H2 := HB.out.on hb2
             obtain ⟨c0, c1, c2⟩ := H2.c
             obtain ⟨d0, d1, d2, f0, f1, f2⟩ := H2.d
             have HB2 := Lib.hid H2
             clear H2 hb2)
          | (go_at_call 22; (with_reducible refine (DT _).mono ?_); rintro e w3 ⟨rfl, rfl⟩)
          | (go_at_call 23; (with_reducible refine (DI _ HB2.out.b).mono ?_); rintro e w4 ⟨rfl, hb4⟩
             have H4 := HB2.out.on hb4
             obtain ⟨e0, e1, e2⟩ := H4.c
             obtain ⟨g0, g1, g2, k0, k1, k2⟩ := H4.d
             have HB4 := Lib.hid H4
             clear H4 hb4)
          | (go_at_call 24; (with_reducible refine (DW _ HB4.out.b).mono ?_); rintro e w5 ⟨v1, v2, rfl, hT5, hb5⟩
             obtain ⟨A5, k5, rfl, _⟩ := hT5.o1.at
             obtain ⟨B5, q5, rfl, _⟩ := hT5.o2.at
             obtain ⟨n5, hn5⟩ : ∃ n5, n5 = (t ++ [x]).length := ⟨_, rfl⟩
             obtain ⟨m5, hm5⟩ : ∃ m5, m5 = S.length := ⟨_, rfl⟩
             rw [← hn5, ← hm5] at hT5
             rw [← hn5, ← hm5]
             have H5 := HB4.out.on hb5
             obtain ⟨g0, g1, g2, k0, k1, k2⟩ := H5.d
             have HB5 := Lib.hid (And.intro H5 (And.intro hT5 (And.intro hn5 (And.intro hm5 HB4.out.z))))
             clear H5 hT5 hb5 hn5 hm5))
        refine bodyPost_ret (v := .tuple #[.agg #[.int .i64 v, .slice A5 n5 k5, .slice B5 m5 q5], .int .i64 0]) (by simp [results, Try.results9, go_sem, g0, g1, g2]) rfl ?_
        have hT := HB5.out.2.1
        have hz := HB5.out.2.2.2.2
        have a1 : ∀ a, A5 = some a → a.block ≠ w.heap.size + 1 := fun a e => by subst e; have := hT.o1.blk a.block rfl; omega
        have a2 : ∀ a, B5 = some a → a.block ≠ w.heap.size + 1 := fun a e => by subst e; have := hT.o2.blk a.block rfl; omega
        obtain ⟨A6, k6, ea, hI1⟩ := hT.o1.at
        obtain ⟨B6, q6, eb, hI2⟩ := hT.o2.at
        cases ea
        cases eb
        refine ⟨A5, k5, B5, q5, by rw [HB5.out.2.2.1, HB5.out.2.2.2.1], (hI1.st3 a1 _ _ _).more (by rw [st3_size]; exact Nat.le_refl _), (hI2.st3 a2 _ _ _).more (by rw [st3_size]; exact Nat.le_refl _), st3_below HB5.out.1.b (Nat.le_succ _) _ _ _, fun a e => ?_, fun a e => ?_⟩
        · subst e; have := hT.o1.blk a.block rfl; omega
        · subst e; have := hT.o2.blk a.block rfl; omega
      | true =>
        have e0 : pE v t s x = 18 := by unfold pE; rw [if_pos hO, if_pos hL, hin]; rfl
        obtain ⟨p1, p2, p3⟩ := p_no (v := v) (t := t) (s := s) (x := x) (d := d) (by rw [e0]; decide)
        rw [p1, p2, p3, e0]
        have hz2 := isv_ne.2 hin
        obtain ⟨z, hz⟩ : ∃ z, z = isv t x := ⟨_, rfl⟩
        rw [← hz] at DI hz2
        have z2 : (z != 2) = true := by simpa using hz2
        rw [← hn, ← hm] at DC DI ⊢
        clear h hl h' hl' hn hm H0 hO hL hin e0 p1 p2 p3 hz hz2
        go_enter Try.func9, Try.ntmps9
        go_wp2_with (first
          | (go_at_call 19; (with_reducible refine DC.mono ?_); rintro e w2 ⟨rfl, hb2⟩
             have H2 := HB.out.on hb2
             obtain ⟨c0, c1, c2⟩ := H2.c
             obtain ⟨d0, d1, d2, f0, f1, f2⟩ := H2.d
             have HB2 := Lib.hid H2
             clear H2 hb2)
          | (go_at_call 22; (with_reducible refine (DT _).mono ?_); rintro e w3 ⟨rfl, rfl⟩)
          | (go_at_call 23; (with_reducible refine (DI _ HB2.out.b).mono ?_); rintro e w4 ⟨rfl, hb4⟩
             have H4 := HB2.out.on hb4
             obtain ⟨e0, e1, e2⟩ := H4.c
             obtain ⟨g0, g1, g2, k0, k1, k2⟩ := H4.d
             have HB4 := Lib.hid H4
             clear H4 hb4))
        refine bodyPost_ret (v := .tuple #[.agg #[.int .i64 0, .slice none 0 0, .slice none 0 0], .int .i64 18]) (by simp [results, Try.results9, go_sem, g0, g1, g2]) rfl ?_
        exact (OwIs.none rfl (st3_below HB4.out.b (Nat.le_succ _) _ _ _)).as
    | false =>
      have e0 : pE v t s x = 2 := by unfold pE; rw [if_pos hO, hL]; rfl
      obtain ⟨p1, p2, p3⟩ := p_no (v := v) (t := t) (s := s) (x := x) (d := d) (by rw [e0]; decide)
      rw [p1, p2, p3, e0]
      rw [hL] at DT
      rw [← hn, ← hm] at DC ⊢
      clear h hl h' hl' hn hm H0 hO hL e0 p1 p2 p3
      go_enter Try.func9, Try.ntmps9
      go_wp2_with (first
        | (go_at_call 19; (with_reducible refine DC.mono ?_); rintro e w2 ⟨rfl, hb2⟩
           have H2 := HB.out.on hb2
           obtain ⟨c0, c1, c2⟩ := H2.c
           obtain ⟨d0, d1, d2, f0, f1, f2⟩ := H2.d
           have HB2 := Lib.hid H2
           clear H2 hb2)
        | (go_at_call 22; (with_reducible refine (DT _).mono ?_); rintro e w3 ⟨rfl, rfl⟩))
      refine bodyPost_ret (v := .tuple #[.agg #[.int .i64 0, .slice none 0 0, .slice none 0 0], .int .i64 2]) (by simp [results, Try.results9, go_sem, d0, d1, d2]) rfl ?_
      exact (OwIs.none rfl (st3_below HB2.out.b (Nat.le_succ _) _ _ _)).as
  · have e0 : pE v t s x = 8 := by unfold pE; rw [if_neg hO]
    obtain ⟨p1, p2, p3⟩ := p_no (v := v) (t := t) (s := s) (x := x) (d := d) (by rw [e0]; decide)
    rw [p1, p2, p3, e0]
    rw [aE_no hO] at DC
    rw [← hn, ← hm] at DC ⊢
    clear h hl h' hl' hn hm H0 hO e0 p1 p2 p3
    go_enter Try.func9, Try.ntmps9
    go_wp2_with (first
      | (go_at_call 19; (with_reducible refine DC.mono ?_); rintro e w2 ⟨rfl, hb2⟩
         have H2 := HB.out.on hb2
         obtain ⟨c0, c1, c2⟩ := H2.c
         obtain ⟨d0, d1, d2, f0, f1, f2⟩ := H2.d
         have HB2 := Lib.hid H2
         clear H2 hb2))
    refine bodyPost_ret (v := .tuple #[.agg #[.int .i64 0, .slice none 0 0, .slice none 0 0], .int .i64 8]) (by simp [results, Try.results9, go_sem, d0, d1, d2]) rfl ?_
    exact (OwIs.none rfl (st3_below HB2.out.b (Nat.le_succ _) _ _ _)).as

end Go.Proofs.Ytcmdongdjacgbaa
