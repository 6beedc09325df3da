/- The reference's contracts: With. -/
import Derived.Test.YtcmdongdjacgbaaAsTell3
namespace Go.Proofs.Ytcmdongdjacgbaa
open Go Go.RowKit
set_option linter.unusedVariables false
set_option linter.unusedSimpArgs false

theorem Io.setne {B : Nat} {w : World} {v : Value} {l : List Int} (h : Io B w v l) {q : Addr} (hq : ∀ k, v.ownBlock = some k → k ≠ q.block) (u : Value) : Io B (w.setCell q u) v l :=
  h.same fun g hg => Below.heap_setCell _ _ _ _ (hq g hg)
theorem set_below {B : Nat} {w : World} {q : Addr} (h : B ≤ q.block) (u : Value) : Below B w (w.setCell q u) := (Below.refl B w).setCell h u
theorem set_sz (w : World) (q : Addr) (u : Value) : (w.setCell q u).heap.size = w.heap.size := by simp [World.setCell]

set_option maxRecDepth 100000 in
set_option maxHeartbeats 4000000 in
theorem rWith_any (v : Int) (A : Option Addr) (t : List Int) (k : Nat) (B : Option Addr) (s : List Int) (q : Nat) (x : Int) (w : World) (h : Ia w w.heap.size A t k) (hl : t.length ≤ 100000) (h' : Ia w w.heap.size B s q) (hl' : s.length ≤ 100000) :
    Calls Try.prog 24 #[asv v A t.length k B s.length q, .int .i64 x, .bool true] w (TwIs v (t ++ [x]) (s ++ [(t.length : Int)]) w) := by
  have H0 := Bx2.new w (.int .i64 v) (.slice A t.length k) (.slice B s.length q)
  obtain ⟨n, hn⟩ : ∃ n, n = t.length := ⟨_, rfl⟩
  obtain ⟨m, hm⟩ : ∃ m, m = s.length := ⟨_, rfl⟩
  have HN := Lib.hid (And.intro hn (And.intro hm (And.intro hl hl')))
  have HX := Lib.hid H0
  rw [← hn, ← hm] at HX
  rw [← hn, ← hm]
  have HN2 := HN
  have D := twin14_any v A t k B s q (bx2 w (.int .i64 v) (.slice A t.length k) (.slice B s.length q)) (h.on H0.b) hl (h'.on H0.b) hl'
  unfold bx2 at D
  rw [← hn, ← hm] at D
  clear h hl h' hl' hn hm H0
  go_enter Try.func24, Try.ntmps24
  go_wp2_with (first
    | (go_at_call 5; (with_reducible refine D.mono ?_); rintro e w2 ⟨v1, v2, rfl, hT2, hb2⟩
       obtain ⟨A1, k1, rfl, _⟩ := hT2.o1.at
       obtain ⟨B2, q2, rfl, _⟩ := hT2.o2.at
       rw [← HN.out.1, ← HN.out.2.1] at hT2
       rw [← HN.out.1, ← HN.out.2.1]
       have hx2 := bx_on w2 (.cells #[.int .i64 v, .slice A1 n k1, .slice B2 m q2] 24)
       have hX2 := (HX.out.on hb2).on hx2
       have hC2 := Has.new w2 24 #[.int .i64 v, .slice A1 n k1, .slice B2 m q2]
       have hz2 : w.heap.size + 2 ≤ w2.heap.size := (HX.out.on hb2).z
       have hzb : (bx2 w (.int .i64 v) (.slice A n k) (.slice B m q)).heap.size = w.heap.size + 2 := by unfold bx2; simp
       have hT2' : Two (w.heap.size + 2) w2 (.slice A1 n k1) t (.slice B2 m q2) s := hzb ▸ hT2
       have H2 := Lib.hid (And.intro hX2 (And.intro hC2 (And.intro hz2 hT2')))
       clear hT2 hb2 hx2 hX2 hC2 hz2 hzb hT2')
    | (at_builtin; (refine append_own1 rfl (.tmp 12) (.tmp 16) rfl (w.heap.size + 2) (.slice B2 m q2) s n rfl (H2.out.2.2.2.o2.keep (bx_on _ _)) (by have := HN.out.2.2.2; omega) (by have := H2.out.2.2.1; simp; omega) (w2.heap.size + 1) (by simp) rfl ?_); intro v3 w3 ho3 hb3 hg3 hz3 hk3
       obtain ⟨B3, q3, rfl, _⟩ := ho3.at
       obtain ⟨m3, hm3⟩ : ∃ m3, m3 = (s ++ [(n : Int)]).length := ⟨_, rfl⟩
       rw [← hm3] at ho3 hk3 ⊢
       have hX3 := H2.out.1.far hb3
       have hC3 : Has w3 w2.heap.size 24 #[.int .i64 v, .slice A1 n k1, .slice B2 m q2] := (hg3 w2.heap.size (by simp) (fun e => by have := H2.out.2.2.2.o2.lt e; omega)).trans H2.out.2.1
       have hk3' : ∀ g, (Value.slice B3 m3 q3).ownBlock = some g → g ≠ w2.heap.size := fun g hg e => by
         rcases hk3 g hg with h | h
         · have := H2.out.2.2.2.o2.lt h; omega
         · simp at h; omega
       have ho1 : Io (w.heap.size + 2) w3 (.slice A1 n k1) t := H2.out.2.2.2.o1.same fun g hg => (hg3 g (by have := H2.out.2.2.2.o1.lt hg; simp; omega) (fun e => H2.out.2.2.2.ap g hg e)).trans (Below.heap_alloc _ _ _ (H2.out.2.2.2.o1.lt hg))
       have hap3 : ∀ g, (Value.slice A1 n k1).ownBlock = some g → (Value.slice B3 m3 q3).ownBlock ≠ some g := fun g hg h3 => by
         rcases hk3 g h3 with h | h
         · exact H2.out.2.2.2.ap g hg h
         · have := H2.out.2.2.2.o1.lt hg; simp at h; omega
       obtain ⟨y0, y1, y2⟩ := (show Bs w2.heap.size w3 _ _ _ from ⟨hC3⟩).c
       obtain ⟨f0, f1, f2⟩ := (show Bs w2.heap.size w3 _ _ _ from ⟨hC3⟩).f
       have H3 := Lib.hid (And.intro hX3 (And.intro hC3 (And.intro ho1 (And.intro ho3 (And.intro hap3 (And.intro hk3' hz3))))))
       clear ho3 hb3 hg3 hz3 hk3 hk3' hX3 hC3 ho1 hap3 hm3)
    | (at_builtin; (refine append_own1 (w := w3.setCell ⟨w2.heap.size, 2, none⟩ (.slice B3 m3 q3)) rfl (.tmp 20) (.tmp 22) rfl (w.heap.size + 2) (.slice A1 n k1) t x rfl (H3.out.2.2.1.setne (fun g hg e => by have := H2.out.2.2.2.o1.lt hg; simp at e; omega) _) (by have := HN.out.2.2.1; omega) (by rw [set_sz]; exact H3.out.1.z) w3.heap.size (by rw [set_sz]) rfl ?_); intro v4 w4 ho4 hb4 hg4 hz4 hk4
       obtain ⟨A4, k4, rfl, _⟩ := ho4.at
       obtain ⟨n4, hn4⟩ : ∃ n4, n4 = (t ++ [x]).length := ⟨_, rfl⟩
       rw [← hn4] at ho4 hk4 ⊢
       rw [set_sz] at hg4 hz4 hk4
       have hg3z : w2.heap.size < w3.heap.size := H3.out.2.1.lt
       have hX4 := (H3.out.1.far (set_below (q := ⟨w2.heap.size, 2, none⟩) H2.out.2.2.1 (.slice B3 m3 q3))).far hb4
       have hC4 : Has w4 w2.heap.size 24 #[.int .i64 v, .slice A1 n k1, .slice B3 m3 q3] := (hg4 w2.heap.size hg3z (fun e => by have := H2.out.2.2.2.o1.lt e; omega)).trans (H3.out.2.1.set 2 (.slice B3 m3 q3))
       have ho3' : Io (w.heap.size + 2) w4 (.slice B3 m3 q3) (s ++ [(n : Int)]) := (H3.out.2.2.2.1.setne (q := ⟨w2.heap.size, 2, none⟩) (fun g hg => H3.out.2.2.2.2.2.1 g hg) (.slice B3 m3 q3)).same fun g hg => hg4 g (H3.out.2.2.2.1.lt hg) (fun e => H3.out.2.2.2.2.1 g e hg)
       have hk4' : ∀ g, (Value.slice A4 n4 k4).ownBlock = some g → g ≠ w2.heap.size := fun g hg e => by
         rcases hk4 g hg with h | h
         · have := H2.out.2.2.2.o1.lt h; omega
         · omega
       have hap4 : ∀ g, (Value.slice A4 n4 k4).ownBlock = some g → (Value.slice B3 m3 q3).ownBlock ≠ some g := fun g hg h3 => by
         rcases hk4 g hg with h | h
         · exact H3.out.2.2.2.2.1 g h h3
         · have := H3.out.2.2.2.1.lt h3; omega
       obtain ⟨z0, z1, z2⟩ := (show Bs w2.heap.size w4 _ _ _ from ⟨hC4⟩).c
       obtain ⟨g0, g1, g2⟩ := (show Bs w2.heap.size w4 _ _ _ from ⟨hC4⟩).f
       obtain ⟨d0, d1, d2, e0, e1, e2⟩ := hX4.d
       have hne : ¬ (w2.heap.size = w.heap.size + 1) := by have := H2.out.2.2.1; omega
       have hne2 : ¬ (w.heap.size + 1 = w2.heap.size) := fun e => hne e.symm
       have H4 := Lib.hid (And.intro hX4 (And.intro ho4 (And.intro ho3' (And.intro hap4 (And.intro hk4' (fun g hg => H3.out.2.2.2.2.2.1 g hg))))))
       clear ho4 hb4 hg4 hz4 hk4 hk4' hX4 hC4 ho3' hap4 hn4 hg3z))
  refine bodyPost_ret (v := .agg #[.int .i64 v, .slice A4 n4 k4, .slice B3 m3 q3]) (by simp [results, Try.results24, go_sem, d0, d1, d2, hne, hne2]) rfl ?_
  have hsb := set_below (w := w4) (q := ⟨w2.heap.size, 1, none⟩) H2.out.2.2.1 (.slice A4 n4 k4)
  refine ⟨_, _, rfl, ⟨(((H4.out.2.1.setne (q := ⟨w2.heap.size, 1, none⟩) (fun g hg => H4.out.2.2.2.2.1 g hg) _).st3 (by omega) _ _ _).base (by omega)), (((H4.out.2.2.1.setne (q := ⟨w2.heap.size, 1, none⟩) (fun g hg => H4.out.2.2.2.2.2 g hg) _).st3 (by omega) _ _ _).base (by omega)), H4.out.2.2.2.1⟩, ?_⟩
  exact st3_below (H4.out.1.b.trans (hsb.mono (by omega))) (Nat.le_succ _) _ _ _

set_option maxRecDepth 100000 in
set_option maxHeartbeats 4000000 in
theorem rWithF_any (v : Int) (A : Option Addr) (t : List Int) (k : Nat) (B : Option Addr) (s : List Int) (q : Nat) (x : Int) (w : World) (h : Ia w w.heap.size A t k) (hl : t.length ≤ 100000) (h' : Ia w w.heap.size B s q) (hl' : s.length ≤ 100000) :
    Calls Try.prog 24 #[asv v A t.length k B s.length q, .int .i64 x, .bool false] w (TwIs v (t ++ [x]) s w) := by
  have H0 := Bx2.new w (.int .i64 v) (.slice A t.length k) (.slice B s.length q)
  obtain ⟨n, hn⟩ : ∃ n, n = t.length := ⟨_, rfl⟩
  obtain ⟨m, hm⟩ : ∃ m, m = s.length := ⟨_, rfl⟩
  have HN := Lib.hid (And.intro hn (And.intro hm (And.intro hl hl')))
  have HX := Lib.hid H0
  rw [← hn, ← hm] at HX
  rw [← hn, ← hm]
  have HN2 := HN
  have D := twin14_any v A t k B s q (bx2 w (.int .i64 v) (.slice A t.length k) (.slice B s.length q)) (h.on H0.b) hl (h'.on H0.b) hl'
  unfold bx2 at D
  rw [← hn, ← hm] at D
  clear h hl h' hl' hn hm H0
  go_enter Try.func24, Try.ntmps24
  go_wp2_with (first
    | (go_at_call 5; (with_reducible refine D.mono ?_); rintro e w2 ⟨v1, v2, rfl, hT2, hb2⟩
       obtain ⟨A1, k1, rfl, _⟩ := hT2.o1.at
       obtain ⟨B2, q2, rfl, _⟩ := hT2.o2.at
       rw [← HN.out.1, ← HN.out.2.1] at hT2
       rw [← HN.out.1, ← HN.out.2.1]
       have hx2 := bx_on w2 (.cells #[.int .i64 v, .slice A1 n k1, .slice B2 m q2] 24)
       have hX2 := (HX.out.on hb2).on hx2
       have hC2 := Has.new w2 24 #[.int .i64 v, .slice A1 n k1, .slice B2 m q2]
       have hz2 : w.heap.size + 2 ≤ w2.heap.size := (HX.out.on hb2).z
       have hzb : (bx2 w (.int .i64 v) (.slice A n k) (.slice B m q)).heap.size = w.heap.size + 2 := by unfold bx2; simp
       have hT2' : Two (w.heap.size + 2) w2 (.slice A1 n k1) t (.slice B2 m q2) s := hzb ▸ hT2
       have H2 := Lib.hid (And.intro hX2 (And.intro hC2 (And.intro hz2 hT2')))
       clear hT2 hb2 hx2 hX2 hC2 hz2 hzb hT2')
    | (at_builtin; (refine append_own1 rfl (.tmp 20) (.tmp 22) rfl (w.heap.size + 2) (.slice A1 n k1) t x rfl (H2.out.2.2.2.o1.keep (bx_on _ _)) (by have := HN.out.2.2.1; omega) (by have := H2.out.2.2.1; simp; omega) (w2.heap.size + 1) (by simp) rfl ?_); intro v4 w4 ho4 hb4 hg4 hz4 hk4
       obtain ⟨A4, k4, rfl, _⟩ := ho4.at
       obtain ⟨n4, hn4⟩ : ∃ n4, n4 = (t ++ [x]).length := ⟨_, rfl⟩
       rw [← hn4] at ho4 hk4 ⊢
       have hX4 := H2.out.1.far hb4
       have hC4 : Has w4 w2.heap.size 24 #[.int .i64 v, .slice A1 n k1, .slice B2 m q2] := (hg4 w2.heap.size (by simp) (fun e => by have := H2.out.2.2.2.o1.lt e; omega)).trans H2.out.2.1
       have ho3' : Io (w.heap.size + 2) w4 (.slice B2 m q2) s := H2.out.2.2.2.o2.same fun g hg => (hg4 g (by have := H2.out.2.2.2.o2.lt hg; simp; omega) (fun e => H2.out.2.2.2.ap g e hg)).trans (Below.heap_alloc _ _ _ (H2.out.2.2.2.o2.lt hg))
       have hk4' : ∀ g, (Value.slice A4 n4 k4).ownBlock = some g → g ≠ w2.heap.size := fun g hg e => by
         rcases hk4 g hg with h | h
         · have := H2.out.2.2.2.o1.lt h; omega
         · simp at h; omega
       have hap4 : ∀ g, (Value.slice A4 n4 k4).ownBlock = some g → (Value.slice B2 m q2).ownBlock ≠ some g := fun g hg h3 => by
         rcases hk4 g hg with h | h
         · exact H2.out.2.2.2.ap g h h3
         · have := H2.out.2.2.2.o2.lt h3; simp at h; omega
       obtain ⟨z0, z1, z2⟩ := (show Bs w2.heap.size w4 _ _ _ from ⟨hC4⟩).c
       obtain ⟨g0, g1, g2⟩ := (show Bs w2.heap.size w4 _ _ _ from ⟨hC4⟩).f
       obtain ⟨d0, d1, d2, e0, e1, e2⟩ := hX4.d
       have hne : ¬ (w2.heap.size = w.heap.size + 1) := by have := H2.out.2.2.1; omega
       have hne2 : ¬ (w.heap.size + 1 = w2.heap.size) := fun e => hne e.symm
       have H4 := Lib.hid (And.intro hX4 (And.intro ho4 (And.intro ho3' (And.intro hap4 (And.intro hk4' (fun g (hg : (Value.slice B2 m q2).ownBlock = some g) => (Nat.ne_of_lt (H2.out.2.2.2.o2.lt hg))))))))
       clear ho4 hb4 hg4 hz4 hk4 hk4' hX4 hC4 ho3' hap4 hn4))
  refine bodyPost_ret (v := .agg #[.int .i64 v, .slice A4 n4 k4, .slice B2 m q2]) (by simp [results, Try.results24, go_sem, d0, d1, d2, hne, hne2]) rfl ?_
  have hsb := set_below (w := w4) (q := ⟨w2.heap.size, 1, none⟩) H2.out.2.2.1 (.slice A4 n4 k4)
  refine ⟨_, _, rfl, ⟨(((H4.out.2.1.setne (q := ⟨w2.heap.size, 1, none⟩) (fun g hg => H4.out.2.2.2.2.1 g hg) _).st3 (by omega) _ _ _).base (by omega)), (((H4.out.2.2.1.setne (q := ⟨w2.heap.size, 1, none⟩) (fun g hg => H4.out.2.2.2.2.2 g hg) _).st3 (by omega) _ _ _).base (by omega)), H4.out.2.2.2.1⟩, ?_⟩
  exact st3_below (H4.out.1.b.trans (hsb.mono (by omega))) (Nat.le_succ _) _ _ _


end Go.Proofs.Ytcmdongdjacgbaa
