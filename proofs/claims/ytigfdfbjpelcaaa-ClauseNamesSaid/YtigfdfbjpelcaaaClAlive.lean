/- The chapter's examples: alive. -/
import Derived.Test.YtigfdfbjpelcaaaClRef5
namespace Go.Proofs.Ytigfdfbjpelcaaa
open Go Go.RowKit
set_option linter.unusedVariables false
set_option linter.unusedSimpArgs false

/-- a list that has just been laid -/
theorem Ia.lit (W : World) {l : List Int} {cs : Array Value} (hcs : cs = (iC l).toArray) : Ia (W.alloc (.cells cs 3)) (W.alloc (.cells cs 3)).heap.size (some ⟨W.heap.size, 0, none⟩) l l.length := by
  have hN := Has.new W 3 cs
  refine ⟨fun hl => ⟨_, rfl, by simp, fun j hj => ?_⟩, (fun h => by cases h), Nat.le_refl _⟩
  rw [show (⟨W.heap.size, 0, none⟩ : Addr).add j = ⟨W.heap.size, j, none⟩ by unfold Addr.add; split <;> simp_all, hN.cell j, hcs]
  have := iC_at l j hj
  simpa using this
theorem Io.lit {B : Nat} {w : World} {l : List Int} {cs : Array Value} (hcs : cs = (iC l).toArray) (hB : B ≤ w.heap.size) (hl : l.length ≤ 100000) : Io B (w.alloc (.cells cs 3)) (.slice (some ⟨w.heap.size, 0, none⟩) l.length l.length) l := by
  rw [hcs]
  exact World.ownsRow_lit (base := B) (e := 3) (size := 1) w (iC l).toArray l.length hB (by simp only [maxLen]; omega) (by simp [iC])
theorem below_litI (W : World) (o : Obj) {w' : World} (h : Below (W.alloc o).heap.size (W.alloc o) w') : Below W.heap.size W w' := ((Below.refl _ _).alloc (Nat.le_refl _) o).trans (h.mono (by simp))
/-- Make, of a list that has just been laid -/
theorem make_lit {v : Int} {l l' : List Int} {m m' : Nat} {b : Bool} {e3 : Int} {cs : Array Value} (h1 : mkL v l = l') (h2 : mkA v l = b) (h3 : mkE v l = e3) (hm : l.length = m) (hm' : l'.length = m') (hl : m ≤ 1000) (hr : ∀ x ∈ l, I64 x) (hcs : cs = (iC l).toArray) (W : World) :
    Calls Try.prog 10 #[.int .i64 v, .slice (some ⟨W.heap.size, 0, none⟩) m m] (W.alloc (.cells cs 3)) fun e w' => ∃ A k, e = .returned (.tuple #[.slice A m' k, .bool b, .int .i64 e3]) ∧ Ia w' w'.heap.size A l' k ∧ Below W.heap.size W w' := by
  subst hm
  refine (make_any v _ l _ _ (Ia.lit W hcs) (by omega) hr).mono fun e w' ⟨A, k, e1, hI, hb⟩ => ⟨A, k, ?_, ?_, below_litI _ _ hb⟩
  · rw [e1, h1, h2, h3, hm']
  · rw [h1] at hI; exact hI
/-- Resolve, of two lists that have just been laid -/
theorem resolve_lit {v x : Int} {l l2 l' : List Int} {m m2 m' : Nat} {b : Bool} {e3 : Int} {cs cs2 : Array Value} (h1 : rvC v l l2 x = l') (h2 : rvA v l l2 x = b) (h3 : rvE v l l2 x = e3) (hm : l.length = m) (hm2 : l2.length = m2) (hm' : l'.length = m') (hl : m ≤ 1000) (hl2 : m2 ≤ 1000) (hr : ∀ x ∈ l, I64 x) (hr2 : ∀ x ∈ l2, I64 x) (hcs : cs = (iC l).toArray) (hcs2 : cs2 = (iC l2).toArray) (W : World) :
    Calls Try.prog 19 #[.int .i64 v, .slice (some ⟨W.heap.size, 0, none⟩) m m, .slice (some ⟨W.heap.size + 1, 0, none⟩) m2 m2, .int .i64 x] ((W.alloc (.cells cs 3)).alloc (.cells cs2 3)) fun e w' => ∃ A k, e = .returned (.tuple #[.slice A m' k, .bool b, .int .i64 e3]) ∧ Ia w' w'.heap.size A l' k ∧ Below W.heap.size W w' := by
  subst hm hm2
  have hB := (Below.refl (W.alloc (.cells cs 3)).heap.size (W.alloc (.cells cs 3))).alloc (Nat.le_refl _) (.cells cs2 3)
  refine (resolve_any v _ l _ _ l2 _ x _ ((Ia.lit W hcs).on hB) (by omega) hr (by have h9 := Ia.lit (W.alloc (.cells cs 3)) hcs2; simp only [World.size_alloc] at h9 ⊢; exact h9) (by omega) hr2).mono fun e w' ⟨A, k, e1, hI, hb⟩ => ⟨A, k, ?_, ?_, below_litI _ _ (below_litI _ _ hb)⟩
  · rw [e1, h1, h2, h3, hm']
  · rw [h1] at hI; exact hI
/-- Same, of a list and one that has just been laid -/
theorem same_lit {A : Option Addr} {l l' : List Int} {m k : Nat} {cs : Array Value} {W : World} (h : Ia W W.heap.size A l k) (e : l = l') (hm : l'.length = m) (hl : m ≤ 1000) (hcs : cs = (iC l').toArray) :
    Calls Try.prog 14 #[.slice A m k, .slice (some ⟨W.heap.size, 0, none⟩) m m] (W.alloc (.cells cs 3)) fun e w' => e = .returned (.bool true) ∧ Below W.heap.size W w' := by
  subst e hm
  refine (rSame_any A l k _ l _ _ (h.on ((Below.refl _ _).alloc (Nat.le_refl _) _)) (by omega) (Ia.lit W hcs) (by omega)).mono fun e w' ⟨e1, hb⟩ => ⟨by rw [e1, sm_self], below_litI _ _ hb⟩
theorem mk_lit {v : Int} {l l' : List Int} (hv : ¬ (v < 0 ∨ 4000 < v)) (hL : allL v l = true) (ha : alw l = false) (hs : l'.Pairwise (· < ·)) (hm : ∀ x, x ∈ l' ↔ x ∈ l) : mkL v l = l' ∧ mkA v l = false ∧ mkE v l = 0 := by
  have hm0 := mkE_yes hv hL
  obtain ⟨m1, m2⟩ := mk_yes hm0 ha
  exact ⟨by rw [m1, srt_eq hs hm], m2, hm0⟩
theorem i64_all {l : List Int} (h : ∀ x ∈ l, -100000 ≤ x ∧ x ≤ 100000) : ∀ x ∈ l, I64 x := fun x hx => by have := h x hx; unfold I64; omega
theorem ex13_1 : mkL 5 [7, 2, 7, 4] = [2, 4, 7] ∧ mkA 5 [7, 2, 7, 4] = false ∧ mkE 5 [7, 2, 7, 4] = 0 := mk_lit (by omega) (by decide) (by decide) (by decide) (fun x => by simp; omega)
theorem ex13_2 : mkL 5 [5, 4] = [] ∧ mkA 5 [5, 4] = true ∧ mkE 5 [5, 4] = 0 := by
  have hm0 : mkE 5 [5, 4] = 0 := by decide
  obtain ⟨m1, m2⟩ := mk_alw hm0 (by decide)
  exact ⟨m1, m2, hm0⟩
theorem ex13_3 : rvC 5 [2, 4] [3, 6] 1 = [4, 6] ∧ rvA 5 [2, 4] [3, 6] 1 = false ∧ rvE 5 [2, 4] [3, 6] 1 = 0 := by
  have hi : imE 5 [2, 4] [3, 6] = 0 := by decide
  obtain ⟨r1, r2, r3⟩ := rv_yes (n := 5) (a := [2, 4]) (b := [3, 6]) (v := 1) hi (by decide)
  have hl : rvL [2, 4] [3, 6] 1 = [4, 6] := by decide
  rw [hl] at r2 r3
  obtain ⟨m1, m2, m3⟩ := mk_lit (v := 5) (l := [4, 6]) (l' := [4, 6]) (by omega) (by decide) (by decide) (by decide) (fun x => Iff.rfl)
  exact ⟨r2.trans m1, r3.trans m2, r1⟩
theorem ex13_4 : rvC 5 [2, 4] [3, 5] 1 = [] ∧ rvA 5 [2, 4] [3, 5] 1 = true ∧ rvE 5 [2, 4] [3, 5] 1 = 0 := by
  have hi : imE 5 [2, 4] [3, 5] = 0 := by decide
  obtain ⟨r1, r2, r3⟩ := rv_yes (n := 5) (a := [2, 4]) (b := [3, 5]) (v := 1) hi (by decide)
  have hl : rvL [2, 4] [3, 5] 1 = [4, 5] := by decide
  rw [hl] at r2 r3
  obtain ⟨m1, m2⟩ := mk_alw (v := 5) (l := [4, 5]) (by decide) (by decide)
  exact ⟨r2.trans m1, r3.trans m2, r1⟩

theorem bn {w W W' : World} (h : Below w.heap.size w W) (hb : Below W.heap.size W W') : Below w.heap.size w W' := Below.step h h.size hb

set_option maxRecDepth 100000 in
set_option maxHeartbeats 4000000 in
theorem alive13_any (w : World) : Calls Try.prog 21 #[] w fun e w' => e = .returned (.bool true) ∧ Below w.heap.size w w' := by
  have D1 := make_lit (m := 4) (m' := 3) (cs := #[.int .i64 7, .int .i64 2, .int .i64 7, .int .i64 4]) ex13_1.1 ex13_1.2.1 ex13_1.2.2 rfl rfl (by decide) (i64_all (by decide)) rfl
  have D2 := make_lit (m := 2) (m' := 0) (cs := #[.int .i64 5, .int .i64 4]) ex13_2.1 ex13_2.2.1 ex13_2.2.2 rfl rfl (by decide) (i64_all (by decide)) rfl
  have D3 := resolve_lit (m := 2) (m2 := 2) (m' := 2) (cs := #[.int .i64 2, .int .i64 4]) (cs2 := #[.int .i64 3, .int .i64 6]) ex13_3.1 ex13_3.2.1 ex13_3.2.2 rfl rfl rfl (by decide) (by decide) (i64_all (by decide)) (i64_all (by decide)) rfl rfl
  have D4 := resolve_lit (m := 2) (m2 := 2) (m' := 0) (cs := #[.int .i64 2, .int .i64 4]) (cs2 := #[.int .i64 3, .int .i64 5]) ex13_4.1 ex13_4.2.1 ex13_4.2.2 rfl rfl rfl (by decide) (by decide) (i64_all (by decide)) (i64_all (by decide)) rfl rfl
  go_enter Try.func21, Try.ntmps21
  go_wp2_with (first
    | (go_at_call 10; (with_reducible refine (D1 _).mono ?_); rintro e w1 ⟨A1, k1, rfl, hI1, hb1⟩)
    | (go_at_call 10; (with_reducible refine (D2 _).mono ?_); rintro e w2 ⟨A2, k2, rfl, hI2, hb2⟩)
    | (go_at_call 19; (with_reducible refine (D3 _).mono ?_); rintro e w3 ⟨A3, k3, rfl, hI3, hb3⟩)
    | (go_at_call 19; (with_reducible refine (D4 _).mono ?_); rintro e w4 ⟨A4, k4, rfl, hI4, hb4⟩
       have hs := same_lit (m := 3) (cs := #[.int .i64 2, .int .i64 4, .int .i64 7]) (((hI1.on hb2).on hb3).on hb4) rfl rfl (by decide) rfl)
    | (go_at_call 14; (with_reducible refine hs.mono ?_); rintro e w5 ⟨rfl, hb5⟩
       have hs2 := same_lit (m := 2) (cs := #[.int .i64 4, .int .i64 6]) ((hI3.on hb4).on hb5) rfl rfl (by decide) rfl)
    | (go_at_call 14; (with_reducible refine hs2.mono ?_); rintro e w6 ⟨rfl, hb6⟩))
  go_ret
  exact ⟨rfl, bn (bn (bn (bn (bn hb1 hb2) hb3) hb4) hb5) hb6⟩

end Go.Proofs.Ytigfdfbjpelcaaa
