/- The contracts of clause.Make, True, checkBoth, Implies. -/
import Derived.Test.YtigfdfbjpelcaaaClSl
namespace Go.Proofs.Ytigfdfbjpelcaaa
open Go Go.RowKit Go.Lib Go.Sort
set_option linter.unusedVariables false
set_option linter.unusedSimpArgs false

theorem make_clo (v : Int) (c : Nat) : Clo 27 c (.int .i64 v) I64 (fun x => !isL v x) := fun W x hx hc => by
  show Calls Try.prog 27 #[.int .i64 x, .pointer (some ⟨c, 0, none⟩)] W _
  go_enter Try.func27, Try.ntmps27
  go_wp2_with (first | (go_at_call 28; (with_reducible refine (isLit_any v x hx W).mono ?_); rintro e w1 ⟨rfl, hw1⟩; obtain rfl := hw1.symm))
  go_ret
  exact ⟨rfl, 0, rfl⟩

theorem any_not (v : Int) (l : List Int) : (l.any fun x => !isL v x) = !allL v l := by
  unfold allL; rw [List.all_eq_not_any_not, Bool.not_not]

/-- what a function that makes a list returns, with what comes behind -/
def LsIs3 (l : List Int) (b : Bool) (e3 : Int) (w : World) (e : Ending) (w' : World) : Prop := ∃ A k, e = .returned (.tuple #[.slice A l.length k, .bool b, .int .i64 e3]) ∧ Ia w' w'.heap.size A l k ∧ Below w.heap.size w w'

set_option maxRecDepth 100000 in
set_option maxHeartbeats 2000000 in
theorem make_any (v : Int) (A : Option Addr) (l : List Int) (k : Nat) (w : World) (h : Ia w w.heap.size A l k) (hl : l.length ≤ 100000) (hr : ∀ x ∈ l, I64 x) :
    Calls Try.prog 10 #[.int .i64 v, .slice A l.length k] w (LsIs3 (mkL v l) (mkA v l) (mkE v l) w) := by
  obtain ⟨n, hn⟩ : ∃ n, n = l.length := ⟨_, rfl⟩
  have hB1 : Below w.heap.size w (w.alloc (.cells #[.int .i64 v] 3)) := (Below.refl _ _).alloc (Nat.le_refl _) _
  have hcell : (w.alloc (.cells #[.int .i64 v] 3)).cell? ⟨w.heap.size, 0, none⟩ = some (.int .i64 v) := by simp
  have eg : ∀ args w, (callFunc 27 args).run Try.prog w = .ok (.enter 27 args) w := enters_of Try.func27 (by kernel_rfl) rfl
  have hC := containsF_any (make_clo v w.heap.size) eg A l k (w.alloc (.cells #[.int .i64 v] 3)) (h.on hB1) hl hr hcell
  rw [any_not] at hC
  by_cases hv : v < 0 ∨ 4000 < v
  · have hm := mkE_lo (l := l) hv
    obtain ⟨m1, m2⟩ := mk_err (v := v) (l := l) (by omega)
    rw [m1, m2, hm]
    have ev : (!decide (v < 0 ∨ 4000 < v)) = false := by simp [hv]
    clear hC m1 m2 hm
    go_enter Try.func10, Try.ntmps10
    go_wp2_with (first | (go_at_call 26; (with_reducible refine (isCount_any v _).mono ?_); rintro e w1 ⟨rfl, hw1⟩; obtain rfl := hw1.symm; rw [ev]))
    go_ret3
    exact ⟨none, 0, rfl, Ia.nil _ _, hB1⟩
  · have ev : (!decide (v < 0 ∨ 4000 < v)) = true := by simp [hv]
    cases ha : allL v l with
    | false =>
      have hm := mkE_no hv ha
      obtain ⟨m1, m2⟩ := mk_err (v := v) (l := l) (by omega)
      rw [m1, m2, hm]
      rw [ha] at hC
      rw [← hn] at hC ⊢
      clear m1 m2 hm h hl hr ha hn
      go_enter Try.func10, Try.ntmps10
      go_wp2_with (first
        | (go_at_call 26; (with_reducible refine (isCount_any v _).mono ?_); rintro e w1 ⟨rfl, hw1⟩; obtain rfl := hw1.symm; rw [ev])
        | (go_at_call 29; (with_reducible refine hC.mono ?_); rintro e w1 ⟨rfl, d, rfl⟩))
      go_ret3
      exact ⟨none, 0, rfl, Ia.nil _ _, below_dn hB1 d⟩
    | true =>
      have hm := mkE_yes hv ha
      rw [hm]
      rw [ha] at hC
      have hI : ∀ x ∈ srt l, I64 x := fun x hx => hr x ((mem_srt l x).1 hx)
      have hsl := srt_len l
      cases hal : alw l with
      | true =>
        have hck : ckE v (srt l) = 8 := by
          unfold ckE
          rw [if_neg hv, if_neg (fun h => by have := (OkC_srt (allL_iff.1 ha)).1 (okC_iff.1 h); rw [hal] at this; cases this)]
        obtain ⟨m1, m2⟩ := mk_alw hm hal
        rw [m1, m2]
        have HH := Lib.hid (And.intro h (And.intro hl (And.intro hI hsl)))
        rw [← hn] at hC ⊢
        obtain ⟨m, hmm⟩ : ∃ m, m = srt l := ⟨_, rfl⟩
        have HM := Lib.hid hmm
        rw [← hmm] at hck
        have HN := Lib.hid hn
        clear hm h hl hr ha hI hsl hmm hn hal m1 m2
        go_enter Try.func10, Try.ntmps10
        go_wp2_with (first
          | (go_at_call 26; (with_reducible refine (isCount_any v _).mono ?_); rintro e w1 ⟨rfl, hw1⟩; obtain rfl := hw1.symm; rw [ev])
          | (go_at_call 29; (with_reducible refine hC.mono ?_); rintro e w1 ⟨rfl, d, rfl⟩
             have hB2 : Below w.heap.size w ((w.alloc (.cells #[.int .i64 v] 3)).drewN d) := below_dn hB1 d
             have hcl := clone_any A l k ((w.alloc (.cells #[.int .i64 v] 3)).drewN d) (HH.out.1.on hB2) HH.out.2.1
             rw [← HN.out] at hcl)
          | (go_at_call 30; (with_reducible refine hcl.mono ?_); rintro e w2 ⟨v2, rfl, ho2, hb2⟩
             have hB3 : Below w.heap.size w w2 := Below.step hB2 hB2.size hb2
             have hcell2 : w2.cell? ⟨w.heap.size, 0, none⟩ = some (.int .i64 v) := (hb2.cell (cell_lt hcell)).trans hcell
             have hl2 : ((w.alloc (.cells #[.int .i64 v] 3)).drewN d).heap.size ≤ w2.heap.size := hb2.size
             have hso := sort_any ((w.alloc (.cells #[.int .i64 v] 3)).drewN d).heap.size v2 l w2 ho2 hb2.size HH.out.2.1)
          | (go_at_call 31; (with_reducible refine hso.mono ?_); rintro e w3 ⟨rfl, ho3, hb3⟩
             have hco := compact_any _ v2 _ w3 ho3 (by rw [List.length_mergeSort]; exact HH.out.2.1)
             have hcell3 : w3.cell? ⟨w.heap.size, 0, none⟩ = some (.int .i64 v) := (hb3.cell (cell_lt hcell)).trans hcell2
             rw [show Lib.compact (l.mergeSort fun x y => decide (x ≤ y)) = m from HM.out.symm] at hco)
          | (go_at_call 32; (with_reducible refine hco.mono ?_); rintro e w4 ⟨v4, rfl, ho4, hb4⟩
             have hcell4 : w4.cell? ⟨w.heap.size, 0, none⟩ = some (.int .i64 v) := (hb4.cell (cell_lt hcell)).trans hcell3
             have HB5 : Hid (Below w.heap.size w w4) := Lib.hid ((hB3.trans (hb3.mono hB2.size)).trans (hb4.mono hB2.size))
             obtain ⟨A4, k4, rfl, hI4⟩ := ho4.at)
          | (go_at_call 15; (with_reducible refine (check_any v A4 m k4 w4 hI4 (by rw [HM.out]; exact Nat.le_trans HH.out.2.2.2 HH.out.2.1) (by rw [HM.out]; exact HH.out.2.2.1)).mono ?_); rintro e w5 ⟨rfl, d5, rfl⟩; rw [hck]))
        go_ret3
        exact ⟨none, 0, rfl, Ia.nil _ _, below_dn HB5.out d5⟩
      | false =>
        have hck : ckE v (srt l) = 0 := by
          unfold ckE
          rw [if_neg hv, if_pos (okC_iff.2 ((OkC_srt (allL_iff.1 ha)).2 hal))]
        obtain ⟨m1, m2⟩ := mk_yes hm hal
        rw [m1, m2]
        have HH := Lib.hid (And.intro h (And.intro hl (And.intro hI hsl)))
        rw [← hn] at hC ⊢
        obtain ⟨m, hmm⟩ : ∃ m, m = srt l := ⟨_, rfl⟩
        rw [← hmm]
        have HM := Lib.hid hmm
        rw [← hmm] at hck
        have HN := Lib.hid hn
        clear hm h hl hr ha hI hsl hmm hn hal m1 m2
        go_enter Try.func10, Try.ntmps10
        go_wp2_with (first
          | (go_at_call 26; (with_reducible refine (isCount_any v _).mono ?_); rintro e w1 ⟨rfl, hw1⟩; obtain rfl := hw1.symm; rw [ev])
          | (go_at_call 29; (with_reducible refine hC.mono ?_); rintro e w1 ⟨rfl, d, rfl⟩
             have hB2 : Below w.heap.size w ((w.alloc (.cells #[.int .i64 v] 3)).drewN d) := below_dn hB1 d
             have hcl := clone_any A l k ((w.alloc (.cells #[.int .i64 v] 3)).drewN d) (HH.out.1.on hB2) HH.out.2.1
             rw [← HN.out] at hcl)
          | (go_at_call 30; (with_reducible refine hcl.mono ?_); rintro e w2 ⟨v2, rfl, ho2, hb2⟩
             have hB3 : Below w.heap.size w w2 := Below.step hB2 hB2.size hb2
             have hcell2 : w2.cell? ⟨w.heap.size, 0, none⟩ = some (.int .i64 v) := (hb2.cell (cell_lt hcell)).trans hcell
             have hl2 : ((w.alloc (.cells #[.int .i64 v] 3)).drewN d).heap.size ≤ w2.heap.size := hb2.size
             have hso := sort_any ((w.alloc (.cells #[.int .i64 v] 3)).drewN d).heap.size v2 l w2 ho2 hb2.size HH.out.2.1)
          | (go_at_call 31; (with_reducible refine hso.mono ?_); rintro e w3 ⟨rfl, ho3, hb3⟩
             have hco := compact_any _ v2 _ w3 ho3 (by rw [List.length_mergeSort]; exact HH.out.2.1)
             have hcell3 : w3.cell? ⟨w.heap.size, 0, none⟩ = some (.int .i64 v) := (hb3.cell (cell_lt hcell)).trans hcell2
             rw [show Lib.compact (l.mergeSort fun x y => decide (x ≤ y)) = m from HM.out.symm] at hco)
          | (go_at_call 32; (with_reducible refine hco.mono ?_); rintro e w4 ⟨v4, rfl, ho4, hb4⟩
             have hcell4 : w4.cell? ⟨w.heap.size, 0, none⟩ = some (.int .i64 v) := (hb4.cell (cell_lt hcell)).trans hcell3
             have HB5 : Hid (Below w.heap.size w w4) := Lib.hid ((hB3.trans (hb3.mono hB2.size)).trans (hb4.mono hB2.size))
             obtain ⟨A4, k4, rfl, hI4⟩ := ho4.at)
          | (go_at_call 15; (with_reducible refine (check_any v A4 m k4 w4 hI4 (by rw [HM.out]; exact Nat.le_trans HH.out.2.2.2 HH.out.2.1) (by rw [HM.out]; exact HH.out.2.2.1)).mono ?_); rintro e w5 ⟨rfl, d5, rfl⟩; rw [hck]))
        go_ret3
        exact ⟨A4, k4, rfl, hI4.keep (below_dn (Below.refl _ _) d5), below_dn HB5.out d5⟩

end Go.Proofs.Ytigfdfbjpelcaaa
