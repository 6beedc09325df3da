/- The contracts of clause.True, checkBoth, Implies. -/
import Derived.Test.YtigfdfbjpelcaaaClProg2
namespace Go.Proofs.Ytigfdfbjpelcaaa
open Go Go.RowKit Go.Lib Go.Sort
set_option linter.unusedVariables false
set_option linter.unusedSimpArgs false

def trB (n : Int) (V : Nat → Bool) (l : List Int) : Bool := decide (ckE n l = 0) && trs V l

set_option maxHeartbeats 1000000 in
theorem true_clo (A : Option Addr) (n k : Nat) (V : Nat → Bool) (c B : Nat) (W : World) (x : Int) (hx : isL n x = true) (hn : n ≤ 100000) (hm : BlsAt W B A n V) (hc : W.cell? ⟨c, 0, none⟩ = some (.slice A n k)) :
    FnGives Try.prog 36 #[.pointer (some ⟨c, 0, none⟩)] #[.int .i64 x] (.bool (tr V x)) W := by
  show Calls Try.prog 36 #[.int .i64 x, .pointer (some ⟨c, 0, none⟩)] W _
  obtain ⟨x1, x2⟩ := isL_iff.1 hx
  obtain ⟨a, rfl, hb, hcs⟩ := hm (by omega)
  have ex : (x / 2 - 1).toNat = (x / 2).toNat - 1 := by omega
  have y := hcs ((x / 2).toNat - 1) (by omega)
  have hq : x.tdiv 2 = x / 2 := Int.tdiv_eq_ediv_of_nonneg (by omega)
  have hr : x.tmod 2 = x % 2 := Int.tmod_eq_emod_of_nonneg (by omega)
  have m0 : 0 ≤ x / 2 - 1 := by omega
  have m1 : x / 2 - 1 < (n : Int) := by omega
  clear hm hcs hx
  unfold tr
  rw [ex]
  obtain ⟨u, hu⟩ : ∃ u, u = V ((x / 2).toNat - 1) := ⟨_, rfl⟩
  rw [← hu] at y ⊢
  clear hu ex
  by_cases he : x % 2 = 0
  · have e1 : (x % 2 == 0) = true := by simpa using he
    rw [show decide (x % 2 = 0) = true by simpa using he]
    clear he
    cases u
    · go_enter Try.func36, Try.ntmps36
      go_wp2
      go_ret
      exact ⟨rfl, 0, rfl⟩
    · go_enter Try.func36, Try.ntmps36
      go_wp2
      go_ret
      exact ⟨rfl, 0, rfl⟩
  · have e1 : (x % 2 == 0) = false := by simpa using he
    rw [show decide (x % 2 = 0) = false by simpa using he]
    clear he
    cases u
    · go_enter Try.func36, Try.ntmps36
      go_wp2
      go_ret
      exact ⟨rfl, 0, rfl⟩
    · go_enter Try.func36, Try.ntmps36
      go_wp2
      go_ret
      exact ⟨rfl, 0, rfl⟩

set_option maxRecDepth 100000 in
set_option maxHeartbeats 2000000 in
theorem true_any (A : Option Addr) (l : List Int) (k : Nat) (A' : Option Addr) (n k' : Nat) (V : Nat → Bool) (w : World) (h : Ia w w.heap.size A l k) (hl : l.length ≤ 100000) (hr : ∀ x ∈ l, I64 x) (hm : BlsAt w w.heap.size A' n V) (hn : n ≤ 100000) :
    Calls Try.prog 12 #[.slice A l.length k, .slice A' n k'] w fun e w' => e = .returned (.tuple #[.bool (trB n V l), .int .i64 (ckE n l)]) ∧ Below w.heap.size w w' := by
  obtain ⟨m, hmm⟩ : ∃ m, m = l.length := ⟨_, rfl⟩
  have hB1 : Below w.heap.size w (w.alloc (.cells #[.slice A' n k'] 23)) := (Below.refl _ _).alloc (Nat.le_refl _) _
  have hcell : (w.alloc (.cells #[.slice A' n k'] 23)).cell? ⟨w.heap.size, 0, none⟩ = some (.slice A' n k') := by simp
  have eg : ∀ args w, (callFunc 36 args).run Try.prog w = .ok (.enter 36 args) w := enters_of Try.func36 (by kernel_rfl) rfl
  have hck := check_any (n : Int) A l k (w.alloc (.cells #[.slice A' n k'] 23)) (h.on hB1) hl hr
  rw [← hmm] at hck ⊢
  by_cases he : ckE n l = 0
  · obtain ⟨_, _, ho⟩ := ckE_0 he
    have hC := fun d => containsF_gen (w := (w.alloc (.cells #[.slice A' n k'] 23)).drewN d) (fun W x hx hb => true_clo A' n k' V w.heap.size _ W x hx hn ((hm.to (below_dn hB1 d) (below_dn hB1 d).size).keep hb) ((hb.cell (cell_lt hcell)).trans hcell)) eg A l k ((h.on hB1).on (below_dn (Below.refl _ _) d)) hl ho.1
    rw [← hmm] at hC
    have e1 : trB n V l = l.any (tr V) := by unfold trB trs; simp [he]
    rw [e1]
    have HH := Lib.hid (And.intro h (And.intro hm hmm))
    clear h hl hr hm ho e1 hmm
    rw [he] at hck
    rw [he]
    obtain ⟨u, hu⟩ : ∃ u, u = l.any (tr V) := ⟨_, rfl⟩
    rw [← hu] at hC ⊢
    clear he hu
    go_enter Try.func12, Try.ntmps12
    go_wp2_with (first
      | (go_at_call 15; (with_reducible refine hck.mono ?_); rintro e w1 ⟨rfl, d, rfl⟩)
      | (go_at_call 29; (with_reducible refine (hC d).mono ?_); rintro e w2 ⟨rfl, d2, rfl⟩))
    go_ret2
    exact ⟨rfl, below_dn hB1 _⟩
  · have e1 : trB n V l = false := by unfold trB; simp [he]
    have e2 : (ckE n l != 0) = true := by simpa using he
    rw [e1]
    obtain ⟨u, hu⟩ : ∃ u, u = ckE n l := ⟨_, rfl⟩
    rw [← hu] at hck e2 ⊢
    clear h hl hr hm e1 hmm he hu
    go_enter Try.func12, Try.ntmps12
    go_wp2_with (first
      | (go_at_call 15; (with_reducible refine hck.mono ?_); rintro e w1 ⟨rfl, d, rfl⟩))
    go_ret2
    exact ⟨rfl, below_dn hB1 d⟩

set_option maxRecDepth 100000 in
theorem both_any (v : Int) (A : Option Addr) (l : List Int) (k : Nat) (A' : Option Addr) (l' : List Int) (k' : Nat) (w : World) (h : Ia w w.heap.size A l k) (hl : l.length ≤ 100000) (hr : ∀ x ∈ l, I64 x) (h' : Ia w w.heap.size A' l' k') (hl' : l'.length ≤ 100000) (hr' : ∀ x ∈ l', I64 x) :
    Calls Try.prog 38 #[.int .i64 v, .slice A l.length k, .slice A' l'.length k'] w fun e w' => e = .returned (.int .i64 (imE v l l')) ∧ ∃ d, w' = w.drewN d := by
  have hc := check_any v A l k w h hl hr
  have hc' := fun d => check_any v A' l' k' (w.drewN d) (h'.on (below_dn (Below.refl _ _) d)) hl' hr'
  rw [imE_two]
  obtain ⟨m, hm⟩ : ∃ m, m = l.length := ⟨_, rfl⟩
  obtain ⟨m', hm'⟩ : ∃ m, m = l'.length := ⟨_, rfl⟩
  rw [← hm] at hc ⊢
  rw [← hm'] at hc' ⊢
  by_cases he : ckE v l = 0
  · rw [he] at hc ⊢
    rw [if_neg (by simp)]
    clear h hl hr h' hl' hr' hm hm' he
    go_enter Try.func38, Try.ntmps38
    go_wp2_with (first
      | (go_at_call 15; (with_reducible refine hc.mono ?_); rintro e w1 ⟨rfl, d, rfl⟩)
      | (go_at_call 15; (with_reducible refine (hc' d).mono ?_); rintro e w2 ⟨rfl, d2, rfl⟩))
    go_ret
    exact ⟨rfl, _, rfl⟩
  · rw [if_pos he]
    have e2 : (ckE v l != 0) = true := by simpa using he
    obtain ⟨u, hu⟩ : ∃ u, u = ckE v l := ⟨_, rfl⟩
    rw [← hu] at hc e2 ⊢
    clear h hl hr h' hl' hr' hm hm' he hc' hu
    go_enter Try.func38, Try.ntmps38
    go_wp2_with (first
      | (go_at_call 15; (with_reducible refine hc.mono ?_); rintro e w1 ⟨rfl, d, rfl⟩))
    go_ret
    exact ⟨rfl, _, rfl⟩

set_option maxRecDepth 100000 in
set_option maxHeartbeats 2000000 in
theorem implies_any (v : Int) (A : Option Addr) (l : List Int) (k : Nat) (A' : Option Addr) (l' : List Int) (k' : Nat) (w : World) (h : Ia w w.heap.size A l k) (hl : l.length ≤ 100000) (hr : ∀ x ∈ l, I64 x) (h' : Ia w w.heap.size A' l' k') (hl' : l'.length ≤ 100000) (hr' : ∀ x ∈ l', I64 x) :
    Calls Try.prog 17 #[.int .i64 v, .slice A l.length k, .slice A' l'.length k'] w fun e w' => e = .returned (.tuple #[.bool (imB v l l'), .int .i64 (imE v l l')]) ∧ Below w.heap.size w w' := by
  have hc := both_any v A l k A' l' k' w h hl hr h' hl' hr'
  by_cases he : imE v l l' = 0
  · obtain ⟨_, _, ho, ho'⟩ := imE_iff.1 he
    have hb := fun d x => bsearch_any A' l' k' x (w.drewN d) (h'.on (below_dn (Below.refl _ _) d)) hl' ho'.ss
    have e1 : imB v l l' = prt l l' := by unfold imB; simp [he]
    rw [e1]
    rw [he] at hc ⊢
    obtain ⟨n, hn⟩ : ∃ m, m = l.length := ⟨_, rfl⟩
    obtain ⟨m', hm'⟩ : ∃ m, m = l'.length := ⟨_, rfl⟩
    rw [← hn] at hc ⊢
    rw [← hm'] at hc hb ⊢
    have hnl : n ≤ 100000 := by rw [hn]; exact hl
    have HH := Lib.hid (And.intro h (And.intro hr hn))
    clear h hl hr h' hl' hr' hn hm' he ho ho' e1
    go_enter Try.func17, Try.ntmps17
    go_wp2_with (first
      | (go_at_call 38; (with_reducible refine hc.mono ?_); rintro e w1 ⟨rfl, d, rfl⟩))
    go_loopw [22] (fun i wr => ∃ j : Nat, j ≤ n ∧ i = .int .i64 (j : Int) ∧ (∀ q, q < j → l.getD q 0 ∈ l') ∧ ∃ d, wr = w.drewN d) (fun i _ => n - (intOf i).toNat)
    case atStart => exact ⟨0, Nat.zero_le _, rfl, fun q hq => absurd hq (Nat.not_lt_zero _), d, rfl⟩
    case round =>
      obtain ⟨j, hj, rfl, hok, d, rfl⟩ := hrel
      by_cases hlt : j < n
      · obtain ⟨b, o, rfl, hb0, hcs⟩ := HH.out.1.cells (by have := HH.out.2.2; omega)
        have hjl : j < l.length := by have := HH.out.2.2; omega
        have y := hcs j hjl
        have hj1 : (j : Int) < (n : Int) := by omega
        have hj0 : (0 : Int) ≤ (j : Int) := by omega
        obtain ⟨x, hx0⟩ : ∃ x, x = l.getD j 0 := ⟨_, rfl⟩
        rw [← hx0] at y
        have HX := Lib.hid (And.intro hx0 hok)
        clear hcs hx0 hok
        have hbx := hb d x
        cases hcon : l'.contains x with
        | false =>
          have e : prt l l' = false := prt_no (getD_mem hjl) (by rw [← HX.out.1]; intro h; rw [show l'.contains x = true by simpa using h] at hcon; cases hcon)
          rw [hcon] at hbx
          have HR := Lib.hid e
          clear hcon e
          go_wp2_with (first
            | (go_at_call 39; (with_reducible refine hbx.mono ?_); rintro e w1 ⟨c, rfl, d2, rfl⟩))
          go_ret2
          exact ⟨by rw [HR.out]; rfl, below_dn (Below.refl _ _) _⟩
        | true =>
          have hin : x ∈ l' := by simpa using hcon
          have HI := Lib.hid hin
          rw [hcon] at hbx
          clear hcon hin
          go_wp2_with (first
            | (go_at_call 39; (with_reducible refine hbx.mono ?_); rintro e w1 ⟨c, rfl, d2, rfl⟩))
          go_roundw
          case rel => exact ⟨j + 1, by omega, by go_num, fun q hq => by
            rcases Nat.lt_succ_iff_lt_or_eq.1 hq with h' | h'
            · exact HX.out.2 q h'
            · subst h'; rw [← HX.out.1]; exact HI.out, _, rfl⟩
          case measure => simp [intOf]; omega
      · have ej : j = n := by omega
        have e : prt l l' = true := prt_iff.2 fun x hx => by
          obtain ⟨q, hq, rfl⟩ := mem_getD hx
          exact hok q (by have := HH.out.2.2; omega)
        clear hok
        have HR := Lib.hid e
        have hjn : ¬ (j : Int) < (n : Int) := by omega
        clear e
        go_wp2
        go_ret2
        exact ⟨by rw [HR.out]; rfl, below_dn (Below.refl _ _) d⟩
  · have e1 : imB v l l' = false := by unfold imB; simp [he]
    have e2 : (imE v l l' != 0) = true := by simpa using he
    rw [e1]
    obtain ⟨u, hu⟩ : ∃ u, u = imE v l l' := ⟨_, rfl⟩
    obtain ⟨n, hn⟩ : ∃ m, m = l.length := ⟨_, rfl⟩
    obtain ⟨m', hm'⟩ : ∃ m, m = l'.length := ⟨_, rfl⟩
    rw [← hn, ← hu] at hc
    rw [← hm'] at hc
    rw [← hn, ← hm', ← hu]
    rw [← hu] at e2
    clear h hl hr h' hl' hr' hn hm' he e1 hu
    go_enter Try.func17, Try.ntmps17
    go_wp2_with (first
      | (go_at_call 38; (with_reducible refine hc.mono ?_); rintro e w1 ⟨rfl, d, rfl⟩))
    go_ret2
    exact ⟨rfl, below_dn (Below.refl _ _) d⟩

end Go.Proofs.Ytigfdfbjpelcaaa
