/- The contract of unit's run. -/
import Derived.Test.YtecmldnigohjfabDoorUnIndex
import Derived.Deep.DeepCutAuto
import Derived.Deep.CutBlock
namespace Go.Proofs.YtecmldnigohjfabDoor
open Go Go.RowKit
set_option linter.unusedVariables false
set_option linter.unusedSimpArgs false

/-- what waits: all that are unit, and nothing that has more than one literal left -/
def Qd (m : Nat) (L : List (List Int)) (t : List Int) (q : Nat → Bool) : Prop := (∀ j, q j = true → j < m ∧ nl t L j = 1) ∧ ∀ j, j < m → stC t (L.getD j []) = 3 → q j = true
/-- what has been taken -/
def Hd (m : Nat) (L : List (List Int)) (t : List Int) (q : Nat → Bool) (r : Int) : Prop :=
  (∃ i : Nat, r = (i : Int) ∧ i < m ∧ nl t L i = 1 ∧ (∀ j, q j = true → j < m ∧ nl t L j = 1) ∧ (∀ j, j < m → stC t (L.getD j []) = 3 → q j = true ∨ j = i) ∧ ∀ j, j < i → q j = false) ∨ (r = -1 ∧ ∀ j, j < m → stC t (L.getD j []) ≠ 3)
theorem hd_take {m K : Nat} {L : List (List Int)} {t : List Int} {q q' : Nat → Bool} {r : Int} (h : Qd m L t q) (hK : m ≤ 64 * K) (ht : (∃ i : Nat, r = (i : Int) ∧ i < 64 * K ∧ q i = true ∧ (∀ j, j < i → q j = false) ∧ q' = qdel q i) ∨ (r = -1 ∧ (∀ j, j < 64 * K → q j = false) ∧ q' = q)) : Hd m L t q' r := by
  rcases ht with ⟨i, rfl, h1, h2, h3, rfl⟩ | ⟨rfl, h1, rfl⟩
  · obtain ⟨g1, g2⟩ := h.1 i h2
    refine Or.inl ⟨i, rfl, g1, g2, fun j hj => h.1 j ?_, fun j hj hs => ?_, fun j hj => ?_⟩
    · unfold qdel at hj; simp only [Bool.and_eq_true] at hj; exact hj.2
    · by_cases e : j = i
      · exact Or.inr e
      · refine Or.inl ?_
        unfold qdel
        rw [h.2 j hj hs, decide_eq_false e]; rfl
    · unfold qdel; rw [h3 j hj, Bool.and_false]
  · refine Or.inr ⟨rfl, fun j hj hs => ?_⟩
    have := h.2 j hj hs
    rw [h1 j (by omega)] at this
    cases this
theorem nl_1 {t : List Int} {L : List (List Int)} {j : Nat} (h : stC t (L.getD j []) = 3) : nl t L j = 1 := (stC_3.1 h).2
theorem qd_more {v : Int} {m : Nat} {L : List (List Int)} {t : List Int} {q : Nat → Bool} {i : Nat} {u : Int} (hm : m = L.length) (hL : ∀ c ∈ L, OkC v c) (hu : u ∉ t) (hi : i < m) (hui : u ∈ L.getD i [])
    (h1 : ∀ j, q j = true → j < m ∧ nl t L j = 1) (h2 : ∀ j, j < m → stC t (L.getD j []) = 3 → q j = true ∨ j = i) (h0 : ∀ j, j < m → nl (t ++ [u]) L j ≠ 0) : Qd m L (t ++ [u]) (qI q (t ++ [u]) L (ng u) (oc L L.length (ng u))) := by
  have hall : (ocs L L.length (ng u)).take (oc L L.length (ng u)) = ocs L L.length (ng u) := List.take_of_length_le (by rw [ocs_len]; exact Nat.le_refl _)
  unfold qI
  rw [hall]
  refine ⟨fun j hj => ?_, fun j hj hs => ?_⟩
  · simp only [Bool.or_eq_true, decide_eq_true_eq] at hj
    rcases hj with hj | ⟨hj, h3⟩
    · obtain ⟨g1, g2⟩ := h1 j hj
      have := nl_app (v := v) hL hu (show j < L.length by omega)
      have := h0 j g1
      refine ⟨g1, ?_⟩
      omega
    · exact ⟨by have := (mem_ocs.1 hj).1; omega, h3⟩
  · simp only [Bool.or_eq_true, decide_eq_true_eq]
    have hn := nl_1 hs
    by_cases hm' : ng u ∈ L.getD j []
    · exact Or.inr ⟨mem_ocs.2 ⟨by omega, hm'⟩, hn⟩
    · have h3 := nl_app (v := v) hL hu (show j < L.length by omega)
      rw [if_neg hm'] at h3
      have htr := (stC_3.1 hs).1
      have h4 : stC t (L.getD j []) = 3 := stC_3.2 ⟨by
        rw [← Bool.not_eq_true, tru_app] at htr
        rw [← Bool.not_eq_true]; exact fun h => htr (Or.inl h), by show nl t L j = 1; omega⟩
      rcases h2 j hj h4 with h | h
      · exact Or.inl h
      · subst h
        rw [← Bool.not_eq_true, tru_app] at htr
        exact absurd (Or.inr hui) htr
/-- how many wait -/
def qn (W : World) (g K : Nat) : Nat := (List.range (64 * K)).countP fun j => (cInt W ⟨g, j / 64, none⟩).toNat.testBit (j % 64)
theorem qn_le (W : World) (g K : Nat) : qn W g K ≤ 64 * K := by unfold qn; have := List.countP_le_length (l := List.range (64 * K)) (p := fun j => (cInt W ⟨g, j / 64, none⟩).toNat.testBit (j % 64)); rwa [List.length_range] at this
theorem qn_of {W : World} {g K : Nat} {q : Nat → Bool} (h : QAt W g K q) : qn W g K = (List.range (64 * K)).countP q := by
  obtain ⟨wd, hR, hw⟩ := h
  unfold qn
  refine List.countP_congr fun j hj => ?_
  have hj' := List.mem_range.1 hj
  have h1 := hR.cell (i := j / 64) (by omega)
  rw [cInt_of h1, Int.toNat_natCast, (hw (j / 64) (by omega)).2 (j % 64) (by omega), show 64 * (j / 64) + j % 64 = j by omega]
theorem qn_del (q : Nat → Bool) (i : Nat) (hq : q i = true) : ∀ n, i < n → (List.range n).countP (qdel q i) + 1 = (List.range n).countP q
  | 0, h => by omega
  | n + 1, h => by
    rw [List.range_succ, List.countP_append, List.countP_append]
    rcases Nat.lt_or_ge i n with h' | h'
    · have ih := qn_del q i hq n h'
      have e : qdel q i n = q n := by unfold qdel; rw [decide_eq_false (show ¬ n = i by omega)]; rfl
      rw [List.countP_singleton, List.countP_singleton, e]
      omega
    · obtain rfl : i = n := by omega
      have e1 : (List.range i).countP (qdel q i) = (List.range i).countP q := List.countP_congr fun j hj => by
        have := List.mem_range.1 hj
        unfold qdel; rw [decide_eq_false (show ¬ j = i by omega)]; simp
      have e2 : qdel q i i = false := by unfold qdel; simp
      rw [List.countP_singleton, List.countP_singleton, e1, e2, hq]; simp
/-- the trail's length -/
def tLen (W : World) (b : Nat) : Nat := match W.cell? ⟨b, 2, none⟩ with | some (.slice _ n _) => n | _ => 0
theorem tLen_of {W : World} {b n k : Nat} {A : Option Addr} (h : W.cell? ⟨b, 2, none⟩ = some (.slice A n k)) : tLen W b = n := by unfold tLen; rw [h]
theorem Pst.len {d : Pd} {B : Nat} {W : World} {A : Option Addr} {n k : Nat} {t : List Int} {lf : Nat → Nat} {q : Nat → Bool} (h : Pst d B W (.slice A n k) t lf q) : n = t.length ∧ tLen W d.b = t.length := by
  obtain ⟨A', k', e, _⟩ := h.tl.at
  cases e
  obtain ⟨f, _, hH, _⟩ := h.box
  exact ⟨rfl, tLen_of (hH.cell 2)⟩
theorem mea1 {v a M x y z : Nat} (h1 : a + 1 ≤ v + 1) (hx : x + z < M + y) : (v + 1 - (a + 1)) * M + x + z < (v + 1 - a) * M + y := by
  have : v + 1 - a = (v + 1 - (a + 1)) + 1 := by omega
  rw [this, Nat.succ_mul]
  omega
theorem take_pst {d : Pd} {B v : Nat} {W : World} {vT : Value} {t : List Int} {lf : Nat → Nat} {q : Nat → Bool} (h : Pst d B W vT t lf q) (ho : d.Ok B v) (hT : Tab B W) (hQ : Qd d.m d.L t q) :
    Calls Tryd.prog 34 #[.pointer (some ⟨d.b, 6, none⟩)] W fun e w' => ∃ (r : Int) (q' : Nat → Bool), e = .returned (.int .i64 r) ∧ Pst d B w' vT t lf q' ∧ Below B W w' ∧ Hd d.m d.L t q' r ∧ qn w' d.gW d.K + (if 0 ≤ r then 1 else 0) = qn W d.gW d.K := by
  obtain ⟨f, hf, hH, hlo⟩ := h.box
  have hKe := ho.Ke
  have hm2 := ho.m2
  refine (qtake_any d.b d.gW d.K f B _ _ _ _ _ _ q W hH h.qa (by omega) hf hlo ho.bb.2.2.1 hT ⟨ho.lo.1, ho.lo.2.2.2.1⟩).mono ?_
  rintro e w' ⟨r, f', q', he, hf', hH', hQ', hO, hlo', hc⟩
  refine ⟨r, q', he, h.only ho hf' hH' hQ' hO hlo', hO.2.2 B ho.lo.1 ho.lo.2.2.2.1, hd_take hQ (by omega) hc, ?_⟩
  rw [qn_of hQ', qn_of h.qa]
  rcases hc with ⟨i, rfl, h1, h2, h3, rfl⟩ | ⟨rfl, h1, rfl⟩
  · rw [if_pos (by omega)]; exact qn_del q i h2 _ h1
  · rw [if_neg (by omega)]; rfl
/-- what run gives -/
def RnIs (B b : Nat) (w : World) (p : List Int × Int) (e : Ending) (w' : World) : Prop := e = .returned (.int .i64 p.2) ∧ Below B w w' ∧ ∃ A n k, w'.cell? ⟨b, 2, none⟩ = some (.slice A n k) ∧ Io B w' (.slice A n k) p.1

end Go.Proofs.YtecmldnigohjfabDoor

namespace Go.Proofs.YtecmldnigohjfabDoor
open Go Go.RowKit
set_option linter.unusedVariables false
set_option linter.unusedSimpArgs false

set_option maxRecDepth 100000 in
set_option maxHeartbeats 10000000 in
theorem run15_any (B v b gT lits : Nat) (C : Option Addr) (L : List (List Int)) (kc : Nat) (A : Option Addr) (n k : Nat) (t : List Int) (w : World) (hv : v ≤ 4000) (hl : lits = 2 * v + 2) (ht : OkT (v : Int) t) (hI : Ill w B C L kc) (hL : L.length ≤ 20000) (hc : ∀ c ∈ L, OkC (v : Int) c ∧ c.length ≤ 100000)
    (hT : w.rowIs gT 4 lits (tT t)) (hB : B ≤ b ∧ B ≤ gT) (hbT : gT ≠ b) (hIo : Io B w (.slice A n k) t) (hap : ∀ g, (Value.slice A n k).ownBlock = some g → g ≠ b ∧ g ≠ gT) (htab : Tab B w)
    (hH : Has w b 60 #[.slice C L.length kc, .slice (some ⟨gT, 0, none⟩) lits lits, .slice A n k, .slice none 0 0, .slice none 0 0, .slice none 0 0, .slice none 0 0, .int .i64 0]) :
    Calls Tryd.prog 30 #[.pointer (some ⟨b, 0, none⟩)] w (RnIs B b w (upR (v : Int) t L)) := by
  have hOkL : ∀ c ∈ L, OkC (v : Int) c := fun c h => (hc c h).1
  have DC := count_any v b gT 0 lits C L kc (.slice A n k) t w hv hl ht (hI.more hB.1) hL hc hT hbT hH
  obtain ⟨m, hm⟩ : ∃ m, m = L.length := ⟨_, rfl⟩
  obtain ⟨K, hK⟩ : ∃ K, K = (m + 63) / 64 := ⟨_, rfl⟩
  rw [← hm, ← hK] at DC
  rw [← hm] at hH
  have hblt := hH.lt
  have hup : ∀ i, fF t L = some i → upR (v : Int) t L = (t, (i : Int)) := fun i hi => up_false hi (Nat.succ_pos _)
  have hml : m ≤ 20000 := by omega
  have HH := Lib.hid (And.intro hI (And.intro hm (And.intro hK (And.intro hc (And.intro hT (And.intro hIo (And.intro hap (And.intro htab (And.intro ht (And.intro hOkL (And.intro hup (And.intro hl hL))))))))))))
  clear hI hm hK hc hT hIo hap htab ht hOkL hup hl hL hH
  cases hf : fF t L with
  | some i =>
    have DC1 : Calls Tryd.prog 32 #[.pointer (some ⟨b, 0, none⟩)] w fun e w' => e = .returned (.int .i64 (i : Int)) ∧ ∃ gL gW i', w.heap.size ≤ gL ∧ Cn w b (.slice C m kc) (.slice (some ⟨gT, 0, none⟩) lits lits) (.slice A n k) (.slice none 0 0) (.slice none 0 0) m K gL gW t L i' 0 w' := DC.mono fun e w' h => by
      obtain ⟨gL, gW, h1, h2, h3, h4⟩ := h
      rcases h4 with ⟨i0, _, he, hf0, i', hC⟩ | ⟨_, hf0, _⟩
      · rw [hf] at hf0
        cases hf0
        exact ⟨he, gL, gW, i', h1, hC⟩
      · rw [hf] at hf0; cases hf0
    rw [HH.out.2.2.2.2.2.2.2.2.2.2.1 i hf]
    have hi0 : (0 : Int) ≤ (i : Int) := by omega
    clear DC hf
    go_enter Tryd.func30, Tryd.ntmps30
    go_wp2_with (first
      | (go_at_call 32; (with_reducible refine DC1.mono ?_); rintro e w1 ⟨rfl, gL, gW, i', hgL, hC⟩
         have HC := Lib.hid (And.intro hgL hC)
         clear hgL hC))
    go_ret
    obtain ⟨hgL, hC⟩ := HC.out
    obtain ⟨f, _, hH1, _⟩ := hC.box
    exact ⟨rfl, hC.bl.mono hB.1, A, n, k, hH1.cell 2, HH.out.2.2.2.2.2.1.same fun g hg => hC.ot g (HH.out.2.2.2.2.2.1.lt hg) (HH.out.2.2.2.2.2.2.1 g hg).1⟩
  | none =>
    have DC1 : Calls Tryd.prog 32 #[.pointer (some ⟨b, 0, none⟩)] w fun e w' => e = .returned (.int .i64 (-1)) ∧ ∃ gL gW, (w.heap.size ≤ gL ∧ w.heap.size ≤ gW ∧ gL ≠ gW) ∧ Cn w b (.slice C m kc) (.slice (some ⟨gT, 0, none⟩) lits lits) (.slice A n k) (.slice none 0 0) (.slice none 0 0) m K gL gW t L m 0 w' := DC.mono fun e w' h => by
      obtain ⟨gL, gW, h1, h2, h3, h4⟩ := h
      rcases h4 with ⟨i0, _, he, hf0, _⟩ | ⟨he, hf0, hC⟩
      · rw [hf] at hf0; cases hf0
      · exact ⟨he, gL, gW, ⟨h1, h2, h3⟩, hC⟩
    have HF := Lib.hid hf
    clear DC hf
    go_enter Tryd.func30, Tryd.ntmps30
    go_wp2_with (first
      | (go_at_call 32; (with_reducible refine DC1.mono ?_); rintro e w1 ⟨rfl, gL, gW, hg, hC⟩
         have HC := Lib.hid (And.intro hg hC)
         clear hg hC))
    obtain ⟨hg, hC⟩ := HC.out
    obtain ⟨f, hfK, hbox, hlo⟩ := hC.box
    have hS0 : (fun X : World => X.cell? ⟨b, 0, none⟩ = some (.slice C m kc) ∧ X.cell? ⟨b, 1, none⟩ = some (.slice (some ⟨gT, 0, none⟩) lits lits)) w1.drew := ⟨hbox.cell 0, hbox.cell 1⟩
    have hbw1 : Below B w w1 := hC.bl.mono hB.1
    have hBs : B ≤ w.heap.size := by omega
    have hI1 : Ill w1 w1.heap.size C L kc := HH.out.1.to hbw1 (by have := hC.bl.size; have := hC.row.lt; omega)
    refine wp_slots (fun f => Sz f 59 ∧ Slot f 0 (.pointer (some ⟨b, 0, none⟩))) ⟨⟨rfl, rfl⟩, ⟨rfl⟩⟩ fun a0 hA0 hR => ?_
    obtain ⟨hZ, hs0⟩ := hR
    have HA := Lib.hid hA0
    clear hA0
    refine wp_region_T (fun X : World => X.cell? ⟨b, 0, none⟩ = some (.slice C m kc) ∧ X.cell? ⟨b, 1, none⟩ = some (.slice (some ⟨gT, 0, none⟩) lits lits)) 14 (by kernel_rfl) ?_
    refine WT.h ?_
    (refine wt_move 0 0 rfl rfl (by kernel_rfl) (by kernel_rfl) (by kernel_rfl) (by kernel_rfl) (fun _ _ _ h => h) rfl hS0 (by (repeat (first | (refine slot_hit (N := 59) ?_ (by rfl); (repeat (refine sz_put ?_)); assumption; done) | (apply slot_miss; focus rfl))); all_goals assumption) rfl ?_); (refine wt_move 1 0 rfl rfl (by kernel_rfl) (by kernel_rfl) (by kernel_rfl) (by kernel_rfl) (fun _ _ _ h => h) rfl hS0 (by (repeat (first | (refine slot_hit (N := 59) ?_ (by rfl); (repeat (refine sz_put ?_)); assumption; done) | (apply slot_miss; focus rfl))); all_goals assumption) rfl ?_); (refine wt_take1 2 14 (v := ?_) rfl rfl (by kernel_rfl) (by kernel_rfl) (by kernel_rfl) (by kernel_rfl) (fun _ _ _ h => h) rfl hS0 (by (repeat (first | (refine slot_hit (N := 59) ?_ (by rfl); (repeat (refine sz_put ?_)); assumption; done) | (apply slot_miss; focus rfl))); all_goals assumption) (fun ev hk hv0 w hS => ?_) ?_; rotate_left; focus (obtain ⟨j0, j1⟩ := hS; go_simp; rfl)); (refine wt_take1 3 15 (v := ?_) rfl rfl (by kernel_rfl) (by kernel_rfl) (by kernel_rfl) (by kernel_rfl) (fun _ _ _ h => h) rfl hS0 (by (repeat (first | (refine slot_hit (N := 59) ?_ (by rfl); (repeat (refine sz_put ?_)); assumption; done) | (apply slot_miss; focus rfl))); all_goals assumption) (fun ev hk hv0 w hS => ?_) ?_; rotate_left; focus (obtain ⟨j0, j1⟩ := hS; go_simp; rfl)); (refine wt_take1 4 16 (v := ?_) rfl rfl (by kernel_rfl) (by kernel_rfl) (by kernel_rfl) (by kernel_rfl) (fun _ _ _ h => h) rfl hS0 (by (repeat (first | (refine slot_hit (N := 59) ?_ (by rfl); (repeat (refine sz_put ?_)); assumption; done) | (apply slot_miss; focus rfl))); all_goals assumption) (fun ev hk hv0 w hS => ?_) ?_; rotate_left; focus (obtain ⟨j0, j1⟩ := hS; go_simp; rfl)); (refine wt_take1 5 17 (v := ?_) rfl rfl (by kernel_rfl) (by kernel_rfl) (by kernel_rfl) (by kernel_rfl) (fun _ _ _ h => h) rfl hS0 (by (repeat (first | (refine slot_hit (N := 59) ?_ (by rfl); (repeat (refine sz_put ?_)); assumption; done) | (apply slot_miss; focus rfl))); all_goals assumption) (fun ev hk hv0 w hS => ?_) ?_; rotate_left; focus (obtain ⟨j0, j1⟩ := hS; go_simp; rfl)); (refine wt_move 6 0 rfl rfl (by kernel_rfl) (by kernel_rfl) (by kernel_rfl) (by kernel_rfl) (fun _ _ _ h => h) rfl hS0 (by (repeat (first | (refine slot_hit (N := 59) ?_ (by rfl); (repeat (refine sz_put ?_)); assumption; done) | (apply slot_miss; focus rfl))); all_goals assumption) rfl ?_); (refine wt_take1 7 19 (v := ?_) rfl rfl (by kernel_rfl) (by kernel_rfl) (by kernel_rfl) (by kernel_rfl) (fun _ _ _ h => h) rfl hS0 (by (repeat (first | (refine slot_hit (N := 59) ?_ (by rfl); (repeat (refine sz_put ?_)); assumption; done) | (apply slot_miss; focus rfl))); all_goals assumption) (fun ev hk hv0 w hS => ?_) ?_; rotate_left; focus (obtain ⟨j0, j1⟩ := hS; go_simp; rfl)); (refine wt_take1 8 20 (v := ?_) rfl rfl (by kernel_rfl) (by kernel_rfl) (by kernel_rfl) (by kernel_rfl) (fun _ _ _ h => h) rfl hS0 (by (repeat (first | (refine slot_hit (N := 59) ?_ (by rfl); (repeat (refine sz_put ?_)); assumption; done) | (apply slot_miss; focus rfl))); all_goals assumption) (fun ev hk hv0 w hS => ?_) ?_; rotate_left; focus (obtain ⟨j0, j1⟩ := hS; go_simp; rfl)); (refine wt_take1 9 21 (v := ?_) rfl rfl (by kernel_rfl) (by kernel_rfl) (by kernel_rfl) (by kernel_rfl) (fun _ _ _ h => h) rfl hS0 (by (repeat (first | (refine slot_hit (N := 59) ?_ (by rfl); (repeat (refine sz_put ?_)); assumption; done) | (apply slot_miss; focus rfl))); all_goals assumption) (fun ev hk hv0 w hS => ?_) ?_; rotate_left; focus (obtain ⟨j0, j1⟩ := hS; go_simp; rfl))
    have D2 := index_any v lits C L kc w1.drew hv HH.out.2.2.2.2.2.2.2.2.2.2.2.1 (hI1.on (below_dn (Below.refl _ _) 1)) HH.out.2.2.2.2.2.2.2.2.2.2.2.2 HH.out.2.2.2.1
    rw [← HH.out.2.1] at D2
    refine wt_call2 10 18 22 (by kernel_rfl) rfl rfl rfl (by (repeat (first | (refine slot_hit (N := 59) ?_ (by rfl); (repeat (refine sz_put ?_)); assumption; done) | (apply slot_miss; focus rfl))); all_goals assumption) (by (repeat (first | (refine slot_hit (N := 59) ?_ (by rfl); (repeat (refine sz_put ?_)); assumption; done) | (apply slot_miss; focus rfl))); all_goals assumption) (f := ?_) (args := ?_) (fun ev hk hkf hv0 hv1 => ?_) ?_; rotate_left 2; focus (go_simp; first | rfl | (constructor <;> rfl))
    refine D2.mono ?_
    rintro e w2 ⟨gS, gP, np, rfl, hX2, hgS, hgP, hSP, hb2⟩
    have hb2 := bn (below_dn (Below.refl w1.heap.size w1) 1) hb2
    have hbox2 := hbox.keep hb2 hbox.lt
    have hS0 : (fun X : World => X.cell? ⟨b, 0, none⟩ = some (.slice C m kc) ∧ X.cell? ⟨b, 1, none⟩ = some (.slice (some ⟨gT, 0, none⟩) lits lits)) w2 := ⟨hbox2.cell 0, hbox2.cell 1⟩
    refine ⟨_, rfl, fun _ => hS0, ?_⟩
    (refine wt_take1 11 13 (v := ?_) rfl rfl (by kernel_rfl) (by kernel_rfl) (by kernel_rfl) (by kernel_rfl) (fun _ _ _ h => h) rfl hS0 (by (repeat (first | (refine slot_hit (N := 59) ?_ (by rfl); (repeat (refine sz_put ?_)); assumption; done) | (apply slot_miss; focus rfl))); all_goals assumption) (fun ev hk hv0 w hS => ?_) ?_; rotate_left; focus (obtain ⟨j0, j1⟩ := hS; go_simp; rfl)); (refine wt_take1 12 24 (v := ?_) rfl rfl (by kernel_rfl) (by kernel_rfl) (by kernel_rfl) (by kernel_rfl) (fun _ _ _ h => h) rfl hS0 (by (repeat (first | (refine slot_hit (N := 59) ?_ (by rfl); (repeat (refine sz_put ?_)); assumption; done) | (apply slot_miss; focus rfl))); all_goals assumption) (fun ev hk hv0 w hS => ?_) ?_; rotate_left; focus (obtain ⟨j0, j1⟩ := hS; go_simp; rfl))
    have q4 : w2.cell? ⟨b, 4, none⟩ = some (.slice none 0 0) := hbox2.cell 4
    have q5 : w2.cell? ⟨b, 5, none⟩ = some (.slice none 0 0) := hbox2.cell 5
    have q6 : w2.frozen? ⟨b, 4, none⟩ = false := hbox2.fz 4
    have q7 : w2.frozen? ⟨b, 5, none⟩ = false := hbox2.fz 5
    refine wt_act2 13 25 23 (by kernel_rfl) rfl rfl rfl (by (repeat (first | (refine slot_hit (N := 59) ?_ (by rfl); (repeat (refine sz_put ?_)); assumption; done) | (apply slot_miss; focus rfl))); all_goals assumption) (by (repeat (first | (refine slot_hit (N := 59) ?_ (by rfl); (repeat (refine sz_put ?_)); assumption; done) | (apply slot_miss; focus rfl))); all_goals assumption) (w' := ?_) (fun ev hk hv0 hv1 => ?_) ?_; rotate_left; focus (go_simp; rfl)
    have hbox3 := (hbox2.set 4 (.slice (some ⟨gS, 0, none⟩) (lits + 1) (lits + 1))).set 5 (.slice (some ⟨gP, 0, none⟩) np np)
    have hs3 : ∀ k, k ≠ b → ((w2.setCell ⟨b, 4, none⟩ (.slice (some ⟨gS, 0, none⟩) (lits + 1) (lits + 1))).setCell ⟨b, 5, none⟩ (.slice (some ⟨gP, 0, none⟩) np np)).heap[k]? = w2.heap[k]? := fun k hk => (Below.heap_setCell _ _ _ _ hk).trans (Below.heap_setCell _ _ _ _ hk)
    have hz3 : ((w2.setCell ⟨b, 4, none⟩ (.slice (some ⟨gS, 0, none⟩) (lits + 1) (lits + 1))).setCell ⟨b, 5, none⟩ (.slice (some ⟨gP, 0, none⟩) np np)).heap.size = w2.heap.size := by rw [set_sz15, set_sz15]
    have hbw3 : Below B w ((w2.setCell ⟨b, 4, none⟩ (.slice (some ⟨gS, 0, none⟩) (lits + 1) (lits + 1))).setCell ⟨b, 5, none⟩ (.slice (some ⟨gP, 0, none⟩) np np)) := ((hbw1.trans (hb2.mono (by have := hC.bl.size; have := hC.row.lt; omega))).setCell (p := ⟨b, 4, none⟩) hB.1 _).setCell (p := ⟨b, 5, none⟩) hB.1 _
    generalize hW3 : ((w2.setCell ⟨b, 4, none⟩ (.slice (some ⟨gS, 0, none⟩) (lits + 1) (lits + 1))).setCell ⟨b, 5, none⟩ (.slice (some ⟨gP, 0, none⟩) np np)) = W3 at hbox3 hs3 hz3 hbw3 ⊢
    refine ⟨fun _ => ⟨hbox3.cell 0, hbox3.cell 1⟩, ?_⟩
    refine wt_done (by kernel_rfl) (NoPanic.normal ?_) _
    have ha := HA.out
    subst ha
    obtain ⟨d, hd⟩ : ∃ d : Pd, d = ⟨b, gT, gL, gW, gS, gP, m, K, np, lits, C, kc, L⟩ := ⟨_, rfl⟩
    have hz21 := hb2.size
    have hblt1 := hbox.lt
    have hTlt := HH.out.2.2.2.2.1.lt
    have hgS' : w1.heap.size ≤ gS := hgS
    have hgP' : w1.heap.size ≤ gP := hgP
    have hr1 := hC.row.lt
    have hr2 := hC.q.lt
    have o1 : B ≤ gL ∧ B ≤ gW ∧ B ≤ gS ∧ B ≤ gP := by omega
    have o2 : b ≠ gL ∧ b ≠ gW ∧ b ≠ gS ∧ b ≠ gP := by omega
    have o3 : gT ≠ gL ∧ gT ≠ gW ∧ gT ≠ gS ∧ gT ≠ gP := by omega
    have o4 : gL ≠ gS ∧ gL ≠ gP ∧ gW ≠ gS ∧ gW ≠ gP := by omega
    have hok : d.Ok B v := by
      rw [hd]
      exact ⟨⟨hB.1, hB.2, o1⟩, ⟨fun e => hbT e.symm, o2⟩, o3, ⟨hg.2.2, o4.1, o4.2.1⟩, o4.2.2, HH.out.2.1, HH.out.2.2.1, hml, hv, HH.out.2.2.2.2.2.2.2.2.2.2.2.1, HH.out.2.2.2.1⟩
    have hP3 : Pst d B W3 (.slice A n k) t (nl t L) (qC t L m) := by
      rw [hd]
      have hsm : ∀ k, k < w1.heap.size → k ≠ b → W3.heap[k]? = w1.heap[k]? := fun k hk hkb => (hs3 k hkb).trans (hb2.block k hk)
      have hT1 := HH.out.2.2.2.2.1.of_block (hC.ot gT hTlt hbT)
      have hIo1 := HH.out.2.2.2.2.2.1.same fun g hg => hC.ot g (HH.out.2.2.2.2.2.1.lt hg) (HH.out.2.2.2.2.2.2.1 g hg).1
      refine ⟨⟨f, hfK, hbox3, hlo⟩, (hC.row.of_block (hsm _ hC.row.lt o2.1.symm)).congr fun j hj => ?_, hC.q.of_block (hsm _ hC.q.lt o2.2.1.symm), hT1.of_block (hsm _ hT1.lt hbT), hX2.same (hs3 _ o2.2.2.1.symm) (hs3 _ o2.2.2.2.symm), hIo1.same fun g hg => hsm g (hIo1.lt hg) (HH.out.2.2.2.2.2.2.1 g hg).1, fun g hg => ?_, by have := hX2.s.lt; omega⟩
      · show Value.int .i64 (lfC t L m 0 j : Nat) = .int .i64 (nl t L j : Nat)
        unfold lfC; rw [if_pos hj]
      · have h1 := HH.out.2.2.2.2.2.2.1 g hg
        have h2 := HH.out.2.2.2.2.2.1.lt hg
        exact ⟨h1.1, h1.2, by dsimp only; omega, by dsimp only; omega, by dsimp only; omega, by dsimp only; omega⟩
    have hQd : Qd m L t (qC t L m) := ⟨fun j hj => of_decide_eq_true hj, fun j hj hs => decide_eq_true ⟨hj, nl_1 hs⟩⟩
    have hnz : ∀ j, j < m → nl t L j ≠ 0 := fun j hj h0 => fF_none_iff.1 HF.out (L.getD j []) (gotD_mem (by have := HH.out.2.1; omega)) ((stC_0 HH.out.2.2.2.2.2.2.2.2.1).2 (List.eq_nil_of_length_eq_zero h0))
    have H3 := Lib.hid (And.intro hP3 (And.intro hQd (And.intro hnz (And.intro hok (And.intro hd hbw3)))))
    clear hZ hs0 hS0 D2 hbox hbox2 hbox3 hs3 hz3 hbw3 hok hP3 hQd hnz hd hX2 hgS hgP hSP hb2 q4 q5 q6 q7 hC hg hfK hlo hW3 hI1 hz21 hblt1 hTlt HC hgS' hgP' hr1 hr2 o1 o2 o3 o4
    have hdb : d.b = b := by rw [H3.out.2.2.2.2.1]
    have hdm : d.m = m := by rw [H3.out.2.2.2.2.1]
    have hdL : d.L = L := by rw [H3.out.2.2.2.2.1]
    have hdT : d.gT = gT ∧ d.lits = lits ∧ d.C = C ∧ d.kc = kc := by rw [H3.out.2.2.2.2.1]; exact ⟨rfl, rfl, rfl, rfl⟩
    have HD := Lib.hid (And.intro hdb (And.intro hdm (And.intro hdL hdT)))
    have DT := fun (W : World) (vT : Value) (t' : List Int) (lf : Nat → Nat) (q : Nat → Bool) (h : Pst d B W vT t' lf q) (hT : Tab B W) (hQ : Qd m L t' q) => take_pst h H3.out.2.2.2.1 hT (by rw [hdm, hdL]; exact hQ)
    have DI := fun (W : World) (u : Nat) (A' : Option Addr) (n' k' : Nat) (t' : List Int) (q : Nat → Bool) (h : Pst d B W (.slice A' n' k') t' (nl t' L) q) (h1 : OkT (v : Int) t') (h2 : isL (v : Int) (u : Int) = true) (h3 : (u : Int) ∉ t') (h4 : ng (u : Int) ∉ t') (h5 : ∀ j, j < m → nl t' L j ≠ 0) => imply15_any d B v u W A' n' k' t' q H3.out.2.2.2.1 (by rw [hdL]; exact h) h1 h2 h3 h4 (by rw [hdm, hdL]; exact h5)
    unfold ImIs at DI
    rw [hdb] at DI
    simp only [hdb, hdm, hdL] at DT DI
    clear hdb hdm hdL hdT
    go_wp2_with (first
      | (go_at_call 34; (with_reducible refine (DT _ _ _ _ _ H3.out.1 (HH.out.2.2.2.2.2.2.2.1.on H3.out.2.2.2.2.2) H3.out.2.1).mono ?_); rintro e w4 ⟨r, q', rfl, hP4, hb4, hH4, hn4⟩
         have H4 := Lib.hid (And.intro hP4 (And.intro hb4 hH4))
         clear hP4 hb4 hH4 hn4))
    go_loopw [4] (fun x wr => ∃ (r : Int) (A' : Option Addr) (n' k' : Nat) (t' : List Int) (q' : Nat → Bool), x = .int .i64 r ∧ Pst d B wr (.slice A' n' k') t' (nl t' L) q' ∧ OkT (v : Int) t' ∧ (∀ j, j < m → nl t' L j ≠ 0) ∧ Hd m L t' q' r ∧ up (v + 1) t L = up (v + 1) t' L ∧ Below B w wr) (fun x wr => (v + 1 - tLen wr d.b) * (64 * d.K + 2) + (qn wr d.gW d.K + (if 0 ≤ intOf x then 1 else 0)))
    case atStart => exact ⟨r, A, n, k, t, q', rfl, H4.out.1, HH.out.2.2.2.2.2.2.2.2.1, H3.out.2.2.1, H4.out.2.2, rfl, H3.out.2.2.2.2.2.trans H4.out.2.1⟩
    case round =>
      obtain ⟨r, A', n', k', t', q', rfl, hP, ht', hnz', hHd, hup, hBw⟩ := hrel
      rcases hHd with ⟨i, rfl, hi, hni, hq1, hq2, hq3⟩ | ⟨rfl, hno⟩
      · have hil : i < L.length := by have := HH.out.2.1; omega
        obtain ⟨cb, co, hCe, hcb, hcs⟩ := (HH.out.1.keep hBw).h (by omega)
        obtain ⟨A2, k2, yc, hIc⟩ := hcs i hil
        have hcm := HH.out.2.2.2.1 _ (gotD_mem hil)
        obtain ⟨f, hf, hbox, hlo⟩ := hP.box
        have y0 : wr.cell? ⟨b, 0, none⟩ = some (.slice C m kc) := by
          have h : wr.cell? ⟨d.b, 0, none⟩ = some (.slice d.C d.m d.kc) := hbox.cell 0
          rw [HD.out.1, HD.out.2.1, HD.out.2.2.2.2.2.1, HD.out.2.2.2.2.2.2] at h; exact h
        have y1 : wr.cell? ⟨b, 1, none⟩ = some (.slice (some ⟨gT, 0, none⟩) lits lits) := by
          have h : wr.cell? ⟨d.b, 1, none⟩ = some (.slice (some ⟨d.gT, 0, none⟩) d.lits d.lits) := hbox.cell 1
          rw [HD.out.1, HD.out.2.2.2.1, HD.out.2.2.2.2.1] at h; exact h
        have htr : wr.rowIs gT 4 lits (tT t') := by
          have h := hP.tr
          rw [HD.out.2.2.2.1, HD.out.2.2.2.2.1] at h; exact h
        have hzB := hP.z
        have hli := HH.out.2.2.2.2.2.2.2.2.2.2.2.1
        have hlen := hP.len
        have htv := ht'.len (by omega)
        have hqn := qn_le wr d.gW d.K
        rw [hCe] at y0
        have hfn : fF t' L = none := fF_none fun j hj h0 => hnz' j (by have := HH.out.2.1; omega) (by unfold nl; rw [(stC_0 ht').1 h0]; rfl)
        obtain ⟨c, hce⟩ : ∃ c, c = L.getD i [] := ⟨_, rfl⟩
        rw [← hce] at yc hIc hcm
        have DS := fun nq => stateOf_any A2 c k2 gT lits v t' (wr.drewN nq) ((hIc.more hzB).on (below_dn (Below.refl _ _) nq)) hcm.2 hv hli hcm.1.1 htr
        obtain ⟨nc, hnc⟩ : ∃ nc, nc = c.length := ⟨_, rfl⟩
        rw [← hnc] at yc DS
        have i0 : (0 : Int) ≤ (i : Int) := by omega
        have i1 : (i : Int) < (m : Int) := by omega
        by_cases h3 : stC t' c = 3
        · obtain ⟨x1, x2, x3, x4⟩ := stX_3 h3
          have hisl := hcm.1.isl x2
          obtain ⟨u, hu⟩ : ∃ u : Nat, stX t' c = (u : Int) := ⟨(stX t' c).toNat, by have := isL_iff.1 hisl; omega⟩
          rw [h3, hu] at DS
          rw [hu] at x2 x3 x4 hisl
          have ht2 : OkT (v : Int) (t' ++ [(u : Int)]) := ht'.more hisl (vin_not (v := (v : Int)) x3 x4)
          have hfu : fU t' L = some c := by
            rw [hce]
            refine fU_some hil (by rw [← hce]; exact h3) fun j hj h => ?_
            rcases hq2 j (by have := HH.out.2.1; omega) h with h' | h'
            · rw [hq3 j hj] at h'; cases h'
            · omega
          have hup2 : up (v + 1) t L = up (v + 1) (t' ++ [(u : Int)]) L := by
            rw [hup, up_step HH.out.2.2.2.2.2.2.2.2.2.1 (by omega) ht' (by omega) hfn hfu, hu]
          have DI' := fun nq => DI (wr.drewN nq) u A' n' k' t' q' (hP.drewN nq) ht' hisl x3 x4 hnz'
          have hbn : ∀ nq, Below B w (wr.drewN nq) := fun nq => below_dn hBw nq
          cases hff : fF (t' ++ [(u : Int)]) L with
          | some i2 =>
            have DI2 : ∀ nq, Calls Tryd.prog 35 #[.pointer (some ⟨b, 0, none⟩), .int .i64 (u : Int)] (wr.drewN nq) fun e w' => e = .returned (.int .i64 (i2 : Int)) ∧ Below B w w' ∧ ∃ A n k, w'.cell? ⟨b, 2, none⟩ = some (.slice A n k) ∧ Io B w' (.slice A n k) (t' ++ [(u : Int)]) := fun nq => (DI' nq).mono fun e w' h => by
              obtain ⟨hb, A7, n7, k7, lf7, q7, hP7, hcase⟩ := h
              rcases hcase with ⟨i3, _, he, hf3⟩ | ⟨_, h0, _⟩
              · rw [hff] at hf3
                cases hf3
                obtain ⟨f7, _, hH7, _⟩ := hP7.box
                rw [HD.out.1] at hH7
                exact ⟨he, (hbn nq).trans hb, A7, n7, k7, hH7.cell 2, hP7.tl⟩
              · obtain ⟨g1, g2, _⟩ := fF_at hff
                exact absurd (by unfold nl; rw [gotD g1, (stC_0 ht2).1 g2]; rfl) (h0 i2 (by have := HH.out.2.1; omega)).2
            have HR := Lib.hid (show upR (v : Int) t L = (t' ++ [(u : Int)], (i2 : Int)) by unfold upR; rw [Int.toNat_natCast, hup2, up_false hff (Nat.succ_pos _)])
            have i20 : (0 : Int) ≤ (i2 : Int) := by omega
            clear hP ht' hnz' hni hq1 hq2 hq3 hup hBw hil hCe hcb hcs hIc hcm hbox hlo htr hzB hli hlen htv hqn hfn hce hnc h3 x1 x2 x3 x4 hisl hu ht2 hfu hup2 hff DI' DI hbn hf
            go_wp2
            go_quiet ((go_at_call 17; exact (DS _).mono (fun e w'' h => ⟨h.1, _, h.2.symm⟩)))
            go_wp2_with (first
              | (go_at_call 35; (with_reducible refine (DI2 _).mono ?_); rintro e w7 ⟨rfl, hb7⟩
                 have H7 := Lib.hid hb7
                 clear hb7))
            go_ret
            rw [HR.out]
            exact ⟨rfl, H7.out⟩
          | none =>
            have DI2 : ∀ nq, Calls Tryd.prog 35 #[.pointer (some ⟨b, 0, none⟩), .int .i64 (u : Int)] (wr.drewN nq) fun e w' => e = .returned (.int .i64 (-1)) ∧ Below B w w' ∧ ∃ A n k q7, Pst d B w' (.slice A n k) (t' ++ [(u : Int)]) (nl (t' ++ [(u : Int)]) L) q7 ∧ (∀ j, j < m → nl (t' ++ [(u : Int)]) L j ≠ 0) ∧ Qd m L (t' ++ [(u : Int)]) q7 := fun nq => (DI' nq).mono fun e w' h => by
              obtain ⟨hb, A7, n7, k7, lf7, q7, hP7, hcase⟩ := h
              rcases hcase with ⟨i3, _, he, hf3⟩ | ⟨he, h0, rfl⟩
              · rw [hff] at hf3; cases hf3
              · have h0' : ∀ j, j < m → nl (t' ++ [(u : Int)]) L j ≠ 0 := fun j hj => (h0 j hj).2
                exact ⟨he, (hbn nq).trans hb, A7, n7, k7, _, hP7.congr (fun j hj => (h0 j (by rw [← HD.out.2.1]; exact hj)).1) (fun _ => rfl), h0', qd_more (v := (v : Int)) HH.out.2.1 HH.out.2.2.2.2.2.2.2.2.2.1 x3 hi (by rw [← hce]; exact x2) hq1 hq2 h0'⟩
            have HR := Lib.hid (And.intro hup2 (And.intro ht2 (And.intro hlen (And.intro htv hqn))))
            clear hP ht' hnz' hni hq1 hq2 hq3 hup hBw hil hCe hcb hcs hIc hcm hbox hlo htr hzB hli hlen htv hqn hfn hce hnc h3 x1 x2 x3 x4 hisl hu ht2 hfu hup2 hff DI' DI hbn hf
            go_wp2
            go_quiet ((go_at_call 17; exact (DS _).mono (fun e w'' h => ⟨h.1, _, h.2.symm⟩)))
            go_wp2_with (first
              | (go_at_call 35; (with_reducible refine (DI2 _).mono ?_); rintro e w7 ⟨rfl, hb7, A7, n7, k7, q7, hP7, hz7, hQ7⟩
                 have H7 := Lib.hid (And.intro hb7 (And.intro hP7 (And.intro hz7 hQ7)))
                 clear hb7 hP7 hz7 hQ7)
              | (go_at_call 34; (with_reducible refine (DT _ _ _ _ _ H7.out.2.1 (HH.out.2.2.2.2.2.2.2.1.on H7.out.1) H7.out.2.2.2).mono ?_); rintro e w8 ⟨r8, q8, rfl, hP8, hb8, hH8, hn8⟩
                 have H8 := Lib.hid (And.intro hP8 (And.intro hb8 (And.intro hH8 hn8)))
                 clear hP8 hb8 hH8 hn8))
            go_roundw
            case rel => exact ⟨r8, A7, n7, k7, t' ++ [(u : Int)], q8, rfl, H8.out.1, HR.out.2.1, H7.out.2.2.1, H8.out.2.2.1, HR.out.1, H7.out.1.trans H8.out.2.1⟩
            case measure =>
              have h1 := H8.out.1.len.2
              have h2 := HR.out.2.2.1.2
              have h3 := HR.out.2.1.len (by omega)
              have h4 := qn_le w8 d.gW d.K
              rw [h1, h2, List.length_append, show [(u : Int)].length = 1 from rfl]
              rw [List.length_append, show [(u : Int)].length = 1 from rfl] at h3
              have h5 : (if 0 ≤ intOf (Value.int IntKind.i64 r8) then 1 else 0) ≤ 1 := by split <;> omega
              generalize (if 0 ≤ intOf (Value.int IntKind.i64 r8) then 1 else 0) = z at h5 ⊢
              have := mea1 (v := v) (a := t'.length) (M := 64 * d.K + 2) (x := qn w8 d.gW d.K) (y := (qn wr d.gW d.K + (if 0 ≤ intOf (Value.int IntKind.i64 (i : Int)) then 1 else 0))) (z := z) (by omega) (by omega)
              first
                | omega
                | (simp only [Nat.add_assoc] at this ⊢; exact this)
        · have HR := Lib.hid (And.intro hP (And.intro ht' (And.intro hnz' (And.intro hup (And.intro hBw (show Qd m L t' q' from ⟨hq1, fun j hj hs => (hq2 j hj hs).resolve_right fun e => by subst e; rw [← hce] at hs; exact h3 hs⟩))))))
          generalize stX t' c = sx at DS
          have e3 : (stC t' c != 3) = true := by simpa using h3
          generalize stC t' c = sc at DS e3
          clear hP ht' hnz' hni hq1 hq2 hq3 hup hBw hil hCe hcb hcs hIc hcm hbox hlo htr hzB hli hlen htv hqn hfn hce hnc h3 DI hf
          go_wp2
          go_quiet ((go_at_call 17; exact (DS _).mono (fun e w'' h => ⟨h.1, _, h.2.symm⟩)))
          go_wp2_with (first
            | (go_at_call 34; (with_reducible refine (DT _ _ _ _ _ (HR.out.1.drewN _) (HH.out.2.2.2.2.2.2.2.1.on (below_dn HR.out.2.2.2.2.1 _)) HR.out.2.2.2.2.2).mono ?_); rintro e w8 ⟨r8, q8, rfl, hP8, hb8, hH8, hn8⟩
               have H8 := Lib.hid (And.intro hP8 (And.intro hb8 (And.intro hH8 hn8)))
               clear hP8 hb8 hH8 hn8))
          go_roundw
          case rel => exact ⟨r8, A', n', k', t', q8, rfl, H8.out.1, HR.out.2.1, HR.out.2.2.1, H8.out.2.2.1, HR.out.2.2.2.1, (below_dn HR.out.2.2.2.2.1 _).trans H8.out.2.1⟩
          case measure =>
            have h1 := H8.out.1.len.2
            have h2 := HR.out.1.len.2
            have h3 := H8.out.2.2.2
            rw [h1, h2]
            have h4 : intOf (Value.int IntKind.i64 r8) = r8 := rfl
            have h5 : intOf (Value.int IntKind.i64 (i : Int)) = (i : Int) := rfl
            rw [h4, h5, if_pos i0]
            have h6 : ∀ nq, qn (wr.drewN nq) d.gW d.K = qn wr d.gW d.K := fun nq => rfl
            first
              | (rw [h6] at h3; omega)
              | omega
      · have H5 := Lib.hid (And.intro hP (And.intro ht' (And.intro hnz' (And.intro hno (And.intro hup hBw)))))
        clear hP ht' hnz' hno hup hBw
        go_wp2
        go_ret
        obtain ⟨hP, ht', hnz', hno, hup, hBw⟩ := H5.out
        have hfn : fF t' L = none := fF_none fun j hj h0 => hnz' j (by have := HH.out.2.1; omega) (by unfold nl; rw [(stC_0 ht').1 h0]; rfl)
        have hun : fU t' L = none := fU_none_iff.2 fun c hc h3 => by
          obtain ⟨j, hj, rfl⟩ := List.getElem_of_mem hc
          exact hno j (by have := HH.out.2.1; omega) (by rw [gotD hj]; exact h3)
        have hr : upR (v : Int) t L = (t', -1) := by
          unfold upR
          rw [Int.toNat_natCast, hup, up_end hfn hun]
        rw [hr]
        obtain ⟨f, _, hH, _⟩ := hP.box
        rw [HD.out.1] at hH
        exact ⟨rfl, hBw, A', n', k', hH.cell 2, hP.tl⟩

end Go.Proofs.YtecmldnigohjfabDoor

namespace Go.Proofs.YtecmldnigohjfabDoor
open Go Go.RowKit
set_option linter.unusedVariables false
set_option linter.unusedSimpArgs false

section
variable {P : Program} {ops : Array Oper} {Q : Exit → Act → World → Prop} {md : Region.Mode} {S : World → Prop} {n : Nat}
/-- one of several: a call -/
theorem ways_call1 (i s : Nat) {oi : Oper} {d : Nat} {f : FuncId} {args : Array Value} {u : Value} {fuel : Nat} {listed : Array Bool} {a : Act} {w : World} (hi : opAt ops.toList i = some oi) (hd : oi.dst = some d)
    (hw : Region.wanted oi (yielded ops a.tmps) = true) (h1 : Slot a s u) (he : ∀ ev : Operand → Value, (∀ x, ev (.const x) = x) → (∀ f, ev (.func f) = .func (.func f) #[] #[]) → ev (.tmp s) = u → (execOp ev oi).run P w = .ok (.enter f args) w)
    (h : Calls P f args w fun e w' => ∃ v, e = .returned v ∧ (i < n → S w') ∧ WT P md ops Q S n fuel (listed.setIfInBounds i true) (a.put (some d) v) w') : wpOp P ops Q i (fun a' w' => (i < n → S w') ∧ WT P md ops Q S n fuel (listed.setIfInBounds i true) a' w') a w := by
  refine wpOp_go (opAt_spec hi) hw fun K hK => ?_
  show oi.upon P a K Q _
  rw [he _ (fun _ => rfl) (fun _ => rfl) h1.eval, Oper.upon_enter]
  refine h.mono fun e w' => ?_
  rintro ⟨v, rfl, h1, h2⟩
  have h3 := hK _ _ ⟨h1, h2⟩
  show K (a.put oi.dst v) w'
  rw [hd]; exact h3
/-- two that may come up: a call, and one that makes memory -/
theorem ways_cv (i s j : Nat) {oi oj : Oper} {d e : Nat} {f : FuncId} {args : Array Value} {x u : Value} {fuel : Nat} {listed : Array Bool} {a : Act} {w wj : World} (hr : Region.ready md ops listed = [i, j]) (hi : opAt ops.toList i = some oi) (hd : oi.dst = some d) (hj : opAt ops.toList j = some oj) (he : oj.dst = some e)
    (hwi : Region.wanted oi (yielded ops a.tmps) = true) (hwj : Region.wanted oj (yielded ops a.tmps) = true) (h1 : Slot a s x)
    (hei : ∀ ev : Operand → Value, (∀ x, ev (.const x) = x) → (∀ f, ev (.func f) = .func (.func f) #[] #[]) → ev (.tmp s) = x → (execOp ev oi).run P w = .ok (.enter f args) w)
    (hej : ∀ ev : Operand → Value, (∀ x, ev (.const x) = x) → (execOp ev oj).run P w = .ok (.value u) wj)
    (hSj : j < n → S wj)
    (hc : Calls P f args w fun e w' => ∃ v, e = .returned v ∧ (i < n → S w') ∧ WT P md ops Q S n fuel (listed.setIfInBounds i true) (a.put (some d) v) w')
    (h2 : WT P md ops Q S n fuel (listed.setIfInBounds j true) (a.put (some e) u) wj) : WT P md ops Q S n (fuel + 1) listed a w :=
  ways2 i j hr (ways_call1 i s hi hd hwi h1 hei hc) (ways_val j hj he hwj hej ⟨hSj, h2⟩)
end
/-- the propagation as it is made -/
structure Rp (w w1 : World) (x0 x1 x2 : Value) (W : World) (gB gT lits : Nat) (vC vT : Value) (t : List Int) : Prop where
  x : Bx2 w x0 x1 x2 W
  bl : Below w1.heap.size w1 W
  h : Has W gB 60 #[vC, .slice (some ⟨gT, 0, none⟩) lits lits, vT, .slice none 0 0, .slice none 0 0, .slice none 0 0, .slice none 0 0, .int .i64 0]
  r : W.rowIs gT 4 lits (tT t)
  o : Io w1.heap.size W vT t
  b1 : w1.heap.size ≤ gB ∧ w1.heap.size ≤ gT ∧ gT ≠ gB
  ap : ∀ g, vT.ownBlock = some g → g ≠ gB ∧ g ≠ gT
def st8 (W : World) (g : Nat) (v0 v1 v2 v3 v4 v5 v6 v7 : Value) : World := (((((((W.setCell ⟨g, 0, none⟩ v0).setCell ⟨g, 1, none⟩ v1).setCell ⟨g, 2, none⟩ v2).setCell ⟨g, 3, none⟩ v3).setCell ⟨g, 4, none⟩ v4).setCell ⟨g, 5, none⟩ v5).setCell ⟨g, 6, none⟩ v6).setCell ⟨g, 7, none⟩ v7
theorem st8_has {W : World} {g : Nat} {ty : TypeId} {u0 u1 u2 u3 u4 u5 u6 u7 : Value} (h : Has W g ty #[u0, u1, u2, u3, u4, u5, u6, u7]) (v0 v1 v2 v3 v4 v5 v6 v7 : Value) : Has (st8 W g v0 v1 v2 v3 v4 v5 v6 v7) g ty #[v0, v1, v2, v3, v4, v5, v6, v7] := by
  have a0 : Has _ g ty #[v0, u1, u2, u3, u4, u5, u6, u7] := h.set 0 v0
  have a1 : Has _ g ty #[v0, v1, u2, u3, u4, u5, u6, u7] := a0.set 1 v1
  have a2 : Has _ g ty #[v0, v1, v2, u3, u4, u5, u6, u7] := a1.set 2 v2
  have a3 : Has _ g ty #[v0, v1, v2, v3, u4, u5, u6, u7] := a2.set 3 v3
  have a4 : Has _ g ty #[v0, v1, v2, v3, v4, u5, u6, u7] := a3.set 4 v4
  have a5 : Has _ g ty #[v0, v1, v2, v3, v4, v5, u6, u7] := a4.set 5 v5
  have a6 : Has _ g ty #[v0, v1, v2, v3, v4, v5, v6, u7] := a5.set 6 v6
  have a7 : Has _ g ty #[v0, v1, v2, v3, v4, v5, v6, v7] := a6.set 7 v7
  exact a7
theorem st8_same (W : World) (g : Nat) (v0 v1 v2 v3 v4 v5 v6 v7 : Value) {k : Nat} (hk : k ≠ g) : (st8 W g v0 v1 v2 v3 v4 v5 v6 v7).heap[k]? = W.heap[k]? := by
  unfold st8
  iterate 7 refine (Below.heap_setCell _ _ _ _ hk).trans ?_
  exact Below.heap_setCell _ _ _ _ hk
theorem st8_below {W : World} {B g : Nat} (hg : B ≤ g) (v0 v1 v2 v3 v4 v5 v6 v7 : Value) : Below B W (st8 W g v0 v1 v2 v3 v4 v5 v6 v7) := by
  unfold st8
  exact ((((((((Below.refl B W).setCell (p := ⟨g, 0, none⟩) hg _).setCell (p := ⟨g, 1, none⟩) hg _).setCell (p := ⟨g, 2, none⟩) hg _).setCell (p := ⟨g, 3, none⟩) hg _).setCell (p := ⟨g, 4, none⟩) hg _).setCell (p := ⟨g, 5, none⟩) hg _).setCell (p := ⟨g, 6, none⟩) hg _).setCell (p := ⟨g, 7, none⟩) hg _
theorem rp_new {w w1 : World} {x0 x1 x2 : Value} {W : World} {gT lits : Nat} {vC vT : Value} {t : List Int} (hX : Bx2 w x0 x1 x2 w1) (hb : Below w1.heap.size w1 W) (hr : W.rowIs gT 4 lits (tT t)) (ho : Io w1.heap.size W vT t) (h1 : w1.heap.size ≤ gT) (ap : ∀ g, vT.ownBlock = some g → g ≠ gT) :
    Rp w w1 x0 x1 x2 (W.alloc (.cells #[vC, .slice (some ⟨gT, 0, none⟩) lits lits, vT, .slice none 0 0, .slice none 0 0, .slice none 0 0, .slice none 0 0, .int .i64 0] 60)) W.heap.size gT lits vC vT t := by
  have hb2 := bn hb (bx_on W (.cells #[vC, .slice (some ⟨gT, 0, none⟩) lits lits, vT, .slice none 0 0, .slice none 0 0, .slice none 0 0, .slice none 0 0, .int .i64 0] 60))
  have := hr.lt
  exact ⟨hX.on hb2, hb2, Has.new _ _ _, hr.alloc _, ho.keep (bx_on _ _), ⟨hb.size, h1, by omega⟩, fun g hg => ⟨Nat.ne_of_lt (ho.lt hg), ap g hg⟩⟩
theorem rp_set {w w1 : World} {x0 x1 x2 : Value} {W : World} {gB gT lits : Nat} {vC vT : Value} {t : List Int} (hX : Bx2 w x0 x1 x2 w1) (hb : Below w1.heap.size w1 W) {u0 u1 u2 u3 u4 u5 u6 u7 : Value} (hh : Has W gB 60 #[u0, u1, u2, u3, u4, u5, u6, u7]) (hr : W.rowIs gT 4 lits (tT t)) (ho : Io w1.heap.size W vT t) (h1 : w1.heap.size ≤ gT) (h2 : w1.heap.size ≤ gB) (h3 : gT ≠ gB) (ap : ∀ g, vT.ownBlock = some g → g ≠ gB ∧ g ≠ gT) :
    Rp w w1 x0 x1 x2 (st8 W gB vC (.slice (some ⟨gT, 0, none⟩) lits lits) vT (.slice none 0 0) (.slice none 0 0) (.slice none 0 0) (.slice none 0 0) (.int .i64 0)) gB gT lits vC vT t := by
  have hb2 := hb.trans (st8_below h2 vC (.slice (some ⟨gT, 0, none⟩) lits lits) vT (.slice none 0 0) (.slice none 0 0) (.slice none 0 0) (.slice none 0 0) (.int .i64 0))
  exact ⟨hX.on hb2, hb2, st8_has hh _ _ _ _ _ _ _ _, hr.of_block (st8_same _ _ _ _ _ _ _ _ _ _ h3), ho.same fun g hg => st8_same _ _ _ _ _ _ _ _ _ _ (ap g hg).1, ⟨h2, h1, h3⟩, ap⟩
theorem has8 {W : World} {g : Nat} {ty : TypeId} {u0 u1 u2 u3 u4 u5 u6 u7 : Value} (h : Has W g ty #[u0, u1, u2, u3, u4, u5, u6, u7]) : (W.cell? ⟨g, 0, none⟩ = some u0 ∧ W.cell? ⟨g, 1, none⟩ = some u1 ∧ W.cell? ⟨g, 2, none⟩ = some u2 ∧ W.cell? ⟨g, 3, none⟩ = some u3 ∧ W.cell? ⟨g, 4, none⟩ = some u4 ∧ W.cell? ⟨g, 5, none⟩ = some u5 ∧ W.cell? ⟨g, 6, none⟩ = some u6 ∧ W.cell? ⟨g, 7, none⟩ = some u7) ∧
    (W.frozen? ⟨g, 0, none⟩ = false ∧ W.frozen? ⟨g, 1, none⟩ = false ∧ W.frozen? ⟨g, 2, none⟩ = false ∧ W.frozen? ⟨g, 3, none⟩ = false ∧ W.frozen? ⟨g, 4, none⟩ = false ∧ W.frozen? ⟨g, 5, none⟩ = false ∧ W.frozen? ⟨g, 6, none⟩ = false ∧ W.frozen? ⟨g, 7, none⟩ = false) :=
  ⟨⟨h.cell 0, h.cell 1, h.cell 2, h.cell 3, h.cell 4, h.cell 5, h.cell 6, h.cell 7⟩, ⟨h.fz 0, h.fz 1, h.fz 2, h.fz 3, h.fz 4, h.fz 5, h.fz 6, h.fz 7⟩⟩
/-- what Run says -/
def rV (v : Int) (t s : List Int) (L : List (List Int)) : Int := if cE v t s L = 0 then v else 0
def rT (v : Int) (t s : List Int) (L : List (List Int)) : List Int := if cE v t s L = 0 then (upR v t L).1 else []
def rS (v : Int) (t s : List Int) (L : List (List Int)) : List Int := if cE v t s L = 0 then s else []
def rAt (v : Int) (t s : List Int) (L : List (List Int)) : Int := if cE v t s L = 0 then (upR v t L).2 else 0
def RuIs (v : Int) (t s : List Int) (at_ e : Int) (w : World) (en : Ending) (w' : World) : Prop := ∃ A k B q, en = .returned (.tuple #[asv v A t.length k B s.length q, .int .i64 at_, .int .i64 e]) ∧ Ia w' w'.heap.size A t k ∧ Ia w' w'.heap.size B s q ∧ Below w.heap.size w w' ∧ (∀ a, A = some a → w.heap.size ≤ a.block) ∧ ∀ a, B = some a → w.heap.size ≤ a.block

set_option maxRecDepth 100000 in
set_option maxHeartbeats 10000000 in
theorem urun_no (v : Int) (A : Option Addr) (t : List Int) (k : Nat) (B : Option Addr) (s : List Int) (q : Nat) (C : Option Addr) (L : List (List Int)) (kc : Nat) (w : World) (h : Ia w w.heap.size A t k) (hl : t.length ≤ 100000) (hr : ∀ x ∈ t, I64 x) (h' : Ia w w.heap.size B s q) (hl' : s.length ≤ 100000) (hc : Ill w w.heap.size C L kc) (hcl : L.length ≤ 100000) (hcr : ∀ c ∈ L, c.length ≤ 100000 ∧ ∀ x ∈ c, I64 x) (hE : cE v t s L ≠ 0) :
    Calls Tryd.prog 20 #[asv v A t.length k B s.length q, .slice C L.length kc] w (RuIs (rV v t s L) (rT v t s L) (rS v t s L) (rAt v t s L) (cE v t s L) w) := by
  have H0 := Bx2.new w (.int .i64 v) (.slice A t.length k) (.slice B s.length q)
  have D1 := ucheck_any v A t k B s q C L kc (bx2 w (.int .i64 v) (.slice A t.length k) (.slice B s.length q)) (h.on H0.b) hl hr (h'.on H0.b) hl' (hc.on H0.b) hcl hcr
  unfold bx2 at D1
  rw [show rV v t s L = 0 from if_neg hE, show rT v t s L = [] from if_neg hE, show rS v t s L = [] from if_neg hE, show rAt v t s L = 0 from if_neg hE]
  generalize cE v t s L = u at D1 hE ⊢
  have e2 : (u != 0) = true := by simpa using hE
  obtain ⟨n, hn⟩ : ∃ n, n = t.length := ⟨_, rfl⟩
  obtain ⟨m, hm⟩ : ∃ m, m = s.length := ⟨_, rfl⟩
  obtain ⟨nc, hnc⟩ : ∃ m, m = L.length := ⟨_, rfl⟩
  rw [← hn, ← hm] at H0 D1 ⊢
  rw [← hnc] at D1 ⊢
  have HB := Lib.hid H0
  clear h hl hr h' hl' hc hcl hcr hn hm hnc H0 hE
  go_enter Tryd.func20, Tryd.ntmps20
  go_wp2_with (first
    | (go_at_call 28; (with_reducible refine D1.mono ?_); rintro e w2 ⟨rfl, hb2⟩
       have H2 := HB.out.on hb2
       obtain ⟨d0, d1, d2, f0, f1, f2⟩ := H2.d
       have HB2 := Lib.hid H2
       clear H2 hb2))
  refine bodyPost_ret (v := .tuple #[.agg #[.int .i64 0, .slice none 0 0, .slice none 0 0], .int .i64 0, .int .i64 u]) (by simp [results, Tryd.results20, go_sem, d0, d1, d2]) rfl ?_
  exact ⟨none, 0, none, 0, rfl, Ia.nil _ _, Ia.nil _ _, st3_below HB2.out.b (Nat.le_succ _) _ _ _, fun a h => (by cases h), fun a h => by cases h⟩

set_option maxRecDepth 100000 in
set_option maxHeartbeats 10000000 in
theorem urun_yes (v : Nat) (A : Option Addr) (t : List Int) (k : Nat) (B : Option Addr) (s : List Int) (q : Nat) (C : Option Addr) (L : List (List Int)) (kc : Nat) (w : World) (h : Ia w w.heap.size A t k) (hl : t.length ≤ 100000) (hr : ∀ x ∈ t, I64 x) (h' : Ia w w.heap.size B s q) (hl' : s.length ≤ 100000) (hc : Ill w w.heap.size C L kc) (hcl : L.length ≤ 100000) (hcr : ∀ c ∈ L, c.length ≤ 100000 ∧ ∀ x ∈ c, I64 x) (htab : Tab w.heap.size w) (hE : cE (v : Int) t s L = 0) :
    Calls Tryd.prog 20 #[asv (v : Int) A t.length k B s.length q, .slice C L.length kc] w (RuIs (v : Int) (upR (v : Int) t L).1 s (upR (v : Int) t L).2 0 w) := by
  have H0 := Bx2.new w (.int .i64 (v : Int)) (.slice A t.length k) (.slice B s.length q)
  have D1 := ucheck_any (v : Int) A t k B s q C L kc (bx2 w (.int .i64 (v : Int)) (.slice A t.length k) (.slice B s.length q)) (h.on H0.b) hl hr (h'.on H0.b) hl' (hc.on H0.b) hcl hcr
  unfold bx2 at D1
  rw [hE] at D1
  obtain ⟨hO, hL2, hOC⟩ := cE_0.1 hE
  have hv : v ≤ 4000 := by have := hO.1; omega
  obtain ⟨lits, hlits⟩ : ∃ l, l = 2 * v + 2 := ⟨_, rfl⟩
  have DT0 := fun (W : World) (hb : Below w.heap.size w W) => truths_any v hv A t k B s.length q lits hlits W (h.on hb) hl hO.2.1.1
  have DK0 := fun (W : World) (hb : Below w.heap.size w W) => clone_any A t k W (h.on hb) hl
  have DS0 := fun (W : World) (hb : Below w.heap.size w W) => clone_any B s q W (h'.on hb) hl'
  have HI := Lib.hid (And.intro hc (And.intro hL2 (And.intro (show ∀ c ∈ L, OkC (v : Int) c ∧ c.length ≤ 100000 from fun c hm => ⟨hOC c hm, (hcr c hm).1⟩) (And.intro hlits (And.intro hO.2.1 htab)))))
  obtain ⟨n, hn⟩ : ∃ n, n = t.length := ⟨_, rfl⟩
  obtain ⟨m, hm⟩ : ∃ m, m = s.length := ⟨_, rfl⟩
  obtain ⟨nc, hnc⟩ : ∃ m, m = L.length := ⟨_, rfl⟩
  rw [← hn, ← hm] at H0 D1 DT0 ⊢
  rw [← hn] at DK0
  rw [← hm] at DS0
  rw [← hnc] at D1 ⊢
  have HN := Lib.hid (And.intro hn (And.intro hm hnc))
  have HB := Lib.hid H0
  obtain ⟨p, hp⟩ : ∃ p, p = upR (v : Int) t L := ⟨_, rfl⟩
  rw [← hp]
  obtain ⟨p1, p2⟩ := p
  dsimp only
  have HP := Lib.hid hp
  clear h hl hr h' hl' hc hcl hcr hn hm hnc H0 hE hO hL2 hOC hlits htab hp
  go_enter Tryd.func20, Tryd.ntmps20
  go_wp2_with (first
    | (go_at_call 28; (with_reducible refine D1.mono ?_); rintro e w1 ⟨rfl, hb1⟩
       have H1 := HB.out.on hb1
       have HB1 := Lib.hid H1
       clear H1 hb1))
  have DT := fun (W : World) (hb : Below w1.heap.size w1 W) => DT0 W (bn HB1.out.b hb)
  have DK := fun (W : World) (hb : Below w1.heap.size w1 W) => DK0 W (bn HB1.out.b hb)
  clear DT0 DK0 D1
  go_cut [8] (fun u8 wx => ∃ gB gT A' n' k', u8 = .pointer (some ⟨gB, 0, none⟩) ∧ Rp w w1 (.int .i64 (v : Int)) (.slice A n k) (.slice B m q) wx gB gT lits (.slice C nc kc) (.slice A' n' k') t)
  case first =>
    have hS0 : (fun X : World => X.cell? ⟨w.heap.size, 0, none⟩ = some (.int .i64 (v : Int)) ∧ X.cell? ⟨w.heap.size, 1, none⟩ = some (.slice A n k) ∧ X.cell? ⟨w.heap.size, 2, none⟩ = some (.slice B m q)) w1.drew := HB1.out.c
    refine wp_slots (fun f => Sz f 34 ∧ Slot f 1 (.slice C nc kc) ∧ Slot f 2 (.pointer (some ⟨w.heap.size, 0, none⟩))) ⟨⟨rfl, rfl⟩, ⟨rfl⟩, ⟨rfl⟩⟩ fun a0 hA0 hR => ?_
    obtain ⟨hZ, hs1, hs2⟩ := hR
    have HA := Lib.hid hA0
    clear hA0
    refine wp_region_T (fun X : World => X.cell? ⟨w.heap.size, 0, none⟩ = some (.int .i64 (v : Int)) ∧ X.cell? ⟨w.heap.size, 1, none⟩ = some (.slice A n k) ∧ X.cell? ⟨w.heap.size, 2, none⟩ = some (.slice B m q)) 9 (by kernel_rfl) ?_
    refine WT.h ?_
    (refine wt_move 0 1 rfl rfl (by kernel_rfl) (by kernel_rfl) (by kernel_rfl) (by kernel_rfl) (fun _ _ _ h => h) rfl hS0 (by (repeat (first | (refine slot_hit (N := 34) ?_ (by rfl); (repeat (refine sz_put ?_)); assumption; done) | (apply slot_miss; focus rfl))); all_goals assumption) rfl ?_); (refine wt_take1 1 2 (v := ?_) rfl rfl (by kernel_rfl) (by kernel_rfl) (by kernel_rfl) (by kernel_rfl) (fun _ _ _ h => h) rfl hS0 (by (repeat (first | (refine slot_hit (N := 34) ?_ (by rfl); (repeat (refine sz_put ?_)); assumption; done) | (apply slot_miss; focus rfl))); all_goals assumption) (fun ev hk hv0 w hS => ?_) ?_; rotate_left; focus (obtain ⟨j0, j1, j2⟩ := hS; go_simp; rfl)); (refine wt_take1 3 2 (v := ?_) rfl rfl (by kernel_rfl) (by kernel_rfl) (by kernel_rfl) (by kernel_rfl) (fun _ _ _ h => h) rfl hS0 (by (repeat (first | (refine slot_hit (N := 34) ?_ (by rfl); (repeat (refine sz_put ?_)); assumption; done) | (apply slot_miss; focus rfl))); all_goals assumption) (fun ev hk hv0 w hS => ?_) ?_; rotate_left; focus (obtain ⟨j0, j1, j2⟩ := hS; go_simp; rfl)); (refine wt_take1 4 20 (v := ?_) rfl rfl (by kernel_rfl) (by kernel_rfl) (by kernel_rfl) (by kernel_rfl) (fun _ _ _ h => h) rfl hS0 (by (repeat (first | (refine slot_hit (N := 34) ?_ (by rfl); (repeat (refine sz_put ?_)); assumption; done) | (apply slot_miss; focus rfl))); all_goals assumption) (fun ev hk hv0 w hS => ?_) ?_; rotate_left; focus (obtain ⟨j0, j1, j2⟩ := hS; go_simp; rfl))
    refine ways_cv 2 18 7 (by kernel_rfl) rfl rfl rfl rfl rfl rfl (by (repeat (first | (refine slot_hit (N := 34) ?_ (by rfl); (repeat (refine sz_put ?_)); assumption; done) | (apply slot_miss; focus rfl))); all_goals assumption) (f := ?_) (args := ?_) (u := ?_) (wj := ?_) (fun ev hk hkf hv0 => ?_) (fun ev hk => ?_) ?_ ?_ ?_
    rotate_left 4
    focus (go_simp; first | rfl | (constructor <;> rfl))
    focus (go_simp; first | rfl | (constructor <;> rfl))
    · exact fun _ => (HB1.out.on (bn (below_dn (Below.refl w1.heap.size w1) 1) (bx_on _ _))).c
    · refine (DT _ (below_dn (Below.refl w1.heap.size w1) 1)).mono ?_
      rintro e w2 ⟨gT, rfl, hgT, hR2, hb2⟩
      have hb12 := bn (below_dn (Below.refl w1.heap.size w1) 1) hb2
      have hgT : w1.heap.size ≤ gT := hgT
      have hS0 : (fun X : World => X.cell? ⟨w.heap.size, 0, none⟩ = some (.int .i64 (v : Int)) ∧ X.cell? ⟨w.heap.size, 1, none⟩ = some (.slice A n k) ∧ X.cell? ⟨w.heap.size, 2, none⟩ = some (.slice B m q)) w2 := (HB1.out.on hb12).c
      refine ⟨_, rfl, fun _ => hS0, ?_⟩
      refine ways_cv 5 21 7 (by kernel_rfl) rfl rfl rfl rfl rfl rfl (by (repeat (first | (refine slot_hit (N := 34) ?_ (by rfl); (repeat (refine sz_put ?_)); assumption; done) | (apply slot_miss; focus rfl))); all_goals assumption) (f := ?_) (args := ?_) (u := ?_) (wj := ?_) (fun ev hk hkf hv0 => ?_) (fun ev hk => ?_) ?_ ?_ ?_
      rotate_left 4
      focus (go_simp; first | rfl | (constructor <;> rfl))
      focus (go_simp; first | rfl | (constructor <;> rfl))
      · exact fun _ => (HB1.out.on (bn hb12 (bx_on _ _))).c
      · refine (DK _ hb12).mono ?_
        rintro e w3 ⟨v3, rfl, ho3, hb3⟩
        obtain ⟨A3, k3, rfl, _⟩ := ho3.at
        rw [← HN.out.1] at ho3 ⊢
        have hb13 := bn hb12 hb3
        have hS0 : (fun X : World => X.cell? ⟨w.heap.size, 0, none⟩ = some (.int .i64 (v : Int)) ∧ X.cell? ⟨w.heap.size, 1, none⟩ = some (.slice A n k) ∧ X.cell? ⟨w.heap.size, 2, none⟩ = some (.slice B m q)) w3 := (HB1.out.on hb13).c
        refine ⟨_, rfl, fun _ => hS0, ?_⟩
        (refine wt_take3 6 17 19 22 (v := ?_) rfl rfl (by kernel_rfl) (by kernel_rfl) (by kernel_rfl) (by kernel_rfl) (fun _ _ _ h => h) rfl hS0 (by (repeat (first | (refine slot_hit (N := 34) ?_ (by rfl); (repeat (refine sz_put ?_)); assumption; done) | (apply slot_miss; focus rfl))); all_goals assumption) (by (repeat (first | (refine slot_hit (N := 34) ?_ (by rfl); (repeat (refine sz_put ?_)); assumption; done) | (apply slot_miss; focus rfl))); all_goals assumption) (by (repeat (first | (refine slot_hit (N := 34) ?_ (by rfl); (repeat (refine sz_put ?_)); assumption; done) | (apply slot_miss; focus rfl))); all_goals assumption) (fun ev hk hv0 hv1 hv2 w hS => ?_) ?_; rotate_left; focus (obtain ⟨j0, j1, j2⟩ := hS; go_simp; rfl))
        refine wt_val0 7  (by kernel_rfl) rfl rfl rfl  (v := ?_) (w' := ?_) (fun ev hk  => ?_) ?_; rotate_left 2; focus (go_simp; first | rfl | (constructor <;> rfl))
        refine ⟨fun _ => (HB1.out.on (bn hb13 (bx_on _ _))).c, ?_⟩
        have hU := rp_new (vC := .slice C nc kc) HB1.out hb13 (row_on hR2 hb3) (ho3.base (Nat.le_trans hb12.size (Nat.le_refl _))) hgT (fun g hg e => by have h1 := ho3.blk g hg; have h2 := hR2.lt; omega)
        have hS0 : (fun X : World => X.cell? ⟨w.heap.size, 0, none⟩ = some (.int .i64 (v : Int)) ∧ X.cell? ⟨w.heap.size, 1, none⟩ = some (.slice A n k) ∧ X.cell? ⟨w.heap.size, 2, none⟩ = some (.slice B m q)) (w3.alloc (.cells #[.slice none 0 0, .slice none 0 0, .slice none 0 0, .slice none 0 0, .slice none 0 0, .slice none 0 0, .slice none 0 0, .int .i64 0] 60)) := (HB1.out.on (bn hb13 (bx_on _ _))).c
        refine wt_act2 8 8 23 (by kernel_rfl) rfl rfl rfl (by (repeat (first | (refine slot_hit (N := 34) ?_ (by rfl); (repeat (refine sz_put ?_)); assumption; done) | (apply slot_miss; focus rfl))); all_goals assumption) (by (repeat (first | (refine slot_hit (N := 34) ?_ (by rfl); (repeat (refine sz_put ?_)); assumption; done) | (apply slot_miss; focus rfl))); all_goals assumption) (w' := ?_) (fun ev hk hv0 hv1 => ?_) ?_; rotate_left; focus (go_simp; rfl)
        refine ⟨fun _ => hU.x.c, ?_⟩
        refine wt_done (by kernel_rfl) (NoPanic.normal ?_) _
        have ha := HA.out
        subst ha
        have HU := Lib.hid hU
        clear hZ hs1 hs2 hS0 hU ho3 hb3 hb13 hb12 hR2 hb2 hgT DT DK
        go_wp2
        go_meet
        exact ⟨_, _, _, _, _, rfl, HU.out⟩
      · have hb13 := bn hb12 (bx_on w2 (.cells #[.slice none 0 0, .slice none 0 0, .slice none 0 0, .slice none 0 0, .slice none 0 0, .slice none 0 0, .slice none 0 0, .int .i64 0] 60))
        have hS0 : (fun X : World => X.cell? ⟨w.heap.size, 0, none⟩ = some (.int .i64 (v : Int)) ∧ X.cell? ⟨w.heap.size, 1, none⟩ = some (.slice A n k) ∧ X.cell? ⟨w.heap.size, 2, none⟩ = some (.slice B m q)) (w2.alloc (.cells #[.slice none 0 0, .slice none 0 0, .slice none 0 0, .slice none 0 0, .slice none 0 0, .slice none 0 0, .slice none 0 0, .int .i64 0] 60)) := (HB1.out.on hb13).c
        refine wt_call1 5 21 (by kernel_rfl) rfl rfl rfl (by (repeat (first | (refine slot_hit (N := 34) ?_ (by rfl); (repeat (refine sz_put ?_)); assumption; done) | (apply slot_miss; focus rfl))); all_goals assumption) (f := ?_) (args := ?_) (fun ev hk hkf hv0 => ?_) ?_; rotate_left 2; focus (go_simp; first | rfl | (constructor <;> rfl))
        refine (DK _ hb13).mono ?_
        rintro e w4 ⟨v3, rfl, ho3, hb4⟩
        obtain ⟨A3, k3, rfl, _⟩ := ho3.at
        rw [← HN.out.1] at ho3 ⊢
        have hb14 := bn hb13 hb4
        have hS0 : (fun X : World => X.cell? ⟨w.heap.size, 0, none⟩ = some (.int .i64 (v : Int)) ∧ X.cell? ⟨w.heap.size, 1, none⟩ = some (.slice A n k) ∧ X.cell? ⟨w.heap.size, 2, none⟩ = some (.slice B m q)) w4 := (HB1.out.on hb14).c
        refine ⟨_, rfl, fun _ => hS0, ?_⟩
        have hHp : Has w4 w2.heap.size 60 #[.slice none 0 0, .slice none 0 0, .slice none 0 0, .slice none 0 0, .slice none 0 0, .slice none 0 0, .slice none 0 0, .int .i64 0] := (Has.new w2 60 #[.slice none 0 0, .slice none 0 0, .slice none 0 0, .slice none 0 0, .slice none 0 0, .slice none 0 0, .slice none 0 0, .int .i64 0]).keep hb4 (Has.new _ _ _).lt
        have hzz : (w2.alloc (.cells #[.slice none 0 0, .slice none 0 0, .slice none 0 0, .slice none 0 0, .slice none 0 0, .slice none 0 0, .slice none 0 0, .int .i64 0] 60)).heap.size = w2.heap.size + 1 := World.size_alloc _ _
        have hU := rp_set (vC := .slice C nc kc) HB1.out hb14 hHp (row_on (hR2.alloc _) hb4) (ho3.base hb13.size) hgT hb12.size (Nat.ne_of_lt hR2.lt) (fun g hg => by have h1 := ho3.blk g hg; have h2 := hR2.lt; exact ⟨by omega, by omega⟩)
        (refine wt_take3 6 17 19 22 (v := ?_) rfl rfl (by kernel_rfl) (by kernel_rfl) (by kernel_rfl) (by kernel_rfl) (fun _ _ _ h => h) rfl hS0 (by (repeat (first | (refine slot_hit (N := 34) ?_ (by rfl); (repeat (refine sz_put ?_)); assumption; done) | (apply slot_miss; focus rfl))); all_goals assumption) (by (repeat (first | (refine slot_hit (N := 34) ?_ (by rfl); (repeat (refine sz_put ?_)); assumption; done) | (apply slot_miss; focus rfl))); all_goals assumption) (by (repeat (first | (refine slot_hit (N := 34) ?_ (by rfl); (repeat (refine sz_put ?_)); assumption; done) | (apply slot_miss; focus rfl))); all_goals assumption) (fun ev hk hv0 hv1 hv2 w hS => ?_) ?_; rotate_left; focus (obtain ⟨j0, j1, j2⟩ := hS; go_simp; rfl))
        obtain ⟨⟨p0, p1, p2, p3, p4, p5, p6, p7⟩, o0, o1, o2, o3, o4, o5, o6, o7⟩ := has8 hHp
        refine wt_act2 8 8 23 (by kernel_rfl) rfl rfl rfl (by (repeat (first | (refine slot_hit (N := 34) ?_ (by rfl); (repeat (refine sz_put ?_)); assumption; done) | (apply slot_miss; focus rfl))); all_goals assumption) (by (repeat (first | (refine slot_hit (N := 34) ?_ (by rfl); (repeat (refine sz_put ?_)); assumption; done) | (apply slot_miss; focus rfl))); all_goals assumption) (w' := ?_) (fun ev hk hv0 hv1 => ?_) ?_; rotate_left; focus (go_simp; rfl)
        unfold st8 at hU
        refine ⟨fun _ => hU.x.c, ?_⟩
        refine wt_done (by kernel_rfl) (NoPanic.normal ?_) _
        have ha := HA.out
        subst ha
        have HU := Lib.hid hU
        clear hZ hs1 hs2 hS0 hU ho3 hb4 hb13 hb14 hb12 hR2 hb2 hgT hHp hzz p0 p1 p2 p3 p4 p5 p6 p7 o0 o1 o2 o3 o4 o5 o6 o7 DT DK
        go_wp2
        go_meet
        exact ⟨_, _, _, _, _, rfl, HU.out⟩
    · have hb12 := bn (below_dn (Below.refl w1.heap.size w1) 1) (bx_on w1.drew (.cells #[.slice none 0 0, .slice none 0 0, .slice none 0 0, .slice none 0 0, .slice none 0 0, .slice none 0 0, .slice none 0 0, .int .i64 0] 60))
      have hS0 : (fun X : World => X.cell? ⟨w.heap.size, 0, none⟩ = some (.int .i64 (v : Int)) ∧ X.cell? ⟨w.heap.size, 1, none⟩ = some (.slice A n k) ∧ X.cell? ⟨w.heap.size, 2, none⟩ = some (.slice B m q)) (w1.drew.alloc (.cells #[.slice none 0 0, .slice none 0 0, .slice none 0 0, .slice none 0 0, .slice none 0 0, .slice none 0 0, .slice none 0 0, .int .i64 0] 60)) := (HB1.out.on hb12).c
      refine wt_call1 2 18 (by kernel_rfl) rfl rfl rfl (by (repeat (first | (refine slot_hit (N := 34) ?_ (by rfl); (repeat (refine sz_put ?_)); assumption; done) | (apply slot_miss; focus rfl))); all_goals assumption) (f := ?_) (args := ?_) (fun ev hk hkf hv0 => ?_) ?_; rotate_left 2; focus (go_simp; first | rfl | (constructor <;> rfl))
      refine (DT _ hb12).mono ?_
      rintro e w2 ⟨gT, rfl, hgT, hR2, hb2⟩
      have hb13 := bn hb12 hb2
      have hS0 : (fun X : World => X.cell? ⟨w.heap.size, 0, none⟩ = some (.int .i64 (v : Int)) ∧ X.cell? ⟨w.heap.size, 1, none⟩ = some (.slice A n k) ∧ X.cell? ⟨w.heap.size, 2, none⟩ = some (.slice B m q)) w2 := (HB1.out.on hb13).c
      refine ⟨_, rfl, fun _ => hS0, ?_⟩
      refine wt_call1 5 21 (by kernel_rfl) rfl rfl rfl (by (repeat (first | (refine slot_hit (N := 34) ?_ (by rfl); (repeat (refine sz_put ?_)); assumption; done) | (apply slot_miss; focus rfl))); all_goals assumption) (f := ?_) (args := ?_) (fun ev hk hkf hv0 => ?_) ?_; rotate_left 2; focus (go_simp; first | rfl | (constructor <;> rfl))
      refine (DK _ hb13).mono ?_
      rintro e w4 ⟨v3, rfl, ho3, hb4⟩
      obtain ⟨A3, k3, rfl, _⟩ := ho3.at
      rw [← HN.out.1] at ho3 ⊢
      have hb14 := bn hb13 hb4
      have hS0 : (fun X : World => X.cell? ⟨w.heap.size, 0, none⟩ = some (.int .i64 (v : Int)) ∧ X.cell? ⟨w.heap.size, 1, none⟩ = some (.slice A n k) ∧ X.cell? ⟨w.heap.size, 2, none⟩ = some (.slice B m q)) w4 := (HB1.out.on hb14).c
      refine ⟨_, rfl, fun _ => hS0, ?_⟩
      have hHp : Has w4 w1.heap.size 60 #[.slice none 0 0, .slice none 0 0, .slice none 0 0, .slice none 0 0, .slice none 0 0, .slice none 0 0, .slice none 0 0, .int .i64 0] := ((Has.new w1.drew 60 #[.slice none 0 0, .slice none 0 0, .slice none 0 0, .slice none 0 0, .slice none 0 0, .slice none 0 0, .slice none 0 0, .int .i64 0]).keep hb2 (Has.new _ _ _).lt).keep hb4 ((Has.new w1.drew 60 #[.slice none 0 0, .slice none 0 0, .slice none 0 0, .slice none 0 0, .slice none 0 0, .slice none 0 0, .slice none 0 0, .int .i64 0]).keep hb2 (Has.new _ _ _).lt).lt
      have hzz : (w1.drew.alloc (.cells #[.slice none 0 0, .slice none 0 0, .slice none 0 0, .slice none 0 0, .slice none 0 0, .slice none 0 0, .slice none 0 0, .int .i64 0] 60)).heap.size = w1.heap.size + 1 := World.size_alloc _ _
      have hU := rp_set (vC := .slice C nc kc) HB1.out hb14 hHp (row_on hR2 hb4) (ho3.base hb13.size) (by omega) (Nat.le_refl _) (by omega) (fun g hg => by have h1 := ho3.blk g hg; have h2 := hR2.lt; exact ⟨by omega, by omega⟩)
      (refine wt_take3 6 17 19 22 (v := ?_) rfl rfl (by kernel_rfl) (by kernel_rfl) (by kernel_rfl) (by kernel_rfl) (fun _ _ _ h => h) rfl hS0 (by (repeat (first | (refine slot_hit (N := 34) ?_ (by rfl); (repeat (refine sz_put ?_)); assumption; done) | (apply slot_miss; focus rfl))); all_goals assumption) (by (repeat (first | (refine slot_hit (N := 34) ?_ (by rfl); (repeat (refine sz_put ?_)); assumption; done) | (apply slot_miss; focus rfl))); all_goals assumption) (by (repeat (first | (refine slot_hit (N := 34) ?_ (by rfl); (repeat (refine sz_put ?_)); assumption; done) | (apply slot_miss; focus rfl))); all_goals assumption) (fun ev hk hv0 hv1 hv2 w hS => ?_) ?_; rotate_left; focus (obtain ⟨j0, j1, j2⟩ := hS; go_simp; rfl))
      obtain ⟨⟨p0, p1, p2, p3, p4, p5, p6, p7⟩, o0, o1, o2, o3, o4, o5, o6, o7⟩ := has8 hHp
      refine wt_act2 8 8 23 (by kernel_rfl) rfl rfl rfl (by (repeat (first | (refine slot_hit (N := 34) ?_ (by rfl); (repeat (refine sz_put ?_)); assumption; done) | (apply slot_miss; focus rfl))); all_goals assumption) (by (repeat (first | (refine slot_hit (N := 34) ?_ (by rfl); (repeat (refine sz_put ?_)); assumption; done) | (apply slot_miss; focus rfl))); all_goals assumption) (w' := ?_) (fun ev hk hv0 hv1 => ?_) ?_; rotate_left; focus (go_simp; rfl)
      unfold st8 at hU
      refine ⟨fun _ => hU.x.c, ?_⟩
      refine wt_done (by kernel_rfl) (NoPanic.normal ?_) _
      have ha := HA.out
      subst ha
      have HU := Lib.hid hU
      clear hZ hs1 hs2 hS0 hU ho3 hb4 hb13 hb14 hb12 hR2 hb2 hgT hHp hzz p0 p1 p2 p3 p4 p5 p6 p7 o0 o1 o2 o3 o4 o5 o6 o7 DT DK
      go_wp2
      go_meet
      exact ⟨_, _, _, _, _, rfl, HU.out⟩
  case rest =>
    obtain ⟨gB, gT, A', n', k', rfl, hRp⟩ := hcut
    obtain ⟨wa, hwa⟩ : ∃ wa, wa = wc := ⟨_, rfl⟩
    subst hwa
    have DRn := run15_any w1.heap.size v gB gT lits C L kc A' n' k' t wa hv HI.out.2.2.2.1 HI.out.2.2.2.2.1 ((HI.out.1.on HB1.out.b).keep hRp.bl) HI.out.2.1 HI.out.2.2.1 hRp.r ⟨hRp.b1.1, hRp.b1.2.1⟩ hRp.b1.2.2 hRp.o hRp.ap ((HI.out.2.2.2.2.2.next HB1.out.b).on hRp.bl) (by rw [← HN.out.2.2]; exact hRp.h)
    have hgB2 : w.heap.size + 2 ≤ gB := Nat.le_trans HB1.out.z hRp.b1.1
    rw [← HP.out] at DRn
    have HRp := Lib.hid hRp
    clear hRp DT DK
    go_wp2_with (first
      | (go_at_call 30; (with_reducible refine DRn.mono ?_); rintro e w5 ⟨rfl, hb5, A5, n5, k5, hc5, ho5⟩
         have H5 := Lib.hid (And.intro (HRp.out.x.far (hb5.mono HB1.out.z)) (And.intro hc5 (And.intro ho5 (cell_lt hc5))))
         clear hb5 hc5 ho5))
    have hX5 := H5.out.1
    have hS0 : (fun X : World => X.cell? ⟨w.heap.size, 0, none⟩ = some (.int .i64 (v : Int)) ∧ X.cell? ⟨w.heap.size, 2, none⟩ = some (.slice B m q) ∧ X.cell? ⟨gB, 2, none⟩ = some (.slice A5 n5 k5)) w5.drew := ⟨hX5.c.1, hX5.c.2.2, H5.out.2.1⟩
    refine wp_slots (fun f => Sz f 34 ∧ Slot f 2 (.pointer (some ⟨w.heap.size, 0, none⟩)) ∧ Slot f 4 (.pointer (some ⟨w.heap.size + 1, 0, none⟩)) ∧ Slot f 8 (.pointer (some ⟨gB, 0, none⟩)) ∧ Slot f 9 (.int .i64 p2)) ⟨⟨rfl, rfl⟩, ⟨rfl⟩, ⟨rfl⟩, ⟨rfl⟩, ⟨rfl⟩⟩ fun a0 hA0 hR => ?_
    obtain ⟨hZ, hs2, hs4, hs8, hs9⟩ := hR
    have HA := Lib.hid hA0
    clear hA0
    refine wp_region_T (fun X : World => X.cell? ⟨w.heap.size, 0, none⟩ = some (.int .i64 (v : Int)) ∧ X.cell? ⟨w.heap.size, 2, none⟩ = some (.slice B m q) ∧ X.cell? ⟨gB, 2, none⟩ = some (.slice A5 n5 k5)) 12 (by kernel_rfl) ?_
    refine WT.h ?_
    (refine wt_take1 0 2 (v := ?_) rfl rfl (by kernel_rfl) (by kernel_rfl) (by kernel_rfl) (by kernel_rfl) (fun _ _ _ h => h) rfl hS0 (by (repeat (first | (refine slot_hit (N := 34) ?_ (by rfl); (repeat (refine sz_put ?_)); assumption; done) | (apply slot_miss; focus rfl))); all_goals assumption) (fun ev hk hv0 w hS => ?_) ?_; rotate_left; focus (obtain ⟨j0, j1, j2⟩ := hS; go_simp; rfl)); (refine wt_take1 1 25 (v := ?_) rfl rfl (by kernel_rfl) (by kernel_rfl) (by kernel_rfl) (by kernel_rfl) (fun _ _ _ h => h) rfl hS0 (by (repeat (first | (refine slot_hit (N := 34) ?_ (by rfl); (repeat (refine sz_put ?_)); assumption; done) | (apply slot_miss; focus rfl))); all_goals assumption) (fun ev hk hv0 w hS => ?_) ?_; rotate_left; focus (obtain ⟨j0, j1, j2⟩ := hS; go_simp; rfl)); (refine wt_take1 2 8 (v := ?_) rfl rfl (by kernel_rfl) (by kernel_rfl) (by kernel_rfl) (by kernel_rfl) (fun _ _ _ h => h) rfl hS0 (by (repeat (first | (refine slot_hit (N := 34) ?_ (by rfl); (repeat (refine sz_put ?_)); assumption; done) | (apply slot_miss; focus rfl))); all_goals assumption) (fun ev hk hv0 w hS => ?_) ?_; rotate_left; focus (obtain ⟨j0, j1, j2⟩ := hS; go_simp; rfl)); (refine wt_take1 3 27 (v := ?_) rfl rfl (by kernel_rfl) (by kernel_rfl) (by kernel_rfl) (by kernel_rfl) (fun _ _ _ h => h) rfl hS0 (by (repeat (first | (refine slot_hit (N := 34) ?_ (by rfl); (repeat (refine sz_put ?_)); assumption; done) | (apply slot_miss; focus rfl))); all_goals assumption) (fun ev hk hv0 w hS => ?_) ?_; rotate_left; focus (obtain ⟨j0, j1, j2⟩ := hS; go_simp; rfl)); (refine wt_take1 4 2 (v := ?_) rfl rfl (by kernel_rfl) (by kernel_rfl) (by kernel_rfl) (by kernel_rfl) (fun _ _ _ h => h) rfl hS0 (by (repeat (first | (refine slot_hit (N := 34) ?_ (by rfl); (repeat (refine sz_put ?_)); assumption; done) | (apply slot_miss; focus rfl))); all_goals assumption) (fun ev hk hv0 w hS => ?_) ?_; rotate_left; focus (obtain ⟨j0, j1, j2⟩ := hS; go_simp; rfl)); (refine wt_take1 5 29 (v := ?_) rfl rfl (by kernel_rfl) (by kernel_rfl) (by kernel_rfl) (by kernel_rfl) (fun _ _ _ h => h) rfl hS0 (by (repeat (first | (refine slot_hit (N := 34) ?_ (by rfl); (repeat (refine sz_put ?_)); assumption; done) | (apply slot_miss; focus rfl))); all_goals assumption) (fun ev hk hv0 w hS => ?_) ?_; rotate_left; focus (obtain ⟨j0, j1, j2⟩ := hS; go_simp; rfl)); (refine wt_move 8 9 rfl rfl (by kernel_rfl) (by kernel_rfl) (by kernel_rfl) (by kernel_rfl) (fun _ _ _ h => h) rfl hS0 (by (repeat (first | (refine slot_hit (N := 34) ?_ (by rfl); (repeat (refine sz_put ?_)); assumption; done) | (apply slot_miss; focus rfl))); all_goals assumption) rfl ?_)
    refine wt_call1 6 30 (by kernel_rfl) rfl rfl rfl (by (repeat (first | (refine slot_hit (N := 34) ?_ (by rfl); (repeat (refine sz_put ?_)); assumption; done) | (apply slot_miss; focus rfl))); all_goals assumption) (f := ?_) (args := ?_) (fun ev hk hkf hv0 => ?_) ?_; rotate_left 2; focus (go_simp; first | rfl | (constructor <;> rfl))
    refine (DS0 _ (bn hX5.b (below_dn (Below.refl w5.heap.size w5) 1))).mono ?_
    rintro e w6 ⟨v6, rfl, ho6, hb6⟩
    obtain ⟨B6, q6, rfl, _⟩ := ho6.at
    rw [← HN.out.2.1] at ho6 ⊢
    have hb6 := bn (below_dn (Below.refl w5.heap.size w5) 1) hb6
    have hX6 := hX5.on hb6
    have hS0 : (fun X : World => X.cell? ⟨w.heap.size, 0, none⟩ = some (.int .i64 (v : Int)) ∧ X.cell? ⟨w.heap.size, 2, none⟩ = some (.slice B m q) ∧ X.cell? ⟨gB, 2, none⟩ = some (.slice A5 n5 k5)) w6 := ⟨hX6.c.1, hX6.c.2.2, (hb6.cell (p := ⟨gB, 2, none⟩) H5.out.2.2.2).trans H5.out.2.1⟩
    refine ⟨_, rfl, fun _ => hS0, ?_⟩
    (refine wt_take3 7 26 28 31 (v := ?_) rfl rfl (by kernel_rfl) (by kernel_rfl) (by kernel_rfl) (by kernel_rfl) (fun _ _ _ h => h) rfl hS0 (by (repeat (first | (refine slot_hit (N := 34) ?_ (by rfl); (repeat (refine sz_put ?_)); assumption; done) | (apply slot_miss; focus rfl))); all_goals assumption) (by (repeat (first | (refine slot_hit (N := 34) ?_ (by rfl); (repeat (refine sz_put ?_)); assumption; done) | (apply slot_miss; focus rfl))); all_goals assumption) (by (repeat (first | (refine slot_hit (N := 34) ?_ (by rfl); (repeat (refine sz_put ?_)); assumption; done) | (apply slot_miss; focus rfl))); all_goals assumption) (fun ev hk hv0 hv1 hv2 w hS => ?_) ?_; rotate_left; focus (obtain ⟨j0, j1, j2⟩ := hS; go_simp; rfl))
    obtain ⟨e0, e1, e2, g0, g1, g2⟩ := hX6.d
    refine wt_act2 9 4 32 (by kernel_rfl) rfl rfl rfl (by (repeat (first | (refine slot_hit (N := 34) ?_ (by rfl); (repeat (refine sz_put ?_)); assumption; done) | (apply slot_miss; focus rfl))); all_goals assumption) (by (repeat (first | (refine slot_hit (N := 34) ?_ (by rfl); (repeat (refine sz_put ?_)); assumption; done) | (apply slot_miss; focus rfl))); all_goals assumption) (w' := ?_) (fun ev hk hv0 hv1 => ?_) ?_; rotate_left; focus (go_simp; rfl)
    have hXS : (fun X : World => X.cell? ⟨w.heap.size, 0, none⟩ = some (.int .i64 (v : Int)) ∧ X.cell? ⟨w.heap.size, 2, none⟩ = some (.slice B m q) ∧ X.cell? ⟨gB, 2, none⟩ = some (.slice A5 n5 k5)) (st3 w6 (w.heap.size + 1) (.int .i64 (v : Int)) (.slice A5 n5 k5) (.slice B6 m q6)) := ⟨(st3_cell (by omega) _ _ _).trans hS0.1, (st3_cell (by omega) _ _ _).trans hS0.2.1, (st3_cell (by omega) _ _ _).trans hS0.2.2⟩
    have hCf := st3_has hX6.h2 (.int .i64 (v : Int)) (.slice A5 n5 k5) (.slice B6 m q6)
    have hBf := st3_below hX6.b (Nat.le_succ _) (.int .i64 (v : Int)) (.slice A5 n5 k5) (.slice B6 m q6)
    have hz1 := HB1.out.z
    have hz5 : w.heap.size + 2 ≤ w5.heap.size := hX5.z
    have hO5 := ((H5.out.2.2.1.keep hb6).base hz1).st3 (show w.heap.size + 1 < w.heap.size + 2 by omega) (.int .i64 (v : Int)) (.slice A5 n5 k5) (.slice B6 m q6)
    have hO6 := (ho6.base (show w.heap.size + 2 ≤ w5.drew.heap.size from hz5)).st3 (show w.heap.size + 1 < w.heap.size + 2 by omega) (.int .i64 (v : Int)) (.slice A5 n5 k5) (.slice B6 m q6)
    unfold st3 at hXS hCf hBf hO5 hO6
    generalize ((w6.setCell ⟨w.heap.size + 1, 0, none⟩ (.int .i64 (v : Int))).setCell ⟨w.heap.size + 1, 1, none⟩ (.slice A5 n5 k5)).setCell ⟨w.heap.size + 1, 2, none⟩ (.slice B6 m q6) = W7 at hXS hCf hBf hO5 hO6 ⊢
    refine ⟨fun _ => hXS, ?_⟩
    have hS0 := hXS
    (refine wt_assign 10 33 rfl rfl (by kernel_rfl) (by kernel_rfl) (by kernel_rfl) (by kernel_rfl) (fun _ _ _ h => h) rfl hS0 (by (repeat (first | (refine slot_hit (N := 34) ?_ (by rfl); (repeat (refine sz_put ?_)); assumption; done) | (apply slot_miss; focus rfl))); all_goals assumption) rfl ?_); (refine wt_take0 11  (v := ?_) rfl rfl (by kernel_rfl) (by kernel_rfl) (by kernel_rfl) (by kernel_rfl) (fun _ _ _ h => h) rfl hS0  (fun ev hk  w hS => ?_) ?_; rotate_left; focus (obtain ⟨j0, j1, j2⟩ := hS; go_simp; rfl))
    refine wt_done (by kernel_rfl) (NoPanic.normal ?_) _
    have ha := HA.out
    subst ha
    have z0 : W7.cell? ⟨w.heap.size + 1, 0, none⟩ = some (.int .i64 (v : Int)) := hCf.cell 0
    have z1 : W7.cell? ⟨w.heap.size + 1, 1, none⟩ = some (.slice A5 n5 k5) := hCf.cell 1
    have z2 : W7.cell? ⟨w.heap.size + 1, 2, none⟩ = some (.slice B6 m q6) := hCf.cell 2
    have HF := Lib.hid (And.intro hO5 (And.intro hO6 hBf))
    clear hZ hs2 hs4 hs8 hs9 hS0 hX5 hX6 hb6 ho6 e0 e1 e2 g0 g1 g2 hXS hCf hBf hO5 hO6 hz1 hz5 DRn DS0
    go_wp2
    refine bodyPost_ret (v := .tuple #[.agg #[.int .i64 (v : Int), .slice A5 n5 k5, .slice B6 m q6], .int .i64 p2, .int .i64 0]) (by simp [results, Tryd.results20, go_sem, z0, z1, z2]) rfl ?_
    obtain ⟨hO5, hO6, hBf⟩ := HF.out
    obtain ⟨A8, k8, e8, hI8⟩ := hO5.at
    obtain ⟨B8, q8, e9, hI9⟩ := hO6.at
    have hb8 := hO5.blk
    have hb9 := hO6.blk
    cases e8
    cases e9
    exact ⟨A5, k5, B6, q6, rfl, hI8, hI9, hBf, fun a e => by subst e; have := hb8 a.block rfl; omega, fun a e => by subst e; have := hb9 a.block rfl; omega⟩

end Go.Proofs.YtecmldnigohjfabDoor
