/- The reference's contracts: Wrong, Of. -/
import Derived.Test.YtecmldnigohjfaaDoorUnRun
import Derived.Test.YtecmldnigohjfaaDoorAsTell
namespace Go.Proofs.YtecmldnigohjfaaDoor
open Go Go.RowKit
set_option linter.unusedVariables false
set_option linter.unusedSimpArgs false

set_option maxRecDepth 100000 in
set_option maxHeartbeats 4000000 in
theorem rWrong_any (v : Int) (C : Option Addr) (L : List (List Int)) (kc : Nat) (w : World) (hc : Ill w w.heap.size C L kc) (hcl : L.length ≤ 100000) (hcr : ∀ c ∈ L, c.length ≤ 100000 ∧ ∀ x ∈ c, I64 x) :
    Calls Tryd.prog 38 #[.int .i64 v, .slice C L.length kc] w fun e w' => e = .returned (.int .i64 (if 20000 < L.length then 4 else wrE v L)) ∧ Below w.heap.size w w' := by
  obtain ⟨nc, hnc⟩ : ∃ m, m = L.length := ⟨_, rfl⟩
  rw [← hnc]
  have hnc1 : nc ≤ 100000 := by omega
  by_cases hb : 20000 < nc
  · rw [if_pos hb]
    have g1 : (20000 : Int) < (nc : Int) := by omega
    clear hc hcl hcr hb hnc
    go_enter Tryd.func38, Tryd.ntmps38
    go_wp2
    go_ret
    exact ⟨rfl, Below.refl _ _⟩
  · rw [if_neg hb]
    have g1 : ¬ (20000 : Int) < (nc : Int) := by omega
    have HC := Lib.hid (And.intro hc (And.intro hnc hcr))
    clear hc hcl hcr hb hnc
    go_enter Tryd.func38, Tryd.ntmps38
    go_wp2
    go_loopw [5] (fun i wr => ∃ j : Nat, j ≤ nc ∧ i = .int .i64 (j : Int) ∧ (∀ p, p < j → ckE v (L.getD p []) = 0) ∧ Below w.heap.size w wr) (fun i _ => nc - (intOf i).toNat)
    case atStart => exact ⟨0, Nat.zero_le _, rfl, fun p hp => absurd hp (Nat.not_lt_zero _), Below.refl _ _⟩
    case round =>
      obtain ⟨j, hj, rfl, hok, hB⟩ := hrel
      by_cases hlt : j < nc
      · have hjl : j < L.length := by have := HC.out.2.1; omega
        obtain ⟨b, o, rfl, hb0, hcs⟩ := HC.out.1.h (by omega)
        obtain ⟨C', kc', y0, hIc⟩ := hcs j hjl
        have hcm := HC.out.2.2 _ (gotD_mem hjl)
        have y : wr.cell? ⟨b, o + j, none⟩ = some (.slice C' (L.getD j []).length kc') := (hB.cell (p := ⟨b, o + j, none⟩) hb0).trans y0
        have DK := rCheck_any v C' (L.getD j []) kc' wr (hIc.on hB) (by have := hcm.1; omega) hcm.2
        have hj1 : (j : Int) < (nc : Int) := by omega
        have hj0 : (0 : Int) ≤ (j : Int) := by omega
        have HE := Lib.hid (And.intro (wrE_at (v := v) hjl hok) hok)
        have HR := Lib.hid hB
        generalize hck : ckE v (L.getD j []) = ck at DK HE
        have HCK := Lib.hid hck
        obtain ⟨lc, hlc⟩ : ∃ x, x = (L.getD j []).length := ⟨_, rfl⟩
        rw [← hlc] at y DK
        clear hcs y0 hIc hcm hok hB hck hlc
        by_cases e1 : ck = 0
        · subst e1
          go_wp2_with (first
            | (go_at_call 25; (with_reducible refine DK.mono ?_); rintro e w2 ⟨rfl, d2, rfl⟩))
          go_roundw
          case rel => exact ⟨j + 1, by omega, by go_num, fun p hp => by
            rcases Nat.lt_succ_iff_lt_or_eq.1 hp with h' | h'
            · exact HE.out.2 p h'
            · subst h'; exact HCK.out, below_dn HR.out _⟩
          case measure => simp [intOf]; omega
        · have e2 : (ck != 0) = true := by simpa using e1
          go_wp2_with (first
            | (go_at_call 25; (with_reducible refine DK.mono ?_); rintro e w2 ⟨rfl, d2, rfl⟩))
          go_ret
          exact ⟨by rw [HE.out.1 e1]; rfl, below_dn HR.out _⟩
      · have HE := Lib.hid (wrE_end (v := v) (L := L) fun p hp => hok p (by have := HC.out.2.1; omega))
        have hjn : ¬ (j : Int) < (nc : Int) := by omega
        have HR := Lib.hid hB
        clear hok hB
        go_wp2
        go_ret
        exact ⟨by rw [HE.out]; rfl, HR.out⟩

set_option maxRecDepth 100000 in
set_option maxHeartbeats 10000000 in
theorem rOf_any15 (v : Int) (hv : 0 ≤ v ∧ v ≤ 4000) (A : Option Addr) (t : List Int) (k : Nat) (Y : Option Addr) (my qy : Nat) (C : Option Addr) (c : List Int) (kc : Nat) (w : World) (h : Ia w w.heap.size A t k) (hl : t.length ≤ 100000) (ho : OkT v t) (hc : Ia w w.heap.size C c kc) (hcl : c.length ≤ 100000) (hcl2 : ∀ x ∈ c, isL v x = true) :
    Calls Tryd.prog 34 #[asv v A t.length k Y my qy, .slice C c.length kc] w fun e w' => e = .returned (.tuple #[.int .u8 (stC t c), .int .i64 (stX t c)]) ∧ Below w.heap.size w w' := by
  obtain ⟨n, hn⟩ : ∃ n, n = t.length := ⟨_, rfl⟩
  obtain ⟨nc, hnc⟩ : ∃ n, n = c.length := ⟨_, rfl⟩
  have DI := fun (x : Int) (hx : isL v x = true) (W : World) (hb : Below w.heap.size w W) => rIs_any v v hv.2 A t k Y my qy x W (h.on hb) hl ho hx
  rw [← hn] at DI ⊢
  rw [← hnc]
  have hnc1 : nc ≤ 100000 := by omega
  have HH := Lib.hid (And.intro hc (And.intro hnc hcl2))
  have H0 := Lib.hid (And.intro (Bs.new w (.int .i64 v) (.slice A n k) (.slice Y my qy)) (bx_on w (.cells #[.int .i64 v, .slice A n k, .slice Y my qy] 24)))
  clear h hl ho hc hcl hcl2 hn hnc
  go_enter Tryd.func34, Tryd.ntmps34
  go_wp2
  go_loopw [6, 7] (fun a i wr => ∃ (j : Nat) (A6 : Option Addr) (n6 k6 : Nat), j ≤ nc ∧ i = .int .i64 (j : Int) ∧ a = .slice A6 n6 k6 ∧ Io (w.heap.size + 1) wr (.slice A6 n6 k6) (nf t (c.take j)) ∧ (∀ p, p < j → c.getD p 0 ∉ t) ∧ Bs w.heap.size wr (.int .i64 v) (.slice A n k) (.slice Y my qy) ∧ (Below w.heap.size w wr ∧ w.heap.size + 1 ≤ wr.heap.size)) (fun _ i _ => nc - (intOf i).toNat)
  case atStart => exact ⟨0, none, 0, 0, Nat.zero_le _, rfl, rfl, Io.nil _ _, fun p hp => absurd hp (Nat.not_lt_zero _), H0.out.1, H0.out.2, by simp⟩
  case round =>
    obtain ⟨j, A6, n6, k6, hj, rfl, rfl, hO, hok, hS, hB, hz⟩ := hrel
    by_cases hlt : j < nc
    · have hjl : j < c.length := by have := HH.out.2.1; omega
      obtain ⟨b, o, rfl, hb0, hcs⟩ := HH.out.1.cells (by omega)
      have y0 := hcs j hjl
      have y : wr.cell? ⟨b, o + j, none⟩ = some (.int .i64 (c.getD j 0)) := (hB.cell (cell_lt y0)).trans y0
      have hx := HH.out.2.2 _ (getD_mem hjl)
      have hNT := nf_take_succ (t := t) hjl
      have htk := tru_take (t := t) hjl
      have hln := cnt_le t c j
      obtain ⟨x, hx0⟩ : ∃ x, x = c.getD j 0 := ⟨_, rfl⟩
      rw [← hx0] at y hx hNT htk
      have hj1 : (j : Int) < (nc : Int) := by omega
      have hj0 : (0 : Int) ≤ (j : Int) := by omega
      have HR := Lib.hid (And.intro hO (And.intro hok (And.intro hS (And.intro hB hz))))
      have HX := Lib.hid hx0
      have DX := DI x hx
      have hisv : isv t x = if x ∈ t then 1 else if ng x ∈ t then 0 else 2 := rfl
      have HY := Lib.hid (show w.cell? ⟨b, o + j, none⟩ = some (.int .i64 x) by rw [hx0]; exact y0)
      have HNT := Lib.hid (And.intro hNT (And.intro htk hln))
      clear hcs y0 hx hNT htk hln hO hok hS hB hz hx0
      go_wp2
      have hS0 : (fun X : World => (X.cell? ⟨w.heap.size, 0, none⟩ = some (.int .i64 v) ∧ X.cell? ⟨w.heap.size, 1, none⟩ = some (.slice A n k) ∧ X.cell? ⟨w.heap.size, 2, none⟩ = some (.slice Y my qy)) ∧ X.cell? ⟨b, o + j, none⟩ = some (.int .i64 x)) wr.drew := ⟨HR.out.2.2.1.c, (HR.out.2.2.2.1.cell (cell_lt HY.out)).trans HY.out⟩
      refine wp_slots (fun f => Sz f 41 ∧ Slot f 1 (.slice (some ⟨b, o, none⟩) nc kc) ∧ Slot f 2 (.pointer (some ⟨w.heap.size, 0, none⟩)) ∧ Slot f 7 (.int .i64 (j : Int))) ⟨⟨rfl, rfl⟩, ⟨rfl⟩, ⟨rfl⟩, ⟨rfl⟩⟩ fun a0 hA0 hR => ?_
      obtain ⟨hZ, hs1, hs2, hs7⟩ := hR
      have HA := Lib.hid hA0
      clear hA0
      refine wp_region_T (fun X : World => (X.cell? ⟨w.heap.size, 0, none⟩ = some (.int .i64 v) ∧ X.cell? ⟨w.heap.size, 1, none⟩ = some (.slice A n k) ∧ X.cell? ⟨w.heap.size, 2, none⟩ = some (.slice Y my qy)) ∧ X.cell? ⟨b, o + j, none⟩ = some (.int .i64 x)) 7 (by kernel_rfl) ?_
      refine WT.h ?_
      (refine wt_take1 0 2 (v := ?_) rfl rfl (by kernel_rfl) (by kernel_rfl) (by kernel_rfl) (by kernel_rfl) (fun _ _ _ h => h) rfl hS0 (by (repeat (first | (refine slot_hit (N := 41) ?_ (by rfl); (repeat (refine sz_put ?_)); assumption; done) | (apply slot_miss; focus rfl))); all_goals assumption) (fun ev hk hv0 w hS => ?_) ?_; rotate_left; focus (obtain ⟨⟨j0, j1, j2⟩, j3⟩ := hS; go_simp; rfl)); (refine wt_move 1 1 rfl rfl (by kernel_rfl) (by kernel_rfl) (by kernel_rfl) (by kernel_rfl) (fun _ _ _ h => h) rfl hS0 (by (repeat (first | (refine slot_hit (N := 41) ?_ (by rfl); (repeat (refine sz_put ?_)); assumption; done) | (apply slot_miss; focus rfl))); all_goals assumption) rfl ?_); (refine wt_move 2 7 rfl rfl (by kernel_rfl) (by kernel_rfl) (by kernel_rfl) (by kernel_rfl) (fun _ _ _ h => h) rfl hS0 (by (repeat (first | (refine slot_hit (N := 41) ?_ (by rfl); (repeat (refine sz_put ?_)); assumption; done) | (apply slot_miss; focus rfl))); all_goals assumption) rfl ?_); (refine wt_take2 3 16 17 (v := ?_) rfl rfl (by kernel_rfl) (by kernel_rfl) (by kernel_rfl) (by kernel_rfl) (fun _ _ _ h => h) rfl hS0 (by (repeat (first | (refine slot_hit (N := 41) ?_ (by rfl); (repeat (refine sz_put ?_)); assumption; done) | (apply slot_miss; focus rfl))); all_goals assumption) (by (repeat (first | (refine slot_hit (N := 41) ?_ (by rfl); (repeat (refine sz_put ?_)); assumption; done) | (apply slot_miss; focus rfl))); all_goals assumption) (fun ev hk hv0 hv1 w hS => ?_) ?_; rotate_left; focus (obtain ⟨⟨j0, j1, j2⟩, j3⟩ := hS; go_simp; rfl)); (refine wt_take1 4 18 (v := ?_) rfl rfl (by kernel_rfl) (by kernel_rfl) (by kernel_rfl) (by kernel_rfl) (fun _ _ _ h => h) rfl hS0 (by (repeat (first | (refine slot_hit (N := 41) ?_ (by rfl); (repeat (refine sz_put ?_)); assumption; done) | (apply slot_miss; focus rfl))); all_goals assumption) (fun ev hk hv0 w hS => ?_) ?_; rotate_left; focus (obtain ⟨⟨j0, j1, j2⟩, j3⟩ := hS; go_simp; rfl))
      refine wt_call2 5 15 19 (by kernel_rfl) rfl rfl rfl (by (repeat (first | (refine slot_hit (N := 41) ?_ (by rfl); (repeat (refine sz_put ?_)); assumption; done) | (apply slot_miss; focus rfl))); all_goals assumption) (by (repeat (first | (refine slot_hit (N := 41) ?_ (by rfl); (repeat (refine sz_put ?_)); assumption; done) | (apply slot_miss; focus rfl))); all_goals assumption) (f := ?_) (args := ?_) (fun ev hk hkf hv0 hv1 => ?_) ?_; rotate_left 2; focus (go_simp; first | rfl | (constructor <;> rfl))
      refine (DX _ (below_dn HR.out.2.2.2.1 1)).mono ?_
      rintro e w3 ⟨rfl, hb3⟩
      have hb3 := bn (below_dn (Below.refl wr.heap.size wr) 1) hb3
      have hS3 := HR.out.2.2.1.on hb3
      have hB3 := bn HR.out.2.2.2.1 (hb3)
      have hS0 : (fun X : World => (X.cell? ⟨w.heap.size, 0, none⟩ = some (.int .i64 v) ∧ X.cell? ⟨w.heap.size, 1, none⟩ = some (.slice A n k) ∧ X.cell? ⟨w.heap.size, 2, none⟩ = some (.slice Y my qy)) ∧ X.cell? ⟨b, o + j, none⟩ = some (.int .i64 x)) w3 := ⟨hS3.c, (hB3.cell (cell_lt HY.out)).trans HY.out⟩
      refine ⟨_, rfl, fun _ => hS0, ?_⟩
      (refine wt_assign 6 20 rfl rfl (by kernel_rfl) (by kernel_rfl) (by kernel_rfl) (by kernel_rfl) (fun _ _ _ h => h) rfl hS0 (by (repeat (first | (refine slot_hit (N := 41) ?_ (by rfl); (repeat (refine sz_put ?_)); assumption; done) | (apply slot_miss; focus rfl))); all_goals assumption) rfl ?_)
      refine wt_done (by kernel_rfl) (NoPanic.normal ?_) _
      have ha := HA.out
      subst ha
      have y3 : w3.cell? ⟨b, o + j, none⟩ = some (.int .i64 x) := hS0.2
      have H3 := Lib.hid (And.intro (HR.out.1.keep hb3) (And.intro hS3 (And.intro hB3 (Nat.le_trans HR.out.2.2.2.2 hb3.size))))
      clear hZ hs1 hs2 hs7 hS0 hb3 hS3 hB3 y
      by_cases e1 : x ∈ t
      · rw [hisv, if_pos e1]
        have HT := Lib.hid (HNT.out.2.1 e1)
        clear e1 hisv
        go_wp2
        go_ret2
        refine ⟨?_, H3.out.2.2.1⟩
        unfold stX stC
        rw [if_pos HT.out]; rfl
      · rw [hisv, if_neg e1]
        have HK := Lib.hid (show ∀ p, p < j + 1 → c.getD p 0 ∉ t from fun p hp => by
          rcases Nat.lt_succ_iff_lt_or_eq.1 hp with h' | h'
          · exact HR.out.2.1 p h'
          · subst h'; rw [← HX.out]; exact e1)
        clear e1
        by_cases e2 : ng x ∈ t
        · rw [if_pos e2]
          have HN2 := Lib.hid (show nf t (c.take (j + 1)) = nf t (c.take j) by rw [HNT.out.1, if_pos e2])
          clear e2 hisv
          go_wp2
          go_roundw
          case rel => exact ⟨j + 1, A6, n6, k6, by omega, by go_num, rfl, by rw [HN2.out]; exact H3.out.1, HK.out, H3.out.2.1, H3.out.2.2.1, H3.out.2.2.2⟩
          case measure => simp [intOf]; omega
        · rw [if_neg e2]
          have HN2 := Lib.hid (show nf t (c.take (j + 1)) = nf t (c.take j) ++ [x] by rw [HNT.out.1, if_neg e2])
          have hlen : (nf t (c.take j)).length ≤ 100000 := by have := HNT.out.2.2; unfold cnt at this; omega
          clear e2 hisv
          go_wp2_with (first
            | (at_builtin; (refine append_own1 (w := w3) rfl (.tmp 25) (.tmp 30) rfl (w.heap.size + 1) (.slice A6 n6 k6) (nf t (c.take j)) x rfl H3.out.1 (by omega) H3.out.2.2.2 w3.heap.size rfl rfl ?_); intro v5 w5 ho5 hb5 hg5 hz5 hk5
               obtain ⟨A5, k5, rfl, _⟩ := ho5.at
               generalize (nf t (c.take j) ++ [x]).length = n5 at ho5 hk5 ⊢
               have H5 := Lib.hid (And.intro ho5 (And.intro (hb5.mono (Nat.le_succ _)) (And.intro hb5 hz5)))
               clear ho5 hb5 hg5 hz5 hk5))
          go_roundw
          case rel => exact ⟨j + 1, A5, n5, k5, by omega, by go_num, rfl, by rw [HN2.out]; exact H5.out.1, HK.out, ⟨H3.out.2.1.h.keep H5.out.2.2.1 (Nat.lt_succ_self _)⟩, H3.out.2.2.1.trans H5.out.2.1, Nat.le_trans H3.out.2.2.2 H5.out.2.2.2⟩
          case measure => simp [intOf]; omega
    · have hE : c.take j = c := List.take_of_length_le (by have := HH.out.2.1; omega)
      rw [hE] at hO
      have hjn : ¬ (j : Int) < (nc : Int) := by omega
      have htr := tru_no (t := t) (c := c) fun q hq => hok q (by have := HH.out.2.1; omega)
      obtain ⟨A7, k7, e7, hI7⟩ := hO.at
      have hcl : (nf t c).length ≤ 100000 := by have := cnt_le t c j; unfold cnt at this; rw [hE] at this; omega
      have HQ := Lib.hid (show stC t c = (if (nf t c).length = 0 then 0 else if (nf t c).length = 1 then 3 else 2) by unfold stC; rw [if_neg (by rw [htr]; simp)])
      have HQ3 := Lib.hid (show stX t c = if stC t c = 3 then (nf t c).headD 0 else 0 from rfl)
      have hx1 : (nf t c).length = 1 → ∃ b o, A7 = some ⟨b, o, none⟩ ∧ wr.cell? ⟨b, o, none⟩ = some (.int .i64 ((nf t c).headD 0)) := fun h1 => by
        obtain ⟨b, o, e, _, hcs⟩ := hI7.cells (by omega)
        refine ⟨b, o, e, ?_⟩
        have := hcs 0 (by omega)
        obtain ⟨x, hx⟩ := List.length_eq_one_iff.1 h1
        rw [hx] at this ⊢
        exact this
      have HB := Lib.hid hB
      cases e7
      obtain ⟨le, hle⟩ : ∃ le, le = (nf t c).length := ⟨_, rfl⟩
      rw [← hle] at hcl HQ hx1 ⊢
      generalize (nf t c).headD 0 = fi at HQ3 hx1
      have HX1 := Lib.hid hx1
      clear hE hO hok htr hI7 hx1 hle hB hz hS
      by_cases g0 : le = 0
      · subst g0
        go_wp2
        go_ret2
        refine ⟨?_, HB.out⟩
        rw [HQ3.out, HQ.out]; rfl
      · by_cases g1 : le = 1
        · obtain ⟨b, o, rfl, y⟩ := HX1.out g1
          subst g1
          go_wp2
          go_quiet (fail)
          go_wp2
          go_ret2
          refine ⟨?_, below_dn HB.out _⟩
          rw [HQ3.out, HQ.out]; rfl
        · have b0 : ((le : Int) == 0) = false := by simp; omega
          have b1 : ((le : Int) == 1) = false := by simp; omega
          go_wp2
          go_ret2
          refine ⟨?_, HB.out⟩
          rw [HQ3.out, HQ.out, if_neg g0, if_neg g1]; rfl

set_option maxRecDepth 100000 in
set_option maxHeartbeats 4000000 in
theorem rState15_any (v : Int) (A : Option Addr) (t : List Int) (k : Nat) (B : Option Addr) (s : List Int) (q : Nat) (C : Option Addr) (c : List Int) (kc : Nat) (w : World) (h : Ia w w.heap.size A t k) (hl : t.length ≤ 100000) (h' : Ia w w.heap.size B s q) (hl' : s.length ≤ 100000) (hc : Ia w w.heap.size C c kc) (hcl : c.length ≤ 100000) (hcr : ∀ x ∈ c, I64 x) :
    Calls Tryd.prog 13 #[asv v A t.length k B s.length q, .slice C c.length kc] w fun e w' => e = .returned (.tuple #[.int .u8 (sS v t s c), .int .i64 (sX v t s c), .int .i64 (sE v t s c)]) ∧ Below w.heap.size w w' := by
  have H0 := Bs.new w (.int .i64 v) (.slice A t.length k) (.slice B s.length q)
  have hb0 := bx_on w (.cells #[.int .i64 v, .slice A t.length k, .slice B s.length q] 24)
  have DC := rCheck14_any v A t k B s q (w.alloc (.cells #[.int .i64 v, .slice A t.length k, .slice B s.length q] 24)) (h.on hb0) hl (h'.on hb0) hl'
  have DK := fun (W : World) (hb : Below w.heap.size w W) => rCheck_any v C c kc W (hc.on hb) (by omega) hcr
  have HB := Lib.hid (And.intro H0 hb0)
  by_cases ea : aE v t s = 0
  · have hO := aE_0.1 ea
    by_cases ec : ckE v c = 0
    · have e0 : sE v t s c = 0 := by unfold sE; rw [if_neg (by simpa using ea)]; exact ec
      have hOc := (ckE_0 ec).2.2
      have DS := fun (W : World) (hb : Below w.heap.size w W) => rOf_any15 v (by have := hO.1; omega) A t k B s.length q C c kc W (h.on hb) hl hO.2.1 (hc.on hb) hcl hOc.1
      rw [show sS v t s c = stC t c from if_pos e0, show sX v t s c = stX t c from if_pos e0, e0]
      rw [ea] at DC
      rw [ec] at DK
      generalize stC t c = sc at DS ⊢
      generalize stX t c = sx at DS ⊢
      obtain ⟨n, hn⟩ : ∃ n, n = t.length := ⟨_, rfl⟩
      obtain ⟨m', hm'⟩ : ∃ m, m = s.length := ⟨_, rfl⟩
      obtain ⟨nc, hnc⟩ : ∃ m, m = c.length := ⟨_, rfl⟩
      rw [← hn, ← hm'] at DC DS HB ⊢
      rw [← hnc] at DK DS ⊢
      clear h hl h' hl' hc hcl hcr H0 hb0 ea hO ec e0 hOc hn hm' hnc
      go_enter Tryd.func13, Tryd.ntmps13
      go_wp2_with (first
        | (go_at_call 21; (with_reducible refine DC.mono ?_); rintro e w1 ⟨rfl, hb1⟩
           have H1 := HB.out.1.on hb1
           obtain ⟨c0, c1, c2⟩ := H1.c
           have HB1 := Lib.hid (And.intro H1 (bn HB.out.2 hb1))
           clear H1 hb1)
        | (go_at_call 25; (with_reducible refine (DK _ HB1.out.2).mono ?_); rintro e w2 ⟨rfl, d2, rfl⟩
           have hb2 := below_dn (Below.refl w1.heap.size w1) d2
           have H2 := HB1.out.1.on hb2
           obtain ⟨d0, d1, d2⟩ := H2.c
           have HB2 := Lib.hid (And.intro H2 (bn HB1.out.2 hb2))
           clear H2 hb2)
        | (go_at_call 34; (with_reducible refine (DS _ HB2.out.2).mono ?_); rintro e w4 ⟨rfl, hb4⟩
           have HB4 := Lib.hid (bn HB2.out.2 hb4)
           clear hb4))
      go_ret3
      exact ⟨rfl, HB4.out⟩
    · have e0 : sE v t s c = ckE v c := by unfold sE; rw [if_neg (by simpa using ea)]
      rw [show sS v t s c = 0 from if_neg (by rw [e0]; exact ec), show sX v t s c = 0 from if_neg (by rw [e0]; exact ec), e0]
      rw [ea] at DC
      generalize ckE v c = ck at DK ec ⊢
      have e1 : (ck != 0) = true := by simpa using ec
      obtain ⟨n, hn⟩ : ∃ n, n = t.length := ⟨_, rfl⟩
      obtain ⟨m', hm'⟩ : ∃ m, m = s.length := ⟨_, rfl⟩
      obtain ⟨nc, hnc⟩ : ∃ m, m = c.length := ⟨_, rfl⟩
      rw [← hn, ← hm'] at DC HB ⊢
      rw [← hnc] at DK ⊢
      clear h hl h' hl' hc hcl hcr H0 hb0 ea hO ec e0 hn hm' hnc
      go_enter Tryd.func13, Tryd.ntmps13
      go_wp2_with (first
        | (go_at_call 21; (with_reducible refine DC.mono ?_); rintro e w1 ⟨rfl, hb1⟩
           have H1 := HB.out.1.on hb1
           obtain ⟨c0, c1, c2⟩ := H1.c
           have HB1 := Lib.hid (And.intro H1 (bn HB.out.2 hb1))
           clear H1 hb1)
        | (go_at_call 25; (with_reducible refine (DK _ HB1.out.2).mono ?_); rintro e w2 ⟨rfl, d2, rfl⟩
           have hb2 := below_dn (Below.refl w1.heap.size w1) d2
           have HB2 := Lib.hid (bn HB1.out.2 hb2)
           clear hb2))
      go_ret3
      exact ⟨rfl, HB2.out⟩
  · have e0 : sE v t s c = aE v t s := if_pos ea
    rw [show sS v t s c = 0 from if_neg (by rw [e0]; exact ea), show sX v t s c = 0 from if_neg (by rw [e0]; exact ea), e0]
    generalize aE v t s = ae at DC ea ⊢
    have e1 : (ae != 0) = true := by simpa using ea
    obtain ⟨n, hn⟩ : ∃ n, n = t.length := ⟨_, rfl⟩
    obtain ⟨m', hm'⟩ : ∃ m, m = s.length := ⟨_, rfl⟩
    rw [← hn, ← hm'] at DC HB ⊢
    clear h hl h' hl' hc hcl hcr H0 hb0 ea e0 hn hm' DK
    go_enter Tryd.func13, Tryd.ntmps13
    go_wp2_with (first
      | (go_at_call 21; (with_reducible refine DC.mono ?_); rintro e w1 ⟨rfl, hb1⟩
         have HB1 := Lib.hid (bn HB.out.2 hb1)
         clear hb1))
    go_ret3
    exact ⟨rfl, HB1.out⟩

end Go.Proofs.YtecmldnigohjfaaDoor

namespace Go.Proofs.YtecmldnigohjfaaDoor
open Go Go.RowKit
set_option linter.unusedVariables false
set_option linter.unusedSimpArgs false

/-- clauses that are great -/
def grt (v : Int) (L : List (List Int)) : Bool := (L.take 61).any (fun c => decide (40 < c.length)) || (decide (60 < L.length) || (decide (40 < v) && !decide (v = 4001)))
theorem grt_no {v : Int} {L : List (List Int)} (h : grt v L = false) : L.length ≤ 60 ∧ (∀ c ∈ L, c.length ≤ 40) ∧ v ≤ 4001 := by
  unfold grt at h
  rw [Bool.or_eq_false_iff, Bool.or_eq_false_iff, Bool.and_eq_false_iff] at h
  obtain ⟨h1, h2, h3⟩ := h
  have h2 : L.length ≤ 60 := by simpa using h2
  refine ⟨h2, fun c hc => ?_, ?_⟩
  · rw [List.take_of_length_le (by omega)] at h1
    have := List.any_eq_false.1 h1 c hc
    simpa using this
  · rcases h3 with h3 | h3
    · have : v ≤ 40 := by simpa using h3
      omega
    · have : v = 4001 := by simpa using h3
      omega
theorem grt_at {v : Int} {L : List (List Int)} {j : Nat} (hj : j < L.length) (h60 : j ≤ 60) (h : 40 < (L.getD j []).length) : grt v L = true := by
  unfold grt
  rw [Bool.or_eq_true]
  refine Or.inl (List.any_eq_true.2 ⟨L.getD j [], ?_, by simpa using h⟩)
  rw [gotD hj]
  exact List.mem_take_iff_getElem.2 ⟨j, by omega, rfl⟩
theorem grt_end {v : Int} {L : List (List Int)} {j : Nat} (h : ∀ p, p < j → (L.getD p []).length ≤ 40) (hj : L.length ≤ j ∨ 61 ≤ j) : grt v L = (decide (60 < L.length) || (decide (40 < v) && !decide (v = 4001))) := by
  unfold grt
  rw [show (L.take 61).any (fun c => decide (40 < c.length)) = false from List.any_eq_false.2 fun c hc => by
    obtain ⟨i, hi, rfl⟩ := List.mem_take_iff_getElem.1 hc
    have := h i (by omega)
    rw [gotD (by omega)] at this
    simpa using this]
  rfl

set_option maxRecDepth 100000 in
set_option maxHeartbeats 4000000 in
theorem rGreat15_any (v : Int) (C : Option Addr) (L : List (List Int)) (kc : Nat) (w : World) (hc : Ill w w.heap.size C L kc) (hcl : L.length ≤ 9223372036854775807) (hcr : ∀ c ∈ L, c.length ≤ 9223372036854775807) :
    Calls Tryd.prog 10 #[.int .i64 v, .slice C L.length kc] w fun e w' => e = .returned (.bool (grt v L)) ∧ Below w.heap.size w w' := by
  obtain ⟨nc, hnc⟩ : ∃ m, m = L.length := ⟨_, rfl⟩
  rw [← hnc]
  have hnc1 : nc ≤ 9223372036854775807 := by omega
  have HC := Lib.hid (And.intro hc (And.intro hnc hcr))
  clear hc hcl hcr hnc
  go_enter Tryd.func10, Tryd.ntmps10
  go_wp2
  go_loopw [5] (fun i wr => ∃ j : Nat, j ≤ nc ∧ j ≤ 61 ∧ i = .int .i64 (j : Int) ∧ (∀ p, p < j → (L.getD p []).length ≤ 40) ∧ Below w.heap.size w wr) (fun i _ => nc - (intOf i).toNat)
  case atStart => exact ⟨0, Nat.zero_le _, Nat.zero_le _, rfl, fun p hp => absurd hp (Nat.not_lt_zero _), Below.refl _ _⟩
  case round =>
    obtain ⟨j, hj, hj61, rfl, hok, hB⟩ := hrel
    by_cases hlt : j < nc ∧ j ≤ 60
    · obtain ⟨hlt, hj60⟩ := hlt
      have hjl : j < L.length := by have := HC.out.2.1; omega
      obtain ⟨b, o, rfl, hb0, hcs⟩ := HC.out.1.h (by omega)
      obtain ⟨C', kc', y0, hIc⟩ := hcs j hjl
      have hcm := HC.out.2.2 _ (gotD_mem hjl)
      have y : wr.cell? ⟨b, o + j, none⟩ = some (.slice C' (L.getD j []).length kc') := (hB.cell (p := ⟨b, o + j, none⟩) hb0).trans y0
      have hj1 : (j : Int) < (nc : Int) := by omega
      have hj0 : (0 : Int) ≤ (j : Int) := by omega
      have hj2 : (j : Int) ≤ 60 := by omega
      have HE := Lib.hid (fun h => grt_at (v := v) hjl hj60 h)
      have HR := Lib.hid hB
      have HK := Lib.hid hok
      obtain ⟨lc, hlc⟩ : ∃ x, x = (L.getD j []).length := ⟨_, rfl⟩
      rw [← hlc] at y hcm HE
      have HL := Lib.hid hlc
      clear hcs y0 hIc hok hB hlc hj61
      by_cases e1 : 40 < lc
      · have e2 : (40 : Int) < (lc : Int) := by omega
        go_wp2
        go_ret
        exact ⟨by rw [HE.out e1]; rfl, HR.out⟩
      · have e2 : ¬ (40 : Int) < (lc : Int) := by omega
        go_wp2
        go_roundw
        case rel => exact ⟨j + 1, by omega, by omega, by go_num, fun p hp => by
          rcases Nat.lt_succ_iff_lt_or_eq.1 hp with h' | h'
          · exact HK.out p h'
          · subst h'; rw [← HL.out]; omega, HR.out⟩
        case measure => simp [intOf]; omega
    · have HE := Lib.hid (grt_end (v := v) (L := L) hok (by have := HC.out.2.1; omega))
      rw [← HC.out.2.1] at HE
      have HR := Lib.hid hB
      clear hok hB
      have hg : ∀ b : Bool, (decide (60 < nc) || (decide (40 < v) && !decide (v = 4001))) = b → grt v L = b := fun b h => by rw [HE.out]; exact h
      have HG := Lib.hid hg
      clear hg
      by_cases hlt1 : j < nc
      · have hj1 : (j : Int) < (nc : Int) := by omega
        have hj2 : ¬ (j : Int) ≤ 60 := by omega
        have g1 : (60 : Int) < (nc : Int) := by omega
        have g1' : 60 < nc := by omega
        clear hlt
        go_wp2
        go_ret
        refine ⟨?_, HR.out⟩
        rw [HG.out true (by rw [decide_eq_true g1']; rfl)]; rfl
      · have hj1 : ¬ (j : Int) < (nc : Int) := by omega
        clear hlt
        by_cases g1 : 60 < nc
        · have g1' : (60 : Int) < (nc : Int) := by omega
          go_wp2
          go_ret
          refine ⟨?_, HR.out⟩
          rw [HG.out true (by rw [decide_eq_true g1]; rfl)]; rfl
        · have g1' : ¬ (60 : Int) < (nc : Int) := by omega
          by_cases g2 : 40 < v
          · by_cases g3 : v = 4001
            · subst g3
              go_wp2
              go_ret
              refine ⟨?_, HR.out⟩
              rw [HG.out false (by rw [decide_eq_false (show ¬ 60 < nc by omega)]; rfl)]; rfl
            · have g3' : (v != 4001) = true := by simpa using g3
              go_wp2
              go_ret
              refine ⟨?_, HR.out⟩
              rw [HG.out true (by rw [decide_eq_true (show 40 < v by omega), decide_eq_false g3]; simp)]; rfl
          · go_wp2
            go_ret
            refine ⟨?_, HR.out⟩
            rw [HG.out false (by rw [decide_eq_false (show ¬ 60 < nc by omega), decide_eq_false (show ¬ (40 < v) by omega)]; rfl)]; rfl

/-- what Step says of the clauses from a place on -/
def sA (t : List Int) (L : List (List Int)) (j : Nat) : Int := match fF t (L.drop j) with
  | some i => ((j + i : Nat) : Int)
  | none => -1
def sL (t : List Int) (L : List (List Int)) (j : Nat) : Int := match fU t (L.drop j) with
  | some c => stX t c
  | none => 0
theorem sA_at {t : List Int} {L : List (List Int)} {j : Nat} (hj : j < L.length) : sA t L j = if stC t (L.getD j []) = 0 then (j : Int) else sA t L (j + 1) := by
  unfold sA fF
  rw [List.drop_eq_getElem_cons hj, gotD hj, List.findIdx?_cons]
  by_cases h : stC t L[j] = 0
  · rw [if_pos h, if_pos (by simpa using h)]; simp
  · rw [if_neg h, if_neg (by simpa using h)]
    cases List.findIdx? (fun c => stC t c == 0) (L.drop (j + 1)) with
    | none => rfl
    | some i => simp only [Option.map_some]; congr 1; omega
theorem sL_at {t : List Int} {L : List (List Int)} {j : Nat} (hj : j < L.length) : sL t L j = if stC t (L.getD j []) = 3 then stX t (L.getD j []) else sL t L (j + 1) := by
  unfold sL fU
  rw [List.drop_eq_getElem_cons hj, gotD hj, List.find?_cons]
  by_cases h : stC t L[j] = 3
  · rw [if_pos h]; simp [h]
  · rw [if_neg h, show (stC t L[j] == 3) = false by simpa using h]
theorem sA_end {t : List Int} {L : List (List Int)} {j : Nat} (hj : L.length ≤ j) : sA t L j = -1 := by
  unfold sA fF; rw [List.drop_eq_nil_of_le hj]; rfl
theorem sL_end {t : List Int} {L : List (List Int)} {j : Nat} (hj : L.length ≤ j) : sL t L j = 0 := by
  unfold sL fU; rw [List.drop_eq_nil_of_le hj]; rfl

set_option maxRecDepth 100000 in
set_option maxHeartbeats 10000000 in
theorem rStep_any (v : Int) (hv : 0 ≤ v ∧ v ≤ 4000) (A : Option Addr) (t : List Int) (k : Nat) (Y : Option Addr) (my qy : Nat) (C : Option Addr) (L : List (List Int)) (kc : Nat) (w : World) (h : Ia w w.heap.size A t k) (hl : t.length ≤ 100000) (ho : OkT v t) (hc : Ill w w.heap.size C L kc) (hcl : L.length ≤ 100000) (hL : ∀ c ∈ L, OkC v c ∧ c.length ≤ 100000) :
    Calls Tryd.prog 55 #[asv v A t.length k Y my qy, .slice C L.length kc] w fun e w' => e = .returned (.tuple #[.int .i64 (sA t L 0), .int .i64 (sL t L 0)]) ∧ Below w.heap.size w w' := by
  obtain ⟨n, hn⟩ : ∃ n, n = t.length := ⟨_, rfl⟩
  obtain ⟨nc, hnc⟩ : ∃ n, n = L.length := ⟨_, rfl⟩
  have DI := fun (c : List Int) (hcm : c ∈ L) (C' : Option Addr) (kc' : Nat) (W : World) (hb : Below w.heap.size w W) (hI : Ia W W.heap.size C' c kc') => rOf_any15 v hv A t k Y my qy C' c kc' W (h.on hb) hl ho hI (hL c hcm).2 (hL c hcm).1.1
  rw [← hn] at DI ⊢
  rw [← hnc]
  have hnc1 : nc ≤ 100000 := by omega
  have HH := Lib.hid (And.intro hc (And.intro hnc hL))
  have H0 := Lib.hid (And.intro (Bs.new w (.int .i64 v) (.slice A n k) (.slice Y my qy)) (bx_on w (.cells #[.int .i64 v, .slice A n k, .slice Y my qy] 24)))
  clear h hl ho hc hcl hL hn hnc
  go_enter Tryd.func55, Tryd.ntmps55
  go_wp2
  go_loopw [6, 7, 8] (fun a l i wr => ∃ (j : Nat) (i' : Int), j ≤ nc ∧ i = .int .i64 i' ∧ i' = (j : Int) - 1 ∧ a = .int .i64 (sA t L j) ∧ l = .int .i64 (sL t L j) ∧ Bs w.heap.size wr (.int .i64 v) (.slice A n k) (.slice Y my qy) ∧ Below w.heap.size w wr) (fun _ _ i _ => (intOf i + 1).toNat)
  case atStart => exact ⟨nc, _, Nat.le_refl _, rfl, rfl, by rw [sA_end (by have := HH.out.2.1; omega)], by rw [sL_end (by have := HH.out.2.1; omega)], H0.out.1, H0.out.2⟩
  case round =>
    obtain ⟨j, i', hj, rfl, hi', rfl, rfl, hS, hB⟩ := hrel
    cases j with
    | zero =>
      obtain rfl : i' = -1 := by omega
      have HR := Lib.hid hB
      clear hS hB hi'
      go_wp2
      go_ret2
      exact ⟨rfl, HR.out⟩
    | succ j =>
      obtain rfl : i' = (j : Int) := by omega
      have hlt : j < nc := hj
      have hjl : j < L.length := by have := HH.out.2.1; omega
      obtain ⟨b, o, rfl, hb0, hcs⟩ := HH.out.1.h (by omega)
      obtain ⟨C', kc', y0, hIc⟩ := hcs j hjl
      have hcm := gotD_mem hjl
      have y : wr.cell? ⟨b, o + j, none⟩ = some (.slice C' (L.getD j []).length kc') := (hB.cell (p := ⟨b, o + j, none⟩) hb0).trans y0
      have hA := sA_at (t := t) hjl
      have hLt := sL_at (t := t) hjl
      have DX := fun (W : World) (hb : Below w.heap.size w W) => DI _ hcm C' kc' W hb (hIc.on hb)
      have hj1 : (j : Int) < (nc : Int) := by omega
      have hj0 : (0 : Int) ≤ (j : Int) := by omega
      have HR := Lib.hid (And.intro hS hB)
      have HY := Lib.hid (And.intro y0 hb0)
      generalize sA t L (j + 1) = pa at hA ⊢
      generalize sL t L (j + 1) = pl at hLt ⊢
      generalize stX t (L.getD j []) = sx at hLt DX
      generalize stC t (L.getD j []) = sc at hA hLt DX
      obtain ⟨lc, hlc⟩ : ∃ x, x = (L.getD j []).length := ⟨_, rfl⟩
      rw [← hlc] at y DX HY
      have HA2 := Lib.hid (And.intro hA hLt)
      clear hcs y0 hIc hS hB hb0 hcm hi' hA hLt hlc
      go_wp2
      have hS0 : (fun X : World => (X.cell? ⟨w.heap.size, 0, none⟩ = some (.int .i64 v) ∧ X.cell? ⟨w.heap.size, 1, none⟩ = some (.slice A n k) ∧ X.cell? ⟨w.heap.size, 2, none⟩ = some (.slice Y my qy)) ∧ X.cell? ⟨b, o + j, none⟩ = some (.slice C' lc kc')) wr.drew := ⟨HR.out.1.c, (HR.out.2.cell (p := ⟨b, o + j, none⟩) HY.out.2).trans HY.out.1⟩
      refine wp_slots (fun f => Sz f 35 ∧ Slot f 1 (.slice (some ⟨b, o, none⟩) nc kc) ∧ Slot f 2 (.pointer (some ⟨w.heap.size, 0, none⟩)) ∧ Slot f 8 (.int .i64 (j : Int))) ⟨⟨rfl, rfl⟩, ⟨rfl⟩, ⟨rfl⟩, ⟨rfl⟩⟩ fun a0 hA0 hR => ?_
      obtain ⟨hZ, hs1, hs2, hs8⟩ := hR
      have HA := Lib.hid hA0
      clear hA0
      refine wp_region_T (fun X : World => (X.cell? ⟨w.heap.size, 0, none⟩ = some (.int .i64 v) ∧ X.cell? ⟨w.heap.size, 1, none⟩ = some (.slice A n k) ∧ X.cell? ⟨w.heap.size, 2, none⟩ = some (.slice Y my qy)) ∧ X.cell? ⟨b, o + j, none⟩ = some (.slice C' lc kc')) 11 (by kernel_rfl) ?_
      refine WT.h ?_
      (refine wt_take1 0 2 (v := ?_) rfl rfl (by kernel_rfl) (by kernel_rfl) (by kernel_rfl) (by kernel_rfl) (fun _ _ _ h => h) rfl hS0 (by (repeat (first | (refine slot_hit (N := 35) ?_ (by rfl); (repeat (refine sz_put ?_)); assumption; done) | (apply slot_miss; focus rfl))); all_goals assumption) (fun ev hk hv0 w hS => ?_) ?_; rotate_left; focus (obtain ⟨⟨j0, j1, j2⟩, j3⟩ := hS; go_simp; rfl)); (refine wt_move 1 1 rfl rfl (by kernel_rfl) (by kernel_rfl) (by kernel_rfl) (by kernel_rfl) (fun _ _ _ h => h) rfl hS0 (by (repeat (first | (refine slot_hit (N := 35) ?_ (by rfl); (repeat (refine sz_put ?_)); assumption; done) | (apply slot_miss; focus rfl))); all_goals assumption) rfl ?_); (refine wt_move 2 8 rfl rfl (by kernel_rfl) (by kernel_rfl) (by kernel_rfl) (by kernel_rfl) (fun _ _ _ h => h) rfl hS0 (by (repeat (first | (refine slot_hit (N := 35) ?_ (by rfl); (repeat (refine sz_put ?_)); assumption; done) | (apply slot_miss; focus rfl))); all_goals assumption) rfl ?_); (refine wt_take2 3 20 21 (v := ?_) rfl rfl (by kernel_rfl) (by kernel_rfl) (by kernel_rfl) (by kernel_rfl) (fun _ _ _ h => h) rfl hS0 (by (repeat (first | (refine slot_hit (N := 35) ?_ (by rfl); (repeat (refine sz_put ?_)); assumption; done) | (apply slot_miss; focus rfl))); all_goals assumption) (by (repeat (first | (refine slot_hit (N := 35) ?_ (by rfl); (repeat (refine sz_put ?_)); assumption; done) | (apply slot_miss; focus rfl))); all_goals assumption) (fun ev hk hv0 hv1 w hS => ?_) ?_; rotate_left; focus (obtain ⟨⟨j0, j1, j2⟩, j3⟩ := hS; go_simp; rfl)); (refine wt_take1 4 22 (v := ?_) rfl rfl (by kernel_rfl) (by kernel_rfl) (by kernel_rfl) (by kernel_rfl) (fun _ _ _ h => h) rfl hS0 (by (repeat (first | (refine slot_hit (N := 35) ?_ (by rfl); (repeat (refine sz_put ?_)); assumption; done) | (apply slot_miss; focus rfl))); all_goals assumption) (fun ev hk hv0 w hS => ?_) ?_; rotate_left; focus (obtain ⟨⟨j0, j1, j2⟩, j3⟩ := hS; go_simp; rfl))
      refine wt_call2 5 19 23 (by kernel_rfl) rfl rfl rfl (by (repeat (first | (refine slot_hit (N := 35) ?_ (by rfl); (repeat (refine sz_put ?_)); assumption; done) | (apply slot_miss; focus rfl))); all_goals assumption) (by (repeat (first | (refine slot_hit (N := 35) ?_ (by rfl); (repeat (refine sz_put ?_)); assumption; done) | (apply slot_miss; focus rfl))); all_goals assumption) (f := ?_) (args := ?_) (fun ev hk hkf hv0 hv1 => ?_) ?_; rotate_left 2; focus (go_simp; first | rfl | (constructor <;> rfl))
      refine (DX _ (below_dn HR.out.2 1)).mono ?_
      rintro e w3 ⟨rfl, hb3⟩
      have hb3 := bn (below_dn (Below.refl wr.heap.size wr) 1) hb3
      have hS3 := HR.out.1.on hb3
      have hB3 := bn HR.out.2 (hb3)
      have hS0 : (fun X : World => (X.cell? ⟨w.heap.size, 0, none⟩ = some (.int .i64 v) ∧ X.cell? ⟨w.heap.size, 1, none⟩ = some (.slice A n k) ∧ X.cell? ⟨w.heap.size, 2, none⟩ = some (.slice Y my qy)) ∧ X.cell? ⟨b, o + j, none⟩ = some (.slice C' lc kc')) w3 := ⟨hS3.c, (hB3.cell (p := ⟨b, o + j, none⟩) HY.out.2).trans HY.out.1⟩
      refine ⟨_, rfl, fun _ => hS0, ?_⟩
      (refine wt_move 6 24 rfl rfl (by kernel_rfl) (by kernel_rfl) (by kernel_rfl) (by kernel_rfl) (fun _ _ _ h => h) rfl hS0 (by (repeat (first | (refine slot_hit (N := 35) ?_ (by rfl); (repeat (refine sz_put ?_)); assumption; done) | (apply slot_miss; focus rfl))); all_goals assumption) rfl ?_); (refine wt_take1 7 18 (v := ?_) rfl rfl (by kernel_rfl) (by kernel_rfl) (by kernel_rfl) (by kernel_rfl) (fun _ _ _ h => h) rfl hS0 (by (repeat (first | (refine slot_hit (N := 35) ?_ (by rfl); (repeat (refine sz_put ?_)); assumption; done) | (apply slot_miss; focus rfl))); all_goals assumption) (fun ev hk hv0 w hS => ?_) ?_; rotate_left; focus (obtain ⟨⟨j0, j1, j2⟩, j3⟩ := hS; go_simp; rfl)); (refine wt_take1 8 18 (v := ?_) rfl rfl (by kernel_rfl) (by kernel_rfl) (by kernel_rfl) (by kernel_rfl) (fun _ _ _ h => h) rfl hS0 (by (repeat (first | (refine slot_hit (N := 35) ?_ (by rfl); (repeat (refine sz_put ?_)); assumption; done) | (apply slot_miss; focus rfl))); all_goals assumption) (fun ev hk hv0 w hS => ?_) ?_; rotate_left; focus (obtain ⟨⟨j0, j1, j2⟩, j3⟩ := hS; go_simp; rfl)); (refine wt_assign 9 25 rfl rfl (by kernel_rfl) (by kernel_rfl) (by kernel_rfl) (by kernel_rfl) (fun _ _ _ h => h) rfl hS0 (by (repeat (first | (refine slot_hit (N := 35) ?_ (by rfl); (repeat (refine sz_put ?_)); assumption; done) | (apply slot_miss; focus rfl))); all_goals assumption) rfl ?_); (refine wt_assign 10 26 rfl rfl (by kernel_rfl) (by kernel_rfl) (by kernel_rfl) (by kernel_rfl) (fun _ _ _ h => h) rfl hS0 (by (repeat (first | (refine slot_hit (N := 35) ?_ (by rfl); (repeat (refine sz_put ?_)); assumption; done) | (apply slot_miss; focus rfl))); all_goals assumption) rfl ?_)
      refine wt_done (by kernel_rfl) (NoPanic.normal ?_) _
      have ha := HA.out
      subst ha
      have H3 := Lib.hid (And.intro hS3 hB3)
      clear hZ hs1 hs2 hs8 hS0 hb3 hS3 hB3 y
      by_cases e0 : sc = 0
      · subst e0
        go_wp2
        go_roundw
        case rel => exact ⟨j, (j : Int) - 1, by omega, by first | rfl | go_num, rfl, by rw [HA2.out.1]; rfl, by rw [HA2.out.2]; rfl, H3.out.1, H3.out.2⟩
        case measure => simp [intOf]
      · by_cases e3 : sc = 3
        · subst e3
          go_wp2
          go_roundw
          case rel => exact ⟨j, (j : Int) - 1, by omega, by first | rfl | go_num, rfl, by rw [HA2.out.1]; rfl, by rw [HA2.out.2]; rfl, H3.out.1, H3.out.2⟩
          case measure => simp [intOf]
        · have b0 : (sc == 0) = false := by simpa using e0
          have b1 : (sc == 3) = false := by simpa using e3
          go_wp2
          go_roundw
          case rel => exact ⟨j, (j : Int) - 1, by omega, by first | rfl | go_num, rfl, by rw [HA2.out.1, if_neg e0], by rw [HA2.out.2, if_neg e3], H3.out.1, H3.out.2⟩
          case measure => simp [intOf]

end Go.Proofs.YtecmldnigohjfaaDoor

namespace Go.Proofs.YtecmldnigohjfaaDoor
open Go Go.RowKit
set_option linter.unusedVariables false
set_option linter.unusedSimpArgs false

theorem Bx2.st {w W : World} {x0 x1 x2 : Value} (h : Bx2 w x0 x1 x2 W) (u0 u1 u2 : Value) : Bx2 w u0 u1 u2 (st3 W w.heap.size u0 u1 u2) :=
  ⟨st3_below h.b (Nat.le_refl _) _ _ _, by rw [st3_size]; exact h.z, st3_has h.h1 _ _ _, (Bs.far ⟨h.h2⟩ (by omega) _ _ _).h⟩
theorem Bx2.f1 {w W : World} {x0 x1 x2 : Value} (h : Bx2 w x0 x1 x2 W) : W.frozen? ⟨w.heap.size, 0, none⟩ = false ∧ W.frozen? ⟨w.heap.size, 1, none⟩ = false ∧ W.frozen? ⟨w.heap.size, 2, none⟩ = false := ⟨h.h1.fz 0, h.h1.fz 1, h.h1.fz 2⟩
theorem sA_0 {t : List Int} {L : List (List Int)} : sA t L 0 = match fF t L with
  | some i => (i : Int)
  | none => -1 := by
  unfold sA
  rw [List.drop_zero]
  cases fF t L with
  | none => rfl
  | some i => simp
theorem sL_0 {t : List Int} {L : List (List Int)} : sL t L 0 = match fU t L with
  | some c => stX t c
  | none => 0 := by
  unfold sL
  rw [List.drop_zero] <;> (cases fU t L <;> rfl)
theorem up_succ (n : Nat) (t : List Int) (L : List (List Int)) : up (n + 1) t L = match fF t L with
    | some i => (t, (i : Int))
    | none => match fU t L with
      | none => (t, -1)
      | some c => up n (t ++ [stX t c]) L := rfl

/-- a slice that lies apart from the two boxes -/
def Apt (w : World) (A : Option Addr) (n : Nat) : Prop := 0 < n → ∀ a, A = some a → a.block < w.heap.size ∨ w.heap.size + 2 ≤ a.block
theorem Apt.of {w : World} {A : Option Addr} {t : List Int} {k : Nat} (h : Ia w w.heap.size A t k) : Apt w A t.length := fun hl a e => by
  obtain ⟨b, o, e2, hb, _⟩ := h.cells hl
  rw [e] at e2; cases e2
  exact Or.inl hb
theorem ia_st3a {W : World} {B k : Nat} {A : Option Addr} {l : List Int} (h : Ia W B A l k) {b : Nat} (hq : 0 < l.length → ∀ a, A = some a → a.block ≠ b) (v0 v1 v2 : Value) : Ia (st3 W b v0 v1 v2) B A l k := by
  by_cases hl : 0 < l.length
  · exact h.st3 (hq hl) _ _ _
  · exact ⟨fun h => absurd h hl, h.n, h.c⟩
/-- the propagation of the reference, as far as it is -/
structure Pq (b0 : Nat) (w W : World) (v : Int) (A : Option Addr) (n k : Nat) (t : List Int) (B : Option Addr) (m q : Nat) (s : List Int) : Prop where
  x : Bx2 w (.int .i64 v) (.slice A n k) (.slice B m q) W
  a : Ia W W.heap.size A t k
  b : Ia W W.heap.size B s q
  en : n = t.length
  em : m = s.length
  aa : Apt w A n
  ab : Apt w B m
  la : ∀ a, A = some a → b0 ≤ a.block
  lb : ∀ a, B = some a → b0 ≤ a.block
  lw : b0 ≤ w.heap.size
theorem Pq.on {b0 : Nat} {w W W' : World} {v : Int} {A : Option Addr} {n k : Nat} {t : List Int} {B : Option Addr} {m q : Nat} {s : List Int} (h : Pq b0 w W v A n k t B m q s) (hb : Below W.heap.size W W') : Pq b0 w W' v A n k t B m q s := ⟨h.x.on hb, h.a.on hb, h.b.on hb, h.en, h.em, h.aa, h.ab, h.la, h.lb, h.lw⟩
/-- the next one, stored -/
theorem Pq.next {b0 : Nat} {w W W' : World} {v : Int} {A : Option Addr} {n k : Nat} {t : List Int} {B : Option Addr} {m q : Nat} {s : List Int} (h : Pq b0 w W v A n k t B m q s) {A' : Option Addr} {n' k' : Nat} {t' : List Int} {B' : Option Addr} {m' q' : Nat} (hN : Nw W.heap.size W' A' n' k' t' B' m' q' s) (hb : Below W.heap.size W W') : Pq b0 w (st3 W' w.heap.size (.int .i64 v) (.slice A' n' k') (.slice B' m' q')) v A' n' k' t' B' m' q' s := by
  have hz := h.x.z
  have h1 : 0 < n' → ∀ a, A' = some a → w.heap.size + 2 ≤ a.block := fun _ a e => by have := hN.ta a e; omega
  have h2 : 0 < m' → ∀ a, B' = some a → w.heap.size + 2 ≤ a.block := fun _ a e => by have := hN.sa a e; omega
  refine ⟨(h.x.on hb).st _ _ _, ?_, ?_, hN.nt, hN.ms, fun hl a e => Or.inr (h1 hl a e), fun hl a e => Or.inr (h2 hl a e), fun a e => by have := hN.ta a e; have := h.lw; omega, fun a e => by have := hN.sa a e; have := h.lw; omega, h.lw⟩
  · rw [st3_size]; exact ia_st3a hN.ti (fun hl a e => by have := h1 (by rw [hN.nt]; exact hl) a e; omega) _ _ _
  · rw [st3_size]; exact ia_st3a hN.si (fun hl a e => by have := h2 (by rw [hN.ms]; exact hl) a e; omega) _ _ _
/-- the result, stored -/
theorem Pq.out {b0 : Nat} {w W : World} {v : Int} {A : Option Addr} {n k : Nat} {t : List Int} {B : Option Addr} {m q : Nat} {s : List Int} (h : Pq b0 w W v A n k t B m q s) : Nw b0 (st3 W (w.heap.size + 1) (.int .i64 v) (.slice A n k) (.slice B m q)) A n k t B m q s ∧ Below w.heap.size w (st3 W (w.heap.size + 1) (.int .i64 v) (.slice A n k) (.slice B m q)) := by
  refine ⟨⟨?_, ?_, h.en, h.em, h.la, h.lb⟩, st3_below h.x.b (Nat.le_succ _) _ _ _⟩
  · rw [st3_size]; exact ia_st3a h.a (fun hl a e => by have := h.aa (by rw [h.en]; exact hl) a e; omega) _ _ _
  · rw [st3_size]; exact ia_st3a h.b (fun hl a e => by have := h.ab (by rw [h.em]; exact hl) a e; omega) _ _ _
/-- what Propagated returns -/
def PrIs (b0 : Nat) (v : Int) (t s : List Int) (L : List (List Int)) (w : World) (en : Ending) (w' : World) : Prop := ∃ A n k B m q, en = .returned (.tuple #[asv v A n k B m q, .int .i64 (upR v t L).2]) ∧ Nw b0 w' A n k (upR v t L).1 B m q s ∧ Below w.heap.size w w'

set_option maxRecDepth 100000 in
set_option maxHeartbeats 10000000 in
theorem rProp_any (nv : Nat) (hv : nv ≤ 4000) (A : Option Addr) (t : List Int) (k : Nat) (B : Option Addr) (s : List Int) (q : Nat) (C : Option Addr) (L : List (List Int)) (kc : Nat) (w : World) (h : Ia w w.heap.size A t k) (h' : Ia w w.heap.size B s q) (hl' : s.length ≤ 100000) (hO : OkT (nv : Int) t) (hc : Ill w w.heap.size C L kc) (hcl : L.length ≤ 100000) (hL : ∀ c ∈ L, OkC (nv : Int) c ∧ c.length ≤ 100000) (b0 : Nat) (hb0 : b0 ≤ w.heap.size) (hla : ∀ a, A = some a → b0 ≤ a.block) (hlb : ∀ a, B = some a → b0 ≤ a.block) :
    Calls Tryd.prog 39 #[asv (nv : Int) A t.length k B s.length q, .slice C L.length kc] w (PrIs b0 (nv : Int) t s L w) := by
  have H0 := Bx2.new w (.int .i64 (nv : Int)) (.slice A t.length k) (.slice B s.length q)
  have hP0 : Pq b0 w (bx2 w (.int .i64 (nv : Int)) (.slice A t.length k) (.slice B s.length q)) (nv : Int) A t.length k t B s.length q s := ⟨H0, h.on H0.b, h'.on H0.b, rfl, rfl, Apt.of h, Apt.of h', hla, hlb, hb0⟩
  unfold bx2 at hP0
  have CS := fun (A : Option Addr) (t : List Int) (n k : Nat) (B : Option Addr) (m q : Nat) (W : World) (hP : Pq b0 w W (nv : Int) A n k t B m q s) (ho : OkT (nv : Int) t) => rStep_any (nv : Int) ⟨by omega, by omega⟩ A t k B m q C L kc W hP.a (by have := ho.len (by omega : (0 : Int) ≤ (nv : Int)); omega) ho (hc.on hP.x.b) hcl hL
  have CW := fun (A : Option Addr) (t : List Int) (n k : Nat) (B : Option Addr) (m q : Nat) (x : Int) (W : World) (hP : Pq b0 w W (nv : Int) A n k t B m q s) (ho : OkT (nv : Int) t) => rWithF_any (nv : Int) A t k B s q x W hP.a (by have := ho.len (by omega : (0 : Int) ≤ (nv : Int)); omega) hP.b hl'
  obtain ⟨nc, hnc⟩ : ∃ n, n = L.length := ⟨_, rfl⟩
  rw [← hnc] at CS ⊢
  have HH := Lib.hid (And.intro hP0 (And.intro hO hL))
  obtain ⟨n0, hn0⟩ : ∃ n, n = t.length := ⟨_, rfl⟩
  obtain ⟨m0, hm0⟩ : ∃ n, n = s.length := ⟨_, rfl⟩
  rw [← hn0, ← hm0] at HH ⊢
  clear h h' hO hc hcl hL hnc hn0 hm0 H0 hP0 hb0 hla hlb
  go_enter Tryd.func39, Tryd.ntmps39
  go_wp2
  go_loopw [6] (fun i wr => ∃ (j : Nat) (A' : Option Addr) (n' k' : Nat) (t' : List Int) (B' : Option Addr) (m' q' : Nat), j ≤ nv + 1 ∧ i = .int .i64 (j : Int) ∧ Pq b0 w wr (nv : Int) A' n' k' t' B' m' q' s ∧ OkT (nv : Int) t' ∧ up (nv + 1 - j) t' L = upR (nv : Int) t L) (fun i _ => nv + 1 - (intOf i).toNat)
  case atStart => exact ⟨0, A, n0, k, t, B, m0, q, Nat.zero_le _, rfl, HH.out.1, HH.out.2.1, by unfold upR; simp⟩
  case round =>
    obtain ⟨j, A', n', k', t', B', m', q', hj, rfl, hP, hO, hup⟩ := hrel
    obtain ⟨c0, c1, c2⟩ := hP.x.c
    obtain ⟨d0, d1, d2, e0, e1, e2⟩ := hP.x.d
    by_cases hlt : j ≤ nv
    · have hj1 : (j : Int) ≤ (nv : Int) := by omega
      have D1 := CS _ _ _ _ _ _ _ _ hP hO
      rw [← hP.en] at D1
      rw [show nv + 1 - j = (nv - j) + 1 by omega, up_succ] at hup
      rw [sA_0] at D1
      cases hf : fF t' L with
      | some i =>
        rw [hf] at hup D1
        dsimp only at hup D1
        generalize sL t' L 0 = z at D1
        have HU := Lib.hid hup.symm
        have HP := Lib.hid hP
        have g1 : (0 : Int) ≤ (i : Int) := by omega
        clear hP hO hup hf CS CW
        go_wp2_with (first
          | (go_at_call 55; (with_reducible refine D1.mono ?_); rintro e w1 ⟨rfl, hb1⟩
             have hP1 := HP.out.on hb1
             obtain ⟨c10, c11, c12⟩ := hP1.x.c
             obtain ⟨d10, d11, d12, e10, e11, e12⟩ := hP1.x.d
             have HP1 := Lib.hid hP1
             clear hP1 hb1))
        refine bodyPost_ret (v := .tuple #[.agg #[.int .i64 (nv : Int), .slice A' n' k', .slice B' m' q'], .int .i64 (i : Int)]) (by simp [results, Tryd.results39, go_sem, d10, d11, d12]) rfl ?_
        unfold PrIs
        rw [HU.out]
        exact ⟨A', n', k', B', m', q', rfl, HP1.out.out⟩
      | none =>
        rw [hf] at hup D1
        rw [sL_0] at D1
        dsimp only at hup D1
        cases hu : fU t' L with
        | none =>
          rw [hu] at hup D1
          dsimp only at hup D1
          have HU := Lib.hid hup.symm
          have HP := Lib.hid hP
          clear hP hO hup hf CS CW
          go_wp2_with (first
            | (go_at_call 55; (with_reducible refine D1.mono ?_); rintro e w1 ⟨rfl, hb1⟩
               have hP1 := HP.out.on hb1
               obtain ⟨c10, c11, c12⟩ := hP1.x.c
               obtain ⟨d10, d11, d12, e10, e11, e12⟩ := hP1.x.d
               have HP1 := Lib.hid hP1
               clear hP1 hb1))
          refine bodyPost_ret (v := .tuple #[.agg #[.int .i64 (nv : Int), .slice A' n' k', .slice B' m' q'], .int .i64 (-1)]) (by simp [results, Tryd.results39, go_sem, d10, d11, d12]) rfl ?_
          unfold PrIs
          rw [HU.out]
          exact ⟨A', n', k', B', m', q', rfl, HP1.out.out⟩
        | some c =>
          rw [hu] at hup D1
          dsimp only at hup D1
          obtain ⟨hcm, hc3⟩ := fU_mem hu
          obtain ⟨_, hxc, _, _⟩ := stX_3 hc3
          have hOn := hO.unit (HH.out.2.2 _ hcm).1 hc3
          have hx2 : isL (nv : Int) (stX t' c) = true := (HH.out.2.2 _ hcm).1.isl hxc
          generalize stX t' c = x at hup D1 hOn hx2
          have hx0 : x ≠ 0 := fun e => by subst e; unfold isL at hx2; simp at hx2
          have g2 : (x == 0) = false := by simpa using hx0
          have HU := Lib.hid (And.intro hup (And.intro hO (And.intro hOn hj)))
          have HP := Lib.hid hP
          clear hP hO hup hf CS hu hcm hc3 hxc hOn hx2 hx0 hj
          go_wp2_with (first
            | (go_at_call 55; (with_reducible refine D1.mono ?_); rintro e w1 ⟨rfl, hb1⟩
               have hP1 := HP.out.on hb1
               obtain ⟨c10, c11, c12⟩ := hP1.x.c
               have D2 := CW _ _ _ _ _ _ _ x _ hP1 HU.out.2.1
               rw [← hP1.en, ← hP1.em] at D2
               have HP1 := Lib.hid hP1
               clear hP1 hb1)
            | (go_at_call 29; (with_reducible refine D2.mono ?_); rintro e w2 hT
               obtain ⟨A2, k2, B2, q2, rfl, hN2, hb2⟩ := hT.nw (n := n' + 1) (m := m') (by have := HP1.out.en; simp; omega) HP1.out.em
               have hX2 := HP1.out.x.on hb2
               obtain ⟨f20, f21, f22⟩ := hX2.f1
               obtain ⟨c20, c21, c22⟩ := hX2.c
               have HP2 := Lib.hid (HP1.out.next hN2 hb2)
               clear hN2 hb2 hX2))
          go_roundw
          case rel => exact ⟨j + 1, A2, n' + 1, k2, t' ++ [x], B2, m', q2, by omega, by go_num, HP2.out, HU.out.2.2.1, by rw [← HU.out.1]; congr 1; omega⟩
          case measure => simp [intOf]; omega
    · obtain rfl : j = nv + 1 := by omega
      have hj1 : ¬ ((nv + 1 : Nat) : Int) ≤ (nv : Int) := by omega
      rw [show nv + 1 - (nv + 1) = 0 by omega, show up 0 t' L = (t', -1) from rfl] at hup
      have HU := Lib.hid hup.symm
      have HP := Lib.hid hP
      clear hP hO hup CS CW
      go_wp2
      refine bodyPost_ret (v := .tuple #[.agg #[.int .i64 (nv : Int), .slice A' n' k', .slice B' m' q'], .int .i64 (-1)]) (by simp [results, Tryd.results39, go_sem, d0, d1, d2]) rfl ?_
      unfold PrIs
      rw [HU.out]
      exact ⟨A', n', k', B', m', q', rfl, HP.out.out⟩

end Go.Proofs.YtecmldnigohjfaaDoor

namespace Go.Proofs.YtecmldnigohjfaaDoor
open Go Go.RowKit
set_option linter.unusedVariables false
set_option linter.unusedSimpArgs false

/-- what the reference's Run returns -/
def RrIs (v : Int) (t s : List Int) (at_ e : Int) (w : World) (en : Ending) (w' : World) : Prop := ∃ A n k B m q, en = .returned (.tuple #[asv v A n k B m q, .int .i64 at_, .int .i64 e]) ∧ Nw 0 w' A n k t B m q s ∧ Below w.heap.size w w'

set_option maxRecDepth 100000 in
set_option maxHeartbeats 10000000 in
theorem rrun_no (v : Int) (A : Option Addr) (t : List Int) (k : Nat) (B : Option Addr) (s : List Int) (q : Nat) (C : Option Addr) (L : List (List Int)) (kc : Nat) (w : World) (h : Ia w w.heap.size A t k) (hl : t.length ≤ 100000) (h' : Ia w w.heap.size B s q) (hl' : s.length ≤ 100000) (hc : Ill w w.heap.size C L kc) (hcl : L.length ≤ 100000) (hcr : ∀ c ∈ L, c.length ≤ 100000 ∧ ∀ x ∈ c, I64 x) (hE : cE v t s L ≠ 0) :
    Calls Tryd.prog 15 #[asv v A t.length k B s.length q, .slice C L.length kc] w (RrIs 0 [] [] 0 (cE v t s L) w) := by
  have H0 := Bx2.new w (.int .i64 v) (.slice A t.length k) (.slice B s.length q)
  have DC := rCheck14_any v A t k B s q (bx2 w (.int .i64 v) (.slice A t.length k) (.slice B s.length q)) (h.on H0.b) hl (h'.on H0.b) hl'
  have DW := fun (W : World) (hb : Below w.heap.size w W) => rWrong_any v C L kc W (hc.on hb) hcl hcr
  unfold bx2 at DC
  obtain ⟨n, hn⟩ : ∃ n, n = t.length := ⟨_, rfl⟩
  obtain ⟨m, hm⟩ : ∃ m, m = s.length := ⟨_, rfl⟩
  obtain ⟨nc, hnc⟩ : ∃ m, m = L.length := ⟨_, rfl⟩
  rw [← hn, ← hm] at H0 DC ⊢
  rw [← hnc] at DW ⊢
  by_cases ea : aE v t s = 0
  · have e0 : cE v t s L = (if 20000 < nc then 4 else wrE v L) := by unfold cE; rw [if_neg (by simpa using ea), hnc]
    rw [ea] at DC
    rw [e0] at hE ⊢
    generalize (if 20000 < nc then 4 else wrE v L) = u at DW hE ⊢
    have e2 : (u != 0) = true := by simpa using hE
    have HB := Lib.hid H0
    clear h hl h' hl' hc hcl hcr hn hm hnc H0 hE ea e0
    go_enter Tryd.func15, Tryd.ntmps15
    go_wp2_with (first
      | (go_at_call 21; (with_reducible refine DC.mono ?_); rintro e w1 ⟨rfl, hb1⟩
         have H1 := HB.out.on hb1
         obtain ⟨c0, c1, c2⟩ := H1.c
         have HB1 := Lib.hid H1
         clear H1 hb1)
      | (go_at_call 38; (with_reducible refine (DW _ HB1.out.b).mono ?_); rintro e w2 ⟨rfl, hb2⟩
         have H2 := HB1.out.on hb2
         obtain ⟨d0, d1, d2, f0, f1, f2⟩ := H2.d
         have HB2 := Lib.hid H2
         clear H2 hb2))
    refine bodyPost_ret (v := .tuple #[.agg #[.int .i64 0, .slice none 0 0, .slice none 0 0], .int .i64 0, .int .i64 u]) (by simp [results, Tryd.results15, go_sem, d0, d1, d2]) rfl ?_
    exact ⟨none, 0, 0, none, 0, 0, rfl, ⟨Ia.nil _ _, Ia.nil _ _, rfl, rfl, fun _ h => (by cases h), fun _ h => by cases h⟩, st3_below HB2.out.b (Nat.le_succ _) _ _ _⟩
  · have e0 : cE v t s L = aE v t s := if_pos ea
    rw [e0]
    generalize aE v t s = u at DC ea ⊢
    have e2 : (u != 0) = true := by simpa using ea
    have HB := Lib.hid H0
    clear h hl h' hl' hc hcl hcr hn hm hnc H0 hE ea e0 DW
    go_enter Tryd.func15, Tryd.ntmps15
    go_wp2_with (first
      | (go_at_call 21; (with_reducible refine DC.mono ?_); rintro e w2 ⟨rfl, hb2⟩
         have H2 := HB.out.on hb2
         obtain ⟨d0, d1, d2, f0, f1, f2⟩ := H2.d
         have HB2 := Lib.hid H2
         clear H2 hb2))
    refine bodyPost_ret (v := .tuple #[.agg #[.int .i64 0, .slice none 0 0, .slice none 0 0], .int .i64 0, .int .i64 u]) (by simp [results, Tryd.results15, go_sem, d0, d1, d2]) rfl ?_
    exact ⟨none, 0, 0, none, 0, 0, rfl, ⟨Ia.nil _ _, Ia.nil _ _, rfl, rfl, fun _ h => (by cases h), fun _ h => by cases h⟩, st3_below HB2.out.b (Nat.le_succ _) _ _ _⟩

set_option maxRecDepth 100000 in
set_option maxHeartbeats 10000000 in
theorem rrun_yes (v : Nat) (A : Option Addr) (t : List Int) (k : Nat) (B : Option Addr) (s : List Int) (q : Nat) (C : Option Addr) (L : List (List Int)) (kc : Nat) (w : World) (h : Ia w w.heap.size A t k) (hl : t.length ≤ 100000) (h' : Ia w w.heap.size B s q) (hl' : s.length ≤ 100000) (hc : Ill w w.heap.size C L kc) (hcl : L.length ≤ 100000) (hcr : ∀ c ∈ L, c.length ≤ 100000 ∧ ∀ x ∈ c, I64 x) (hE : cE (v : Int) t s L = 0) :
    Calls Tryd.prog 15 #[asv (v : Int) A t.length k B s.length q, .slice C L.length kc] w (RrIs (v : Int) (upR (v : Int) t L).1 s (upR (v : Int) t L).2 0 w) := by
  have H0 := Bx2.new w (.int .i64 (v : Int)) (.slice A t.length k) (.slice B s.length q)
  have DC := rCheck14_any (v : Int) A t k B s q (bx2 w (.int .i64 (v : Int)) (.slice A t.length k) (.slice B s.length q)) (h.on H0.b) hl (h'.on H0.b) hl'
  have DW := fun (W : World) (hb : Below w.heap.size w W) => rWrong_any (v : Int) C L kc W (hc.on hb) hcl hcr
  have DT := fun (W : World) (hb : Below w.heap.size w W) => twin14_any (v : Int) A t k B s q W (h.on hb) hl (h'.on hb) hl'
  unfold bx2 at DC
  obtain ⟨hO, hL2, hOC⟩ := cE_0.1 hE
  have hv : v ≤ 4000 := by have := hO.1; omega
  have ea : aE (v : Int) t s = 0 := aE_0.2 hO
  have e0 : cE (v : Int) t s L = (if 20000 < L.length then 4 else wrE (v : Int) L) := by unfold cE; rw [if_neg (by simpa using ea)]
  rw [e0] at hE
  rw [ea] at DC
  rw [hE] at DW
  have DP := fun (W : World) (hb : Below w.heap.size w W) (A' : Option Addr) (k' : Nat) (B' : Option Addr) (q' : Nat) (b0 : Nat) (hb0 : b0 ≤ W.heap.size) (hN : Nw b0 W A' t.length k' t B' s.length q' s) => rProp_any v hv A' t k' B' s q' C L kc W hN.ti hN.si hl' hO.2.1 (hc.on hb) hcl (fun c hm => ⟨hOC c hm, (hcr c hm).1⟩) b0 hb0 hN.ta hN.sa
  generalize hp : upR (v : Int) t L = p
  obtain ⟨n, hn⟩ : ∃ n, n = t.length := ⟨_, rfl⟩
  obtain ⟨m, hm⟩ : ∃ m, m = s.length := ⟨_, rfl⟩
  obtain ⟨nc, hnc⟩ : ∃ m, m = L.length := ⟨_, rfl⟩
  rw [← hn, ← hm] at H0 DC DP DT ⊢
  rw [← hnc] at DW DP ⊢
  unfold PrIs at DP
  rw [hp] at DP
  obtain ⟨p1, p2⟩ := p
  dsimp only at DP ⊢
  have HB := Lib.hid H0
  have HN := Lib.hid (And.intro hn hm)
  clear h hl h' hl' hc hcl hcr hn hm hnc H0 hE ea e0 hO hL2 hOC hv hp
  go_enter Tryd.func15, Tryd.ntmps15
  go_wp2_with (first
    | (go_at_call 21; (with_reducible refine DC.mono ?_); rintro e w1 ⟨rfl, hb1⟩
       have H1 := HB.out.on hb1
       obtain ⟨c0, c1, c2⟩ := H1.c
       have HB1 := Lib.hid H1
       clear H1 hb1)
    | (go_at_call 38; (with_reducible refine (DW _ HB1.out.b).mono ?_); rintro e w2 ⟨rfl, hb2⟩
       have H2 := HB1.out.on hb2
       obtain ⟨c20, c21, c22⟩ := H2.c
       have HB2 := Lib.hid H2
       clear H2 hb2)
    | (go_at_call 11; (with_reducible refine (DT _ HB2.out.b).mono ?_); rintro e w3 hT
       obtain ⟨A3, k3, B3, q3, rfl, hN3, hb3⟩ := hT.nw HN.out.1 HN.out.2
       have H3 := HB2.out.on hb3
       have D3 := DP _ H3.b A3 k3 B3 q3 _ hb3.size hN3
       have HB3 := Lib.hid H3
       clear hN3 hb3 H3)
    | (go_at_call 39; (with_reducible refine D3.mono ?_); rintro e w4 ⟨A4, n4, k4, B4, m4, q4, rfl, hN4, hb4⟩
       have hx4 := bx_on w4 (.cells #[.int .i64 (v : Int), .slice A4 n4 k4, .slice B4 m4 q4] 24)
       have H4 := (HB3.out.on hb4).on hx4
       obtain ⟨d0, d1, d2, f0, f1, f2⟩ := H4.d
       obtain ⟨z0, z1, z2⟩ := (Bs.new w4 (.int .i64 (v : Int)) (.slice A4 n4 k4) (.slice B4 m4 q4)).c
       have HB4 := Lib.hid (And.intro H4 (And.intro (hN4.on hx4) HB2.out.z))
       clear hN4 hb4 hx4 H4))
  refine bodyPost_ret (v := .tuple #[.agg #[.int .i64 (v : Int), .slice A4 n4 k4, .slice B4 m4 q4], .int .i64 p2, .int .i64 0]) (by simp [results, Tryd.results15, go_sem, d0, d1, d2]) rfl ?_
  exact ⟨A4, n4, k4, B4, m4, q4, rfl, (HB4.out.2.1.st3 (by have := HB4.out.2.2; omega) _ _ _).low (Nat.zero_le _), st3_below HB4.out.1.b (Nat.le_succ _) _ _ _⟩

/-- both, whatever the argument is -/
theorem aE_v {v : Int} {t s : List Int} {L : List (List Int)} (h : cE v t s L = 0) : 0 ≤ v := by
  have := (cE_0.1 h).1.1; omega
theorem run15_all (v : Int) (A : Option Addr) (t : List Int) (k : Nat) (B : Option Addr) (s : List Int) (q : Nat) (C : Option Addr) (L : List (List Int)) (kc : Nat) (w : World) (h : Ia w w.heap.size A t k) (hl : t.length ≤ 100000) (hr : ∀ x ∈ t, I64 x) (h' : Ia w w.heap.size B s q) (hl' : s.length ≤ 100000) (hc : Ill w w.heap.size C L kc) (hcl : L.length ≤ 100000) (hcr : ∀ c ∈ L, c.length ≤ 100000 ∧ ∀ x ∈ c, I64 x) (htab : Tab w.heap.size w) :
    Calls Tryd.prog 14 #[asv v A t.length k B s.length q, .slice C L.length kc] w (RuIs (rV v t s L) (rT v t s L) (rS v t s L) (rAt v t s L) (cE v t s L) w) := by
  by_cases hE : cE v t s L = 0
  · obtain ⟨nv, rfl⟩ : ∃ n : Nat, v = n := ⟨v.toNat, by have := aE_v hE; omega⟩
    rw [show rV (nv : Int) t s L = nv from if_pos hE, show rT (nv : Int) t s L = (upR (nv : Int) t L).1 from if_pos hE, show rS (nv : Int) t s L = s from if_pos hE, show rAt (nv : Int) t s L = (upR (nv : Int) t L).2 from if_pos hE, hE]
    exact urun_yes nv A t k B s q C L kc w h hl hr h' hl' hc hcl hcr htab hE
  · exact urun_no v A t k B s q C L kc w h hl hr h' hl' hc hcl hcr hE

theorem rrun_all (v : Int) (A : Option Addr) (t : List Int) (k : Nat) (B : Option Addr) (s : List Int) (q : Nat) (C : Option Addr) (L : List (List Int)) (kc : Nat) (w : World) (h : Ia w w.heap.size A t k) (hl : t.length ≤ 100000) (h' : Ia w w.heap.size B s q) (hl' : s.length ≤ 100000) (hc : Ill w w.heap.size C L kc) (hcl : L.length ≤ 100000) (hcr : ∀ c ∈ L, c.length ≤ 100000 ∧ ∀ x ∈ c, I64 x) :
    Calls Tryd.prog 15 #[asv v A t.length k B s.length q, .slice C L.length kc] w (RrIs (rV v t s L) (rT v t s L) (rS v t s L) (rAt v t s L) (cE v t s L) w) := by
  by_cases hE : cE v t s L = 0
  · obtain ⟨nv, rfl⟩ : ∃ n : Nat, v = n := ⟨v.toNat, by have := aE_v hE; omega⟩
    rw [show rV (nv : Int) t s L = nv from if_pos hE, show rT (nv : Int) t s L = (upR (nv : Int) t L).1 from if_pos hE, show rS (nv : Int) t s L = s from if_pos hE, show rAt (nv : Int) t s L = (upR (nv : Int) t L).2 from if_pos hE, hE]
    exact rrun_yes nv A t k B s q C L kc w h hl h' hl' hc hcl hcr hE
  · rw [show rV v t s L = 0 from if_neg hE, show rT v t s L = [] from if_neg hE, show rS v t s L = [] from if_neg hE, show rAt v t s L = 0 from if_neg hE]
    exact rrun_no v A t k B s q C L kc w h hl h' hl' hc hcl hcr hE

end Go.Proofs.YtecmldnigohjfaaDoor
