/- The contract of the reference's Cut of a run. -/
import Derived.Test.YtcbkpkdnmjlggaaTraceCut
import Derived.Test.YtcbkpkdnmjlggaaTraceRef4
namespace Go.Proofs.Ytcbkpkdnmjlggaa
open Go.RowKit
set_option linter.unusedVariables false
set_option linter.unusedSimpArgs false

section
variable {c : Cr} {p : Pl} {t : Tr} {q : Tp}
theorem Tr.cut_sm (hts : TSm t) {n : Nat} (hn : n ≤ t.ni) : TSm (t.cut n) := ⟨hts.nf, Nat.le_trans hn hts.ni, fun j hj => hts.ln j (Nat.lt_of_lt_of_le hj hn)⟩
set_option maxRecDepth 100000 in
set_option maxHeartbeats 4000000 in
theorem rCut_no (hk : c.tck t ≠ 0) (w : World) (h : RArg w w.heap.size c p t q) :
    Calls Try.prog 29 #[cv c p, tv t q] w (CutIs z0T (c.tck t) w) := by
  have h1 : (c.tck t != 0) = true := by simpa [bne] using hk
  have hB0 := ct3_b w c p t q
  clear hk
  go_enter Try.func29, Try.ntmps29
  go_wp2_with (first
    | (go_at_call 26; (with_reducible refine (rCheck6_any _ (h.to (ct3_b w c p t q) (ct3_z w c p t q))).mono ?_); rintro e w1 ⟨rfl, hb1⟩; obtain ⟨hB1, hA1, hT1, hZ1, hz1⟩ := ct3_k hb1; obtain ⟨x0, x1, x2, x3, x4⟩ := hA1.box; obtain ⟨y0, y1⟩ := hT1.tbox)
    | (go_at_call 26; (with_reducible refine (rCheck6_any w1 (h.to hB1 hB1.size)).mono ?_); rintro e w2 ⟨rfl, hb2⟩; have hB2 := Below.step hB1 hB1.size hb2; have hZ2 := hZ1.keep hb2 hZ1.lt; obtain ⟨z0, z1⟩ := (show w2.cell? ⟨w.heap.size + 1 + 1, 0, none⟩ = some (.slice none 0 0) ∧ w2.cell? ⟨w.heap.size + 1 + 1, 1, none⟩ = some (.slice none 0 0) from ⟨hZ2.cell 0, hZ2.cell 1⟩); have f0 := hZ2.fz 0; have f1 := hZ2.fz 1))
  refine bodyPost_ret (v := .tuple #[.agg #[.slice none 0 0, .slice none 0 0], .int .i64 (c.tck t)]) (by simp [results, Try.results29, go_sem, z0, z1]) rfl ⟨⟨none, 0, none, 0⟩, rfl, z0T_mem _ _, below_set2 hB2 (by omega) _ _⟩

theorem shows_at {m : Nat} {A : Option Addr} (hA : q.A2 = A) (hk : c.tck t = 0) {x : Int} (h0 : 0 < m) (hm : m ≤ t.ni) (hx : c.shw (t.cut m) = x) (w : World) (h : RArg w w.heap.size c p t q) :
    Calls Try.prog 47 #[cv c p, .agg #[.slice q.A1 t.nf q.k1, .slice A m q.k2]] w fun e w' => e = .returned (.int .i64 x) ∧ Below w.heap.size w w' := hA ▸
  rShows_at (t := t.cut m) (Cr.tck_cut hk h0 hm) hx w ⟨h.hm, h.hs, h.ht.cut h0 hm, Tr.cut_sm h.hts hm⟩
theorem twin_cut {m : Nat} {A : Option Addr} (hA : q.A2 = A) (h0 : 0 < m) (hm : m ≤ t.ni) (w : World) (h : RArg w w.heap.size c p t q) :
    Calls Try.prog 15 #[.agg #[.slice q.A1 t.nf q.k1, .slice A m q.k2]] w (RunIs (t.cut m) w) := hA ▸
  (twin6_any (t := t.cut m) w (h.ht.cut h0 hm) (Tr.cut_sm h.hts hm)).mono fun _ _ h => h.run

set_option maxRecDepth 100000 in
set_option maxHeartbeats 4000000 in
theorem rCut_yes (hk : c.tck t = 0) (w : World) (h : RArg w w.heap.size c p t q) :
    Calls Try.prog 29 #[cv c p, tv t q] w (CutIs (if 0 < c.cun t then t.cut (c.cun t) else z0T) (if 0 < c.cun t then 0 else 6) w) := by
  have hn0 := (Cr.tck_ok hk).2.1
  have hn1 := (Cr.tck_ok hk).2.2.1
  obtain ⟨U, hU⟩ : ∃ U, (if 0 < c.cun t then t.cut (c.cun t) else z0T) = U := ⟨_, rfl⟩
  obtain ⟨X, hX⟩ : ∃ X : Int, (if 0 < c.cun t then 0 else 6) = X := ⟨_, rfl⟩
  have HNO : Hid (c.cun t = 0 → U = z0T ∧ X = 6) := fun h => by rw [← hU, ← hX, h]; exact ⟨rfl, rfl⟩
  have HYES : Hid (∀ r, 0 < r → c.cun t = r → U = t.cut r ∧ X = 0) := fun r h0 h => by rw [← hU, ← hX, h]; exact ⟨if_pos h0, if_pos h0⟩
  have HEND : Hid ((∀ m, 0 < m → m ≤ t.ni → c.shw (t.cut m) < 0) → c.cun t = 0) := fun h => Cr.cun_none h
  have HHIT : Hid (∀ r, 0 < r → r ≤ t.ni → (∀ m, 0 < m → m < r → c.shw (t.cut m) < 0) → 0 ≤ c.shw (t.cut r) → c.cun t = r) := fun r h0 h1 h2 h3 => Cr.cun_first h0 h1 h2 h3
  rw [hU, hX]
  have HK := Lib.hid hk
  have hB0 := ct3_b w c p t q
  have hip := h.ht.ip
  have hc2 := h.ht.c2
  obtain ⟨a2, hA2, _⟩ := hip hn0
  have HA2 := Lib.hid hA2
  obtain ⟨n, hn⟩ : ∃ n, t.ni = n := ⟨_, rfl⟩
  have HN := Lib.hid hn
  rw [hn] at hn0 hn1 hc2
  clear hk hU hX hA2 hip hn
  go_enter Try.func29, Try.ntmps29
  go_wp2_with (first
    | (go_at_call 26; (with_reducible refine (rCheck6_ok HK.out _ (h.to (ct3_b w c p t q) (ct3_z w c p t q))).mono ?_); rintro e w1 ⟨rfl, hb1⟩; obtain ⟨hB1, hA1, hT1, hZ1, hz1⟩ := ct3_k hb1))
  clear hb1
  go_loopw [6] (fun i wr => ∃ m : Nat, 0 < m ∧ m ≤ n + 1 ∧ i = .int .i64 m ∧ Hid (∀ j, 0 < j → j < m → c.shw (t.cut j) < 0) ∧ Has wr w.heap.size 28 (cc c p) ∧ Has wr (w.heap.size + 1) 32 (tcs t q) ∧ Has wr (w.heap.size + 1 + 1) 32 #[.slice none 0 0, .slice none 0 0] ∧ Below w.heap.size w wr) (fun i _ => n + 1 - (intOf i).toNat)
  case atStart => exact ⟨1, Nat.one_pos, by omega, rfl, Lib.hid (fun j h0 hj => by omega), hA1, hT1, hZ1, hB1⟩
  case round =>
    clear hA1 hT1 hZ1 hB1
    obtain ⟨m, hm0, hm1, rfl, hL, hA, hT, hZ, hBr⟩ := hrel
    have hZl := hZ.lt
    have hAl := hA.lt
    have hTl := hT.lt
    obtain ⟨x0, x1, x2, x3, x4⟩ := hA.box
    obtain ⟨y0, y1⟩ := hT.tbox
    obtain ⟨z0, z1⟩ := (show wr.cell? ⟨w.heap.size + 1 + 1, 0, none⟩ = some (.slice none 0 0) ∧ wr.cell? ⟨w.heap.size + 1 + 1, 1, none⟩ = some (.slice none 0 0) from ⟨hZ.cell 0, hZ.cell 1⟩)
    rw [HN.out, HA2.out] at y1
    by_cases hlt : m ≤ n
    · have e1 : (m : Int) ≤ (n : Int) := by omega
      have e2 : (0 : Int) ≤ (m : Int) := by omega
      have e3 : (m : Int) ≤ (q.k2 : Int) := by omega
      have e4 : m ≤ q.k2 := by omega
      have hmt : m ≤ t.ni := by rw [HN.out]; exact hlt
      have HMT := Lib.hid hmt
      obtain ⟨x, hx⟩ : ∃ x, c.shw (t.cut m) = x := ⟨_, rfl⟩
      have HX := Lib.hid hx
      have hS0 : wr.drew.cell? ⟨w.heap.size + 1, 0, none⟩ = some (.slice q.A1 t.nf q.k1) ∧ wr.drew.cell? ⟨w.heap.size + 1, 1, none⟩ = some (.slice (some a2) n q.k2) := ⟨y0, y1⟩
      have hBd : Below w.heap.size w wr.drew := below_dn hBr 1
      have hAd : Has wr.drew w.heap.size 28 (cc c p) := hA
      have hTd : Has wr.drew (w.heap.size + 1) 32 (tcs t q) := hT
      have hZd : Has wr.drew (w.heap.size + 1 + 1) 32 #[.slice none 0 0, .slice none 0 0] := hZ
      clear hx hmt
      go_wp2
      refine wp_region_T (fun w' => w'.cell? ⟨w.heap.size + 1, 0, none⟩ = some (.slice q.A1 t.nf q.k1) ∧ w'.cell? ⟨w.heap.size + 1, 1, none⟩ = some (.slice (some a2) n q.k2)) 9 (by kernel_rfl) ?_
      (refine wpT_take 0 (v := ?_) rfl (by kernel_rfl) (by kernel_rfl) (by kernel_rfl) (by kernel_rfl) (fun _ _ _ h => h) rfl hS0 (fun w hS => ?_) ?_; rotate_left; focus (obtain ⟨j0, j1⟩ := hS; go_simp; rfl)); (refine wpT_take 1 (v := ?_) rfl (by kernel_rfl) (by kernel_rfl) (by kernel_rfl) (by kernel_rfl) (fun _ _ _ h => h) rfl hS0 (fun w hS => ?_) ?_; rotate_left; focus (obtain ⟨j0, j1⟩ := hS; go_simp; rfl)); (refine wpT_take 2 (v := ?_) rfl (by kernel_rfl) (by kernel_rfl) (by kernel_rfl) (by kernel_rfl) (fun _ _ _ h => h) rfl hS0 (fun w hS => ?_) ?_; rotate_left; focus (obtain ⟨j0, j1⟩ := hS; go_simp; rfl)); (refine wpT_take 3 (v := ?_) rfl (by kernel_rfl) (by kernel_rfl) (by kernel_rfl) (by kernel_rfl) (fun _ _ _ h => h) rfl hS0 (fun w hS => ?_) ?_; rotate_left; focus (obtain ⟨j0, j1⟩ := hS; go_simp; rfl)); (refine wpT_take 4 (v := ?_) rfl (by kernel_rfl) (by kernel_rfl) (by kernel_rfl) (by kernel_rfl) (fun _ _ _ h => h) rfl hS0 (fun w hS => ?_) ?_; rotate_left; focus (obtain ⟨j0, j1⟩ := hS; go_simp; rfl)); (refine wpT_take 5 (v := ?_) rfl (by kernel_rfl) (by kernel_rfl) (by kernel_rfl) (by kernel_rfl) (fun _ _ _ h => h) rfl hS0 (fun w hS => ?_) ?_; rotate_left; focus (obtain ⟨j0, j1⟩ := hS; go_simp; rfl)); (refine wpT_take 6 (v := ?_) rfl (by kernel_rfl) (by kernel_rfl) (by kernel_rfl) (by kernel_rfl) (fun _ _ _ h => h) rfl hS0 (fun w hS => ?_) ?_; rotate_left; focus (obtain ⟨j0, j1⟩ := hS; go_simp; rfl))
      refine wpT_one 7 (by kernel_rfl) (wpOp_go rfl rfl fun K hK => ?_)
      go_simp
      refine hK _ _ ⟨fun _ => ⟨ca hS0.1 _, ca hS0.2 _⟩, ?_⟩
      refine wpT_one 8 (by kernel_rfl) (wpOp_go rfl rfl fun K hK => ?_)
      go_simp
      refine hK _ _ ⟨fun _ => ⟨ca hS0.1 _, ca hS0.2 _⟩, ?_⟩
      refine wpT_done (by kernel_rfl) (NoPanic.normal ?_) _
      have hX5 : Has (wr.alloc (.cells #[.slice q.A1 t.nf q.k1, .slice (some a2) m q.k2] 32)).drew wr.heap.size 32 #[.slice q.A1 t.nf q.k1, .slice (some a2) m q.k2] := Has.new wr _ _
      have hA5 : Has (wr.alloc (.cells #[.slice q.A1 t.nf q.k1, .slice (some a2) m q.k2] 32)).drew w.heap.size 28 (cc c p) := hA.al (.cells #[.slice q.A1 t.nf q.k1, .slice (some a2) m q.k2] 32)
      have hT5 : Has (wr.alloc (.cells #[.slice q.A1 t.nf q.k1, .slice (some a2) m q.k2] 32)).drew (w.heap.size + 1) 32 (tcs t q) := hT.al (.cells #[.slice q.A1 t.nf q.k1, .slice (some a2) m q.k2] 32)
      have hZ5 : Has (wr.alloc (.cells #[.slice q.A1 t.nf q.k1, .slice (some a2) m q.k2] 32)).drew (w.heap.size + 1 + 1) 32 #[.slice none 0 0, .slice none 0 0] := hZ.al (.cells #[.slice q.A1 t.nf q.k1, .slice (some a2) m q.k2] 32)
      have hB5 : Below w.heap.size w (wr.alloc (.cells #[.slice q.A1 t.nf q.k1, .slice (some a2) m q.k2] 32)).drew := below_dn (hBr.alloc hBr.size (.cells #[.slice q.A1 t.nf q.k1, .slice (some a2) m q.k2] 32)) 1
      obtain ⟨W5, hW5⟩ : ∃ W5, (wr.alloc (.cells #[.slice q.A1 t.nf q.k1, .slice (some a2) m q.k2] 32)).drew = W5 := ⟨_, rfl⟩
      rw [hW5] at hX5 hA5 hT5 hZ5 hB5 ⊢
      clear hW5 hS0 hK x0 x1 x2 x3 x4 y0 y1 z0 z1
      obtain ⟨x0, x1, x2, x3, x4⟩ := hA5.box
      have u0 : W5.cell? ⟨wr.heap.size, 0, none⟩ = some (.slice q.A1 t.nf q.k1) := hX5.cell 0
      have u1 : W5.cell? ⟨wr.heap.size, 1, none⟩ = some (.slice (some a2) m q.k2) := hX5.cell 1
      by_cases hx0 : x < 0
      · have e5 : ¬ (0 ≤ x) := by omega
        go_wp2_with (first
          | (go_at_call 47; (with_reducible refine (shows_at HA2.out HK.out hm0 HMT.out HX.out W5 (h.to hB5 hB5.size)).mono ?_); rintro e w6 ⟨rfl, hb6⟩))
        go_roundw
        case rel => exact ⟨m + 1, by omega, by omega, by go_num, Lib.hid (fun j h0 hj => by
          rcases Nat.lt_succ_iff_lt_or_eq.1 hj with h' | h'
          · exact hL.out j h0 h'
          · subst h'; rw [HX.out]; exact hx0), hA5.keep hb6 hA5.lt, hT5.keep hb6 hT5.lt, hZ5.keep hb6 hZ5.lt, Below.step hB5 hB5.size hb6⟩
        case measure => simp [intOf]; omega
      · have e5 : 0 ≤ x := by omega
        obtain ⟨rfl, rfl⟩ := HYES.out m hm0 (HHIT.out m hm0 HMT.out hL.out (by rw [HX.out]; exact e5))
        clear hx0
        go_wp2_with (first
          | (go_at_call 47; (with_reducible refine (shows_at HA2.out HK.out hm0 HMT.out HX.out W5 (h.to hB5 hB5.size)).mono ?_); rintro e w6 ⟨rfl, hb6⟩
             have hB6 := Below.step hB5 hB5.size hb6
             have hX6 := hX5.keep hb6 hX5.lt
             have hZ6 := hZ5.keep hb6 hZ5.lt
             have v0 : w6.cell? ⟨wr.heap.size, 0, none⟩ = some (.slice q.A1 t.nf q.k1) := hX6.cell 0
             have v1 : w6.cell? ⟨wr.heap.size, 1, none⟩ = some (.slice (some a2) m q.k2) := hX6.cell 1)
          | (go_at_call 15; (with_reducible refine (twin_cut HA2.out hm0 HMT.out w6 (h.to hB6 hB6.size)).mono ?_); rintro e w7 ⟨q7, rfl, hN7, hb7⟩
             have hB7 := Below.step hB6 hB6.size hb7
             have hZ7 := hZ6.keep hb7 hZ6.lt
             have hl6 := hZ6.lt
             obtain ⟨z0, z1⟩ := (show w7.cell? ⟨w.heap.size + 1 + 1, 0, none⟩ = some (.slice none 0 0) ∧ w7.cell? ⟨w.heap.size + 1 + 1, 1, none⟩ = some (.slice none 0 0) from ⟨hZ7.cell 0, hZ7.cell 1⟩)
             have f0 := hZ7.fz 0
             have f1 := hZ7.fz 1))
        refine bodyPost_ret (v := .tuple #[tv (t.cut m) q7, .int .i64 0]) (by simp [results, Try.results29, go_sem, z0, z1]) rfl ⟨q7, rfl, ((hN7.set (by omega) 0 _).set (by omega) 1 _).mem, below_set2 hB7 (by omega) _ _⟩
    · have e1 : ¬ ((m : Int) ≤ (n : Int)) := by omega
      have f0 := hZ.fz 0
      have f1 := hZ.fz 1
      obtain ⟨rfl, rfl⟩ := HNO.out (HEND.out fun j h0 hj => hL.out j h0 (by have := HN.out; omega))
      clear hlt
      go_wp2
      refine bodyPost_ret (v := .tuple #[.agg #[.slice none 0 0, .slice none 0 0], .int .i64 6]) (by simp [results, Try.results29, go_sem, z0, z1]) rfl ⟨⟨none, 0, none, 0⟩, rfl, z0T_mem _ _, below_set2 hBr (by omega) _ _⟩
theorem rCut_any (w : World) (h : RArg w w.heap.size c p t q) :
    Calls Try.prog 29 #[cv c p, tv t q] w (CutIs (c.cutT t) (c.cutE t) w) := by
  by_cases hk : c.tck t = 0
  · have e1 : c.cutT t = if 0 < c.cun t then t.cut (c.cun t) else z0T := by
      unfold Cr.cutT
      by_cases h0 : 0 < c.cun t
      · rw [if_pos ⟨hk, h0⟩, if_pos h0]
      · rw [if_neg fun h => h0 h.2, if_neg h0]
    have e2 : c.cutE t = if 0 < c.cun t then 0 else 6 := if_pos hk
    rw [e1, e2]
    exact rCut_yes hk w h
  · have e1 : c.cutT t = z0T := if_neg fun h => hk h.1
    have e2 : c.cutE t = c.tck t := if_neg hk
    rw [e1, e2]
    exact rCut_no hk w h
theorem cutT_sm (hts : TSm t) : TSm (c.cutT t) := by
  unfold Cr.cutT
  split
  · refine Tr.cut_sm hts ?_
    unfold Cr.cun
    split
    · rename_i h; omega
    · exact Nat.zero_le _
  · exact ⟨Nat.zero_le _, Nat.zero_le _, fun j hj => absurd hj (Nat.not_lt_zero _)⟩
end
