/- The contracts of the reference of traces: All, States, Allowed, Right, Shows, Witness; and of layer 4's Bad. -/
import Derived.Test.YtnkpmcpinicciabTraceRef2
import Derived.Test.YtnkpmcpinicciabTraceProps
namespace Go.Proofs.Ytnkpmcpinicciab
open Go.RowKit
set_option linter.unusedVariables false
set_option linter.unusedSimpArgs false

section
variable {c : Cr} {p : Pl} {As At : Option Addr} {ns ks ni ki : Nat} {s t : Nat → Bool}

end

/-- a list of lists that a call returns -/
def RowsRet (n : Nat) (L : Nat → Nat) (f : Nat → Nat → Bool) (w : World) (e : Ending) (w' : World) : Prop :=
  ∃ A k, e = .returned (.slice A n k) ∧ RowsAt w' w'.heap.size A n L f ∧ (n ≤ k ∧ k ≤ maxLen) ∧ Below w.heap.size w w'

section
variable {c : Cr} {p : Pl} {t : Tr} {q : Tp}

theorem after_at (hc : c.chk = 0) {As At : Option Addr} {ns ks ni ki : Nat} {s u : Nat → Bool} (h1 : ns = c.nl) (h2 : (ni : Int) = c.i) (w : World) (h : Arg w w.heap.size c p As ns ks s At ni ki u) :
    Calls Try.prog 54 #[cv c p, .slice As ns ks, .slice At ni ki] w (BoolsIn c.nl (c.nv s u) w) := rAfter_new (Cr.ask_ok hc h1 h2) w h

theorem holds_at (hc : c.chk = 0) {As At : Option Addr} {ns ks ni ki : Nat} {s u : Nat → Bool} {b : Bool} (hb : c.hol s u = b) (h1 : ns = c.nl) (h2 : (ni : Int) = c.i) (w : World) (h : Arg w w.heap.size c p As ns ks s At ni ki u) :
    Calls Try.prog 55 #[cv c p, .slice As ns ks, .slice At ni ki] w fun e w' => e = .returned (.bool b) ∧ Below w.heap.size w w' := hb ▸ rHolds_any (Cr.ask_ok hc h1 h2) w h

set_option maxRecDepth 100000 in
set_option maxHeartbeats 4000000 in
theorem rAll6_any (hk : c.tck t = 0) {n : Nat} (hn : t.ni = n) {F : Nat → Nat → Bool} (hF : c.sts t = F) (w : World) (h : RArg w w.heap.size c p t q) :
    Calls Try.prog 41 #[cv c p, tv t q] w (RowsRet n (fun _ => c.nl) F w) := by
  obtain ⟨hc, hn0, hn1, hnf, hst, hln⟩ := Cr.tck_ok hk
  have hs := h.hs
  have g1 := hs.nl
  have hi := Cr.chk_i (c := c) (by simpa using hc) hs
  have hip := h.ht.ip
  have hfi := h.ht.fi
  have hnil := h.ht.n1
  have hF0 : F 0 = t.fi := by rw [← hF]; rfl
  have hFs : ∀ j, F (j + 1) = c.nv (F j) (t.ip j) := fun j => by rw [← hF]; rfl
  rw [hn] at hn0 hn1 hln hip
  obtain ⟨a2, hA2, ha2, hr2⟩ := hip hn0
  have HC := Lib.hid hc
  have HL := Lib.hid hln
  have HI := Lib.hid hr2
  have HN := Lib.hid hn
  have H0 := Lib.hid hF0
  have HFS := Lib.hid hFs
  have HA2 := Lib.hid hA2
  have HNF := Lib.hid hnf
  have HX0 : Hid (Has ((ctW w c p t q).alloc (.cells #[] 4)) (w.heap.size + 1 + 1) 4 #[]) := Has.new' _ _ (by simp)
  have hB0 := (ct_b w c p t q).alloc (ct_z w c p t q) (.cells #[] 4)
  have hc0 := (ct_c w c p t q).al (.cells #[] 4)
  have ht0 := (ct_t w c p t q).al (.cells #[] 4)
  clear hc hst hln hk hr2 hF hFs hF0 hip hn hnf hA2
  go_enter Try.func41, Try.ntmps41
  go_wp2_with (first
    | (at_builtin; (refine append_new rfl (.tmp 7) (.tmp 9) rfl (w.heap.size + 1 + 1) rfl HX0.out q.A1 t.nf q.k1 t.fi rfl (hfi.to hB0 hB0.size) hnil (by have := HNF.out; omega) ?_); intro A k w2 hi2 hn2 hf2 hg2 _; have hA2 := hc0.grow hg2 (by omega); have hT2 := ht0.grow hg2 (by omega); have hB2 := hB0.grown hg2 hB0.size (fun k hk => by cases hk; omega)))
  have hG2 : Grid (w2.alloc (.cells #[.slice A t.nf k] 29)) w2.heap.size (.slice (some ⟨w2.heap.size, 0, none⟩) 1 1) 1 (fun _ => c.nl) F none := by rw [HNF.out] at hi2 hn2 ⊢; exact Grid.one (L := fun _ => c.nl) (f := F) (Nat.le_refl _) (by rw [H0.out]; exact hi2) hn2
  have hX2 : Has (w2.alloc (.cells #[.slice A t.nf k] 29)) w.heap.size 28 (cc c p) := hA2.al _
  have hV2 : Has (w2.alloc (.cells #[.slice A t.nf k] 29)) (w.heap.size + 1) 32 (tcs t q) := hT2.al _
  have hY2 : Below w.heap.size w (w2.alloc (.cells #[.slice A t.nf k] 29)) := hB2.alloc hB2.size _
  have hz2 := hT2.lt
  clear hA2 hT2 hB2 hi2 hn2 hf2 hg2 hB0 hc0 ht0
  go_loopw [5, 6] (fun v i wr => ∃ r : Nat, r < n ∧ i = .int .i64 r ∧ Grid wr w2.heap.size v (r + 1) (fun _ => c.nl) F none ∧ Has wr w.heap.size 28 (cc c p) ∧ Has wr (w.heap.size + 1) 32 (tcs t q) ∧ Below w.heap.size w wr) (fun _ i _ => n - (intOf i).toNat)
  case atStart => exact ⟨0, hn0, rfl, hG2, hX2, hV2, hY2⟩
  case round =>
    clear hG2 hX2 hV2 hY2
    obtain ⟨r, hr, rfl, hG, hX, hT, hBr⟩ := hrel
    obtain ⟨x0, x1, x2, x3, x4⟩ := hX.box
    obtain ⟨z0, z1⟩ := hT.tbox
    rw [HN.out, HA2.out] at z1
    obtain ⟨N, hN⟩ : ∃ N, N = r + 1 := ⟨_, rfl⟩
    rw [← hN] at hG
    have HNN := Lib.hid hN
    by_cases hlt : N < n
    · obtain ⟨A', k', y0, hy, hyn⟩ := HI.out r (by omega)
      have y0 : wr.cell? (a2.add r) = some (.slice A' (t.ln r) k') := (hBr.cell (by rw [add_block]; exact ha2)).trans y0
      have hy := hy.to hBr hBr.size
      obtain ⟨g, kk, A'', k'', rfl, u0, hu, hun⟩ := hG.row (j := r) (by omega)
      have hq0 : (0 : Int) ≤ (r : Int) := by omega
      have hq1 : (r : Int) < (n : Int) := by omega
      have hq2 : (r : Int) < (N : Int) := by omega
      have hq3 : (r : Int) + 1 < (n : Int) := by omega
      have hl := HL.out r (by omega)
      have HLr := Lib.hid hl
      have hBd : Below w.heap.size w wr.drew := below_dn hBr 1
      have hgd : Arg wr.drew wr.drew.heap.size c p A'' c.nl k'' (F r) A' (t.ln r) k' (t.ip r) := ⟨h.hm.to hBd hBd.size, hs, hu, hy, hun, hyn, by omega, by omega⟩
      have hGd : Grid wr.drew w2.heap.size (.slice (some ⟨g, 0, none⟩) N kk) N (fun _ => c.nl) F none := ⟨hG.ex⟩
      have hXd : Has wr.drew w.heap.size 28 (cc c p) := hX
      have hTd : Has wr.drew (w.heap.size + 1) 32 (tcs t q) := hT
      have hS0 : CS w.heap.size c p ⟨g, r, none⟩ (.slice A'' c.nl k'') wr.drew ∧ wr.drew.cell? ⟨w.heap.size + 1, 1, none⟩ = some (.slice (some a2) n q.k2) ∧ wr.drew.cell? (a2.add r) = some (.slice A' (t.ln r) k') := ⟨cs_of hXd u0, z1, y0⟩
      have HS1 := Lib.hid hS0
      clear hl hu hy hun hyn hN
      go_wp2
      refine wp_region_T (fun w' => CS w.heap.size c p ⟨g, r, none⟩ (.slice A'' c.nl k'') w' ∧ w'.cell? ⟨w.heap.size + 1, 1, none⟩ = some (.slice (some a2) n q.k2) ∧ w'.cell? (a2.add r) = some (.slice A' (t.ln r) k')) 14 (by kernel_rfl) ?_
      (refine wpT_take 0 (v := ?_) rfl (by kernel_rfl) (by kernel_rfl) (by kernel_rfl) (by kernel_rfl) (fun _ _ _ h => h) rfl hS0 (fun w hS => ?_) ?_; rotate_left; focus (obtain ⟨⟨j0, j1, j2, j3, j4, j5⟩, j6, j7⟩ := hS; go_simp; rfl)); (refine wpT_take 1 (v := ?_) rfl (by kernel_rfl) (by kernel_rfl) (by kernel_rfl) (by kernel_rfl) (fun _ _ _ h => h) rfl hS0 (fun w hS => ?_) ?_; rotate_left; focus (obtain ⟨⟨j0, j1, j2, j3, j4, j5⟩, j6, j7⟩ := hS; go_simp; rfl)); (refine wpT_take 2 (v := ?_) rfl (by kernel_rfl) (by kernel_rfl) (by kernel_rfl) (by kernel_rfl) (fun _ _ _ h => h) rfl hS0 (fun w hS => ?_) ?_; rotate_left; focus (obtain ⟨⟨j0, j1, j2, j3, j4, j5⟩, j6, j7⟩ := hS; go_simp; rfl)); (refine wpT_take 3 (v := ?_) rfl (by kernel_rfl) (by kernel_rfl) (by kernel_rfl) (by kernel_rfl) (fun _ _ _ h => h) rfl hS0 (fun w hS => ?_) ?_; rotate_left; focus (obtain ⟨⟨j0, j1, j2, j3, j4, j5⟩, j6, j7⟩ := hS; go_simp; rfl)); (refine wpT_take 4 (v := ?_) rfl (by kernel_rfl) (by kernel_rfl) (by kernel_rfl) (by kernel_rfl) (fun _ _ _ h => h) rfl hS0 (fun w hS => ?_) ?_; rotate_left; focus (obtain ⟨⟨j0, j1, j2, j3, j4, j5⟩, j6, j7⟩ := hS; go_simp; rfl)); (refine wpT_take 5 (v := ?_) rfl (by kernel_rfl) (by kernel_rfl) (by kernel_rfl) (by kernel_rfl) (fun _ _ _ h => h) rfl hS0 (fun w hS => ?_) ?_; rotate_left; focus (obtain ⟨⟨j0, j1, j2, j3, j4, j5⟩, j6, j7⟩ := hS; go_simp; rfl)); (refine wpT_take 6 (v := ?_) rfl (by kernel_rfl) (by kernel_rfl) (by kernel_rfl) (by kernel_rfl) (fun _ _ _ h => h) rfl hS0 (fun w hS => ?_) ?_; rotate_left; focus (obtain ⟨⟨j0, j1, j2, j3, j4, j5⟩, j6, j7⟩ := hS; go_simp; rfl)); (refine wpT_take 7 (v := ?_) rfl (by kernel_rfl) (by kernel_rfl) (by kernel_rfl) (by kernel_rfl) (fun _ _ _ h => h) rfl hS0 (fun w hS => ?_) ?_; rotate_left; focus (obtain ⟨⟨j0, j1, j2, j3, j4, j5⟩, j6, j7⟩ := hS; go_simp; rfl)); (refine wpT_take 8 (v := ?_) rfl (by kernel_rfl) (by kernel_rfl) (by kernel_rfl) (by kernel_rfl) (fun _ _ _ h => h) rfl hS0 (fun w hS => ?_) ?_; rotate_left; focus (obtain ⟨⟨j0, j1, j2, j3, j4, j5⟩, j6, j7⟩ := hS; go_simp; rfl)); (refine wpT_take 9 (v := ?_) rfl (by kernel_rfl) (by kernel_rfl) (by kernel_rfl) (by kernel_rfl) (fun _ _ _ h => h) rfl hS0 (fun w hS => ?_) ?_; rotate_left; focus (obtain ⟨⟨j0, j1, j2, j3, j4, j5⟩, j6, j7⟩ := hS; go_simp; rfl)); (refine wpT_take 10 (v := ?_) rfl (by kernel_rfl) (by kernel_rfl) (by kernel_rfl) (by kernel_rfl) (fun _ _ _ h => h) rfl hS0 (fun w hS => ?_) ?_; rotate_left; focus (obtain ⟨⟨j0, j1, j2, j3, j4, j5⟩, j6, j7⟩ := hS; go_simp; rfl))
      refine wpT_one 11 (by kernel_rfl) (wpOp_go rfl rfl fun K hK => ?_)
      go_simp
      go_at_call 54
      (with_reducible refine (after_at HC.out rfl HLr.out wr.drew hgd).mono ?_)
      rintro e w5 ⟨A5, k5, rfl, hi5, hb5, hn5, hf5⟩
      have hB5 := Below.step hBd hBd.size hb5
      have hG5 := hGd.call hb5
      have hX5 := hXd.keep hb5 hXd.lt
      have hT5 := hTd.keep hb5 hTd.lt
      have hz5 := hT5.lt
      have hap := hGd.apart (m := c.nl) hf5 (E := none) (fun g hg => by cases hg)
      refine hK _ _ ⟨fun _ => ⟨HS1.out.1.keep hb5, (hb5.cell (cell_lt HS1.out.2.1)).trans HS1.out.2.1, (hb5.cell (cell_lt HS1.out.2.2)).trans HS1.out.2.2⟩, ?_⟩
      refine wpT_one 12 (by kernel_rfl) (wpOp_go rfl rfl fun K hK => ?_)
      go_simp
      have hS5 : CS w.heap.size c p ⟨g, r, none⟩ (.slice A'' c.nl k'') (w5.alloc (.cells #[.slice A5 c.nl k5] 29)) ∧ (w5.alloc (.cells #[.slice A5 c.nl k5] 29)).cell? ⟨w.heap.size + 1, 1, none⟩ = some (.slice (some a2) n q.k2) ∧ (w5.alloc (.cells #[.slice A5 c.nl k5] 29)).cell? (a2.add r) = some (.slice A' (t.ln r) k') := by
        have hbb := hb5.alloc hb5.size (.cells #[.slice A5 c.nl k5] 29)
        exact ⟨HS1.out.1.keep hbb, (hbb.cell (cell_lt HS1.out.2.1)).trans HS1.out.2.1, (hbb.cell (cell_lt HS1.out.2.2)).trans HS1.out.2.2⟩
      refine hK _ _ ⟨fun _ => hS5, ?_⟩
      refine wpT_one 13 (by kernel_rfl) (wpOp_go rfl rfl fun K hK => ?_)
      refine wp_append_row _ _ (by rfl) w2.heap.size _ N (fun _ => c.nl) F none (by rfl) (hG5.al _) w5.heap.size 1 A5 k5 (by rfl) ((Has.new w5 29 #[.slice A5 c.nl k5]).cell 0) (by rw [HNN.out, HFS.out]; exact hi5.to ((Below.refl _ _).alloc (Nat.le_refl _) _) (by simp)) hn5 hap (by omega) (by have := hGd.lt (g := g) rfl; have := hb5.size; simp; omega) ?_
      intro g8 k8 w8 hG8 hg8 hl8 hkp8
      have hX8 := (hG5.al (.cells #[.slice A5 c.nl k5] 29)).has (hX5.al _) hg8 (by omega)
      have hT8 := (hG5.al (.cells #[.slice A5 c.nl k5] 29)).has (hT5.al _) hg8 (by omega)
      have hB8 := (hG5.al (.cells #[.slice A5 c.nl k5] 29)).below (hB5.alloc hB5.size _) (by simp; omega) (by omega) hg8
      refine hK _ _ ⟨fun _ => ⟨cs_of hX8 ((hkp8 g rfl r (by have := HNN.out; omega)).trans hS5.1.2.2.2.2.2), by rw [← HA2.out, ← HN.out]; exact hT8.tbox.2, (hg8.cell_far _ (by rw [add_block]; have := hz5; have := hB5.size; simp; omega) (by rw [add_block]; intro e; have := (hGd.lt e.symm).1; omega)).trans hS5.2.2⟩, ?_⟩
      refine wpT_one 14 (by kernel_rfl) (wpOp_go rfl rfl fun K hK => ?_)
      go_simp
      refine hK _ _ ⟨fun h => absurd h (by decide), ?_⟩
      refine wpT_done (by kernel_rfl) (NoPanic.normal ?_) _
      go_wp2
      go_roundw
      case rel => exact ⟨r + 1, by have := HNN.out; omega, by go_num, by rw [HNN.out] at hG8 ⊢; exact hG8, hX8, hT8, hB8⟩
      case measure => have := HNN.out; simp [intOf]; omega
    · have hNn : N = n := by omega
      have hq3 : ¬ ((r : Int) + 1 < (n : Int)) := by omega
      rw [hNn] at hG
      clear hlt hN hNn
      go_wp2
      go_ret
      obtain ⟨A', k', rfl, hi', _, hcap, _⟩ := hG.at
      exact ⟨A', k', rfl, hi', hcap, hBr⟩

end
