/- The contract of traces.States. -/
import Derived.Test.YtpobkemgbbgolaaTraceOf2
namespace Go.Proofs.Ytpobkemgbbgolaa
open Go.RowKit
set_option linter.unusedVariables false
set_option linter.unusedSimpArgs false

/-- a list of lists, and an error -/
def RowsErr (n : Nat) (L : Nat → Nat) (f : Nat → Nat → Bool) (x : Int) (w : World) (e : Ending) (w' : World) : Prop :=
  ∃ A k, e = .returned (.tuple #[.slice A n k, .int .i64 x]) ∧ RowsAt w' w'.heap.size A n L f ∧ (n ≤ k ∧ k ≤ maxLen) ∧ Below w.heap.size w w'
/-- how many states there are -/
def Cr.tn (c : Cr) (t : Tr) : Nat := if c.tck t = 0 then t.ni else 0
theorem rowsNil {w : World} {B : Nat} {A : Option Addr} {L : Nat → Nat} {f : Nat → Nat → Bool} : RowsAt w B A 0 L f := fun h => absurd h (Nat.not_lt_zero _)
/-- a list of one list that a call has just laid -/
theorem Grid.one {w : World} {base : Nat} {A : Option Addr} {k : Nat} {L : Nat → Nat} {f : Nat → Nat → Bool} (hb : base ≤ w.heap.size) (hA : BlsAt w w.heap.size A (L 0) (f 0)) (hN : A = none → L 0 = 0 ∧ k = 0) : Grid (w.alloc (.cells #[.slice A (L 0) k] 29)) base (.slice (some ⟨w.heap.size, 0, none⟩) 1 1) 1 L f none := by
  refine ⟨⟨_, own_new1 w (.slice A (L 0) k) 29 base hb, fun j hj => ?_⟩⟩
  obtain rfl : j = 0 := by omega
  refine ⟨A, k, rfl, hA.to ((Below.refl _ _).alloc (Nat.le_refl _) _) (by simp), hN, fun hm a ha => ⟨fun e => ?_, by simp, Nat.zero_le _⟩⟩
  obtain ⟨a', ea, hl, _⟩ := hA hm
  rw [ha] at ea
  cases ea
  have e : a.block = w.heap.size := by simpa [Value.ownBlock] using e
  omega

section
variable {c : Cr} {p : Pl} {t : Tr} {q : Tp}
set_option maxRecDepth 100000 in
set_option maxHeartbeats 2000000 in
theorem states_no (hk : c.tck t ≠ 0) (w : World) (h : RArg w w.heap.size c p t q) :
    Calls Try.prog 4 #[cv c p, tv t q] w (RowsErr (c.tn t) (fun _ => c.nl) (c.sts t) (c.tck t) w) := by
  have h1 : (c.tck t != 0) = true := by simpa [bne] using hk
  have HF := Lib.hid (show c.tn t = 0 from if_neg hk)
  rw [HF.out]
  clear HF hk
  go_enter Try.func4, Try.ntmps4
  go_wp2_with (first
    | (go_at_call 10; (with_reducible refine (check_any _ (h.to (ct_b w c p t q) (ct_z w c p t q))).mono ?_); rintro e w1 ⟨rfl, hb1⟩; obtain ⟨hB1, hA1, hT1, hz1⟩ := ct_k hb1))
  go_ret2
  exact ⟨none, 0, rfl, rowsNil, ⟨Nat.le_refl _, Nat.zero_le _⟩, hB1⟩

theorem check_ok (hk : c.tck t = 0) (w : World) (h : RArg w w.heap.size c p t q) :
    Calls Try.prog 10 #[cv c p, tv t q] w fun e w' => e = .returned (.int .i64 0) ∧ Below w.heap.size w w' := by
  have := check_any w h
  rwa [hk] at this
theorem next_at (hc : c.chk = 0) {As At : Option Addr} {ns ks ni ki : Nat} {s u : Nat → Bool} (h1 : ns = c.nl) (h2 : (ni : Int) = c.i) (w : World) (h : Arg w w.heap.size c p As ns ks s At ni ki u) :
    Calls Try.prog 16 #[cv c p, .slice As ns ks, .slice At ni ki] w (BoolsNew c.nl (c.nv s u) 0 w) := next_new (Cr.ask_ok hc h1 h2) w h

set_option maxRecDepth 100000 in
set_option maxHeartbeats 4000000 in
theorem states_yes (hk : c.tck t = 0) (w : World) (h : RArg w w.heap.size c p t q) :
    Calls Try.prog 4 #[cv c p, tv t q] w (RowsErr t.ni (fun _ => c.nl) (c.sts t) 0 w) := by
  obtain ⟨hc, hn0, hn1, hnf, hst, hln⟩ := Cr.tck_ok hk
  have hs := h.hs
  have g1 := hs.nl
  have hi := Cr.chk_i (c := c) (by simpa using hc) hs
  have hip := h.ht.ip
  have hc2 := h.ht.c2
  have hfi := h.ht.fi
  have hnf1 := h.hts.nf
  obtain ⟨nf, fi, ni, ln, ip⟩ := t
  obtain ⟨A1, k1, A2, k2⟩ := q
  obtain ⟨F, hF⟩ : ∃ F, c.sts ⟨nf, fi, ni, ln, ip⟩ = F := ⟨_, rfl⟩
  have hF0 : F 0 = fi := by rw [← hF]; rfl
  have hFs : ∀ j, F (j + 1) = c.nv (F j) (ip j) := fun j => by rw [← hF]; rfl
  dsimp only at hn0 hn1 hnf hst hln hip hc2 hfi hnf1
  obtain ⟨m, rfl⟩ : ∃ m, ni = m + 1 := ⟨ni - 1, by omega⟩
  obtain ⟨a2, rfl, ha2, hr2⟩ := hip hn0
  have HK := Lib.hid hk
  have HC := Lib.hid hc
  have HL := Lib.hid hln
  have H0 := Lib.hid hF0
  have HFS := Lib.hid hFs
  have HR := Lib.hid hr2
  subst hnf
  have hm1 : m ≤ 99 := by omega
  have hmk : m ≤ k2 := by omega
  have e1 : ((m + 1 : Nat) : Int) - 1 = (m : Int) := by omega
  rw [hF]
  clear hc hn0 hn1 hst hln hk hr2 hF hF0 hFs hip
  have hW := h.to (ct_b w c p ⟨c.nl, fi, m + 1, ln, ip⟩ ⟨A1, k1, some a2, k2⟩) (ct_z w c p ⟨c.nl, fi, m + 1, ln, ip⟩ ⟨A1, k1, some a2, k2⟩)
  go_enter Try.func4, Try.ntmps4
  go_wp2_with (first
    | (go_at_call 10; (with_reducible refine (check_ok HK.out _ hW).mono ?_); rintro e w1 ⟨rfl, hb1⟩; obtain ⟨hB1, hA1, hT1, hz1⟩ := ct_k hb1; obtain ⟨z0, z1⟩ := hT1.tbox; try dsimp only at z0 z1)
    | (go_at_call 15; (with_reducible refine (copied_any A1 c.nl k1 fi w1 (by omega) (hfi.to hB1 hB1.size)).mono ?_); rintro e w2 ⟨A, k, rfl, hi2, hb2, hn2, _⟩; have hB2 := Below.step hB1 hB1.size hb2; have hA2 := hA1.keep hb2 hA1.lt; have hT2 := hT1.keep hb2 hT1.lt; obtain ⟨z0, z1⟩ := hT2.tbox; try dsimp only at z0 z1; have hz2 := hT2.lt))
  have hG2 : Grid (w2.alloc (.cells #[.slice A c.nl k] 29)) w2.heap.size (.slice (some ⟨w2.heap.size, 0, none⟩) 1 1) 1 (fun _ => c.nl) F none := Grid.one (L := fun _ => c.nl) (f := F) (Nat.le_refl _) (by rw [H0.out]; exact hi2) hn2
  have hX2 : Has (w2.alloc (.cells #[.slice A c.nl k] 29)) w.heap.size 28 (cc c p) := hA2.al _
  have hY2 : Below w.heap.size w (w2.alloc (.cells #[.slice A c.nl k] 29)) := hB2.alloc hB2.size _
  clear hA1 hT1 hA2 hT2 hb1 hb2 hB1 hi2 hn2 z0 z1
  go_loopw [7, 30] (fun v i wr => ∃ r : Nat, r ≤ m ∧ i = .int .i64 r ∧ Grid wr w2.heap.size v (r + 1) (fun _ => c.nl) F none ∧ Has wr w.heap.size 28 (cc c p) ∧ Below w.heap.size w wr) (fun _ i _ => m - (intOf i).toNat)
  case atStart => exact ⟨0, Nat.zero_le _, rfl, hG2, hX2, hY2⟩
  case round =>
    clear hG2 hX2 hY2
    obtain ⟨r, hr, rfl, hG, hX, hBr⟩ := hrel
    obtain ⟨x0, x1, x2, x3, x4⟩ := hX.box
    by_cases hlt : r < m
    · obtain ⟨A', k', y0, hy, hyn⟩ := HR.out r (by omega)
      have y0 : wr.cell? (a2.add r) = some (.slice A' (ln r) k') := (hBr.cell (by rw [add_block]; exact ha2)).trans y0
      have hy := hy.to hBr hBr.size
      obtain ⟨N, hN⟩ : ∃ N, N = r + 1 := ⟨_, rfl⟩
      rw [← hN] at hG
      obtain ⟨g, kk, A'', k'', rfl, u0, hu, hun⟩ := hG.row (j := r) (by omega)
      have hq0 : (0 : Int) ≤ (r : Int) := by omega
      have hq1 : (r : Int) < (m : Int) := by omega
      have hq2 : (r : Int) < (N : Int) := by omega
      have HN := Lib.hid hN
      clear hN
      go_wp2
      have hBd : Below w.heap.size w wr.drew := below_dn hBr 1
      have hgd : Arg wr.drew wr.drew.heap.size c p A'' c.nl k'' (F r) A' (ln r) k' (ip r) := ⟨h.hm.to hBd hBd.size, hs, hu, hy, hun, hyn, by omega, by have := HL.out r (by omega); omega⟩
      have hGd : Grid wr.drew w2.heap.size (.slice (some ⟨g, 0, none⟩) N kk) N (fun _ => c.nl) F none := ⟨hG.ex⟩
      have hXd : Has wr.drew w.heap.size 28 (cc c p) := hX
      have hl := HL.out r (by omega)
      have HLr := Lib.hid hl
      have hS0 : CS w.heap.size c p ⟨g, r, none⟩ (.slice A'' c.nl k'') wr.drew := cs_of hXd u0
      have HS1 := Lib.hid hS0
      clear hl hu hy hun hyn
      refine wp_region_T (CS w.heap.size c p ⟨g, r, none⟩ (.slice A'' c.nl k'')) 12 (by kernel_rfl) ?_
      (refine wpT_take 0 (v := ?_) rfl (by kernel_rfl) (by kernel_rfl) (by kernel_rfl) (by kernel_rfl) (fun _ _ _ h => h) rfl hS0 (fun w hS => ?_) ?_; rotate_left; focus (obtain ⟨j0, j1, j2, j3, j4, j5⟩ := hS; go_simp; rfl)); (refine wpT_take 1 (v := ?_) rfl (by kernel_rfl) (by kernel_rfl) (by kernel_rfl) (by kernel_rfl) (fun _ _ _ h => h) rfl hS0 (fun w hS => ?_) ?_; rotate_left; focus (obtain ⟨j0, j1, j2, j3, j4, j5⟩ := hS; go_simp; rfl)); (refine wpT_take 2 (v := ?_) rfl (by kernel_rfl) (by kernel_rfl) (by kernel_rfl) (by kernel_rfl) (fun _ _ _ h => h) rfl hS0 (fun w hS => ?_) ?_; rotate_left; focus (obtain ⟨j0, j1, j2, j3, j4, j5⟩ := hS; go_simp; rfl)); (refine wpT_take 3 (v := ?_) rfl (by kernel_rfl) (by kernel_rfl) (by kernel_rfl) (by kernel_rfl) (fun _ _ _ h => h) rfl hS0 (fun w hS => ?_) ?_; rotate_left; focus (obtain ⟨j0, j1, j2, j3, j4, j5⟩ := hS; go_simp; rfl)); (refine wpT_take 4 (v := ?_) rfl (by kernel_rfl) (by kernel_rfl) (by kernel_rfl) (by kernel_rfl) (fun _ _ _ h => h) rfl hS0 (fun w hS => ?_) ?_; rotate_left; focus (obtain ⟨j0, j1, j2, j3, j4, j5⟩ := hS; go_simp; rfl)); (refine wpT_take 5 (v := ?_) rfl (by kernel_rfl) (by kernel_rfl) (by kernel_rfl) (by kernel_rfl) (fun _ _ _ h => h) rfl hS0 (fun w hS => ?_) ?_; rotate_left; focus (obtain ⟨j0, j1, j2, j3, j4, j5⟩ := hS; go_simp; rfl))
      refine wpT_one 6 (by kernel_rfl) (wpOp_go rfl rfl fun K hK => ?_)
      go_simp
      go_at_call 16
      (with_reducible refine (next_at HC.out rfl HLr.out wr.drew hgd).mono ?_)
      rintro e w5 ⟨A5, k5, rfl, hi5, hb5, hn5, hf5⟩
      have hB5 := Below.step hBd hBd.size hb5
      have hG5 := hGd.call hb5
      have hX5 := hXd.keep hb5 hXd.lt
      have hz5 := hX5.lt
      have hS0 : CS w.heap.size c p ⟨g, r, none⟩ (.slice A'' c.nl k'') w5 := HS1.out.keep hb5
      refine hK _ _ ⟨fun _ => hS0, ?_⟩
      (refine wpT_take 7 (v := ?_) rfl (by kernel_rfl) (by kernel_rfl) (by kernel_rfl) (by kernel_rfl) (fun _ _ _ h => h) rfl hS0 (fun w hS => ?_) ?_; rotate_left; focus (go_simp; rfl)); (refine wpT_take 8 (v := ?_) rfl (by kernel_rfl) (by kernel_rfl) (by kernel_rfl) (by kernel_rfl) (fun _ _ _ h => h) rfl hS0 (fun w hS => ?_) ?_; rotate_left; focus (go_simp; rfl)); (refine wpT_take 9 (v := ?_) rfl (by kernel_rfl) (by kernel_rfl) (by kernel_rfl) (by kernel_rfl) (fun _ _ _ h => h) rfl hS0 (fun w hS => ?_) ?_; rotate_left; focus (go_simp; rfl)); (refine wpT_take 10 (v := ?_) rfl (by kernel_rfl) (by kernel_rfl) (by kernel_rfl) (by kernel_rfl) (fun _ _ _ h => h) rfl hS0 (fun w hS => ?_) ?_; rotate_left; focus (go_simp; rfl)); (refine wpT_take 11 (v := ?_) rfl (by kernel_rfl) (by kernel_rfl) (by kernel_rfl) (by kernel_rfl) (fun _ _ _ h => h) rfl hS0 (fun w hS => ?_) ?_; rotate_left; focus (go_simp; rfl))
      refine wpT_done (by kernel_rfl) (NoPanic.normal ?_) _
      clear hS0 hK
      go_wp2_with (first
        | (at_builtin; (refine append_row rfl (.tmp 45) (.tmp 47) _ rfl Try.underlying30 w2.heap.size _ N (fun _ => c.nl) F none rfl (hG5.al _) w5.heap.size 1 A5 k5 rfl ((Has.new w5 29 #[.slice A5 c.nl k5]).cell 0) (by rw [HN.out, HFS.out]; exact hi5.to ((Below.refl _ _).alloc (Nat.le_refl _) _) (by simp)) hn5 (hGd.apart hf5 (fun g hg => by cases hg)) (by have := HN.out; omega) (by have := hGd.lt (g := g) rfl; have := hb5.size; simp; omega) ?_); intro v8 w8 hG8 hg8 hat8))
      go_roundw
      case rel => exact ⟨r + 1, by omega, by go_num, by rw [HN.out] at hG8; exact hG8, (hG5.al _).has (hX5.al _) hg8 (by omega), (hG5.al _).below (hB5.alloc hB5.size _) (by simp; omega) (by omega) hg8⟩
      case measure => simp [intOf]; omega
    · obtain rfl : r = m := by omega
      clear hr hlt
      go_wp2
      go_ret2
      obtain ⟨A', k', rfl, hi', _, hcap, _⟩ := hG.at
      exact ⟨A', k', rfl, hi', hcap, hBr⟩
end
