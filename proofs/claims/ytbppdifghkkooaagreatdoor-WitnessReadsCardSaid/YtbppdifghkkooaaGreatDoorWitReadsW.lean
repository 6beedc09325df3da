/- The statement WitnessReads's walk. -/
import Derived.Test.YtbppdifghkkooaaGreatDoorWitRef2
import Derived.Test.YtbppdifghkkooaaGreatDoorTraceRef4
namespace Go.Proofs.YtbppdifghkkooaaGreatDoor
open Go Go.RowKit
set_option linter.unusedVariables false
set_option linter.unusedSimpArgs false

theorem wrT_sm {c : Cr} {s : List UInt8} (hs : Sm c) : TSm (c.wrT s) := by
  unfold Cr.wrT
  split
  · next h =>
    unfold Cr.wrE at h
    split at h
    · omega
    · next hk =>
      split at h
      · omega
      · next ho =>
        have hi := Cr.chk_i (c := c) (by simpa using hk) hs
        exact wTr_sm hs (wOk_iff.1 (by simpa using ho)) (by omega)
  · exact ⟨Nat.zero_le _, Nat.zero_le _, fun j hj => absurd hj (Nat.not_lt_zero _)⟩

set_option maxRecDepth 100000 in
set_option maxHeartbeats 8000000 in
theorem reads_walk (c0 : Cr) (p0 : Pl) (l1 : List UInt8) (w : World) (hm0 : Mem w w.heap.size c0 p0) (hN0 : Nils c0 p0) (hv0 : Vals c0) (hC0 : Caps c0 p0) (henv : EnvW w.heap.size w) :
    Calls Tryz.prog 5 #[cv c0 p0, .string (str l1)] w fun e w' => e = .returned (.bool true) ∧ Below w.heap.size w w' := by
  have k0 : ∀ W : World, (Builtin.len_ #[9] 3 #[.string (str l1)]).run Tryz.prog W = .ok (.int .i64 (l1.length : Int)) W := fun W => str_len Tryz.underlying9 l1 W
  obtain ⟨m, hmm⟩ : ∃ m : Int, m = (l1.length : Int) := ⟨_, rfl⟩
  rw [← hmm] at k0
  have hB0 : Below w.heap.size w (w.alloc (.cells #[.int .i64 c0.i, .slice p0.A1 c0.nl p0.k1, .slice p0.A2 c0.na p0.k2, .slice p0.A3 c0.nb p0.k3, .slice p0.A4 c0.nc p0.k4] 34)) := (Below.refl _ _).alloc (Nat.le_refl _) _
  have hX0 : Has (w.alloc (.cells #[.int .i64 c0.i, .slice p0.A1 c0.nl p0.k1, .slice p0.A2 c0.na p0.k2, .slice p0.A3 c0.nb p0.k3, .slice p0.A4 c0.nc p0.k4] 34)) w.heap.size 34 (cc c0 p0) := Has.new _ _ _
  have DG := Lib.hid (rGreat_any c0 p0 (w.alloc (.cells #[.int .i64 c0.i, .slice p0.A1 c0.nl p0.k1, .slice p0.A2 c0.na p0.k2, .slice p0.A3 c0.nb p0.k3, .slice p0.A4 c0.nc p0.k4] 34)))
  have H0 := Lib.hid (And.intro hB0 hX0)
  cases hg : c0.gr
  · have hgr := Cr.gr_no hg
    have hs : Sm c0 := hv0.sm (by omega) (by omega) (by omega) (by omega)
    rw [hg] at DG
    by_cases hm : 3000 < l1.length
    · have e0 : decide ((3000 : Int) < m) = true := decide_eq_true (by omega)
      clear hm hmm hg hm0 hN0 hv0 hC0 henv hB0 hX0
      go_enter Tryz.func5, Tryz.ntmps5
      go_wp2_with (go_at_call 21; (with_reducible refine DG.out.mono ?_); rintro e w1 ⟨rfl, hb1⟩; have H1 := Lib.hid (Below.step H0.out.1 H0.out.1.size hb1); clear hb1)
      go_ret
      exact ⟨rfl, H1.out⟩
    · have e0 : decide ((3000 : Int) < m) = false := decide_eq_false (by omega)
      have hts := wrT_sm (s := l1) hs
      obtain ⟨t, ht⟩ : ∃ t, t = c0.wrT l1 := ⟨_, rfl⟩
      obtain ⟨n, hn⟩ : ∃ n : Int, n = (c0.wrB l1 : Int) := ⟨_, rfl⟩
      obtain ⟨x, hx⟩ : ∃ x, x = c0.wrE l1 := ⟨_, rfl⟩
      rw [← ht] at hts
      have DP : Hid (∀ W, Below w.heap.size w W → Calls Tryz.prog 22 #[cv c0 p0, .string (str l1)] W fun e w' => ∃ q : Tp, e = .returned (.tuple #[tv t q, .int .i64 n, .int .i64 x]) ∧ TMem w' w'.heap.size t q ∧ Below W.heap.size W w') := Lib.hid fun W hb => by
        rw [ht, hn, hx]
        exact wRead_any l1 (by omega) w.heap.size W (hm0.to hb hb.size) hs hC0.bd (henv.on hb) hb.size
      have DQ : Hid (∀ W, Below w.heap.size w W → Calls Tryz.prog 23 #[cv c0 p0, .string (str l1)] W fun e w' => ∃ q : Tp, e = .returned (.tuple #[tv t q, .int .i64 n, .int .i64 x]) ∧ TMem w' w'.heap.size t q ∧ Below W.heap.size W w') := Lib.hid fun W hb => by
        rw [ht, hn, hx]
        exact rRead11_any l1 (by omega) W (hm0.to hb hb.size) hs
      obtain ⟨S, hS⟩ : ∃ S, S = str l1 := ⟨_, rfl⟩
      rw [← hS] at DP DQ k0 ⊢
      have HU := Lib.hid hts
      clear hm hmm hg hm0 hN0 hv0 hC0 henv hB0 hX0 ht hn hx hts hS hgr hs
      go_enter Tryz.func5, Tryz.ntmps5
      go_wp2_with (go_at_call 21; (with_reducible refine DG.out.mono ?_); rintro e w1 ⟨rfl, hb1⟩; have hB1 := Below.step H0.out.1 H0.out.1.size hb1; have hX1 := H0.out.2.keep hb1 H0.out.2.lt; obtain ⟨x0, x1, x2, x3, x4⟩ := hX1.box; clear hb1)
      go_wp2_with (go_at_call 22; (with_reducible refine (DP.out _ hB1).mono ?_); rintro e w2 ⟨q, rfl, hT2, hb2⟩; have hX2 := (hX1.keep hb2 hX1.lt).al (.cells #[.slice q.A1 t.nf q.k1, .slice q.A2 t.ni q.k2] 47); have hB2 := (Below.step hB1 hB1.size hb2).alloc (Below.step hB1 hB1.size hb2).size (.cells #[.slice q.A1 t.nf q.k1, .slice q.A2 t.ni q.k2] 47); have hY2 : Has (w2.alloc (.cells #[.slice q.A1 t.nf q.k1, .slice q.A2 t.ni q.k2] 47)) w2.heap.size 47 #[.slice q.A1 t.nf q.k1, .slice q.A2 t.ni q.k2] := Has.new _ _ _; have hT2 := hT2.to ((Below.refl w2.heap.size w2).alloc (Nat.le_refl _) (.cells #[.slice q.A1 t.nf q.k1, .slice q.A2 t.ni q.k2] 47)) (by simp); obtain ⟨u0, u1, u2, u3, u4⟩ := hX2.box)
      go_wp2_with (go_at_call 23; (with_reducible refine (DQ.out _ hB2).mono ?_); rintro e w3 ⟨r, rfl, hT3, hb3⟩; have hY3 := (hY2.keep hb3 hY2.lt).al (.cells #[.slice r.A1 t.nf r.k1, .slice r.A2 t.ni r.k2] 47); have hB3 := (Below.step hB2 hB2.size hb3).alloc (Below.step hB2 hB2.size hb3).size (.cells #[.slice r.A1 t.nf r.k1, .slice r.A2 t.ni r.k2] 47); have hZ3 : Has (w3.alloc (.cells #[.slice r.A1 t.nf r.k1, .slice r.A2 t.ni r.k2] 47)) w3.heap.size 47 #[.slice r.A1 t.nf r.k1, .slice r.A2 t.ni r.k2] := Has.new _ _ _; have hn2 := (hT2.to hb3 hb3.size).to ((Below.refl w3.heap.size w3).alloc (Nat.le_refl _) (.cells #[.slice r.A1 t.nf r.k1, .slice r.A2 t.ni r.k2] 47)) (by simp); have hn3 := hT3.to ((Below.refl w3.heap.size w3).alloc (Nat.le_refl _) (.cells #[.slice r.A1 t.nf r.k1, .slice r.A2 t.ni r.k2] 47)) (by simp); obtain ⟨v0, v1, _, _⟩ := box_two hY3; obtain ⟨z0, z1, _, _⟩ := box_two hZ3)
      go_wp2_with (go_at_call 24; (with_reducible refine (samT_at (samT_self _) _ hn2 HU.out hn3 HU.out).mono ?_); rintro e w4 ⟨rfl, hb4⟩; have hB4 := Below.step hB3 hB3.size hb4)
      go_ret
      exact ⟨by simp, hB4⟩
  · rw [hg] at DG
    clear hg hm0 hN0 hv0 hC0 henv hB0 hX0 hmm
    go_enter Tryz.func5, Tryz.ntmps5
    go_wp2_with (go_at_call 21; (with_reducible refine DG.out.mono ?_); rintro e w1 ⟨rfl, hb1⟩; have H1 := Lib.hid (Below.step H0.out.1 H0.out.1.size hb1); clear hb1)
    go_ret
    exact ⟨rfl, H1.out⟩

end Go.Proofs.YtbppdifghkkooaaGreatDoor
