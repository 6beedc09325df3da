/- The statement WitnessText's walk. -/
import Derived.Test.YtbppdifghkkooaaGreatDoorWitAlive
import Derived.Test.YtbppdifghkkooaaGreatDoorTraceRef4
namespace Go.Proofs.YtbppdifghkkooaaGreatDoor
open Go Go.RowKit
set_option linter.unusedVariables false
set_option linter.unusedSimpArgs false

/-- what is read without an error -/
theorem wre_ok {c : Cr} {s : List UInt8} (h : c.wrE s = 0) : c.chk = 0 ∧ WOk c s ∧ c.wck (wTr c s) (wBd s) = 0 := by
  unfold Cr.wrE at h
  split at h
  · omega
  · next hk =>
    split at h
    · omega
    · next ho => exact ⟨by omega, wOk_iff.1 (by simpa using ho), h⟩
/-- the line feeds of a text that is read -/
theorem lf_count {c : Cr} {s : List UInt8} (h : WOk c s) : s.count 10 = 4 + (wTr c s).ni := by
  have h1 := okM_eq h.m
  have h2 := pcs_count 10 (mid s)
  have h4 := Lib.count_one 10 (mid s)
  have h3 : (mL s).length = (pcs 10 (mid s)).length := rfl
  have h5 := h.n
  have e : s.count 10 = ([49, 10, 98] ++ (mid s ++ [10, 46, 10]) : List UInt8).count 10 := congrArg (List.count 10) h1
  rw [e, List.count_append, List.count_append]
  have e1 : ([49, 10, 98] : List UInt8).count 10 = 1 := by decide
  have e2 : ([10, 46, 10] : List UInt8).count 10 = 2 := by decide
  rw [e1, e2]
  show _ = 4 + ((mL s).length - 2)
  omega

set_option maxRecDepth 100000 in
set_option maxHeartbeats 8000000 in
theorem wtext_walk (c0 : Cr) (p0 : Pl) (l1 : List UInt8) (w : World) (hm0 : Mem w w.heap.size c0 p0) (hN0 : Nils c0 p0) (hv0 : Vals c0) (hC0 : Caps c0 p0) (henv : EnvW w.heap.size w) :
    Calls Tryz.prog 7 #[cv c0 p0, .string (str l1)] w fun e w' => e = .returned (.bool true) ∧ Below w.heap.size w w' := by
  have AL : Hid (∀ W, Below w.heap.size w W → Calls Tryz.prog 20 #[] W fun e w' => e = .returned (.bool true) ∧ Below W.heap.size W w') := Lib.hid fun W hb => alive11_any w.heap.size W (henv.on hb) hb.size
  have F := sf_of l1
  obtain ⟨S, hS⟩ : ∃ S, S = str l1 := ⟨_, rfl⟩
  obtain ⟨m, hm⟩ : ∃ m, m = l1.length := ⟨_, rfl⟩
  obtain ⟨X, hX⟩ : ∃ X : Nat → Int, X = fun q => ((l1.getD q 0).toNat : Int) := ⟨_, rfl⟩
  rw [← hS, ← hm, ← hX] at F
  have k0 := F.len
  have hB0 : Below w.heap.size w (w.alloc (.cells #[.int .i64 c0.i, .slice p0.A1 c0.nl p0.k1, .slice p0.A2 c0.na p0.k2, .slice p0.A3 c0.nb p0.k3, .slice p0.A4 c0.nc p0.k4] 34)) := (Below.refl _ _).alloc (Nat.le_refl _) _
  have hX0 : Has (w.alloc (.cells #[.int .i64 c0.i, .slice p0.A1 c0.nl p0.k1, .slice p0.A2 c0.na p0.k2, .slice p0.A3 c0.nb p0.k3, .slice p0.A4 c0.nc p0.k4] 34)) w.heap.size 34 (cc c0 p0) := Has.new _ _ _
  have DG := Lib.hid (rGreat_any c0 p0 (w.alloc (.cells #[.int .i64 c0.i, .slice p0.A1 c0.nl p0.k1, .slice p0.A2 c0.na p0.k2, .slice p0.A3 c0.nb p0.k3, .slice p0.A4 c0.nc p0.k4] 34)))
  have H0 := Lib.hid (And.intro hB0 hX0)
  rw [← hS]
  cases hg : c0.gr
  · have hgr := Cr.gr_no hg
    have hs : Sm c0 := hv0.sm (by omega) (by omega) (by omega) (by omega)
    rw [hg] at DG
    by_cases h3 : 3000 < m
    · have e0 : decide ((3000 : Int) < (m : Int)) = true := decide_eq_true (by omega)
      clear h3 hm hg hm0 hN0 hv0 hC0 henv hB0 hX0 hS hX F hs hgr
      go_enter Tryz.func7, Tryz.ntmps7
      go_wp2_with (first
        | (go_at_call 21; (with_reducible refine DG.out.mono ?_); rintro e w1 ⟨rfl, hb1⟩; have hB1 := Below.step H0.out.1 H0.out.1.size hb1)
        | (go_at_call 20; (with_reducible refine (AL.out w1 hB1).mono ?_); rintro e w2 ⟨rfl, hb2⟩; have hB2 := Below.step hB1 hB1.size hb2))
      go_ret
      exact ⟨rfl, hB2⟩
    · have e0 : decide ((3000 : Int) < (m : Int)) = false := decide_eq_false (by omega)
      obtain ⟨x, hx⟩ : ∃ x, x = c0.wrE l1 := ⟨_, rfl⟩
      have DR0 : Hid (∀ W, Below w.heap.size w W → Calls Tryz.prog 22 #[cv c0 p0, .string S] W (WrdIs c0 l1 W)) := Lib.hid fun W hb => by
        rw [hS]
        exact wRead_any l1 (by omega) w.heap.size W (hm0.to hb hb.size) hs hC0.bd (henv.on hb) hb.size
      by_cases h0 : x = 0
      · obtain ⟨k1, k2, k3⟩ := wre_ok (hx.symm.trans h0)
        have hi0 := Cr.chk_i (c := c0) (by simpa using k1) hs
        have htb := text_back k2 (by omega)
        have hlf := lf_count k2
        have hts := wTr_sm hs k2 (by omega)
        have hnbr := nbr_le k2.b
        have b1 : c0.wrT l1 = wTr c0 l1 := by unfold Cr.wrT; rw [if_pos (hx.symm.trans h0)]
        have b2 : c0.wrB l1 = wBd l1 := by unfold Cr.wrB; rw [if_pos (hx.symm.trans h0)]
        obtain ⟨t, ht⟩ : ∃ t, t = wTr c0 l1 := ⟨_, rfl⟩
        obtain ⟨n, hn⟩ : ∃ n : Int, n = (wBd l1 : Int) := ⟨_, rfl⟩
        have hi2 : I64 n := by rw [hn]; exact ⟨by omega, by omega⟩
        rw [← ht, ← hn] at k3
        rw [← ht] at hts hlf
        have DR : Hid (∀ W, Below w.heap.size w W → Calls Tryz.prog 22 #[cv c0 p0, .string S] W fun e w' => ∃ q, e = .returned (.tuple #[tv t q, .int .i64 n, .int .i64 0]) ∧ TMem w' w'.heap.size t q ∧ Below W.heap.size W w') := Lib.hid fun W hb => by
          refine (DR0.out W hb).mono fun e w' h => ?_
          obtain ⟨q, he, hT, hb'⟩ := h
          rw [b1, b2, ← hx, h0, ← ht, ← hn] at he
          rw [b1, ← ht] at hT
          exact ⟨q, he, hT, hb'⟩
        have DW : Hid (∀ W q, Below w.heap.size w W → TMem W W.heap.size t q → Calls Tryz.prog 16 #[cv c0 p0, tv t q, .int .i64 n] W fun e w' => e = .returned (.tuple #[.string S, .int .i64 0]) ∧ Below W.heap.size W w') := Lib.hid fun W q hb hT => by
          have := wWrite_any n hi2 W ⟨hm0.to hb hb.size, hs, hT, hts⟩ hC0.bd
          rw [k3] at this
          have e : c0.wrW t n = l1 := by unfold Cr.wrW; rw [if_pos k3, ht, hn]; exact htb
          rw [e, ← hS] at this
          exact this
        have DC : Hid (∀ W q, Below w.heap.size w W → TMem W W.heap.size t q → Calls Tryz.prog 17 #[cv c0 p0, tv t q, .int .i64 n] W fun e w' => e = .returned (.int .i64 0) ∧ Below W.heap.size W w') := Lib.hid fun W q hb hT => by
          have := wCheck_any n hi2 W ⟨hm0.to hb hb.size, hs, hT, hts⟩ hC0.bd
          rwa [k3] at this
        have HXq : Hid (∀ q, q < m → (l1.take (q + 1)).count 10 = (l1.take q).count 10 + (if (X q == 10) = true then 1 else 0)) := Lib.hid fun q hq => by
          rw [take_one (l := l1) (q := q) (by omega), List.count_append, List.count_singleton, hX]
          congr 1
          have e : (l1.getD q 0 == 10) = (((l1.getD q 0).toNat : Int) == 10) := by
            rw [Bool.eq_iff_iff, beq_iff_eq, beq_iff_eq, ← UInt8.toNat_inj]
            show (l1.getD q 0).toNat = 10 ↔ ((l1.getD q 0).toNat : Int) = 10
            omega
          rw [e]
        have HLF : Hid (((l1.take m).count 10 : Int) = 4 + (t.ni : Int) ∧ ∀ q, (l1.take q).count 10 ≤ 3000) := Lib.hid ⟨by rw [hm, List.take_length, hlf]; omega, fun q => Nat.le_trans List.count_le_length (by rw [List.length_take]; omega)⟩
        have hni : t.ni ≤ 1000 := hts.ni
        have hsS : (S.toList == S.toList) = true := by simp
        clear h0 hx hm hg hm0 hN0 hv0 hC0 henv hB0 hX0 hS hX hs hgr k1 k2 k3 hi0 htb hlf hts hnbr b1 b2 ht hn hi2 DR0
        go_enter Tryz.func7, Tryz.ntmps7
        go_wp2_with (first
          | (go_at_call 21; (with_reducible refine DG.out.mono ?_); rintro e w1 ⟨rfl, hb1⟩; have hB1 := Below.step H0.out.1 H0.out.1.size hb1; have hX1 := H0.out.2.keep hb1 H0.out.2.lt; obtain ⟨x0, x1, x2, x3, x4⟩ := hX1.box)
          | (go_at_call 22; (with_reducible refine (DR.out w1 hB1).mono ?_); rintro e w2 ⟨q, rfl, hT2, hb2⟩; have hX2 := (hX1.keep hb2 hX1.lt).al (.cells #[.slice q.A1 t.nf q.k1, .slice q.A2 t.ni q.k2] 47); have hB2 := (Below.step hB1 hB1.size hb2).alloc (Below.step hB1 hB1.size hb2).size (.cells #[.slice q.A1 t.nf q.k1, .slice q.A2 t.ni q.k2] 47); have hY2 : Has (w2.alloc (.cells #[.slice q.A1 t.nf q.k1, .slice q.A2 t.ni q.k2] 47)) w2.heap.size 47 #[.slice q.A1 t.nf q.k1, .slice q.A2 t.ni q.k2] := Has.new _ _ _; have hT2 := hT2.to ((Below.refl w2.heap.size w2).alloc (Nat.le_refl _) (.cells #[.slice q.A1 t.nf q.k1, .slice q.A2 t.ni q.k2] 47)) (by simp); obtain ⟨u0, u1, u2, u3, u4⟩ := hX2.box; obtain ⟨v0, v1, _, _⟩ := box_two hY2)
          | (go_at_call 16; (with_reducible refine (DW.out _ q hB2 hT2).mono ?_); rintro e w3 ⟨rfl, hb3⟩; have hX3 := hX2.keep hb3 hX2.lt; have hY3 := hY2.keep hb3 hY2.lt; have hB3 := Below.step hB2 hB2.size hb3; have hT3 := hT2.to hb3 hb3.size; obtain ⟨u0, u1, u2, u3, u4⟩ := hX3.box; obtain ⟨v0, v1, _, _⟩ := box_two hY3))
        have H3 := Lib.hid (And.intro hB3 hT3)
        clear hb1 hb2 hb3 hB1 hB2 hB3 hT2 hT3 hX1 hX2 hX3 hY2 hY3
        go_loopw [10, 11] (fun u i wr => ∃ q : Nat, ∃ n : Nat, q ≤ m ∧ i = .int .i64 (q : Int) ∧ u = .int .i64 (n : Int) ∧ Hid (n = (l1.take q).count 10) ∧ wr = w3) (fun _ i _ => m - (intOf i).toNat)
        case atStart => exact ⟨0, 0, Nat.zero_le _, rfl, rfl, Lib.hid (by simp), rfl⟩
        case round =>
          obtain ⟨q', n', hq, rfl, rfl, hc, rfl⟩ := hrel
          by_cases hlt : q' < m
          · have hq0 : (0 : Int) ≤ (q' : Int) := by omega
            have hq1 : (q' : Int) < (m : Int) := by omega
            have i1 := F.idx q' (q' : Int) rfl hlt
            have hw1 : IntKind.i64.wrap ((q' : Int) + 1) = (q' : Int) + 1 := IntWalk.i64_in _ (by omega)
            have hn3 : n' ≤ 3000 := by rw [hc.out]; exact HLF.out.2 q'
            have hw2 : IntKind.i64.wrap ((n' : Int) + 1) = (n' : Int) + 1 := IntWalk.i64_in _ (by omega)
            have HQ := Lib.hid (HXq.out q' hlt)
            cases hb : (X q' == 10)
            · have HN : Hid (n' = (l1.take (q' + 1)).count 10) := Lib.hid (by rw [HQ.out, hb, ← hc.out]; rfl)
              clear hc
              go_wp2
              go_roundw
              case rel => exact ⟨q' + 1, n', by omega, by go_num, rfl, HN, by trivial⟩
              case measure => simp [intOf]; omega
            · have HN : Hid (n' + 1 = (l1.take (q' + 1)).count 10) := Lib.hid (by rw [HQ.out, hb, ← hc.out]; rfl)
              clear hc
              go_wp2
              go_roundw
              case rel => exact ⟨q' + 1, n' + 1, by omega, by go_num, by go_num, HN, by trivial⟩
              case measure => simp [intOf]; omega
          · obtain ⟨q2, hqe⟩ : ∃ q2, q2 = q' := ⟨_, rfl⟩
            subst hqe
            have hqn : ¬ (q2 : Int) < (m : Int) := by omega
            have hqm : q2 = m := by omega
            have hnn : (n' : Int) = 4 + (t.ni : Int) := by rw [hc.out, hqm]; exact HLF.out.1
            have hw4 : IntKind.i64.wrap (4 + (t.ni : Int)) = 4 + (t.ni : Int) := IntWalk.i64_in _ (by omega)
            have hne : ((n' : Int) == 4 + (t.ni : Int)) = true := by simpa using hnn
            clear hqm hc hnn hq hlt
            go_wp2_with (first
              | (go_at_call 17; (with_reducible refine (DC.out _ q H3.out.1 H3.out.2).mono ?_); rintro e w4 ⟨rfl, hb4⟩; have hB4 := Below.step H3.out.1 H3.out.1.size hb4; have z1 := (hb4.cell (cell_lt v1)).trans v1)
              | (go_at_call 20; (with_reducible refine (AL.out w4 hB4).mono ?_); rintro e w5 ⟨rfl, hb5⟩; have hB5 := Below.step hB4 hB4.size hb5))
            go_ret
            exact ⟨by simp, hB5⟩
      · have DR : Hid (∀ W, Below w.heap.size w W → Calls Tryz.prog 22 #[cv c0 p0, .string S] W fun e w' => (∃ (A1 A2 : Option Addr) (k1 k2 : Nat), e = .returned (.tuple #[.agg #[.slice A1 0 k1, .slice A2 0 k2], .int .i64 0, .int .i64 x])) ∧ Below W.heap.size W w') := Lib.hid fun W hb => by
          refine (DR0.out W hb).mono fun e w' h => ?_
          obtain ⟨q, he, hT, hb'⟩ := h
          obtain ⟨e1, e2⟩ := wrd_x hx.symm h0
          rw [e1, e2, ← hx] at he
          exact ⟨⟨q.A1, q.A2, q.k1, q.k2, he⟩, hb'⟩
        have e1 : (x != 0) = true := by simpa using h0
        clear h0 hx hm hg hm0 hN0 hv0 hC0 henv hB0 hX0 hS hX hs hgr DR0 F
        go_enter Tryz.func7, Tryz.ntmps7
        go_wp2_with (first
          | (go_at_call 21; (with_reducible refine DG.out.mono ?_); rintro e w1 ⟨rfl, hb1⟩; have hB1 := Below.step H0.out.1 H0.out.1.size hb1; have hX1 := H0.out.2.keep hb1 H0.out.2.lt; obtain ⟨x0, x1, x2, x3, x4⟩ := hX1.box)
          | (go_at_call 22; (with_reducible refine (DR.out w1 hB1).mono ?_); rintro e w2 ⟨⟨A1, A2, k1, k2, rfl⟩, hb2⟩; have hB2 := (Below.step hB1 hB1.size hb2).alloc (Below.step hB1 hB1.size hb2).size (.cells #[.slice A1 0 k1, .slice A2 0 k2] 47))
          | (go_at_call 20; (with_reducible refine (AL.out _ hB2).mono ?_); rintro e w5 ⟨rfl, hb5⟩; have hB5 := Below.step hB2 hB2.size hb5))
        go_ret
        exact ⟨by simp, hB5⟩
  · rw [hg] at DG
    clear hm hg hm0 hN0 hv0 hC0 henv hB0 hX0 hS hX F
    go_enter Tryz.func7, Tryz.ntmps7
    go_wp2_with (first
      | (go_at_call 21; (with_reducible refine DG.out.mono ?_); rintro e w1 ⟨rfl, hb1⟩; have hB1 := Below.step H0.out.1 H0.out.1.size hb1)
      | (go_at_call 20; (with_reducible refine (AL.out w1 hB1).mono ?_); rintro e w2 ⟨rfl, hb2⟩; have hB2 := Below.step hB1 hB1.size hb2))
    go_ret
    exact ⟨rfl, hB2⟩

end Go.Proofs.YtbppdifghkkooaaGreatDoor
