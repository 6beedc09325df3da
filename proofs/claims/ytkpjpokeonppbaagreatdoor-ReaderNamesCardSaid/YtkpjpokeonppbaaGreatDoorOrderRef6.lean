/- The reference of layer 3: Check. -/
import Derived.Test.YtkpjpokeonppbaaGreatDoorOrderRef5
import Derived.Test.YtkpjpokeonppbaaGreatDoorOrderTm
namespace Go.Proofs.YtkpjpokeonppbaaGreatDoor
open Go.RowKit
set_option linter.unusedVariables false
set_option linter.unusedSimpArgs false

set_option maxRecDepth 100000 in
set_option maxHeartbeats 1000000 in
theorem oRCheck_neg (r : Rw) (p : Rp) (w : World) (h : r.m < 0) : Calls Tryz.prog 25 #[rv r p] w fun e w' => e = .returned (.int .i64 r.chk) ∧ Below w.heap.size w w' := by
  have hR : Hid (r.chk = 8) := if_pos h
  go_enter Tryz.func25, Tryz.ntmps25
  go_wp2
  go_ret
  exact ⟨ret_int hR.out.symm, by go_grown⟩

set_option maxRecDepth 100000 in
set_option maxHeartbeats 1000000 in
theorem oRCheck_big (r : Rw) (p : Rp) (w : World) (hs : RSm r) (h0 : ¬ r.m < 0) (h : r.big = true) : Calls Tryz.prog 25 #[rv r p] w fun e w' => e = .returned (.int .i64 r.chk) ∧ Below w.heap.size w w' := by
  have g0 := hs.ni
  have g1 := hs.nl
  have g2 := hs.na
  have hR : Hid (r.chk = 4) := by show r.chk = 4; unfold Rw.chk; rw [if_neg h0, if_pos h]
  have hb := of_decide_eq_true h
  have hcase : (1000 < r.m) ∨ (¬ 1000 < r.m ∧ (1000 : Int) < r.ni + r.nl + r.na) ∨ (¬ 1000 < r.m ∧ ¬ (1000 : Int) < r.ni + r.nl + r.na ∧ (100 : Int) < r.nb) ∨ (¬ 1000 < r.m ∧ ¬ (1000 : Int) < r.ni + r.nl + r.na ∧ ¬ (100 : Int) < r.nb ∧ (100 : Int) < r.nc) := by omega
  clear hb h
  rcases hcase with c1 | ⟨c1, c2⟩ | ⟨c1, c2, c3⟩ | ⟨c1, c2, c3, c4⟩
  all_goals
    go_enter Tryz.func25, Tryz.ntmps25
    go_wp2
    go_ret
    exact ⟨ret_int hR.out.symm, by go_grown⟩

set_option maxRecDepth 100000 in
set_option maxHeartbeats 4000000 in
theorem oRCheck_num (r : Rw) (p : Rp) (w : World) (hs : RSm r) (hm : RMem w w.heap.size r p) (hN : RNils r p) (h0 : ¬ r.m < 0) (h : r.big = false) (hn : r.num = false) : Calls Tryz.prog 25 #[rv r p] w fun e w' => e = .returned (.int .i64 r.chk) ∧ Below w.heap.size w w' := by
  have hR : Hid (r.chk = 8) := by show r.chk = 8; unfold Rw.chk; rw [if_neg h0, if_neg (by rw [h]; simp), if_pos hn]
  have hb := of_decide_eq_false h
  have c1 : ¬ 1000 < r.m := by omega
  have c2 : ¬ (1000 : Int) < r.ni + r.nl + r.na := by omega
  have c3 : ¬ (100 : Int) < r.nb := by omega
  have c4 : ¬ (100 : Int) < r.nc := by omega
  clear hb h
  go_enter Tryz.func25, Tryz.ntmps25
  go_wp2_with (first
    | (go_at_call 44; refine (oNumbers_any r p _ hs (hm.to (by go_grown) (by go_size)) hN (by omega) (by omega)).mono ?_; rw [hn]; rintro e w2 ⟨rfl, hb2⟩; have hB2 : Below w.heap.size w w2 := Below.step (by go_grown) (by go_size) hb2)
    | fail)
  go_ret
  exact ⟨ret_int hR.out.symm, hB2⟩

set_option maxRecDepth 100000 in
set_option maxHeartbeats 4000000 in
theorem oRCheck_rest (r : Rw) (p : Rp) (w : World) (hs : RSm r) (hm : RMem w w.heap.size r p) (hN : RNils r p) (h0 : ¬ r.m < 0) (h : r.big = false) (hn : r.num = true) : Calls Tryz.prog 25 #[rv r p] w fun e w' => e = .returned (.int .i64 r.chk) ∧ Below w.heap.size w w' := by
  have hC : r.chk = if r.twi = true then 43 else if r.opn = true then 46 else if r.ord.length < r.na then 41 else 0 := by unfold Rw.chk; rw [if_neg h0, if_neg (by rw [h]; simp), if_neg (by rw [hn]; simp)]
  have hb := of_decide_eq_false h
  have c1 : ¬ 1000 < r.m := by omega
  have c2 : ¬ (1000 : Int) < r.ni + r.nl + r.na := by omega
  have c3 : ¬ (100 : Int) < r.nb := by omega
  have c4 : ¬ (100 : Int) < r.nc := by omega
  obtain ⟨mn, hmn⟩ : ∃ mn : Nat, r.m = mn := ⟨r.m.toNat, by omega⟩
  have hmn1 : mn ≤ 1000 := by omega
  have HT := Lib.hid (Rw.twi_iff hn mn hmn)
  have HO := Lib.hid (Rw.opn_iff hn)
  have HM := Lib.hid hmn
  have HC := Lib.hid hC
  have HN := Lib.hid hn
  have hu := Lib.hid (Rw.num_u hn)
  have g2 := hs.na
  have hlu : r.uL.length ≤ 5000 := by rw [uL_len]; have := hs.nb; have := hs.nc; have := hs.nl; omega
  clear hb h hmn hC hn
  go_enter Tryz.func25, Tryz.ntmps25
  go_wp2_with (first
    | (go_at_call 44; refine (oNumbers_any r p _ hs (hm.to (by go_grown) (by go_size)) hN (by omega) (by omega)).mono ?_; rw [HN.out]; rintro e w2 ⟨rfl, hb2⟩; have hz2 : w.heap.size < w2.heap.size := (by have := hb2.size; (try simp at this); omega); have hB2 : Below w.heap.size w w2 := Below.step (by go_grown) (by go_size) hb2; have hA2 : Has w2 w.heap.size 26 (rc r p) := (Has.new _ _ _).keep hb2 (by go_size); obtain ⟨x0, x1, x2, x3, x4, x5⟩ := hA2.rbox)
    | (go_at_call 45; refine (oTimes_any r p _ mn HM.out hs (hm.to hB2 hB2.size) hN (by omega) HN.out).mono ?_; rintro e w3 ⟨g, rfl, hR3, hg3, hb3⟩; have hB3 := Below.step hB2 hB2.size hb3; have hA3 := hA2.keep hb3 hA2.lt; have hz3 := hA3.lt)
    | fail)
  have hgl := hR3.lt
  go_loopw [4] (fun i wr => ∃ q : Nat, q ≤ mn + 1 ∧ i = .int .i64 q ∧ Hid (∀ v, v < q → ¬ 1 < r.tmk r.dL.length v) ∧ wr = w3) (fun i _ => mn + 1 - (intOf i).toNat)
  case atStart => exact ⟨0, Nat.zero_le _, rfl, Lib.hid (fun v hv => absurd hv (Nat.not_lt_zero _)), rfl⟩
  case round =>
    obtain ⟨q, hq, rfl, hL, hwe⟩ := hrel
    subst hwe
    obtain ⟨x0, x1, x2, x3, x4, x5⟩ := hA3.rbox
    by_cases hlt : q < mn + 1
    · have d1 : (q : Int) ≤ r.m := by have := HM.out; omega
      have d2 : (q : Int) < (mn : Int) + 1 := by omega
      have z1 := hR3.cell hlt
      by_cases ht : 1 < r.tmk r.dL.length q
      · have hR : Hid (r.chk = 43) := by show r.chk = 43; rw [HC.out, if_pos (HT.out.2 ⟨q, by omega, ht⟩)]
        go_wp2
        go_ret
        exact ⟨ret_int hR.out.symm, hB3⟩
      · go_wp2
        go_roundw
        case rel => exact ⟨q + 1, by omega, by go_num, Lib.hid (fun v hv => if e : v = q then e ▸ ht else hL.out v (by omega)), trivial⟩
        case measure => simp [intOf]; omega
    · have d1 : ¬ (q : Int) ≤ r.m := by have := HM.out; omega
      have hTw : Hid (¬ r.twi = true) := fun h => by obtain ⟨v, hv, h2⟩ := HT.out.1 h; exact hL.out v (by omega) h2
      clear hlt hL
      go_wp2_with (first
        | (go_at_call 46; refine (oUsed_any r p _ hs (hm.to hB3 hB3.size) hN).mono ?_; rintro e w4 hd4; obtain ⟨U, ku, rfl, hi4, hb4⟩ := ListIs.at hd4; clear hd4; have hB4 := Below.step hB3 hB3.size hb4; have hA4 := hA3.keep hb4 hA3.lt; have hR4 := hR3.of_block (hb4.block _ hR3.lt))
        | fail)
      go_loopw [6] (fun i wr => ∃ q : Nat, q ≤ r.uL.length ∧ i = .int .i64 q ∧ Hid (∀ j, j < q → ¬ r.tmk r.dL.length (r.uL.getD j 0 / 2).toNat = 0) ∧ w4 = wr) (fun i _ => r.uL.length - (intOf i).toNat)
      case atStart => exact ⟨0, Nat.zero_le _, rfl, Lib.hid (fun v hv => absurd hv (Nat.not_lt_zero _)), rfl⟩
      case round =>
        obtain ⟨q, hq, rfl, hL, rfl⟩ := hrel
        obtain ⟨x0, x1, x2, x3, x4, x5⟩ := hA4.rbox
        by_cases hlt : q < r.uL.length
        · obtain ⟨a, hA, hab, hcs⟩ := hi4 (by omega)
          have y0 : w4.cell? (a.add q) = some (.int .i64 (r.uL.getD q 0)) := hcs q hlt
          have hb := hu.out q hlt
          have hm1 := HM.out
          subst hA
          obtain ⟨x, hx⟩ : ∃ x, Hid (x = r.uL.getD q 0) := ⟨_, Lib.hid rfl⟩
          rw [← hx.out] at y0 hb
          have i1 : (0 : Int) ≤ (q : Int) := by omega
          have i2 : (q : Int) < (r.uL.length : Int) := by omega
          have n1 : (x / 2).toNat < mn + 1 := by omega
          have m1 : 0 ≤ x / 2 := by omega
          have m2 : x / 2 < (mn : Int) + 1 := by omega
          have m3 : 0 ≤ x := by omega
          have z1 := hR4.cell n1
          clear hcs hm1 hb
          by_cases ht : r.tmk r.dL.length (x / 2).toNat = 0
          · have hR : Hid (r.chk = 46) := by show r.chk = 46; rw [HC.out, if_neg hTw.out, if_pos (HO.out.2 ⟨q, hlt, by rw [← hx.out]; exact ht⟩)]
            have hb0 : (r.tmk r.dL.length (x / 2).toNat == 0) = true := bt ht
            clear ht
            go_wp2
            go_ret
            exact ⟨ret_int hR.out.symm, hB4⟩
          · have hb0 : (r.tmk r.dL.length (x / 2).toNat == 0) = false := bq ht
            have hT := Lib.hid ht
            clear ht
            go_wp2
            go_roundw
            case rel => exact ⟨q + 1, by omega, by go_num, Lib.hid (fun j hj => if e : j = q then by subst e; rw [← hx.out]; exact hT.out else hL.out j (by omega)), trivial⟩
            case measure => simp [intOf]; omega
        · have d2 : ¬ (q : Int) < (r.uL.length : Int) := by omega
          have hOp : Hid (¬ r.opn = true) := fun h => by obtain ⟨v, hv, h2⟩ := HO.out.1 h; exact hL.out v (by omega) h2
          have HA := Lib.hid hA4
          clear hlt hL hq
          go_wp2
          go_region_held3 (fun w' => Below w4.heap.size w4 w' ∧ w'.cell? ⟨w.heap.size, 0, none⟩ = some (.int .i64 r.m) ∧ w'.cell? ⟨w.heap.size, 1, none⟩ = some (.slice p.A1 r.ni p.k1) ∧ w'.cell? ⟨w.heap.size, 2, none⟩ = some (.slice p.A2 r.nl p.k2) ∧ w'.cell? ⟨w.heap.size, 3, none⟩ = some (.slice p.A3 r.na p.k3) ∧ w'.cell? ⟨w.heap.size, 4, none⟩ = some (.slice p.A4 r.nb p.k4) ∧ w'.cell? ⟨w.heap.size, 5, none⟩ = some (.slice p.A5 r.nc p.k5))
            (exact rbox_at HA.out (by first | assumption | go_grown))
            (first
              | (go_at_call 47; refine (oOrder_any r p _ mn HM.out hs ((hm.to hB4 hB4.size).to1 (by first | assumption | go_grown)) (by omega) HN.out).mono ?_; rintro e w5 hd5; obtain ⟨U5, ku5, rfl, hi5, hb5⟩ := ListIs.at hd5; clear hd5; have hC5 : Below w4.heap.size w4 w5 := Below.next (by first | assumption | go_grown) hb5; have hs5 := hC5.size))
          have hB5 := Below.step hB4 hB4.size hC5
          rw [nL_len]
          by_cases ho : r.ord.length < r.na
          · have hR : Hid (r.chk = 41) := by show r.chk = 41; rw [HC.out, if_neg hTw.out, if_neg hOp.out, if_pos ho]
            have d3 : (r.ord.length : Int) < (r.na : Int) := by omega
            clear ho
            go_wp2
            go_ret
            exact ⟨ret_int hR.out.symm, hB5⟩
          · have hR : Hid (r.chk = 0) := by show r.chk = 0; rw [HC.out, if_neg hTw.out, if_neg hOp.out, if_neg ho]
            have d3 : ¬ (r.ord.length : Int) < (r.na : Int) := by omega
            clear ho
            go_wp2
            go_ret
            exact ⟨ret_int hR.out.symm, hB5⟩

theorem oRCheck_any (r : Rw) (p : Rp) (w : World) (hs : RSm r) (hm : RMem w w.heap.size r p) (hN : RNils r p) : Calls Tryz.prog 25 #[rv r p] w fun e w' => e = .returned (.int .i64 r.chk) ∧ Below w.heap.size w w' := by
  by_cases h0 : r.m < 0
  · exact oRCheck_neg r p w h0
  · cases h : r.big
    · cases hn : r.num
      · exact oRCheck_num r p w hs hm hN h0 h hn
      · exact oRCheck_rest r p w hs hm hN h0 h hn
    · exact oRCheck_big r p w hs h0 h
end Go.Proofs.YtkpjpokeonppbaaGreatDoor
