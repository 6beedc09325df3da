/- The contracts of the reference's In and Cone, and of both Cones where there is an error. -/
import Derived.Test.YtheekpmjcgmopaaGatesCone
import Derived.Test.YtheekpmjcgmopaaGatesKind
namespace Go.Proofs.Ytheekpmjcgmopaa
open Go.RowKit
set_option linter.unusedVariables false

namespace Cr
/-- what is reached when k gates have been looked at, from the last one on -/
def rk (c : Cr) (l : Int) (k : Nat) : Nat → Bool := c.fld (fun v => v == (l / 2).toNat) ((List.range k).map fun t => c.na - 1 - t)
theorem rk_succ (c : Cr) (l : Int) (k : Nat) : c.rk l (k + 1) = c.stp (c.rk l k) (c.na - 1 - k) := by
  unfold rk
  rw [List.range_succ, List.map_append]
  exact fld_snoc _ _ _ _
theorem rk_all (c : Cr) (l : Int) : c.rk l c.na = c.rch l := rfl
theorem stp_no {c : Cr} {R : Nat → Bool} {j : Nat} (h : R (c.fg + j) = false) : c.stp R j = R := by unfold stp; rw [if_neg (by rw [h]; simp)]
theorem stp_yes {c : Cr} {R : Nat → Bool} {j : Nat} (h : R (c.fg + j) = true) : c.stp R j = fun v => v == (c.gb j / 2).toNat || (v == (c.ga j / 2).toNat || R v) := by unfold stp; rw [if_pos h]
end Cr

/-- what In returns -/
def InIs (c : Cr) (l : Int) (n : Nat) (w : World) (e : Ending) (w' : World) : Prop :=
  ∃ g, e = .returned (.slice (some ⟨g, 0, none⟩) (n + 1) (n + 1)) ∧ w.heap.size ≤ g ∧ w'.rowIs g 4 (n + 1) (fun v => .bool (if v = 0 then false else c.rch l v)) ∧ Below w.heap.size w w'
theorem info_bool : (Try.prog.info? 4).map (fun i => (i.zero, i.size, i.bytes)) = some (some (.bool false), 1, 1) := by kernel_rfl

theorem row_true {w : World} {b : Nat} {t : TypeId} {n : Nat} {R : Nat → Bool} (h : w.rowIs b t n (fun v => .bool (R v))) (i : Nat) : (w.setCell ⟨b, i, none⟩ (.bool true)).rowIs b t n (fun v => .bool (v == i || R v)) :=
  (h.set i (.bool true)).congr fun j _ => by
    by_cases e : j = i
    · simp [e]
    · simp [e]

theorem row_made_set (w : World) (t : TypeId) (n i : Nat) : (w.alloc (.cells ((madeCells #[.bool false] n).setIfInBounds i (.bool true)) t)).rowIs w.heap.size t n (fun v => .bool (v == i)) :=
  ⟨_, heap_alloc_new w _, by rw [Array.size_setIfInBounds]; simp [size_madeCells], fun j hj => by
    rw [Array.getElem?_setIfInBounds]
    by_cases e : i = j
    · subst e; simp [size_madeCells, hj]
    · have e' : ¬ j = i := fun h => e h.symm
      rw [if_neg e]; simp [madeCells, hj, Nat.mod_one, e']⟩

set_option maxRecDepth 100000 in
set_option maxHeartbeats 2000000 in
theorem rIn_any (c : Cr) (p : Pl) (l : Int) (sn : Nat) (w : World) (hm : Mem w w.heap.size c p) (hs : Sm c) (h : (c.chk == 0) = true) (hl : Cr.litB c.sz l = true) (hsn : c.sz = sn) :
    Calls Try.prog 40 #[cv c p, .int .i64 l] w (InIs c l sn w) := by
  have g1 := hs.nl
  have g2 := hs.na
  have hb := Cr.chk_i h hs
  have hk := Lib.hid (show c.chk = 0 by simpa using h)
  have hlb : 0 ≤ l ∧ l / 2 ≤ c.sz := of_decide_eq_true hl
  have hl1 : l ≤ 2001 := by omega
  have hsn1 : sn ≤ 1000 := by omega
  have hmk : ∀ w : World, (Instr.makeSlice 65 (.int .i64 ((sn : Int) + 1)) (.int .i64 ((sn : Int) + 1))).run Try.prog w = .ok (.slice (some ⟨w.heap.size, 0, none⟩) (sn + 1) (sn + 1)) (w.alloc (.cells (madeCells #[.bool false] (sn + 1)) 4)) := fun w =>
    run_make_row' 65 4 (.bool false) 1 Try.underlying65 info_bool rfl _ _ (sn + 1) (by omega) (by omega) w
  have i0 : 0 ≤ l / 2 := by omega
  have i1 : l / 2 < (sn : Int) + 1 := by omega
  have i2 : (l / 2).toNat < sn + 1 := by omega
  have HS := Lib.hid hsn
  clear hsn
  go_enter Try.func40, Try.ntmps40
  go_wp2_with (first
    | (go_at_call 26; (with_reducible refine (rSize_any c p (w.alloc _) hb.1 hb.2.1 g1 g2).mono ?_); rintro e w1 ⟨rfl, hb1⟩; rw [HS.out]; obtain ⟨hc1, hf1⟩ := bcell hb1; have hz1 : w.heap.size < w1.heap.size := (by have := hb1.size; (try simp at this); omega); have hB1 : Below w.heap.size w w1 := Below.step (by go_grown) (by go_size) hb1; have hA1 : Has w1 w.heap.size 26 (cc c p) := (Has.new _ _ _).keep hb1 (by go_size); have hA1' := (hA1.box' (.cells ((madeCells #[.bool false] (sn + 1)).setIfInBounds (l / 2).toNat (.bool true)) 4)); have hA1'' := (hA1.keep ((Below.refl w1.heap.size _).alloc (Nat.le_refl _) (.cells ((madeCells #[.bool false] (sn + 1)).setIfInBounds (l / 2).toNat (.bool true)) 4)) hA1.lt); have hR1' := row_made_set w1 4 (sn + 1) (l / 2).toNat; have hR1 : (w1.alloc (.cells (madeCells #[.bool false] (sn + 1)) 4)).rowIs w1.heap.size 4 (sn + 1) (fun v => .bool ((fun _ => false) v)) := World.rowIs_made w1 (.bool false) (sn + 1) 4; have z1 := hR1.cell i2; have z2 := hR1.frozen (l / 2).toNat)
    | (go_at_call 26; (with_reducible refine (rSize_any c p (w1.alloc _) hb.1 hb.2.1 g1 g2).mono ?_); rintro e w2 ⟨rfl, hb2⟩; rw [HS.out]; have hz2 : w.heap.size < w2.heap.size := (by have := hb2.size; (try simp at this); omega); have hB2 : Below w.heap.size w w2 := Below.step (hB1.alloc hB1.size _) (by go_size) hb2; have hA2 := hA1''.keep hb2 (by simp; omega); have hR2 := hR1'.of_block (hb2.block _ (by simp))))
  clear hc1 hf1 hb1 hb2 hA1' hA1'' hR1 hR1' z1 z2 hmk
  have hR2 : w2.rowIs w1.heap.size 4 (sn + 1) (fun v => .bool (c.rk l 0 v)) := hR2
  go_loopw [6] (fun i wr => ∃ v k : Nat, v ≤ sn ∧ i = .int .i64 v ∧ Hid (k = min (sn - v) c.na) ∧ Below w.heap.size w wr ∧ Has wr w.heap.size 26 (cc c p) ∧ wr.rowIs w1.heap.size 4 (sn + 1) (fun v => .bool (c.rk l k v))) (fun i _ => (intOf i).toNat)
  case atStart => exact ⟨sn, 0, Nat.le_refl _, rfl, by show 0 = _; omega, hB2, hA2, hR2⟩
  case round =>
    obtain ⟨v, k, hv, rfl, hkv, hBr, hA, hR⟩ := hrel
    obtain ⟨x0, x1, x2, x3, x4⟩ := hA.box
    have hse : (sn : Int) = c.i + c.nl + c.na := by have := HS.out; unfold Cr.sz at this; omega
    by_cases hv0 : 0 < v
    · have n1 : v < sn + 1 := by omega
      have n2 : (v : Int) < (sn : Int) + 1 := by omega
      have z := hR.cell n1
      have hvb : (v : Int) ≤ 1000 := by omega
      by_cases hg : 0 ≤ (v : Int) - 1 - c.i - c.nl
      · obtain ⟨j, hj⟩ : ∃ j, j = (((v : Int) - 1 - c.i).toNat - c.nl) := ⟨_, rfl⟩
        have hkk := hkv.out
        have hjn : j < c.na := by omega
        have hjk : j = c.na - 1 - k := by omega
        have hfv : c.fg + j = v := by unfold Cr.fg; omega
        have hkn : Hid (k + 1 = min (sn - (v - 1)) c.na) := by show k + 1 = _; omega
        obtain ⟨k1, k2, k3, k4, k5⟩ := Cr.gate_ok hk.out hjn
        obtain ⟨a, hAa, hab, hcs⟩ := (hm.an.keep hBr) (by omega)
        obtain ⟨y0, y1⟩ := hcs j hjn
        have hsp : ∀ R : Nat → Bool, R v = false → c.stp R j = R := fun R h => Cr.stp_no (by rw [hfv]; exact h)
        have hsy : ∀ R : Nat → Bool, R v = true → c.stp R j = fun v => v == (c.gb j / 2).toNat || (v == (c.ga j / 2).toNat || R v) := fun R h => Cr.stp_yes (by rw [hfv]; exact h)
        have hrk := Cr.rk_succ c l k
        rw [← hjk] at hrk
        have m1 : 0 ≤ c.ga j / 2 := by omega
        have m2 : c.ga j / 2 < (sn : Int) + 1 := by omega
        have m3 : 0 ≤ c.gb j / 2 := by omega
        have m4 : c.gb j / 2 < (sn : Int) + 1 := by omega
        have m5 : c.ga j ≤ 2001 := by omega
        have m6 : c.gb j ≤ 2001 := by omega
        have m7 : 0 ≤ c.ga j := by omega
        have n5 : (c.ga j / 2).toNat < sn + 1 := by omega
        have n6 : (c.gb j / 2).toNat < sn + 1 := by omega
        have ng : (v : Int) - 1 - c.i - c.nl < c.na := by omega
        have hlr := hR.lt
        have hla := hA.lt
        have hbs := hBr.size
        have HRK := Lib.hid hrk
        have HJ := Lib.hid hj
        clear hcs hse hkk hrk hjk hfv
        cases hz : c.rk l k v
        · have HS1 := Lib.hid (hsp _ hz)
          rw [hz] at z
          clear hsp hsy hj hAa y0 y1
          go_wp2_with (go_at_call 28; refine (rGate_any c p v _ hb.1 hb.2.1 g1 (by omega) (by omega)).mono ?_; rintro e w3 ⟨rfl, hb3⟩; obtain ⟨hc3, hf3⟩ := bcell hb3)
          go_roundw
          case rel => exact ⟨v - 1, k + 1, by omega, by congr 1; omega, hkn, Below.step hBr hBr.size hb3, hA.keep hb3 hA.lt, by rw [HRK.out, HS1.out]; exact hR.of_block (hb3.block _ hR.lt)⟩
          case measure => simp [intOf]; omega
        · have HS1 := Lib.hid (hsy _ hz)
          rw [hz] at z
          clear hsp hsy
          have Q : ∀ w3, Below wr.heap.size wr w3 → w3.cell? ⟨w.heap.size, 2, none⟩ = some (.slice (some a) c.na p.k2) ∧ w3.cell? (a.add ((((v : Int) - 1 - c.i).toNat - c.nl) * 2)) = some (.int .i64 (c.ga j)) ∧ w3.cell? ⟨w1.heap.size, (c.ga j / 2).toNat, none⟩ = some (.bool (c.rk l k (c.ga j / 2).toNat)) ∧ w3.frozen? ⟨w1.heap.size, (c.ga j / 2).toNat, none⟩ = false ∧
              (w3.setCell ⟨w1.heap.size, (c.ga j / 2).toNat, none⟩ (.bool true)).cell? ⟨w.heap.size, 2, none⟩ = some (.slice (some a) c.na p.k2) ∧ (w3.setCell ⟨w1.heap.size, (c.ga j / 2).toNat, none⟩ (.bool true)).cell? ⟨(a.add ((((v : Int) - 1 - c.i).toNat - c.nl) * 2)).block, (a.add ((((v : Int) - 1 - c.i).toNat - c.nl) * 2)).off + 1, none⟩ = some (.int .i64 (c.gb j)) ∧
              (w3.setCell ⟨w1.heap.size, (c.ga j / 2).toNat, none⟩ (.bool true)).cell? ⟨w1.heap.size, (c.gb j / 2).toNat, none⟩ = some (.bool ((c.gb j / 2).toNat == (c.ga j / 2).toNat || c.rk l k (c.gb j / 2).toNat)) ∧ (w3.setCell ⟨w1.heap.size, (c.ga j / 2).toNat, none⟩ (.bool true)).frozen? ⟨w1.heap.size, (c.gb j / 2).toNat, none⟩ = false := fun w3 hb3 => by
            rw [← hj]
            have hA3 := hA.keep hb3 hA.lt
            have hR3 := hR.of_block (hb3.block _ hR.lt)
            have hA4 := hA3.far (q := ⟨w1.heap.size, (c.ga j / 2).toNat, none⟩) (by simp; omega) (.bool true)
            have hR4 := row_true hR3 (c.ga j / 2).toNat
            have q1 := hA3.box.2.2.1
            have q2 := hA4.box.2.2.1
            rw [hAa] at q1 q2
            refine ⟨q1, (hb3.cell (by rw [add_block]; omega)).trans y0, hR3.cell n5, hR3.frozen _, q2, ?_, hR4.cell n6, hR4.frozen _⟩
            rw [World.cell?_setCell_other _ _ _ _ (fun e => by have := congrArg Addr.block e; simp [add_block] at this; omega)]
            exact (hb3.cell (by simp only [add_block]; omega)).trans y1
          have HQ := Lib.hid Q
          have HH := Lib.hid (And.intro hBr (And.intro hA hR))
          clear Q y0 y1 hBr hA hR hm hj HJ hAa hab
          go_wp2_with (go_at_call 28; refine (rGate_any c p v _ hb.1 hb.2.1 g1 (by omega) (by omega)).mono ?_; rintro e w3 ⟨rfl, hb3⟩; obtain ⟨q0, q1, q2, q3, q4, q5, q6, q7⟩ := HQ.out w3 hb3; have zz : w3.cell? ⟨w1.heap.size, v, none⟩ = some (.bool true) := (hb3.cell (p := ⟨w1.heap.size, v, none⟩) hlr).trans z)
          obtain ⟨hBr, hA, hR⟩ := HH.out
          go_roundw
          case rel => exact ⟨v - 1, k + 1, by omega, by congr 1; omega, hkn, ((Below.step hBr hBr.size hb3).setCell (by simp; omega) _).setCell (by simp; omega) _, ((hA.keep hb3 hA.lt).far (by simp; omega) _).far (by simp; omega) _, by rw [HRK.out, HS1.out]; exact row_true (row_true (hR.of_block (hb3.block _ hR.lt)) _) _⟩
          case measure => simp [intOf]; omega
      · have hkn : Hid (k = min (sn - (v - 1)) c.na) := by have := hkv.out; show k = _; omega
        have hg' : (v : Int) - 1 - c.i - c.nl < 0 := by omega
        clear hse
        cases hz : c.rk l k v
        all_goals
          rw [hz] at z
          go_wp2_with (go_at_call 28; refine (rGate_any c p v _ hb.1 hb.2.1 g1 (by omega) (by omega)).mono ?_; rintro e w3 ⟨rfl, hb3⟩; obtain ⟨hc3, hf3⟩ := bcell hb3; have hlr := hR.lt; have hla := hA.lt)
          go_roundw
          case rel => exact ⟨v - 1, k, by omega, by congr 1; omega, hkn, Below.step hBr hBr.size hb3, hA.keep hb3 hA.lt, hR.of_block (hb3.block _ hR.lt)⟩
          case measure => simp [intOf]; omega
    · obtain rfl : v = 0 := by omega
      have hkk : k = c.na := by have := hkv.out; omega
      subst hkk
      have n0 : 0 < sn + 1 := by omega
      have z := hR.cell n0
      have zf := hR.frozen 0
      clear hkv hse
      go_wp2
      go_ret
      refine ⟨_, rfl, hB1.size, (hR.set 0 (.bool false)).congr fun j _ => ?_, hBr.setCell (by simp; omega) _⟩
      by_cases e : j = 0
      · rw [if_pos e, if_pos e]
      · rw [if_neg e, if_neg e]; rfl

namespace Cr
/-- Cone's error, and its list -/
def cE (c : Cr) (l : Int) : Int := if c.chk ≠ 0 then c.chk else if litB c.sz l = true then 0 else 2
def cL (c : Cr) (l : Int) : List Int := if c.chk = 0 ∧ litB c.sz l = true then c.cone l else []
theorem cnL_zero (R : Nat → Bool) : ∀ q, cnL (fun v => if v = 0 then false else R v) q = cnL R q
  | 0 => rfl
  | q + 1 => by
    have h := cnL_zero R q
    unfold cnL
    rw [h]
    by_cases hq : 0 < q
    · have : ¬ q = 0 := by omega
      simp [this]
    · simp [hq]
end Cr

/-- what Cone says, of any circuit and literal: a list in memory of the call's own, and the error -/
def ConeSays (c : Cr) (l : Int) (w : World) (e : Ending) (w' : World) : Prop :=
  ∃ v, e = .returned (.tuple #[v, .int .i64 (c.cE l)]) ∧ w'.ownsRow w.heap.size 3 1 v (c.cL l).length (il (c.cL l)) ∧ Below w.heap.size w w'
theorem ConeSays.nil {c : Cr} {l : Int} {w w' : World} {n : Int} (h : c.cE l = n) (h' : c.cL l = []) (hb : Below w.heap.size w w') : ConeSays c l w (.returned (.tuple #[.slice none 0 0, .int .i64 n])) w' :=
  ⟨_, by rw [h], by rw [h']; exact World.ownsRow_nil _ _ _ _, hb⟩
theorem ConeSays.ok {c : Cr} {l : Int} {w w' : World} {e : Ending} (h : c.chk = 0) (h' : Cr.litB c.sz l = true) (hc : ConeIs c l w e w') : ConeSays c l w e w' := by
  obtain ⟨v, he, ho, hb⟩ := hc
  have h1 : c.cE l = 0 := by unfold Cr.cE; rw [if_neg (by omega), if_pos h']
  have h2 : c.cL l = c.cone l := if_pos ⟨h, h'⟩
  exact ⟨v, by rw [h1]; exact he, by rw [h2]; exact ho, hb⟩

set_option maxRecDepth 100000 in
set_option maxHeartbeats 2000000 in
theorem rCone_ok (c : Cr) (p : Pl) (l : Int) (w : World) (hm : Mem w w.heap.size c p) (hs : Sm c) (h : (c.chk == 0) = true) (hl : Cr.litB c.sz l = true) :
    Calls Try.prog 23 #[cv c p, .int .i64 l] w (ConeIs c l w) := by
  have g1 := hs.nl
  have g2 := hs.na
  have h' : (c.chk != 0) = false := by simp [bne, h]
  have hb := Cr.chk_i h hs
  have hlb : 0 ≤ l ∧ l / 2 ≤ c.sz := of_decide_eq_true hl
  have hl1 : l ≤ 2001 := by omega
  obtain ⟨sn, hsn⟩ : ∃ sn : Nat, c.sz = sn := ⟨c.sz.toNat, by omega⟩
  have hsn1 : sn ≤ 1000 := by omega
  have hlc : l / 2 ≤ (sn : Int) := by omega
  have HS := Lib.hid hsn
  have HCL := Lib.hid hl
  clear hsn hl
  have hB0 : Below w.heap.size w w := Below.refl _ _
  obtain ⟨i0, hi0, hzz0, hs0, hy0⟩ := info_parts info_int
  go_enter Try.func23, Try.ntmps23
  go_wp2_with (first
    | (go_at_call 21; refine (rCheck_any c p _ (hm.to (by go_grown) (by go_size)) hs).mono ?_; rintro e w1 ⟨rfl, hb1⟩; obtain ⟨hc1, hf1⟩ := bcell hb1; have hz1 : w.heap.size < w1.heap.size := (by have := hb1.size; (try simp at this); omega); have hB1 : Below w.heap.size w w1 := Below.step (by go_grown) (by go_size) hb1)
    | (go_at_call 26; refine (rSize_any c p _ hb.1 hb.2.1 g1 g2).mono ?_; rintro e w2 ⟨rfl, hb2⟩; rw [HS.out]; obtain ⟨hc2, hf2⟩ := bcell hb2; have hz2 : w.heap.size < w2.heap.size := (by have := hb2.size; omega); have hB2 : Below w.heap.size w w2 := Below.step hB1 hB1.size hb2)
    | (go_at_call 40; refine (rIn_any c p l sn _ (hm.to hB2 hB2.size) hs h HCL.out HS.out).mono ?_; rintro e w5 ⟨g, rfl, hgg, hR5, hb5⟩; have hB5 : Below w.heap.size w w5 := Below.step hB2 hB2.size hb5))
  obtain ⟨R, hRd⟩ : ∃ R : Nat → Bool, (fun v => if v = 0 then false else c.rch l v) = R := ⟨_, rfl⟩
  have hR5 : w5.rowIs g 4 (sn + 1) (fun v => .bool (R v)) := by rw [← hRd]; exact hR5
  have HR := Lib.hid hRd
  clear hRd hc1 hf1 hc2 hf2 hb1 hb2 hb5
  have hblt : g < w5.heap.size := hR5.lt
  go_loopw [7, 8] (fun v i wr => ∃ q : Nat, 1 ≤ q ∧ q ≤ sn + 1 ∧ i = .int .i64 q ∧ wr.ownsRow w5.heap.size 3 1 v (Cr.cnL R q).length (il (Cr.cnL R q)) ∧ wr.rowIs g 4 (sn + 1) (fun v => .bool (R v)) ∧ Below w5.heap.size w5 wr) (fun _ i _ => sn + 1 - (intOf i).toNat)
  case atStart => exact ⟨1, Nat.le_refl _, by omega, rfl, by rw [Cr.cnL_no (q := 0) (by omega)]; exact World.ownsRow_nil _ _ _ _, hR5, Below.refl _ _⟩
  case round =>
    obtain ⟨q, hq0, hq, rfl, hown, hRw, hBw⟩ := hrel
    have hlen := Cr.cnL_len R q
    by_cases hlt : q < sn + 1
    · have n2 : (q : Int) < (sn : Int) + 1 := by omega
      have z := hRw.cell hlt
      cases hv : R q
      · have HN := Lib.hid (Cr.cnL_no (R := R) (q := q) (fun h => by rw [hv] at h; cases h.2))
        rw [hv] at z
        go_wp2
        go_roundw
        case rel => exact ⟨q + 1, by omega, by omega, by go_num, by rw [HN.out]; exact hown, hRw, hBw⟩
        case measure => simp [intOf]; omega
      · have HN := Lib.hid (Cr.cnL_yes (R := R) (q := q) ⟨hq0, hv⟩)
        rw [hv] at z
        go_wp2_with (at_builtin; refine wpList_append_own _ rfl _ _ 24 rfl w5.heap.size 3 i0 (.int .i64 0) 1 8 Try.underlying24 hi0 hzz0 hs0 hy0 rfl (by decide) _ _ _ rfl (hown.alloc _) ⟨wr.heap.size, 0, none⟩ 1 1 [.int .i64 q] rfl rfl (cell_one_new _ _ _) (by simp [Value.oneCell']) (by simp only [maxLen]; omega) (by omega) (by have := hBw.size; simp; omega) ?_; intro v' w8 hown' hgrow _)
        go_roundw
        case rel => exact ⟨q + 1, by omega, by omega, by go_num, by rw [HN.out]; simpa [il] using hown', (hRw.alloc _).of_block (hgrow.block _ (by simp; have := hRw.lt; omega) (fun e => by have := own_block hown _ e.symm; omega)), (hBw.alloc hBw.size _).grown hgrow (by simp; have := hBw.size; omega) (own_block hown)⟩
        case measure => simp [intOf]; omega
    · obtain rfl : q = sn + 1 := by omega
      clear hq hlt
      have hc : c.cone l = Cr.cnL R (sn + 1) := by unfold Cr.cone; rw [← HR.out, Cr.cnL_zero, HS.out]; rfl
      have HC := Lib.hid hc
      clear hc
      go_wp2
      go_ret2
      exact ⟨_, rfl, by rw [HC.out]; exact own_base hown hB5.size, hB5.trans (hBw.mono hB5.size)⟩

set_option maxRecDepth 100000 in
set_option maxHeartbeats 2000000 in
theorem rCone_any (c : Cr) (p : Pl) (l : Int) (w : World) (hm : Mem w w.heap.size c p) (hs : Sm c) (hl0 : l ≤ 9223372036854775807) :
    Calls Try.prog 23 #[cv c p, .int .i64 l] w (ConeSays c l w) := by
  have g1 := hs.nl
  have g2 := hs.na
  have hB0 : Below w.heap.size w w := Below.refl _ _
  cases h : (c.chk == 0)
  · have h' : (c.chk != 0) = true := by simp [bne, h]
    have hn : c.chk ≠ 0 := by simpa using h
    have HR : Hid (c.cE l = c.chk ∧ c.cL l = []) := ⟨if_pos hn, if_neg (fun h => hn h.1)⟩
    clear hn
    go_enter Try.func23, Try.ntmps23
    go_wp2_with (first
      | (go_at_call 21; refine (rCheck_any c p _ (hm.to (by go_grown) (by go_size)) hs).mono ?_; rintro e w1 ⟨rfl, hb1⟩; obtain ⟨hc1, hf1⟩ := bcell hb1; have hz1 : w.heap.size < w1.heap.size := (by have := hb1.size; (try simp at this); omega); have hB1 : Below w.heap.size w w1 := Below.step (by go_grown) (by go_size) hb1))
    go_ret2
    exact ConeSays.nil HR.out.1 HR.out.2 hB1
  · have h0 : c.chk = 0 := by simpa using h
    cases hl : Cr.litB c.sz l
    · have h' : (c.chk != 0) = false := by simp [bne, h]
      have hb := Cr.chk_i h hs
      have HR : Hid (c.cE l = 2 ∧ c.cL l = []) := ⟨by unfold Cr.cE; rw [if_neg (by omega), if_neg (by rw [hl]; simp)], if_neg (fun h => by rw [hl] at h; cases h.2)⟩
      have hx : l < 0 ∨ (¬ l < 0 ∧ c.sz < l / 2) := by have := of_decide_eq_false hl; omega
      clear h0
      rcases hx with hx | ⟨hx, hx2⟩
      all_goals
        go_enter Try.func23, Try.ntmps23
        go_wp2_with (first
          | (go_at_call 21; refine (rCheck_any c p _ (hm.to (by go_grown) (by go_size)) hs).mono ?_; rintro e w1 ⟨rfl, hb1⟩; obtain ⟨hc1, hf1⟩ := bcell hb1; have hz1 : w.heap.size < w1.heap.size := (by have := hb1.size; (try simp at this); omega); have hB1 : Below w.heap.size w w1 := Below.step (by go_grown) (by go_size) hb1)
          | (go_at_call 26; refine (rSize_any c p _ hb.1 hb.2.1 g1 g2).mono ?_; rintro e w2 ⟨rfl, hb2⟩; have hB1 : Below w.heap.size w w2 := Below.step hB1 hB1.size hb2))
        go_ret2
        exact ConeSays.nil HR.out.1 HR.out.2 hB1
    · exact (rCone_ok c p l w hm hs h hl).mono fun e w' hc => ConeSays.ok h0 hl hc

set_option maxRecDepth 100000 in
set_option maxHeartbeats 2000000 in
theorem gCone_any (c : Cr) (p : Pl) (l : Int) (w : World) (hm : Mem w w.heap.size c p) (hs : Sm c) :
    Calls Try.prog 13 #[cv c p, .int .i64 l] w (ConeSays c l w) := by
  cases h : (c.chk == 0)
  · have h' : (c.chk != 0) = true := by simp [bne, h]
    have hn : c.chk ≠ 0 := by simpa using h
    have HR : Hid (c.cE l = c.chk ∧ c.cL l = []) := ⟨if_pos hn, if_neg (fun h => hn h.1)⟩
    clear hn
    go_enter Try.func13, Try.ntmps13
    go_wp2_with (first
      | (go_at_call 15; refine (gCheck_any c p _ (mem_alloc hm _) hs).mono ?_; rintro e w1 ⟨rfl, hb1⟩; have hB1 : Below w.heap.size w w1 := Below.step (by go_grown) (by go_size) hb1))
    go_ret2
    exact ConeSays.nil HR.out.1 HR.out.2 hB1
  · have h0 : c.chk = 0 := by simpa using h
    cases hl : Cr.litB c.sz l
    · have h' : (c.chk != 0) = false := by simp [bne, h]
      have hb := Cr.chk_i h hs
      have HR : Hid (c.cE l = 2 ∧ c.cL l = []) := ⟨by unfold Cr.cE; rw [if_neg (by omega), if_neg (by rw [hl]; simp)], if_neg (fun h => by rw [hl] at h; cases h.2)⟩
      clear h0
      go_enter Try.func13, Try.ntmps13
      go_wp2_with (first
        | (go_at_call 15; refine (gCheck_any c p _ (mem_alloc hm _) hs).mono ?_; rintro e w1 ⟨rfl, hb1⟩; obtain ⟨hc1, hf1⟩ := bcell hb1; have hz1 : w.heap.size < w1.heap.size := (by have := hb1.size; (try simp at this); omega); have hB1 : Below w.heap.size w w1 := Below.step (by go_grown) (by go_size) hb1)
        | (go_at_call 31; refine (isLitOf_any c p l _ hs hb.1 hb.2.2).mono ?_; rintro e w2 ⟨rfl, hb2⟩; have hB1 : Below w.heap.size w w2 := Below.step hB1 hB1.size hb2))
      go_ret2
      exact ConeSays.nil HR.out.1 HR.out.2 hB1
    · exact (gCone_ok c p l w hm hs h hl).mono fun e w' hc => ConeSays.ok h0 hl hc
