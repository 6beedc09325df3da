/- The chapter's circuit of layer 11: example, two, alive, fails. -/
import Derived.Test.YtbppdifghkkooaaGreatDoorWitRead
import Derived.Test.YtbppdifghkkooaaGreatDoorWitWr
import Derived.Test.YtbppdifghkkooaaGreatDoorTraceRef4
namespace Go.Proofs.YtbppdifghkkooaaGreatDoor
open Go Go.RowKit
set_option linter.unusedVariables false
set_option linter.unusedSimpArgs false

def tx11 : List UInt8 := [49, 10, 98, 48, 10, 48, 10, 10, 10, 46, 10]
theorem tx11_w : exA.wck (rnT 2) 0 = 0 ∧ exA.wrW (rnT 2) 0 = tx11 := by
  have h1 : exA.wck (rnT 2) 0 = 0 := by decide +kernel
  refine ⟨h1, ?_⟩
  unfold Cr.wrW
  rw [if_pos h1]
  unfold wtx mdl rwL
  have e : dgs 0 = [48] := by rw [dgs_nat 0 (by decide)]; show Lib.decDigits 0 = _; rw [Lib.decDigits, dif_pos (by decide)]; rfl
  rw [e]
  decide +kernel
theorem tx11_r : exA.wrE tx11 = 0 ∧ exA.wrB tx11 = 0 ∧ (exA.wrT tx11).nf = 1 ∧ (exA.wrT tx11).ni = 2 ∧ (exA.wrT tx11).fi 0 = false := by
  have h1 : exA.wrE tx11 = 0 := by decide +kernel
  refine ⟨h1, ?_, ?_, ?_, ?_⟩
  · unfold Cr.wrB; rw [if_pos h1]; decide +kernel
  · unfold Cr.wrT; rw [if_pos h1]; rfl
  · unfold Cr.wrT; rw [if_pos h1]; show (mL tx11).length - 2 = 2; decide +kernel
  · unfold Cr.wrT; rw [if_pos h1]; show bvD (mR tx11 1) 0 = false; decide +kernel

set_option maxRecDepth 100000 in
set_option maxHeartbeats 2000000 in
theorem ex11_any (w : World) : Calls Tryz.prog 19 #[] w fun e w' => ∃ p : Pl, e = .returned (cv exA p) ∧ Mem w' w'.heap.size exA p ∧ (1 ≤ p.k3 ∧ p.k3 ≤ maxLen) ∧ Below w.heap.size w w' := by
  go_enter Tryz.func19, Tryz.ntmps19
  go_wp2
  refine bodyPost_ret (v := cv exA ⟨some ⟨w.heap.size + 1, 0, none⟩, none, some ⟨w.heap.size + 1 + 1, 0, none⟩, none, 1, 0, 1, 0⟩) (by simp [results, Tryz.results19, go_sem]; exact ⟨rfl, rfl, rfl, rfl, rfl⟩) rfl ⟨_, rfl, ⟨?_, ?_, ?_, ?_⟩, ⟨Nat.le_refl _, by simp only [maxLen]; omega⟩, by go_grown⟩
  · exact pairs_of_has (cs := #[.int .i64 3, .int .i64 0]) ((Has.new' _ _ (by simp)).al _) (fun j hj => by rw [Nat.lt_one_iff.1 hj]; exact ⟨rfl, rfl⟩)
  · exact fun h => absurd h (Nat.not_lt_zero _)
  · exact ints_of_has (cs := #[.int .i64 2]) (Has.new' _ _ (by simp)) (fun j hj => by rw [Nat.lt_one_iff.1 hj]; rfl)
  · exact fun h => absurd h (Nat.not_lt_zero _)

theorem made_at11 (v : Value) {n j : Nat} (hj : j < n) : (madeCells #[v] n)[j]? = some v := by
  simp [madeCells, Nat.mod_one, hj]

set_option maxRecDepth 100000 in
set_option maxHeartbeats 2000000 in
theorem two11_any (w : World) : Calls Tryz.prog 47 #[] w fun e w' => ∃ q, e = .returned (tv (rnT 2) q) ∧ TMem w' w'.heap.size (rnT 2) q ∧ Below w.heap.size w w' := by
  have hmk : ∀ w : World, (Instr.makeSlice 45 (.int .i64 2) (.int .i64 2)).run Tryz.prog w = .ok (.slice (some ⟨w.heap.size, 0, none⟩) 2 2) (w.alloc (.cells (madeCells #[.slice none 0 0] 2) 44)) := fun w =>
    run_make_row' 45 44 (.slice none 0 0) 24 Tryz.underlying45 info_bools rfl .i64 .i64 2 (by omega) (by omega) w
  go_enter Tryz.func47, Tryz.ntmps47
  go_wp2
  refine bodyPost_ret (v := .agg #[.slice (some ⟨w.heap.size + 1, 0, none⟩) 1 1, .slice (some ⟨w.heap.size + 1 + 1, 0, none⟩) 2 2]) (by simp [results, Tryz.results47, go_sem]) rfl ⟨⟨some ⟨w.heap.size + 1, 0, none⟩, 1, some ⟨w.heap.size + 1 + 1, 0, none⟩, 2⟩, rfl, ⟨?_, ?_, (fun h => by cases h), (fun h => by cases h), Nat.le_refl _, by simp only [maxLen]; omega⟩, by go_grown⟩
  · exact bls_of_has (cs := #[.bool false]) ((Has.new' _ _ (by simp)).al _) (fun j hj => by rw [Nat.lt_one_iff.1 hj]; rfl)
  · intro h0
    refine ⟨_, rfl, by simp, fun j hj => ⟨none, 0, ?_, fun h => absurd h (Nat.not_lt_zero _), fun _ => ⟨rfl, rfl⟩⟩⟩
    have hh : ∀ (X : World) (g : Nat), X.heap.size = g → Has (X.alloc (.cells (madeCells #[.slice none 0 0] 2) 44)) g 44 (madeCells #[.slice none 0 0] 2) := fun X g h => Has.new' X g h
    have e : (⟨w.heap.size + 1 + 1, 0, none⟩ : Addr).add j = ⟨w.heap.size + 1 + 1, j, none⟩ := by unfold Addr.add; split <;> simp_all
    rw [e, (hh _ _ (by simp)).cell j]
    exact made_at11 _ hj

set_option maxRecDepth 100000 in
set_option maxHeartbeats 4000000 in
theorem alive11_any (B : Nat) (w : World) (hE : EnvW B w) (hB : B ≤ w.heap.size) : Calls Tryz.prog 20 #[] w fun e w' => e = .returned (.bool true) ∧ Below w.heap.size w w' := by
  have DW : Hid (∀ W p q, Mem W W.heap.size exA p → (1 ≤ p.k3 ∧ p.k3 ≤ maxLen) → TMem W W.heap.size (rnT 2) q → Calls Tryz.prog 16 #[cv exA p, tv (rnT 2) q, .int .i64 0] W fun e w' => e = .returned (.tuple #[.string (str tx11), .int .i64 0]) ∧ Below W.heap.size W w') := Lib.hid fun W p q hm hk ht => by
    have := wWrite_any (c := exA) (p := p) (t := rnT 2) (q := q) 0 (i64_k 0 (by decide) (by decide)) W ⟨hm, exA_sm, ht, rnT_sm (by omega)⟩ hk
    rwa [tx11_w.1, tx11_w.2] at this
  have DR : Hid (∀ W p, Below w.heap.size w W → Mem W W.heap.size exA p → (1 ≤ p.k3 ∧ p.k3 ≤ maxLen) → Calls Tryz.prog 22 #[cv exA p, .string ⟨#[49, 10, 98, 48, 10, 48, 10, 10, 10, 46, 10]⟩] W fun e w' => ∃ (a : Addr) (k1 : Nat) (A2 : Option Addr) (k2 : Nat), e = .returned (.tuple #[.agg #[.slice (some a) 1 k1, .slice A2 2 k2], .int .i64 0, .int .i64 0]) ∧ w'.cell? a = some (.bool false) ∧ Below W.heap.size W w') := Lib.hid fun W p hb hm hk => by
    refine (wRead_any (c := exA) (p := p) tx11 (by decide) B W hm exA_sm hk (hE.next hB hb) (Nat.le_trans hB hb.size)).mono fun e w' h => ?_
    obtain ⟨q, he, hT, hb'⟩ := h
    obtain ⟨r1, r2, r3, r4, r5⟩ := tx11_r
    obtain ⟨a, ea, _, hc⟩ := hT.fi (by rw [r3]; omega)
    have hc0 := hc 0 (by rw [r3]; omega)
    rw [r5] at hc0
    refine ⟨a, q.k1, q.A2, q.k2, ?_, by simpa [Addr.add] using hc0, hb'⟩
    rw [he, r1, r2]
    show Ending.returned (.tuple #[.agg #[.slice q.A1 (exA.wrT tx11).nf q.k1, .slice q.A2 (exA.wrT tx11).ni q.k2], _, _]) = _
    rw [r3, r4, ea]
    rfl
  obtain ⟨S, hS⟩ : ∃ S, S = str tx11 := ⟨_, rfl⟩
  have e1 : (S.toList == [49, 10, 98, 48, 10, 48, 10, 10, 10, 46, 10]) = true := by rw [hS, str_list]; decide
  rw [← hS] at DW
  clear hS hE hB
  go_enter Tryz.func20, Tryz.ntmps20
  go_wp2_with (first
    | (go_at_call 19; (with_reducible refine (ex11_any w).mono ?_); rintro e w1 ⟨p1, rfl, hm1, hk1, hb1⟩)
    | (go_at_call 47; (with_reducible refine (two11_any w1).mono ?_); rintro e w2 ⟨q2, rfl, ht2, hb2⟩; have hB2 := Below.step hb1 hb1.size hb2; have hm2 := hm1.to hb2 hb2.size)
    | (go_at_call 16; (with_reducible refine (DW.out w2 p1 q2 hm2 hk1 ht2).mono ?_); rintro e w3 ⟨rfl, hb3⟩; have hB3 := Below.step hB2 hB2.size hb3)
    | (go_at_call 19; (with_reducible refine (ex11_any w3).mono ?_); rintro e w4 ⟨p4, rfl, hm4, hk4, hb4⟩; have hB4 := Below.step hB3 hB3.size hb4)
    | (go_at_call 22; (with_reducible refine (DR.out w4 p4 hB4 hm4 hk4).mono ?_); rintro e w5 ⟨a, k1, A2, k2, rfl, hc5, hb5⟩; have hB5 := Below.step hB4 hB4.size hb5; have hB6 := hB5.alloc hB5.size (.cells #[.slice (some a) 1 k1, .slice A2 2 k2] 47); have hc6 := ca hc5 (.cells #[.slice (some a) 1 k1, .slice A2 2 k2] 47)))
  go_ret
  exact ⟨by simp, hB6⟩

/-- a text that is an error -/
theorem wrd_x {c : Cr} {s : List UInt8} {x : Int} (h : c.wrE s = x) (h0 : x ≠ 0) : c.wrT s = z0T ∧ c.wrB s = 0 := ⟨by unfold Cr.wrT; rw [if_neg (by omega)], by unfold Cr.wrB; rw [if_neg (by omega)]⟩
set_option maxRecDepth 100000 in
set_option maxHeartbeats 4000000 in
theorem fails11_any {c : Cr} {p : Pl} (l : List UInt8) (hl : l.length ≤ 100000) (x : Int) (h0 : x ≠ 0) (h1 : c.wrE l = x) (B : Nat) (w : World) (hm : Mem w w.heap.size c p) (hs : Sm c) (hk : c.nb ≤ p.k3 ∧ p.k3 ≤ maxLen) (hE : EnvW B w) (hB : B ≤ w.heap.size) :
    Calls Tryz.prog 18 #[cv c p, .string (str l), .int .i64 x] w fun e w' => e = .returned (.bool true) ∧ Below w.heap.size w w' := by
  have DR : Hid (∀ W, Below w.heap.size w W → Calls Tryz.prog 22 #[cv c p, .string (str l)] W fun e w' => (∃ (A1 A2 : Option Addr) (k1 k2 : Nat), e = .returned (.tuple #[.agg #[.slice A1 0 k1, .slice A2 0 k2], .int .i64 0, .int .i64 x])) ∧ Below W.heap.size W w') := Lib.hid fun W hb => by
    refine (wRead_any l hl B W (hm.to hb hb.size) hs hk (hE.next hB hb) (Nat.le_trans hB hb.size)).mono fun e w' h => ?_
    obtain ⟨q, he, hT, hb'⟩ := h
    obtain ⟨e1, e2⟩ := wrd_x h1 h0
    rw [e1, e2, h1] at he
    exact ⟨⟨q.A1, q.A2, q.k1, q.k2, he⟩, hb'⟩
  obtain ⟨S, hS⟩ : ∃ S, S = str l := ⟨_, rfl⟩
  rw [← hS] at DR ⊢
  have hb0 : Below w.heap.size w (w.alloc (.cells #[.int .i64 c.i, .slice p.A1 c.nl p.k1, .slice p.A2 c.na p.k2, .slice p.A3 c.nb p.k3, .slice p.A4 c.nc p.k4] 34)) := (Below.refl _ _).alloc (Nat.le_refl _) _
  have H0 := Lib.hid hb0
  clear hS hE hB hm hs hk h1 h0 hb0
  go_enter Tryz.func18, Tryz.ntmps18
  go_wp2_with (go_at_call 22; (with_reducible refine (DR.out _ H0.out).mono ?_); rintro e w1 ⟨⟨A1, A2, k1, k2, rfl⟩, hb1⟩; have hB1 := Below.step H0.out H0.out.size hb1; have hB2 := hB1.alloc hB1.size (.cells #[.slice A1 0 k1, .slice A2 0 k2] 47))
  go_ret
  exact ⟨by simp, hB2⟩

end Go.Proofs.YtbppdifghkkooaaGreatDoor
