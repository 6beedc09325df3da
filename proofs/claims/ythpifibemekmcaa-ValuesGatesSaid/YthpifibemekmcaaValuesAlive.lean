/- The chapter's circuit of layer 4: the contracts of example, is, fit and alive. -/
import Derived.Test.YthpifibemekmcaaValuesKit
namespace Go.Proofs.Ythpifibemekmcaa
open Go.RowKit
set_option linter.unusedVariables false
set_option linter.unusedSimpArgs false

/-- the chapter's circuit -/
def exV : Cr := ⟨2, 1, 2, 1, 1, fun _ => 10, fun _ => 0, fun j => if j = 0 then 4 else 8, fun j => if j = 0 then 2 else 7, fun _ => 11, fun _ => 2⟩
theorem exV_sm : Sm exV := ⟨i64_k 2 (by decide) (by decide), by decide, by decide, by decide, by decide, fun _ => i64_k 10 (by decide) (by decide), fun _ => i64_k 0 (by decide) (by decide), fun _ => ite_bd (i64_k 4 (by decide) (by decide)) (i64_k 8 (by decide) (by decide)), fun _ => ite_bd (i64_k 2 (by decide) (by decide)) (i64_k 7 (by decide) (by decide)), fun _ => i64_k 11 (by decide) (by decide), fun _ => i64_k 2 (by decide) (by decide)⟩
theorem lt6 {j : Nat} (h : j < 6) : j = 0 ∨ j = 1 ∨ j = 2 ∨ j = 3 ∨ j = 4 ∨ j = 5 := by omega
/-- a circuit that a call has made -/
def CircIs (c : Cr) (w : World) (e : Ending) (w' : World) : Prop := ∃ p, e = .returned (cv c p) ∧ Mem w' w'.heap.size c p ∧ Below w.heap.size w w'
theorem bls_of_has {w : World} {g : Nat} {t : TypeId} {cs : Array Value} {n : Nat} {f : Nat → Bool} (h : Has w g t cs) (hc : ∀ j, j < n → cs[j]? = some (.bool (f j))) : BlsAt w w.heap.size (some ⟨g, 0, none⟩) n f := fun _ =>
  ⟨_, rfl, h.lt, fun j hj => by
    have e : (⟨g, 0, none⟩ : Addr).add j = ⟨g, j, none⟩ := by unfold Addr.add; split <;> simp_all
    rw [e, h.cell j, hc j hj]⟩

set_option maxRecDepth 100000 in
set_option maxHeartbeats 2000000 in
theorem ex4_any (w : World) : Calls Try.prog 63 #[] w (CircIs exV w) := by
  go_enter Try.func63, Try.ntmps63
  go_wp2
  refine bodyPost_ret (v := cv exV ⟨some ⟨w.heap.size + 1, 0, none⟩, some ⟨w.heap.size + 1 + 1, 0, none⟩, some ⟨w.heap.size + 1 + 1 + 1, 0, none⟩, some ⟨w.heap.size + 1 + 1 + 1 + 1, 0, none⟩, 1, 2, 1, 1⟩) (by simp [results, Try.results63, go_sem]; exact ⟨rfl, rfl, rfl, rfl, rfl⟩) rfl ⟨_, rfl, ⟨?_, ?_, ?_, ?_⟩, by go_grown⟩
  · exact pairs_of_has (cs := #[.int .i64 10, .int .i64 0]) ((((Has.new' _ _ (by simp)).al _).al _).al _) (fun j hj => by rw [Nat.lt_one_iff.1 hj]; exact ⟨rfl, rfl⟩)
  · exact pairs_of_has (cs := #[.int .i64 4, .int .i64 2, .int .i64 8, .int .i64 7]) (((Has.new' _ _ (by simp)).al _).al _) (fun j hj => by rcases lt2 hj with rfl | rfl <;> exact ⟨rfl, rfl⟩)
  · exact ints_of_has (cs := #[.int .i64 11]) ((Has.new' _ _ (by simp)).al _) (fun j hj => by rw [Nat.lt_one_iff.1 hj]; rfl)
  · exact ints_of_has (cs := #[.int .i64 2]) (Has.new' _ _ (by simp)) (fun j hj => by rw [Nat.lt_one_iff.1 hj]; rfl)

set_option maxHeartbeats 1000000 in
theorem is_any (A : Option Addr) (n k : Nat) (F : Nat → Bool) (l : Int) (B : Nat) (w : World) (hA : BlsAt w B A n F) (h0 : 0 ≤ l) (h1 : l ≤ 2001) (hn : l / 2 < (n : Int)) :
    Calls Try.prog 41 #[.slice A n k, .int .i64 l] w fun e w' => e = .returned (.bool (vlo F l)) ∧ w = w' := by
  go_enter Try.func41, Try.ntmps41
  go_wp2_with (go_at_call 43; refine (of_yes A n k F l B _ hA h0 h1 hn).mono ?_; rintro e w1 ⟨rfl, rfl⟩)
  go_ret
  exact ⟨rfl, rfl⟩

/-- what fit says -/
def Cr.ft (c : Cr) (ns ni : Nat) : Bool := decide (c.gr = false ∧ ns ≤ 100 ∧ ni ≤ 100 ∧ c.ask ns ni = 0)
theorem Cr.ft_yes {c : Cr} {ns ni : Nat} (h : c.ft ns ni = true) : c.gr = false ∧ ns ≤ 100 ∧ ni ≤ 100 ∧ c.ask ns ni = 0 := of_decide_eq_true h

set_option maxRecDepth 100000 in
set_option maxHeartbeats 2000000 in
theorem fit_yes {c : Cr} {p : Pl} {As At : Option Addr} {ns ks ni ki : Nat} {s t : Nat → Bool} (hf : c.ft ns ni = true) (w : World) (h : Arg w w.heap.size c p As ns ks s At ni ki t) :
    Calls Try.prog 36 #[cv c p, .slice As ns ks, .slice At ni ki] w fun e w' => e = .returned (.bool true) ∧ Below w.heap.size w w' := by
  obtain ⟨hg, h1, h2, hk⟩ := Cr.ft_yes hf
  have HK := Lib.hid hk
  clear hk hf
  have hB0 : Below w.heap.size w w := Below.refl _ _
  go_enter Try.func36, Try.ntmps36
  go_wp2_with (first
    | (go_at_call 21; refine (rGreat_any c p _).mono ?_; rintro e w1 ⟨rfl, hb1⟩; obtain ⟨hc1, hf1⟩ := bcell hb1; have hz1 : w.heap.size < w1.heap.size := (by have := hb1.size; (try simp at this); omega); have hB1 : Below w.heap.size w w1 := Below.step (by go_grown) (by go_size) hb1)
    | (go_at_call 31; (with_reducible refine (rAsked_ok HK.out w1 (h.to hB1 hB1.size)).mono ?_); rintro e w2 ⟨rfl, hb2⟩; have hB2 : Below w.heap.size w w2 := Below.step hB1 hB1.size hb2))
  go_ret
  exact ⟨rfl, hB2⟩
set_option maxRecDepth 100000 in
set_option maxHeartbeats 2000000 in
theorem fit_no {c : Cr} {p : Pl} {As At : Option Addr} {ns ks ni ki : Nat} {s t : Nat → Bool} (hf : c.ft ns ni = false) (w : World) (hm : Mem w w.heap.size c p) (hv : Vals c) :
    Calls Try.prog 36 #[cv c p, .slice As ns ks, .slice At ni ki] w fun e w' => e = .returned (.bool false) ∧ Below w.heap.size w w' := by
  have hB0 : Below w.heap.size w w := Below.refl _ _
  cases hg : c.gr
  · by_cases h1 : ns ≤ 100
    · by_cases h2 : ni ≤ 100
      · have hgr := Cr.gr_no hg
        have hs : Sm c := hv.sm (by omega) (by omega) (by omega) (by omega)
        have hk : (c.ask ns ni == 0) = false := by
          have := of_decide_eq_false hf
          simp [hg, h1, h2] at this
          simpa using this
        clear hf hgr
        go_enter Try.func36, Try.ntmps36
        go_wp2_with (first
          | (go_at_call 21; refine (rGreat_any c p _).mono ?_; rintro e w1 ⟨rfl, hb1⟩; obtain ⟨hc1, hf1⟩ := bcell hb1; have hz1 : w.heap.size < w1.heap.size := (by have := hb1.size; (try simp at this); omega); have hB1 : Below w.heap.size w w1 := Below.step (by go_grown) (by go_size) hb1)
          | (go_at_call 31; (with_reducible refine (rAsked_any c p As At ns ks ni ki w1 (hm.to hB1 hB1.size) hs (by omega) (by omega)).mono ?_); rintro e w2 ⟨rfl, hb2⟩; have hB2 : Below w.heap.size w w2 := Below.step hB1 hB1.size hb2))
        go_ret
        exact ⟨rfl, hB2⟩
      · clear hf
        go_enter Try.func36, Try.ntmps36
        go_wp2_with (first
          | (go_at_call 21; refine (rGreat_any c p _).mono ?_; rintro e w1 ⟨rfl, hb1⟩; have hB1 : Below w.heap.size w w1 := Below.step (by go_grown) (by go_size) hb1))
        go_ret
        exact ⟨rfl, hB1⟩
    · clear hf
      go_enter Try.func36, Try.ntmps36
      go_wp2_with (first
        | (go_at_call 21; refine (rGreat_any c p _).mono ?_; rintro e w1 ⟨rfl, hb1⟩; have hB1 : Below w.heap.size w w1 := Below.step (by go_grown) (by go_size) hb1))
      go_ret
      exact ⟨rfl, hB1⟩
  · clear hf
    go_enter Try.func36, Try.ntmps36
    go_wp2_with (first
      | (go_at_call 21; refine (rGreat_any c p _).mono ?_; rintro e w1 ⟨rfl, hb1⟩; have hB1 : Below w.heap.size w w1 := Below.step (by go_grown) (by go_size) hb1))
    go_ret
    exact ⟨rfl, hB1⟩

theorem exV_ask : exV.ask 1 2 = 0 := by decide +kernel
theorem exV_fn : exV.fn 1 2 = 6 := by decide +kernel
theorem exV_nn : exV.nn 1 2 = 1 := by decide +kernel
/-- the values of the chapter's example -/
def exL (j : Nat) : Bool := [false, true, true, false, true, true].getD j false
theorem exV_fr : ∀ j, j < 6 → exV.fr (fun _ => false) (fun _ => true) j = exL j := by decide +kernel
theorem exV_nv : ∀ j, j < 1 → exV.nv (fun _ => false) (fun _ => true) j = true := by decide +kernel
theorem exAll {p : Pl} {As At : Option Addr} {ks ki : Nat} (w : World) (h : Arg w w.heap.size exV p As 1 ks (fun _ => false) At 2 ki (fun _ => true)) :
    Calls Try.prog 33 #[cv exV p, .slice As 1 ks, .slice At 2 ki] w (BoolsErr 6 exL 0 w) := by
  have := all_any w h
  rw [exV_ask, exV_fn] at this
  exact this.mono fun e w' ⟨A, k, he, hi, hb⟩ => ⟨A, k, he, hi.congr exV_fr, hb⟩
theorem exNext {p : Pl} {As At : Option Addr} {ks ki : Nat} (w : World) (h : Arg w w.heap.size exV p As 1 ks (fun _ => false) At 2 ki (fun _ => true)) :
    Calls Try.prog 34 #[cv exV p, .slice As 1 ks, .slice At 2 ki] w (BoolsErr 1 (fun _ => true) 0 w) := by
  have := next_any w h
  rw [exV_ask, exV_nn] at this
  exact this.mono fun e w' ⟨A, k, he, hi, hb⟩ => ⟨A, k, he, hi.congr exV_nv, hb⟩
theorem bAt1 (x : Bool) : ∀ j, j < 1 → (#[Value.bool x] : Array Value)[j]? = some (.bool ((fun _ => x) j)) := fun j hj => by rw [Nat.lt_one_iff.1 hj]; rfl
theorem bAtt (x : Bool) : ∀ j, j < 2 → (#[Value.bool x, Value.bool x] : Array Value)[j]? = some (.bool ((fun _ => x) j)) := fun j hj => by rcases lt2 hj with rfl | rfl <;> rfl
theorem bAt2 (x y : Bool) : ∀ j, j < 2 → (#[Value.bool x, Value.bool y] : Array Value)[j]? = some (.bool ((fun j => if j = 0 then x else y) j)) := fun j hj => by rcases lt2 hj with rfl | rfl <;> rfl
theorem exL_at : ∀ j, j < 6 → (#[Value.bool false, Value.bool true, Value.bool true, Value.bool false, Value.bool true, Value.bool true] : Array Value)[j]? = some (.bool (exL j)) := fun j hj => by rcases lt6 hj with rfl | rfl | rfl | rfl | rfl | rfl <;> rfl
/-- a circuit, and two lists just laid -/
theorem arg2 {X : World} {c : Cr} {p : Pl} (hm : Mem X X.heap.size c p) (hs : Sm c) {cs1 cs2 : Array Value} {n1 n2 : Nat} {f1 f2 : Nat → Bool} (b1 : n1 ≤ 100000) (b2 : n2 ≤ 100000) (h1 : ∀ j, j < n1 → cs1[j]? = some (.bool (f1 j))) (h2 : ∀ j, j < n2 → cs2[j]? = some (.bool (f2 j))) :
    Arg ((X.alloc (.cells cs1 4)).alloc (.cells cs2 4)) ((X.alloc (.cells cs1 4)).alloc (.cells cs2 4)).heap.size c p (some ⟨X.heap.size, 0, none⟩) n1 n1 f1 (some ⟨X.heap.size + 1, 0, none⟩) n2 n2 f2 :=
  ⟨hm.to (((Below.refl _ _).alloc (Nat.le_refl _) _).alloc (by simp) _) (by simp; omega), hs, bls_of_has ((Has.new X 4 cs1).al _) h1, bls_of_has (Has.new' _ _ (by simp)) h2, (fun h => by cases h), (fun h => by cases h), b1, b2⟩

set_option maxRecDepth 100000 in
set_option maxHeartbeats 4000000 in
theorem alive4_any (w : World) : Calls Try.prog 37 #[] w fun e w' => e = .returned (.bool true) ∧ Below w.heap.size w w' := by
  go_enter Try.func37, Try.ntmps37
  go_wp2_with (first
    | (go_at_call 63; (with_reducible refine (ex4_any w).mono ?_); rintro e w1 ⟨p1, rfl, hm1, hb1⟩; have hX1 : Below w.heap.size w ((w1.alloc (.cells #[.bool false] 4)).alloc (.cells #[.bool true, .bool true] 4)) := (hb1.alloc hb1.size _).alloc (by have := hb1.size; simp; omega) _)
    | (go_at_call 33; (with_reducible refine (exAll _ (arg2 hm1 exV_sm (by omega) (by omega) (bAt1 false) (bAtt true))).mono ?_); rintro e w2 ⟨A2, k2, rfl, hi2, hb2⟩; have hB2 : Below w.heap.size w w2 := Below.step hX1 hX1.size hb2)
    | (go_at_call 63; (with_reducible refine (ex4_any w2).mono ?_); rintro e w3 ⟨p3, rfl, hm3, hb3⟩; have hY3 : Below w2.heap.size w2 ((w3.alloc (.cells #[.bool false] 4)).alloc (.cells #[.bool true, .bool true] 4)) := (hb3.alloc hb3.size _).alloc (by have := hb3.size; simp; omega) _)
    | (go_at_call 34; (with_reducible refine (exNext _ (arg2 hm3 exV_sm (by omega) (by omega) (bAt1 false) (bAtt true))).mono ?_); rintro e w4 ⟨A4, k4, rfl, hi4, hb4⟩; have hB4 : Below w2.heap.size w2 w4 := Below.step hY3 hY3.size hb4; have hi2 := (hi2.keep hB4).more hB4.size; have hW4 := Below.step hB2 hB2.size hB4)
    | (go_at_call 44; (with_reducible refine (samBs_self A2 (some ⟨w4.heap.size, 0, none⟩) 6 k2 6 exL (w4.heap.size + 1) (w4.alloc _) (by omega) ((hi2.keep ((Below.refl _ _).alloc (Nat.le_refl _) _)).more (by omega)) ((bls_of_has (Has.new _ _ _) exL_at).more (by simp))).mono ?_); rintro e w5 ⟨rfl, hb5⟩; have hV5 : Below w4.heap.size w4 w5 := Below.step ((Below.refl _ _).alloc (Nat.le_refl _) _) (by simp) hb5; have hi4 := (hi4.keep hV5).more hV5.size; have hW5 := Below.step hW4 hW4.size hV5)
    | (go_at_call 44; (with_reducible refine (samBs_self A4 (some ⟨w5.heap.size, 0, none⟩) 1 k4 1 (fun _ => true) (w5.heap.size + 1) (w5.alloc _) (by omega) ((hi4.keep ((Below.refl _ _).alloc (Nat.le_refl _) _)).more (by omega)) ((bls_of_has (Has.new _ _ _) (bAt1 true)).more (by simp))).mono ?_); rintro e w6 ⟨rfl, hb6⟩; have hW6 := Below.step hW5 hW5.size (Below.step ((Below.refl _ _).alloc (Nat.le_refl _) _) (by simp) hb6)))
  go_ret
  exact ⟨rfl, hW6⟩
