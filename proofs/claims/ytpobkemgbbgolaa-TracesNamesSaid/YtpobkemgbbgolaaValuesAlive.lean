/- The chapter's circuit of layer 4: the contracts of example, is, fit and alive. -/
import Derived.Test.YtpobkemgbbgolaaValuesKit
namespace Go.Proofs.Ytpobkemgbbgolaa
open Go.RowKit
set_option linter.unusedVariables false
set_option linter.unusedSimpArgs false

/-- the chapter's circuit -/
def exV : Cr := ⟨2, 1, 2, 1, 1, fun _ => 10, fun _ => 0, fun j => if j = 0 then 4 else 8, fun j => if j = 0 then 2 else 7, fun _ => 11, fun _ => 2⟩
theorem exV_sm : Sm exV := ⟨i64_k 2 (by decide) (by decide), by decide, by decide, by decide, by decide, fun _ => i64_k 10 (by decide) (by decide), fun _ => i64_k 0 (by decide) (by decide), fun _ => ite_bd (i64_k 4 (by decide) (by decide)) (i64_k 8 (by decide) (by decide)), fun _ => ite_bd (i64_k 2 (by decide) (by decide)) (i64_k 7 (by decide) (by decide)), fun _ => i64_k 11 (by decide) (by decide), fun _ => i64_k 2 (by decide) (by decide)⟩
theorem lt6 {j : Nat} (h : j < 6) : j = 0 ∨ j = 1 ∨ j = 2 ∨ j = 3 ∨ j = 4 ∨ j = 5 := by omega
/-- a circuit that a call has made -/
def CircIs (c : Cr) (w : World) (e : Ending) (w' : World) : Prop := ∃ p, e = .returned (cv c p) ∧ Mem w' w'.heap.size c p ∧ Below w.heap.size w w'
theorem bls_of_has {w : World} {g : Nat} {t : TypeId} {cs : Array Value} {n : Nat} {f : Nat → Bool} (h : Has w g t cs) (hc : ∀ j, j < n → cs[j]? = some (.bool (f j))) : BlsAt w w.heap.size (some ⟨g, 0, none⟩) n f := fun _ =>
  ⟨_, rfl, h.lt, fun j hj => by
    have e : (⟨g, 0, none⟩ : Addr).add j = ⟨g, j, none⟩ := by unfold Addr.add; split <;> simp_all
    rw [e, h.cell j, hc j hj]⟩

/-- what fit says -/
def Cr.ft (c : Cr) (ns ni : Nat) : Bool := decide (c.gr = false ∧ ns ≤ 100 ∧ ni ≤ 100 ∧ c.ask ns ni = 0)
theorem Cr.ft_yes {c : Cr} {ns ni : Nat} (h : c.ft ns ni = true) : c.gr = false ∧ ns ≤ 100 ∧ ni ≤ 100 ∧ c.ask ns ni = 0 := of_decide_eq_true h

theorem exV_ask : exV.ask 1 2 = 0 := by decide +kernel
theorem exV_fn : exV.fn 1 2 = 6 := by decide +kernel
theorem exV_nn : exV.nn 1 2 = 1 := by decide +kernel
/-- the values of the chapter's example -/
def exL (j : Nat) : Bool := [false, true, true, false, true, true].getD j false
theorem exV_fr : ∀ j, j < 6 → exV.fr (fun _ => false) (fun _ => true) j = exL j := by decide +kernel
theorem exV_nv : ∀ j, j < 1 → exV.nv (fun _ => false) (fun _ => true) j = true := by decide +kernel
theorem exAll {p : Pl} {As At : Option Addr} {ks ki : Nat} (w : World) (h : Arg w w.heap.size exV p As 1 ks (fun _ => false) At 2 ki (fun _ => true)) :
    Calls Try.prog 26 #[cv exV p, .slice As 1 ks, .slice At 2 ki] w (BoolsErr 6 exL 0 w) := by
  have := all_any w h
  rw [exV_ask, exV_fn] at this
  exact this.mono fun e w' ⟨A, k, he, hi, hb⟩ => ⟨A, k, he, hi.congr exV_fr, hb⟩
theorem exNext {p : Pl} {As At : Option Addr} {ks ki : Nat} (w : World) (h : Arg w w.heap.size exV p As 1 ks (fun _ => false) At 2 ki (fun _ => true)) :
    Calls Try.prog 16 #[cv exV p, .slice As 1 ks, .slice At 2 ki] w (BoolsErr 1 (fun _ => true) 0 w) := by
  have := next_any w h
  rw [exV_ask, exV_nn] at this
  exact this.mono fun e w' ⟨A, k, he, hi, hb⟩ => ⟨A, k, he, hi.congr exV_nv, hb⟩
theorem bAt1 (x : Bool) : ∀ j, j < 1 → (#[Value.bool x] : Array Value)[j]? = some (.bool ((fun _ => x) j)) := fun j hj => by rw [Nat.lt_one_iff.1 hj]; rfl
theorem bAtt (x : Bool) : ∀ j, j < 2 → (#[Value.bool x, Value.bool x] : Array Value)[j]? = some (.bool ((fun _ => x) j)) := fun j hj => by rcases lt2 hj with rfl | rfl <;> rfl
theorem bAt2 (x y : Bool) : ∀ j, j < 2 → (#[Value.bool x, Value.bool y] : Array Value)[j]? = some (.bool ((fun j => if j = 0 then x else y) j)) := fun j hj => by rcases lt2 hj with rfl | rfl <;> rfl
theorem exL_at : ∀ j, j < 6 → (#[Value.bool false, Value.bool true, Value.bool true, Value.bool false, Value.bool true, Value.bool true] : Array Value)[j]? = some (.bool (exL j)) := fun j hj => by rcases lt6 hj with rfl | rfl | rfl | rfl | rfl | rfl <;> rfl
/-- a circuit, and two lists just laid -/
theorem arg2 {X : World} {c : Cr} {p : Pl} (hm : Mem X X.heap.size c p) (hs : Sm c) {cs1 cs2 : Array Value} {n1 n2 : Nat} {f1 f2 : Nat → Bool} (b1 : n1 ≤ 100000) (b2 : n2 ≤ 100000) (h1 : ∀ j, j < n1 → cs1[j]? = some (.bool (f1 j))) (h2 : ∀ j, j < n2 → cs2[j]? = some (.bool (f2 j))) :
    Arg ((X.alloc (.cells cs1 4)).alloc (.cells cs2 4)) ((X.alloc (.cells cs1 4)).alloc (.cells cs2 4)).heap.size c p (some ⟨X.heap.size, 0, none⟩) n1 n1 f1 (some ⟨X.heap.size + 1, 0, none⟩) n2 n2 f2 :=
  ⟨hm.to (((Below.refl _ _).alloc (Nat.le_refl _) _).alloc (by simp) _) (by simp; omega), hs, bls_of_has ((Has.new X 4 cs1).al _) h1, bls_of_has (Has.new' _ _ (by simp)) h2, (fun h => by cases h), (fun h => by cases h), b1, b2⟩