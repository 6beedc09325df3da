/- What is packed and unpacked again, as the laws need it. -/
import Derived.Test.YtafhdckcclhjlaaDeltaKit2
namespace Go.Proofs.Ytafhdckcclhjlaa
open Go Go.RowKit
set_option linter.unusedVariables false
set_option linter.unusedSimpArgs false

/-- what is unpacked: it is right, and packed it is its bytes -/
theorem un_all {v n : Int} {l : List UInt8} (h : unE v n l = 0) : 1 ≤ v ∧ v ≤ 1000 ∧ (unN v n l : Int) = n ∧ v + n ≤ 1001 ∧ allR v (unA v n l) (unB v n l) (unN v n l) = true ∧ pkE v (unA v n l) (unB v n l) (unN v n l) = 0 ∧ pkL v (unA v n l) (unB v n l) (unN v n l) = l.take (unS v n l) ∧ unS v n l ≤ l.length := by
  have ha := asd_ways v n
  have h0 : asd v n = 0 := by
    by_cases h0 : asd v n = 0
    · exact h0
    · unfold unE at h; rw [if_pos h0] at h; exact absurd h h0
  have hu : upE v l n.toNat = 0 := by unfold unE at h; rwa [if_neg (by simpa using h0)] at h
  have eN : unN v n l = n.toNat := if_pos h
  have eS : unS v n l = upT v l n.toNat := if_pos h
  have hc : ∀ j, j < n.toNat → unA v n l j = upA v l j ∧ unB v n l j = upB v l j := fun j hj => by
    unfold unA unB
    rw [eN]
    exact ⟨upto_lt hj, upto_lt hj⟩
  have hr : allR v (unA v n l) (unB v n l) n.toNat = true := by rw [allR_congr rfl hc]; exact up_right hu
  have hE : pkE v (unA v n l) (unB v n l) n.toNat = 0 := by
    unfold pkE
    rw [show ((n.toNat : Nat) : Int) = n by omega, if_neg (by simpa using h0), if_pos hr]
  refine ⟨by omega, by omega, by rw [eN]; omega, by omega, by rw [eN]; exact hr, by rw [eN]; exact hE, ?_, ?_⟩
  · rw [eN, eS]
    unfold pkL
    rw [if_pos hE, pk_congr rfl hc]
    exact up_pk hu
  · rw [eS]; exact (upT_le v l _).1
theorem un_no {v n : Int} {l : List UInt8} (h : unE v n l ≠ 0) : unN v n l = 0 ∧ unS v n l = 0 := ⟨if_neg h, if_neg h⟩
/-- what is packed is unpacked, whatever stands behind it -/
theorem un_pk {v : Int} {f g : Nat → Int} {n : Nat} (h0 : asd v n = 0) (h : allR v f g n = true) (b : List UInt8) : pkE v f g n = 0 ∧ pkL v f g n = pk v f g n ∧ (pk v f g n).length ≤ 10 * n ∧ unE v n (pk v f g n ++ b) = 0 ∧ unN v n (pk v f g n ++ b) = n ∧ unS v n (pk v f g n ++ b) = (pk v f g n).length ∧ ∀ j, j < n → unA v n (pk v f g n ++ b) j = f j ∧ unB v n (pk v f g n ++ b) j = g j := by
  have ha := asd_ways v n
  have hE : pkE v f g n = 0 := by unfold pkE; rw [if_neg (by simpa using h0), if_pos h]
  obtain ⟨u1, u2, u3⟩ := pk_up (by omega) (by omega) h b n (Nat.le_refl _)
  have e1 : unE v n (pk v f g n ++ b) = 0 := by unfold unE; rw [if_neg (by simpa using h0), Int.toNat_natCast]; exact u1
  have e2 : unN v n (pk v f g n ++ b) = n := by unfold unN; rw [if_pos e1, Int.toNat_natCast]
  refine ⟨hE, by unfold pkL; rw [if_pos hE], pk_len (by omega) (by omega) h, e1, e2, by unfold unS; rw [if_pos e1, Int.toNat_natCast]; exact u2, fun j hj => ?_⟩
  obtain ⟨a, c⟩ := u3 j hj
  unfold unA unB
  rw [e2, upto_lt hj, upto_lt hj]
  exact ⟨a, c⟩
/-- a part of gates that are right -/
theorem pk_parts {v : Int} {f g : Nat → Int} {n c : Nat} (h0 : asd v n = 0) (h : allR v f g n = true) (hc : c < n) : pkE v f g c = 0 ∧ pkL v f g c = pk v f g c ∧ pkE (v + c) (fun j => f (c + j)) (fun j => g (c + j)) (n - c) = 0 ∧ pkL (v + c) (fun j => f (c + j)) (fun j => g (c + j)) (n - c) = pk (v + c) (fun j => f (c + j)) (fun j => g (c + j)) (n - c) ∧ pk v f g n = pk v f g c ++ pk (v + c) (fun j => f (c + j)) (fun j => g (c + j)) (n - c) := by
  have ha := asd_ways v n
  have a1 : asd v c = 0 := by have := asd_ways v c; omega
  have a2 : asd (v + c) ((n - c : Nat) : Int) = 0 := by have := asd_ways (v + c) ((n - c : Nat) : Int); omega
  have r1 : allR v f g c = true := allR_mk fun j hj => allR_at h j (by omega)
  have r2 : allR (v + c) (fun j => f (c + j)) (fun j => g (c + j)) (n - c) = true := allR_mk fun j hj => by
    have := allR_at h (c + j) (by omega)
    rwa [show v + ((c + j : Nat) : Int) = v + c + j by omega] at this
  have e1 : pkE v f g c = 0 := by unfold pkE; rw [if_neg (by simpa using a1), if_pos r1]
  have e2 : pkE (v + c) (fun j => f (c + j)) (fun j => g (c + j)) (n - c) = 0 := by unfold pkE; rw [if_neg (by simpa using a2), if_pos r2]
  refine ⟨e1, by unfold pkL; rw [if_pos e1], e2, by unfold pkL; rw [if_pos e2], ?_⟩
  have := pk_cut v f g c (n - c)
  rwa [show c + (n - c) = n by omega] at this
theorem PairsAt.congr {w : World} {B : Nat} {A : Option Addr} {n : Nat} {f g f' g' : Nat → Int} (h : PairsAt w B A n f g) (e : ∀ j, j < n → f j = f' j ∧ g j = g' j) : PairsAt w B A n f' g' := fun hn => by
  obtain ⟨a, e1, hl, hc⟩ := h hn
  exact ⟨a, e1, hl, fun j hj => by rw [← (e j hj).1, ← (e j hj).2]; exact hc j hj⟩
theorem bstr_add {l m : List UInt8} (h : l.length + m.length ≤ 10000000) (w : World) : (Op.stringOp .add (bstr l) (bstr m)).run Try.prog w = .ok (.string (bstr (l ++ m))) w := by
  have e : bstr l ++ bstr m = bstr (l ++ m) := by
    unfold bstr
    show (⟨l.toArray⟩ : ByteArray) ++ ⟨m.toArray⟩ = _
    ext1
    simp
  have s : ∀ l : List UInt8, (bstr l).size = l.length := fun l => by simp [bstr, ByteArray.size]
  rw [run_string_add_sum w _ _ (by rw [s, s]; omega), e]
/-- an empty list of bytes that the call has just laid -/
theorem Byo.empty {B : Nat} (W : World) (hB : B ≤ W.heap.size) : Byo B (W.alloc (.cells #[] 5)) (.slice (some ⟨W.heap.size, 0, none⟩) 0 0) [] := Byo.lit (l := []) hB (by simp)
/-- the last byte alone is less than 128 -/
theorem bts_last (n : Nat) : ∀ (j : Nat) (x : UInt8), (bts n)[j]? = some x → (decide ((x.toNat : Int) < 128)) = ((j : Int) == ((bts n).length : Int) - 1) := fun j x hx => by
  have hj : j < (bts n).length := (List.getElem?_eq_some_iff.1 hx).1
  obtain ⟨y, h1, h2, _⟩ := bts_at n j hj
  rw [hx] at h1
  cases h1
  rw [Bool.eq_iff_iff, decide_eq_true_iff, beq_iff_eq]
  omega
end Go.Proofs.Ytafhdckcclhjlaa
