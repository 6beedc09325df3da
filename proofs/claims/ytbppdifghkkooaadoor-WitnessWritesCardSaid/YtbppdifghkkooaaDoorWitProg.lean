/- The program's rows: a list of truth values as digits, digits as truth values, an index, the rows of a text. -/
import Derived.Test.YtbppdifghkkooaaDoorWitIdx
import Derived.Shelf.Strings.SlTrimAscii
import Derived.Lib.ItoaMem
namespace Go.Proofs.YtbppdifghkkooaaDoor
open Go Go.RowKit
set_option linter.unusedVariables false
set_option linter.unusedSimpArgs false

theorem info_u8w : (Tryd.prog.info? 5).map (fun i => (i.zero, i.size, i.bytes)) = some (some (.int .u8 0), 1, 1) := by kernel_rfl
/-- the cells of a row of digits of which q are written -/
def dgC (f : Nat → Bool) (q j : Nat) : Value := .int .u8 (if j < q then (if f j = true then 49 else 48) else 0)
theorem d01_nat (f : Nat → Bool) (n j : Nat) (h : j < (d01 f n).length) : ((d01 f n)[j].toNat : Int) = if f j = true then 49 else 48 := by
  have h2 := d01_at (f := f) (n := n) (j := j) (by rw [d01_len] at h; exact h)
  rw [List.getD_eq_getElem?_getD, List.getElem?_eq_getElem h] at h2
  have h3 : (d01 f n)[j] = if f j = true then 49 else 48 := h2
  rw [h3]
  split <;> rfl

set_option maxRecDepth 100000 in
set_option maxHeartbeats 4000000 in
theorem rowOf_any (A : Option Addr) (n k : Nat) (f : Nat → Bool) (B : Nat) (w : World) (hn : n ≤ 100000) (hB : B ≤ w.heap.size) (hA : BlsAt w B A n f) :
    Calls Tryd.prog 13 #[.slice A n k] w fun e w' => e = .returned (.string (str (d01 f n))) ∧ Below w.heap.size w w' := by
  have hmk : ∀ w : World, (Instr.makeSlice 54 (.int .i64 (n : Int)) (.int .i64 (n : Int))).run Tryd.prog w = .ok (.slice (some ⟨w.heap.size, 0, none⟩) n n) (w.alloc (.cells (madeCells #[.int .u8 0] n) 5)) := fun w =>
    run_make_row' 54 5 (.int .u8 0) 1 Tryd.underlying54 info_u8w rfl _ _ n (by omega) (by omega) w
  have HA := Lib.hid hA
  clear hA
  go_enter Tryd.func13, Tryd.ntmps13
  go_wp2
  clear hmk
  go_loopw [11] (fun i wr => ∃ q : Nat, q ≤ n ∧ i = .int .i64 q ∧ wr.rowIs w.heap.size 5 n (dgC f q) ∧ Below w.heap.size w wr) (fun i _ => n - (intOf i).toNat)
  case atStart => exact ⟨0, Nat.zero_le _, rfl, (World.rowIs_made w (.int .u8 0) n 5).congr fun j _ => (by unfold dgC; rw [if_neg (by omega)]), (Below.refl _ _).alloc (Nat.le_refl _) _⟩
  case round =>
    obtain ⟨q, hq, rfl, hR, hBr⟩ := hrel
    by_cases hlt : q < n
    · have hq0 : (0 : Int) ≤ (q : Int) := by omega
      have hq1 : (q : Int) < (n : Int) := by omega
      obtain ⟨a0, rfl, hab, hcs⟩ := HA.out (by omega)
      have y0 : wr.cell? (a0.add q) = some (.bool (f q)) := (hBr.cell (by rw [add_block]; omega)).trans (hcs q hlt)
      have c0 := hR.cell hlt
      have f0 := hR.frozen q
      have hR1 := hR.set q (.int .u8 48)
      have c1 := hR1.cell hlt
      have f1 := hR1.frozen q
      clear hcs
      cases hf : f q
      · rw [hf] at y0
        have HR : Hid ((wr.setCell ⟨w.heap.size, q, none⟩ (.int .u8 48)).rowIs w.heap.size 5 n (dgC f (q + 1))) := Lib.hid (hR1.congr fun j hj => by
          show (if j = q then Value.int .u8 48 else dgC f q j) = _
          unfold dgC
          by_cases e : j = q
          · subst e; rw [if_pos rfl, if_pos (show j < j + 1 by omega), hf]; rfl
          · rw [if_neg e]
            by_cases e2 : j < q
            · rw [if_pos e2, if_pos (show j < q + 1 by omega)]
            · rw [if_neg e2, if_neg (show ¬ j < q + 1 by omega)])
        have HB := Lib.hid hBr
        clear hR hR1 hf hBr c1 f1
        go_wp2
        go_roundw
        case rel => exact ⟨q + 1, by omega, by go_num, HR.out, HB.out.setCell (Nat.le_refl _) _⟩
        case measure => simp [intOf]; omega
      · rw [hf] at y0
        have HR : Hid (((wr.setCell ⟨w.heap.size, q, none⟩ (.int .u8 48)).setCell ⟨w.heap.size, q, none⟩ (.int .u8 49)).rowIs w.heap.size 5 n (dgC f (q + 1))) := Lib.hid ((hR1.set q (.int .u8 49)).congr fun j hj => by
          show (if j = q then Value.int .u8 49 else if j = q then Value.int .u8 48 else dgC f q j) = _
          unfold dgC
          by_cases e : j = q
          · subst e; rw [if_pos rfl, if_pos (show j < j + 1 by omega), hf]; rfl
          · rw [if_neg e, if_neg e]
            by_cases e2 : j < q
            · rw [if_pos e2, if_pos (show j < q + 1 by omega)]
            · rw [if_neg e2, if_neg (show ¬ j < q + 1 by omega)])
        have HB := Lib.hid hBr
        clear hR hR1 hf hBr
        go_wp2
        go_roundw
        case rel => exact ⟨q + 1, by omega, by go_num, HR.out, (HB.out.setCell (Nat.le_refl _) _).setCell (Nat.le_refl _) _⟩
        case measure => simp [intOf]; omega
    · obtain ⟨q', hqe⟩ : ∃ q', q' = q := ⟨_, rfl⟩
      subst hqe
      have hqn : ¬ (q' : Int) < (n : Int) := by omega
      have hcv : (convert 54 9 (.slice (some ⟨w.heap.size, 0, none⟩) n n)).run Tryd.prog wr = .ok (.string (str (d01 f n))) wr := by
        have h := run_convert_bytes_back wr 54 9 5 ⟨w.heap.size, 0, none⟩ n (d01 f n) Tryd.underlying54 Tryd.underlying5 Tryd.underlying9 (fun j hj => by
          have hj2 : j < n := by rw [d01_len] at hj; exact hj
          have e : (⟨w.heap.size, 0, none⟩ : Addr).add j = ⟨w.heap.size, j, none⟩ := by unfold Addr.add; split <;> simp_all
          rw [e, hR.cell hj2, d01_nat]
          unfold dgC
          rw [if_pos (by omega)])
        rw [d01_len] at h
        exact h
      have HB := Lib.hid hBr
      clear hR hlt hq hBr
      go_wp2
      go_ret
      exact ⟨rfl, HB.out⟩

/-- the cells of a list of truth values of which q are written -/
def blC (f : Nat → Bool) (q j : Nat) : Value := .bool (if j < q then f j else false)
/-- what valuesOf returns -/
def ValsIs (l : List UInt8) (n : Nat) (w : World) (e : Ending) (w' : World) : Prop :=
  ∃ A m k, e = .returned (.tuple #[.slice A m k, .bool (isD l n)]) ∧ Below w.heap.size w w' ∧ (isD l n = true → m = n ∧ BlsAt w' w'.heap.size A n (bvD l) ∧ A ≠ none ∧ n ≤ k ∧ k ≤ maxLen ∧ ∀ a, A = some a → w.heap.size ≤ a.block)
theorem isD_no {l : List UInt8} {n : Nat} (h : l.length ≠ n) : isD l n = false := decide_eq_false fun h' => h h'.1

theorem itoa_any (v : Int) (h0 : -9223372036854775808 ≤ v) (h1 : v ≤ 9223372036854775807) (w : World) (htab : Lib.TabIs Tryd.prog w "internal/strconv.uint64pow10" .u64 Lib.pow10Tab) :
    Calls Tryd.prog 12 #[.int .i64 v] w fun e w' => e = .returned (.string (str (Lib.itoa v))) ∧ Below w.heap.size w w' :=
  (Tryd.strconv_Itoa v h0 h1 w htab).mono fun e w' ⟨he, k, os, hw⟩ => ⟨he, by
    rw [hw]
    have h0 : Below w.heap.size w (w.drewN k) := ⟨rfl, rfl, rfl, Nat.le_refl _, fun _ _ => rfl⟩
    exact h0.trans (show Below w.heap.size (w.drewN k) _ from grow_is (w.drewN k) os)⟩
/-- what indexOf returns -/
def IdwIs (l : List UInt8) (w : World) (e : Ending) (w' : World) : Prop :=
  ∃ v : Int, e = .returned (.tuple #[.int .i64 v, .bool (nbr l).isSome]) ∧ Below w.heap.size w w' ∧ ∀ x, nbr l = some x → v = (x : Int)
theorem byw {w w1 : World} {n : Nat} (hW : w1 = w ∨ ∃ t, w1 = Lib.bytesWorld w n t) : Below w.heap.size w w1 := by
  rcases hW with rfl | ⟨t, rfl⟩
  · exact Below.refl _ _
  · exact Lib.bytesWorld_below _ _ _

end Go.Proofs.YtbppdifghkkooaaDoor
