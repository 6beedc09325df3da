/- The program's rows: a list of truth values as digits, digits as truth values, an index, the rows of a text. -/
import Derived.Test.YtbppdifghkkooaaGreatDoorWitIdx
import Derived.Shelf.Strings.SlTrimAscii
import Derived.Lib.ItoaMem
namespace Go.Proofs.YtbppdifghkkooaaGreatDoor
open Go Go.RowKit
set_option linter.unusedVariables false
set_option linter.unusedSimpArgs false

theorem info_u8w : (Tryz.prog.info? 5).map (fun i => (i.zero, i.size, i.bytes)) = some (some (.int .u8 0), 1, 1) := by kernel_rfl
/-- the cells of a row of digits of which q are written -/
def dgC (f : Nat → Bool) (q j : Nat) : Value := .int .u8 (if j < q then (if f j = true then 49 else 48) else 0)
theorem d01_nat (f : Nat → Bool) (n j : Nat) (h : j < (d01 f n).length) : ((d01 f n)[j].toNat : Int) = if f j = true then 49 else 48 := by
  have h2 := d01_at (f := f) (n := n) (j := j) (by rw [d01_len] at h; exact h)
  rw [List.getD_eq_getElem?_getD, List.getElem?_eq_getElem h] at h2
  have h3 : (d01 f n)[j] = if f j = true then 49 else 48 := h2
  rw [h3]
  split <;> rfl

set_option maxRecDepth 100000 in
set_option maxHeartbeats 4000000 in
theorem rowOf_any (A : Option Addr) (n k : Nat) (f : Nat → Bool) (B : Nat) (w : World) (hn : n ≤ 100000) (hB : B ≤ w.heap.size) (hA : BlsAt w B A n f) :
    Calls Tryz.prog 44 #[.slice A n k] w fun e w' => e = .returned (.string (str (d01 f n))) ∧ Below w.heap.size w w' := by
  have hmk : ∀ w : World, (Instr.makeSlice 144 (.int .i64 (n : Int)) (.int .i64 (n : Int))).run Tryz.prog w = .ok (.slice (some ⟨w.heap.size, 0, none⟩) n n) (w.alloc (.cells (madeCells #[.int .u8 0] n) 5)) := fun w =>
    run_make_row' 144 5 (.int .u8 0) 1 Tryz.underlying144 info_u8w rfl _ _ n (by omega) (by omega) w
  have HA := Lib.hid hA
  clear hA
  go_enter Tryz.func44, Tryz.ntmps44
  go_wp2
  clear hmk
  go_loopw [11] (fun i wr => ∃ q : Nat, q ≤ n ∧ i = .int .i64 q ∧ wr.rowIs w.heap.size 5 n (dgC f q) ∧ Below w.heap.size w wr) (fun i _ => n - (intOf i).toNat)
  case atStart => exact ⟨0, Nat.zero_le _, rfl, (World.rowIs_made w (.int .u8 0) n 5).congr fun j _ => (by unfold dgC; rw [if_neg (by omega)]), (Below.refl _ _).alloc (Nat.le_refl _) _⟩
  case round =>
    obtain ⟨q, hq, rfl, hR, hBr⟩ := hrel
    by_cases hlt : q < n
    · have hq0 : (0 : Int) ≤ (q : Int) := by omega
      have hq1 : (q : Int) < (n : Int) := by omega
      obtain ⟨a0, rfl, hab, hcs⟩ := HA.out (by omega)
      have y0 : wr.cell? (a0.add q) = some (.bool (f q)) := (hBr.cell (by rw [add_block]; omega)).trans (hcs q hlt)
      have c0 := hR.cell hlt
      have f0 := hR.frozen q
      have hR1 := hR.set q (.int .u8 48)
      have c1 := hR1.cell hlt
      have f1 := hR1.frozen q
      clear hcs
      cases hf : f q
      · rw [hf] at y0
        have HR : Hid ((wr.setCell ⟨w.heap.size, q, none⟩ (.int .u8 48)).rowIs w.heap.size 5 n (dgC f (q + 1))) := Lib.hid (hR1.congr fun j hj => by
          show (if j = q then Value.int .u8 48 else dgC f q j) = _
          unfold dgC
          by_cases e : j = q
          · subst e; rw [if_pos rfl, if_pos (show j < j + 1 by omega), hf]; rfl
          · rw [if_neg e]
            by_cases e2 : j < q
            · rw [if_pos e2, if_pos (show j < q + 1 by omega)]
            · rw [if_neg e2, if_neg (show ¬ j < q + 1 by omega)])
        have HB := Lib.hid hBr
        clear hR hR1 hf hBr c1 f1
        go_wp2
        go_roundw
        case rel => exact ⟨q + 1, by omega, by go_num, HR.out, HB.out.setCell (Nat.le_refl _) _⟩
        case measure => simp [intOf]; omega
      · rw [hf] at y0
        have HR : Hid (((wr.setCell ⟨w.heap.size, q, none⟩ (.int .u8 48)).setCell ⟨w.heap.size, q, none⟩ (.int .u8 49)).rowIs w.heap.size 5 n (dgC f (q + 1))) := Lib.hid ((hR1.set q (.int .u8 49)).congr fun j hj => by
          show (if j = q then Value.int .u8 49 else if j = q then Value.int .u8 48 else dgC f q j) = _
          unfold dgC
          by_cases e : j = q
          · subst e; rw [if_pos rfl, if_pos (show j < j + 1 by omega), hf]; rfl
          · rw [if_neg e, if_neg e]
            by_cases e2 : j < q
            · rw [if_pos e2, if_pos (show j < q + 1 by omega)]
            · rw [if_neg e2, if_neg (show ¬ j < q + 1 by omega)])
        have HB := Lib.hid hBr
        clear hR hR1 hf hBr
        go_wp2
        go_roundw
        case rel => exact ⟨q + 1, by omega, by go_num, HR.out, (HB.out.setCell (Nat.le_refl _) _).setCell (Nat.le_refl _) _⟩
        case measure => simp [intOf]; omega
    · obtain ⟨q', hqe⟩ : ∃ q', q' = q := ⟨_, rfl⟩
      subst hqe
      have hqn : ¬ (q' : Int) < (n : Int) := by omega
      have hcv : (convert 144 9 (.slice (some ⟨w.heap.size, 0, none⟩) n n)).run Tryz.prog wr = .ok (.string (str (d01 f n))) wr := by
        have h := run_convert_bytes_back wr 144 9 5 ⟨w.heap.size, 0, none⟩ n (d01 f n) Tryz.underlying144 Tryz.underlying5 Tryz.underlying9 (fun j hj => by
          have hj2 : j < n := by rw [d01_len] at hj; exact hj
          have e : (⟨w.heap.size, 0, none⟩ : Addr).add j = ⟨w.heap.size, j, none⟩ := by unfold Addr.add; split <;> simp_all
          rw [e, hR.cell hj2, d01_nat]
          unfold dgC
          rw [if_pos (by omega)])
        rw [d01_len] at h
        exact h
      have HB := Lib.hid hBr
      clear hR hlt hq hBr
      go_wp2
      go_ret
      exact ⟨rfl, HB.out⟩

/-- what Trim leaves of a row -/
theorem trim_any (l : List UInt8) (hl : l.length ≤ 100000) (w : World) : Calls Tryz.prog 144 #[.string (str l), .string ⟨#[48, 49]⟩] w fun e w' => e = .returned (.string (str (Lib.trimS l [48, 49]))) ∧ Below w.heap.size w w' := by
  have h := Any.strings_Trim_laid Tryz.lays160 (by kernel_rfl) (str l) ⟨#[48, 49]⟩ w (by rw [str_size]; omega) (by decide) (ascii_of_all (by decide))
  have e : (str l).data.toList = l := by simp [str]
  rw [e] at h
  exact h

/-- the cells of a list of truth values of which q are written -/
def blC (f : Nat → Bool) (q j : Nat) : Value := .bool (if j < q then f j else false)
/-- what valuesOf returns -/
def ValsIs (l : List UInt8) (n : Nat) (w : World) (e : Ending) (w' : World) : Prop :=
  ∃ A m k, e = .returned (.tuple #[.slice A m k, .bool (isD l n)]) ∧ Below w.heap.size w w' ∧ (isD l n = true → m = n ∧ BlsAt w' w'.heap.size A n (bvD l) ∧ A ≠ none ∧ n ≤ k ∧ k ≤ maxLen ∧ ∀ a, A = some a → w.heap.size ≤ a.block)
theorem isD_no {l : List UInt8} {n : Nat} (h : l.length ≠ n) : isD l n = false := decide_eq_false fun h' => h h'.1

set_option maxRecDepth 100000 in
set_option maxHeartbeats 4000000 in
theorem valuesOf_any (l : List UInt8) (n : Nat) (x : Int) (hx : x = n) (hl : l.length ≤ 100000) (hn : n ≤ 100000) (w : World) :
    Calls Tryz.prog 97 #[.string (str l), .int .i64 x] w (ValsIs l n w) := by
  subst hx
  have F := sf_of l
  have D := Lib.hid (trim_any l hl)
  have HL : Hid (∀ q, (l.getD q 0).toNat = if bvD l q = true then 49 else (l.getD q 0).toNat) := Lib.hid fun q => by
    unfold bvD
    by_cases h : l.getD q 0 = 49
    · rw [h]; rfl
    · rw [if_neg (by simpa using h)]
  obtain ⟨m, hm⟩ : ∃ m, m = l.length := ⟨_, rfl⟩
  obtain ⟨S, hS⟩ : ∃ S, S = str l := ⟨_, rfl⟩
  obtain ⟨T, hT⟩ : ∃ T, T = Lib.trimS l [48, 49] := ⟨_, rfl⟩
  obtain ⟨X, hX⟩ : ∃ X : Nat → Int, X = fun q => ((l.getD q 0).toNat : Int) := ⟨_, rfl⟩
  rw [← hS, ← hm, ← hX] at F
  rw [← hS, ← hT] at D
  rw [← hS]
  have k0 := F.len
  have HS := Lib.hid (And.intro hS (And.intro hm (And.intro hT hX)))
  clear hS
  by_cases h1 : m = n
  · have e1 : ((m : Int) != (n : Int)) = false := by simp [h1]
    by_cases h2 : T = []
    · have e2 : ((str T).toList == ([] : List UInt8)) = true := by rw [str_list, h2]; rfl
      have HD : Hid (isD l n = true) := Lib.hid (decide_eq_true ⟨by omega, trim_iff.1 (hT.symm.trans h2)⟩)
      have HXq : Hid (∀ q, (X q == 49) = bvD l q) := Lib.hid fun q => by
        rw [hX]
        show (((l.getD q 0).toNat : Int) == 49) = (l.getD q 0 == 49)
        rw [Bool.eq_iff_iff, beq_iff_eq, beq_iff_eq, ← UInt8.toNat_inj]
        show ((l.getD q 0).toNat : Int) = 49 ↔ (l.getD q 0).toNat = 49
        omega
      have hmk : ∀ w : World, (Instr.makeSlice 44 (.int .i64 (n : Int)) (.int .i64 (n : Int))).run Tryz.prog w = .ok (.slice (some ⟨w.heap.size, 0, none⟩) n n) (w.alloc (.cells (madeCells #[.bool false] n) 4)) := fun w =>
        run_make_row' 44 4 (.bool false) 1 Tryz.underlying44 info_bool rfl _ _ n (by omega) (by omega) w
      have HM := Lib.hid h1
      clear hX hT h2 hm h1
      go_enter Tryz.func97, Tryz.ntmps97
      go_wp2_with (go_at_call 144; (with_reducible refine (D.out _).mono ?_); rintro e w1 ⟨rfl, hb1⟩)
      clear hmk e1 e2
      go_loopw [21] (fun i wr => ∃ q : Nat, q ≤ n ∧ i = .int .i64 q ∧ wr.rowIs w1.heap.size 4 n (blC (bvD l) q) ∧ Below w1.heap.size w1 wr) (fun i _ => n - (intOf i).toNat)
      case atStart => exact ⟨0, Nat.zero_le _, rfl, (World.rowIs_made w1 (.bool false) n 4).congr fun j _ => (by unfold blC; rw [if_neg (by omega)]), (Below.refl _ _).alloc (Nat.le_refl _) _⟩
      case round =>
        obtain ⟨q, hq, rfl, hR, hBr⟩ := hrel
        by_cases hlt : q < n
        · have hq0 : (0 : Int) ≤ (q : Int) := by omega
          have hq1 : (q : Int) < (n : Int) := by omega
          have i1 := F.idx q (q : Int) rfl (by rw [HM.out]; exact hlt)
          have c0 := hR.cell hlt
          have f0 := hR.frozen q
          obtain ⟨b, hb⟩ : ∃ b, (X q == 49) = b := ⟨_, rfl⟩
          have HR : Hid ((wr.setCell ⟨w1.heap.size, q, none⟩ (.bool b)).rowIs w1.heap.size 4 n (blC (bvD l) (q + 1))) := Lib.hid ((hR.set q (.bool b)).congr fun j hj => by
            show (if j = q then Value.bool b else blC (bvD l) q j) = _
            unfold blC
            by_cases e : j = q
            · subst e; rw [if_pos rfl, if_pos (by omega), ← HXq.out, hb]
            · rw [if_neg e]
              by_cases e2 : j < q
              · rw [if_pos e2, if_pos (by omega)]
              · rw [if_neg e2, if_neg (by omega)])
          have HB := Lib.hid hBr
          clear hR hBr
          go_wp2
          go_roundw
          case rel => exact ⟨q + 1, by omega, by go_num, HR.out, HB.out.setCell (Nat.le_refl _) _⟩
          case measure => simp [intOf]; omega
        · obtain ⟨q', hqe⟩ : ∃ q', q' = q := ⟨_, rfl⟩
          subst hqe
          have hqn : ¬ (q' : Int) < (n : Int) := by omega
          have HB := Lib.hid (And.intro hb1 (And.intro hBr hR))
          have HQ := Lib.hid (show q' = n by omega)
          clear hR hlt hq hBr
          go_wp2
          go_ret2
          obtain ⟨g1, g2, g3⟩ := HB.out
          refine ⟨some ⟨w1.heap.size, 0, none⟩, n, n, by rw [HD.out]; rfl, g1.trans (g2.mono g1.size), fun _ => ⟨rfl, row_bools (f := bvD l) (g3.congr fun j hj => ?_), (fun h => by cases h), Nat.le_refl _, (by simp only [maxLen]; omega), (fun a ha => by cases ha; exact g1.size)⟩⟩
          unfold blC
          rw [if_pos (by rw [HQ.out]; exact hj)]
    · have e2 : ((str T).toList == ([] : List UInt8)) = false := by rw [str_list]; simpa using h2
      have HD : Hid (isD l n = false) := Lib.hid (decide_eq_false fun h => h2 (hT.trans (trim_iff.2 h.2)))
      clear hX hT h2 hm h1 F
      go_enter Tryz.func97, Tryz.ntmps97
      go_wp2_with (go_at_call 144; (with_reducible refine (D.out _).mono ?_); rintro e w1 ⟨rfl, hb1⟩)
      go_ret2
      exact ⟨none, 0, 0, by rw [HD.out]; rfl, hb1, fun h => by rw [HD.out] at h; cases h⟩
  · have e1 : ((m : Int) != (n : Int)) = true := by simp; omega
    have HD : Hid (isD l n = false) := Lib.hid (isD_no (by omega))
    clear hX hT hm h1 F D
    go_enter Tryz.func97, Tryz.ntmps97
    go_wp2
    go_ret2
    exact ⟨none, 0, 0, by rw [HD.out]; rfl, Below.refl _ _, fun h => by rw [HD.out] at h; cases h⟩

/-- the library's variables, the errors' two among them -/
structure EnvW (B : Nat) (w : World) : Prop where
  e : Env B w
  r : ∃ te pe, w.cell? ⟨3, 0, none⟩ = some (.iface te pe)
  b : 3 < B
theorem EnvW.on {B : Nat} {w w' : World} (h : EnvW B w) (hb : Below B w w') : EnvW B w' :=
  ⟨h.e.on hb, h.r.imp fun te ⟨pe, he⟩ => ⟨pe, (hb.cell (p := ⟨3, 0, none⟩) h.b).trans he⟩, h.b⟩
theorem EnvW.next {B : Nat} {w w' : World} (h : EnvW B w) (hB : B ≤ w.heap.size) (hb : Below w.heap.size w w') : EnvW B w' := h.on (hb.mono hB)

theorem itoa_any (v : Int) (h0 : -9223372036854775808 ≤ v) (h1 : v ≤ 9223372036854775807) (w : World) (htab : Lib.TabIs Tryz.prog w "internal/strconv.uint64pow10" .u64 Lib.pow10Tab) :
    Calls Tryz.prog 43 #[.int .i64 v] w fun e w' => e = .returned (.string (str (Lib.itoa v))) ∧ Below w.heap.size w w' :=
  (Tryz.strconv_Itoa v h0 h1 w htab).mono fun e w' ⟨he, k, os, hw⟩ => ⟨he, by
    rw [hw]
    have h0 : Below w.heap.size w (w.drewN k) := ⟨rfl, rfl, rfl, Nat.le_refl _, fun _ _ => rfl⟩
    exact h0.trans (show Below w.heap.size (w.drewN k) _ from grow_is (w.drewN k) os)⟩
/-- what indexOf returns -/
def IdwIs (l : List UInt8) (w : World) (e : Ending) (w' : World) : Prop :=
  ∃ v : Int, e = .returned (.tuple #[.int .i64 v, .bool (nbr l).isSome]) ∧ Below w.heap.size w w' ∧ ∀ x, nbr l = some x → v = (x : Int)
theorem byw {w w1 : World} {n : Nat} (hW : w1 = w ∨ ∃ t, w1 = Lib.bytesWorld w n t) : Below w.heap.size w w1 := by
  rcases hW with rfl | ⟨t, rfl⟩
  · exact Below.refl _ _
  · exact Lib.bytesWorld_below _ _ _

set_option maxRecDepth 100000 in
set_option maxHeartbeats 4000000 in
theorem indexOf_any (l : List UInt8) (hl : l.length ≤ 100000) (B : Nat) (w : World) (hE : EnvW B w) (hB : B ≤ w.heap.size) :
    Calls Tryz.prog 96 #[.string (str l)] w (IdwIs l w) := by
  have hdat : (str l).data.toList = l := by simp [str]
  have hsz : (str l).size = l.length := str_size l
  cases hn : nbr l with
  | some x =>
    obtain ⟨a1, a2, a3⟩ := atoi_of hn
    have D := Lib.hid (fun W : World => Tryz.strconv_Atoi_ok (str l) (by omega) (x : Int) (by rw [hdat]; exact a1) W)
    have HT : Hid (∀ W, Below w.heap.size w W → Calls Tryz.prog 43 #[.int .i64 (x : Int)] W fun e w' => e = .returned (.string (str l)) ∧ Below W.heap.size W w') := Lib.hid fun W hb => by
      have := itoa_any (x : Int) (by omega) (by omega) W (hE.e.t W (hb.mono hB))
      rwa [a3] at this
    have HN := Lib.hid hn
    obtain ⟨v, hv⟩ : ∃ v : Int, v = (x : Int) := ⟨_, rfl⟩
    have HV := Lib.hid hv
    rw [← hv] at D HT
    have e1 : decide ((0 : Int) ≤ v) = true := by simp; omega
    have e2 : decide (v ≤ 999999999) = true := by simp; omega
    have h1 : (0 : Int) ≤ v := by omega
    have h2 : v ≤ 999999999 := by omega
    clear hn a1 a2 a3 hdat hsz hE hv
    go_enter Tryz.func96, Tryz.ntmps96
    go_wp2_with (first
      | (go_at_call 143; (with_reducible refine (D.out _).mono ?_); rintro e w1 ⟨rfl, hW⟩; have hb1 := byw hW; clear hW)
      | (go_at_call 43; (with_reducible refine (HT.out _ hb1).mono ?_); rintro e w2 ⟨rfl, hb2⟩; have hB2 := Below.step hb1 hb1.size hb2))
    go_ret2
    exact ⟨v, by rw [HN.out]; rfl, hB2, fun y hy => by rw [HN.out] at hy; cases hy; exact HV.out⟩
  | none =>
    have HN := Lib.hid hn
    cases ha : Lib.atoiAll l with
    | range =>
      obtain ⟨te, pe, hev⟩ := hE.r
      have D := Lib.hid (Tryz.strconv_Atoi_range (str l) (by omega) (by rw [hdat]; exact ha) (.iface te pe) w hev (Or.inr ⟨te, pe, rfl⟩))
      obtain ⟨z, hz⟩ : ∃ z, z = Lib.atoiSat (str l).data.toList := ⟨_, rfl⟩
      rw [← hz] at D
      clear hn ha hdat hsz hE hev hz
      go_enter Tryz.func96, Tryz.ntmps96
      go_wp2_with (go_at_call 143; (with_reducible refine D.out.mono ?_); rintro e w1 ⟨N, rfl, _, _, hb1⟩)
      go_ret2
      exact ⟨_, by rw [HN.out]; rfl, hb1, fun y hy => by rw [HN.out] at hy; cases hy⟩
    | ok v =>
      have D := Lib.hid (fun W : World => Tryz.strconv_Atoi_ok (str l) (by omega) v (by rw [hdat]; exact ha) W)
      by_cases h1 : 0 ≤ v
      · have e1 : decide ((0 : Int) ≤ v) = true := by simpa using h1
        by_cases h2 : v ≤ 999999999
        · have e2 : decide (v ≤ 999999999) = true := by simpa using h2
          have HT : Hid (∀ W, Below w.heap.size w W → Calls Tryz.prog 43 #[.int .i64 v] W fun e w' => e = .returned (.string (str (Lib.itoa v))) ∧ Below W.heap.size W w') := Lib.hid fun W hb => itoa_any v (by omega) (by omega) W (hE.e.t W (hb.mono hB))
          have e3 : ((str (Lib.itoa v)).toList == (str l).toList) = false := by
            rw [str_list, str_list]
            cases e : (Lib.itoa v == l)
            · rfl
            · rw [nbr_itoa h1 h2 (by simpa using e)] at hn; cases hn
          clear hn ha hdat hsz hE
          go_enter Tryz.func96, Tryz.ntmps96
          go_wp2_with (first
            | (go_at_call 143; (with_reducible refine (D.out _).mono ?_); rintro e w1 ⟨rfl, hW⟩; have hb1 := byw hW; clear hW)
            | (go_at_call 43; (with_reducible refine (HT.out _ hb1).mono ?_); rintro e w2 ⟨rfl, hb2⟩; have hB2 := Below.step hb1 hb1.size hb2))
          go_ret2
          exact ⟨_, by rw [HN.out]; rfl, hB2, fun y hy => by rw [HN.out] at hy; cases hy⟩
        · have e2 : decide (v ≤ 999999999) = false := by simpa using h2
          clear hn ha hdat hsz hE
          go_enter Tryz.func96, Tryz.ntmps96
          go_wp2_with (go_at_call 143; (with_reducible refine (D.out _).mono ?_); rintro e w1 ⟨rfl, hW⟩; have hb1 := byw hW; clear hW)
          go_ret2
          exact ⟨_, by rw [HN.out]; rfl, hb1, fun y hy => by rw [HN.out] at hy; cases hy⟩
      · have e1 : decide ((0 : Int) ≤ v) = false := by simpa using h1
        clear hn ha hdat hsz hE
        go_enter Tryz.func96, Tryz.ntmps96
        go_wp2_with (go_at_call 143; (with_reducible refine (D.out _).mono ?_); rintro e w1 ⟨rfl, hW⟩; have hb1 := byw hW; clear hW)
        go_ret2
        exact ⟨_, by rw [HN.out]; rfl, hb1, fun y hy => by rw [HN.out] at hy; cases hy⟩
    | _ =>
      obtain ⟨te, pe, hev⟩ := hE.e.e
      have D := Lib.hid (Tryz.strconv_Atoi_syntax (str l) (by omega) (by rw [hdat]; exact ha) (.iface te pe) w hev (Or.inr ⟨te, pe, rfl⟩))
      clear hn ha hdat hsz hE hev
      go_enter Tryz.func96, Tryz.ntmps96
      go_wp2_with (go_at_call 143; (with_reducible refine D.out.mono ?_); rintro e w1 ⟨N, rfl, _, _, hb1⟩)
      go_ret2
      exact ⟨_, by rw [HN.out]; rfl, hb1, fun y hy => by rw [HN.out] at hy; cases hy⟩

end Go.Proofs.YtbppdifghkkooaaGreatDoor
