/- Lists without doubles, element by element. -/
import Derived.Test.YtkpjpokeonppbaaGreatDoorOrderTm
import Derived.Test.YtkpjpokeonppbaaGreatDoorOrderConcat
import Derived.Test.YtkpjpokeonppbaaGreatDoorOrderRef6
import Derived.Test.YtkpjpokeonppbaaGreatDoorHeadTail
namespace Go.Proofs.YtkpjpokeonppbaaGreatDoor
open Go.RowKit
set_option linter.unusedVariables false

theorem take_at {l : List Int} {q : Nat} (hq : q < l.length) : l.take (q + 1) = l.take q ++ [l.getD q 0] := by
  rw [List.take_add_one, List.getD_eq_getElem?_getD, List.getElem?_eq_getElem hq]
  rfl
theorem nodup_at {l : List Int} (h : ∀ q, q < l.length → l.getD q 0 ∉ l.take q) : l.Nodup := by
  have H : ∀ q, q ≤ l.length → (l.take q).Nodup := fun q => by
    induction q with
    | zero => intro _; simp
    | succ q ih =>
      intro hq
      rw [take_at (by omega), List.nodup_append]
      refine ⟨ih (by omega), by simp, fun a ha b hb => ?_⟩
      simp only [List.mem_singleton] at hb
      subst hb
      intro e
      exact h q (by omega) (e ▸ ha)
  have := H l.length (Nat.le_refl _)
  rwa [List.take_length] at this
theorem not_nodup_at {l : List Int} {q : Nat} (hq : q < l.length) (h : l.getD q 0 ∈ l.take q) : ¬ l.Nodup := fun hn => by
  have h2 : (l.take (q + 1)).Nodup := hn.sublist (List.take_sublist _ _)
  rw [take_at hq, List.nodup_append] at h2
  exact h2.2.2 _ h _ (by simp) rfl
theorem map2_at (l : List Int) {q : Nat} (hq : q < l.length) : (l.map (· / 2)).getD q 0 = l.getD q 0 / 2 := by
  rw [List.getD_eq_getElem?_getD, List.getD_eq_getElem?_getD, List.getElem?_map, List.getElem?_eq_getElem hq]
  rfl
namespace Rw
/-- what is defined behind q literals -/
def dB (r : Rw) (q v : Nat) : Bool := decide ((v : Int) ∈ (r.dL.map (· / 2)).take q)
theorem dB_0 (r : Rw) (v : Nat) : r.dB 0 v = false := by simp [dB]
theorem dB_succ (r : Rw) {q : Nat} (hq : q < r.dL.length) (h0 : 0 ≤ r.dL.getD q 0) (v : Nat) : (if v = (r.dL.getD q 0 / 2).toNat then true else r.dB q v) = r.dB (q + 1) v := by
  have e : (r.dL.map (· / 2)).getD q 0 = r.dL.getD q 0 / 2 := map2_at _ hq
  have e2 : (r.dL.map (· / 2)).take (q + 1) = (r.dL.map (· / 2)).take q ++ [r.dL.getD q 0 / 2] := by rw [take_at (by simpa using hq), e]
  unfold dB
  rw [e2]
  by_cases h : v = (r.dL.getD q 0 / 2).toNat
  · rw [if_pos h]
    exact (decide_eq_true (List.mem_append.2 (Or.inr (List.mem_singleton.2 (by omega))))).symm
  · rw [if_neg h]
    have hne : (v : Int) ≠ r.dL.getD q 0 / 2 := by omega
    exact decide_eq_decide.2 ⟨fun h => List.mem_append.2 (Or.inl h), fun h => (List.mem_append.1 h).resolve_right (fun h => hne (List.mem_singleton.1 h))⟩
theorem twi_yes {r : Rw} {q : Nat} (hq : q < r.dL.length) (h0 : 0 ≤ r.dL.getD q 0) (h : r.dB q (r.dL.getD q 0 / 2).toNat = true) : r.twi = true := by
  refine decide_eq_true (not_nodup_at (q := q) (by simpa using hq) ?_)
  rw [map2_at _ hq]
  have := of_decide_eq_true h
  rwa [Int.toNat_of_nonneg (by omega)] at this
theorem twi_no {r : Rw} (h0 : ∀ q, q < r.dL.length → 0 ≤ r.dL.getD q 0) (h : ∀ q, q < r.dL.length → r.dB q (r.dL.getD q 0 / 2).toNat = false) : r.twi = false := by
  refine decide_eq_false (not_not_intro (nodup_at fun q hq => ?_))
  have hq' : q < r.dL.length := by simpa using hq
  rw [map2_at _ hq']
  have := of_decide_eq_false (h q hq')
  rwa [Int.toNat_of_nonneg (by have := h0 q hq'; omega)] at this
end Rw

end Go.Proofs.YtkpjpokeonppbaaGreatDoor

namespace Go.Proofs.YtkpjpokeonppbaaGreatDoor
open Go.RowKit
set_option linter.unusedVariables false
set_option linter.unusedSimpArgs false

set_option maxRecDepth 100000 in
set_option maxHeartbeats 2000000 in
theorem pMany_any (r : Rw) (p : Rp) (w : World) (hs : RSm r) : Calls Tryz.prog 63 #[rv r p] w fun e w' => e = .returned (.bool r.big) ∧ Below w.heap.size w w' := by
  have g1 := hs.ni
  have g2 := hs.nl
  have g3 := hs.na
  have g4 := hs.nb
  have g5 := hs.nc
  by_cases h1 : 1000 < r.m
  · have HR := Lib.hid (show r.big = true from decide_eq_true (Or.inl h1))
    go_enter Tryz.func63, Tryz.ntmps63
    go_wp2
    go_ret
    exact ⟨Li.ret_bool HR.out.symm, by go_grown⟩
  by_cases h2 : 1000 < (r.ni + r.nl + r.na : Int)
  · have HR := Lib.hid (show r.big = true from decide_eq_true (Or.inr (Or.inl h2)))
    go_enter Tryz.func63, Tryz.ntmps63
    go_wp2
    go_ret
    exact ⟨Li.ret_bool HR.out.symm, by go_grown⟩
  by_cases h3 : 100 < r.nb
  · have HR := Lib.hid (show r.big = true from decide_eq_true (Or.inr (Or.inr (Or.inl h3))))
    go_enter Tryz.func63, Tryz.ntmps63
    go_wp2
    go_ret
    refine ⟨Li.ret_bool (Eq.trans ?_ HR.out.symm), by go_grown⟩
    first
      | rfl
      | (simp; omega)
      | (simp; done)
  by_cases h4 : 100 < r.nc
  · have HR := Lib.hid (show r.big = true from decide_eq_true (Or.inr (Or.inr (Or.inr h4))))
    go_enter Tryz.func63, Tryz.ntmps63
    go_wp2
    go_ret
    refine ⟨Li.ret_bool (Eq.trans ?_ HR.out.symm), by go_grown⟩
    first
      | rfl
      | (simp; omega)
      | (simp; done)
  · have HR := Lib.hid (show r.big = false from decide_eq_false (by omega))
    go_enter Tryz.func63, Tryz.ntmps63
    go_wp2
    go_ret
    refine ⟨Li.ret_bool (Eq.trans ?_ HR.out.symm), by go_grown⟩
    first
      | rfl
      | (simp; omega)
      | (simp; done)

theorem varOf_any {l : Int} (h0 : 0 ≤ l) (h1 : l ≤ 2001) (w : World) : Calls Tryz.prog 76 #[.int .i64 l] w fun e w' => e = .returned (.int .i64 (l / 2)) ∧ w = w' := by
  go_enter Tryz.func76, Tryz.ntmps76
  go_wp2_with (go_at_call 77; refine (var_yes _ _ (Li.isL_mk h0 h1)).mono ?_; rintro e w1 ⟨rfl, rfl⟩)
  go_ret
  exact ⟨rfl, rfl⟩

theorem wrongReset_any (a b x : Int) (w : World) : Calls Tryz.prog 66 #[.agg #[.int .i64 a, .int .i64 b, .int .i64 x]] w fun e w' => e = .returned (.bool (!Rw.reOk x)) ∧ Below w.heap.size w w' := by
  have hx : x = 0 ∨ x = 1 ∨ x = 2 ∨ (x ≠ 0 ∧ x ≠ 1 ∧ x ≠ 2) := by omega
  rcases hx with rfl | rfl | rfl | ⟨h0, h1, h2⟩
  all_goals
    first
      | (have t0 : (x != 0) = true := by simp [h0]
         have t1 : (x != 1) = true := by simp [h1]
         have t2 : (x != 2) = true := by simp [h2]
         have HR := Lib.hid (show Rw.reOk x = false from decide_eq_false (by omega))
         clear h0 h1 h2
         go_enter Tryz.func66, Tryz.ntmps66
         go_wp2
         go_ret
         exact ⟨by rw [HR.out]; rfl, by go_grown⟩)
      | (go_enter Tryz.func66, Tryz.ntmps66
         go_wp2
         go_ret
         exact ⟨rfl, by go_grown⟩)

end Go.Proofs.YtkpjpokeonppbaaGreatDoor

namespace Go.Proofs.YtkpjpokeonppbaaGreatDoor
open Go.RowKit
set_option linter.unusedVariables false
set_option linter.unusedSimpArgs false

/-- a list of ints; where it is nil it is empty -/
def IntsN (n : Nat) (f : Nat → Int) (w : World) (e : Ending) (w' : World) : Prop :=
  ∃ A k, e = .returned (.slice A n k) ∧ IntsAt w' w'.heap.size A n f ∧ (A = none → n = 0 ∧ k = 0) ∧ Below w.heap.size w w'
theorem own_nilI {w w' : World} {base : Nat} {v : Value} {n : Nat} {f : Nat → Int} (h : w'.ownsRow base 3 1 v n (intL f n)) (hb : Below w.heap.size w w') : IntsN n f w (.returned v) w' := by
  rcases h.2 with ⟨hv, hn⟩ | ⟨g, cap, cur, hv, hg, hh, _⟩
  · subst hv hn
    exact ⟨none, 0, rfl, fun h => absurd h (Nat.not_lt_zero _), fun _ => ⟨rfl, rfl⟩, hb⟩
  · subst hv
    exact ⟨_, cap, rfl, own_ints h (fun _ => Has.lt (t := 3) (cs := cur) hh), fun h => (by cases h), hb⟩

set_option maxRecDepth 100000 in
set_option maxHeartbeats 4000000 in
theorem litsOf_any (A : Option Addr) (n k : Nat) (f g h : Nat → Int) (B : Nat) (w : World) (hn : n ≤ 100000) (hBB : B ≤ w.heap.size) (hA : TripsAt w B A n f g h) :
    Calls Tryz.prog 75 #[.slice A n k] w (IntsN n f w) := by
  obtain ⟨i0, hi0, hzz0, hs0, hy0⟩ := info_parts info_int
  go_enter Tryz.func75, Tryz.ntmps75
  go_wp2
  go_loopw [3, 8] (fun v i wr => ∃ q : Nat, q ≤ n ∧ i = .int .i64 q ∧ wr.ownsRow w.heap.size 3 1 v q (intL f q) ∧ Below w.heap.size w wr) (fun _ i _ => n - (intOf i).toNat)
  case atStart => exact ⟨0, Nat.zero_le _, rfl, World.ownsRow_nil _ _ _ _, Below.refl _ _⟩
  case round =>
    obtain ⟨q, hq, rfl, hown, hBr⟩ := hrel
    have hsz := hBr.size
    by_cases hlt : q < n
    · obtain ⟨a, rfl, hab, hcs⟩ := (hA.keep (hBr.mono hBB)) (by omega)
      obtain ⟨y0, y1, y2⟩ := hcs q hlt
      have HX := Lib.hid (show intL f (q + 1) = intL f q ++ [.int .i64 (f q)] from rfl)
      have hq0 : (0 : Int) ≤ (q : Int) := by omega
      have hq1 : (q : Int) < n := by omega
      clear hcs
      go_wp2_with (first
        | (at_builtin; refine wpList_append_own _ rfl _ _ 23 rfl w.heap.size 3 i0 (.int .i64 0) 1 8 Tryz.underlying23 hi0 hzz0 hs0 hy0 rfl (by decide) _ _ _ rfl ((hown.alloc _).alloc _) ⟨wr.heap.size + 1, 0, none⟩ 1 1 [.int .i64 (f q)] rfl (by simp) (fun j u hu => by have := cell_one_new (wr.alloc (.cells #[.int .i64 (f q), .int .i64 (g q), .int .i64 (h q)] 32)) (.int .i64 (f q)) 3 j u hu; rwa [World.size_alloc] at this) (by simp [Value.oneCell']) (by simp only [maxLen]; omega) (by omega) (by simp; omega) ?_; intro v' w8 hown' hgrow _))
      go_roundw
      case rel => exact ⟨q + 1, by omega, by go_num, by rw [HX.out]; exact hown', app_below (hBr.alloc hBr.size _) (by simp; omega) (Nat.le_refl _) (hown.alloc _) hgrow⟩
      case measure => simp [intOf]; omega
    · obtain rfl : q = n := by omega
      clear hq hlt
      go_wp2
      go_ret
      exact own_nilI hown hBr

/-- three lists of ints, joined -/
def kA (A1 A2 A3 : Option Addr) (j : Nat) : Option Addr := if j = 0 then A1 else if j = 1 then A2 else A3
def kN (n1 n2 n3 : Nat) (j : Nat) : Nat := if j = 0 then n1 else if j = 1 then n2 else n3
def kF (f1 f2 f3 : Nat → Int) (j : Nat) : Nat → Int := if j = 0 then f1 else if j = 1 then f2 else f3
theorem lt3' {j : Nat} (h : j < 3) : j = 0 ∨ j = 1 ∨ j = 2 := by omega
theorem concat3 {A1 A2 A3 : Option Addr} {n1 n2 n3 k1 k2 k3 : Nat} {f1 f2 f3 : Nat → Int} (b : Nat) (w : World) (hb : Has w b 23 #[.slice A1 n1 k1, .slice A2 n2 k2, .slice A3 n3 k3])
    (h1 : IntsAt w w.heap.size A1 n1 f1) (h2 : IntsAt w w.heap.size A2 n2 f2) (h3 : IntsAt w w.heap.size A3 n3 f3) (N1 : A1 = none → n1 = 0 ∧ k1 = 0) (N2 : A2 = none → n2 = 0 ∧ k2 = 0) (N3 : A3 = none → n3 = 0 ∧ k3 = 0) (hs : n1 + n2 + n3 ≤ 300000) :
    Calls Tryz.prog 74 #[.slice (some ⟨b, 0, none⟩) 3 3] w fun e w' => ∃ v, e = .returned v ∧ w'.ownsRow w.heap.size 3 1 v (n1 + n2 + n3) (intL f1 n1 ++ intL f2 n2 ++ intL f3 n3) ∧ Below w.heap.size w w' := by
  have e : isum (kN n1 n2 n3) 3 = n1 + n2 + n3 := by show 0 + n1 + n2 + n3 = _; omega
  have := concatI_any b 3 (kA A1 A2 A3) (kN n1 n2 n3) (kN k1 k2 k3) (kF f1 f2 f3) w.heap.size w (by omega) (fun j hj => by rcases lt3' hj with rfl | rfl | rfl <;> exact hb.cell _) hb.lt
    (fun j hj => by rcases lt3' hj with rfl | rfl | rfl; exact h1; exact h2; exact h3) (fun j hj => by rcases lt3' hj with rfl | rfl | rfl; exact N1; exact N2; exact N3) (by rw [e]; exact hs)
  rw [e] at this
  exact this
theorem concat2 {A1 A2 : Option Addr} {n1 n2 k1 k2 : Nat} {f1 f2 : Nat → Int} (b : Nat) (w : World) (hb : Has w b 23 #[.slice A1 n1 k1, .slice A2 n2 k2])
    (h1 : IntsAt w w.heap.size A1 n1 f1) (h2 : IntsAt w w.heap.size A2 n2 f2) (N1 : A1 = none → n1 = 0 ∧ k1 = 0) (N2 : A2 = none → n2 = 0 ∧ k2 = 0) (hs : n1 + n2 ≤ 300000) :
    Calls Tryz.prog 74 #[.slice (some ⟨b, 0, none⟩) 2 2] w fun e w' => ∃ v, e = .returned v ∧ w'.ownsRow w.heap.size 3 1 v (n1 + n2) (intL f1 n1 ++ intL f2 n2) ∧ Below w.heap.size w w' := by
  have e : isum (kN n1 n2 0) 2 = n1 + n2 := by show 0 + n1 + n2 = _; omega
  have := concatI_any b 2 (kA A1 A2 none) (kN n1 n2 0) (kN k1 k2 0) (kF f1 f2 f2) w.heap.size w (by omega) (fun j hj => by rcases lt2 hj with rfl | rfl <;> exact hb.cell _) hb.lt
    (fun j hj => by rcases lt2 hj with rfl | rfl; exact h1; exact h2) (fun j hj => by rcases lt2 hj with rfl | rfl; exact N1; exact N2) (by rw [e]; exact hs)
  rw [e] at this
  exact this

/-- the cells of a raw circuit, written out -/
abbrev rcL (r : Rw) (p : Rp) : Array Value := #[.int .i64 r.m, .slice p.A1 r.ni p.k1, .slice p.A2 r.nl p.k2, .slice p.A3 r.na p.k3, .slice p.A4 r.nb p.k4, .slice p.A5 r.nc p.k5]
/-- the cells of a raw circuit's box -/
def BoxR (r : Rw) (p : Rp) (b : Nat) (W : World) : Prop :=
  W.cell? ⟨b, 1, none⟩ = some (.slice p.A1 r.ni p.k1) ∧ W.cell? ⟨b, 2, none⟩ = some (.slice p.A2 r.nl p.k2) ∧ W.cell? ⟨b, 3, none⟩ = some (.slice p.A3 r.na p.k3)
theorem boxR {r : Rw} {p : Rp} {b : Nat} {W : World} (h : Has W b 26 (rc r p)) : BoxR r p b W := ⟨h.cell 1, h.cell 2, h.cell 3⟩

set_option maxRecDepth 100000 in
set_option maxHeartbeats 4000000 in
theorem pDefined_any (r : Rw) (p : Rp) (w : World) (hs : RSm r) (hm : RMem w w.heap.size r p) (hN : RNils r p) :
    Calls Tryz.prog 91 #[rv r p] w (ListIs r.dL w) := by
  have g1 := hs.ni
  have g2 := hs.nl
  have g3 := hs.na
  have HD := Lib.hid (show il r.dL = intL r.ip r.ni ++ intL r.ll r.nl ++ intL r.gl r.na by unfold Rw.dL; rw [il_app, il_app, ← il_lst, ← il_lst, ← il_lst])
  have HL := Lib.hid (dL_len r)
  have hSd : Has (w.alloc (.cells (rcL r p) 26)).drew w.heap.size 26 (rc r p) := Has.new _ _ _
  have hS0 := boxR hSd
  have hBd : Below w.heap.size w (w.alloc (.cells (rcL r p) 26)).drew := below_dn ((Below.refl _ _).alloc (Nat.le_refl _) _) 1
  go_enter Tryz.func91, Tryz.ntmps91
  go_wp2
  refine wp_region_T (BoxR r p w.heap.size) 11 (by kernel_rfl) ?_
  (refine wpT_take 0 (v := ?_) rfl (by kernel_rfl) (by kernel_rfl) (by kernel_rfl) (by kernel_rfl) (fun _ _ _ h => h) rfl hS0 (fun w hS => ?_) ?_; rotate_left; focus (obtain ⟨j1, j2, j3⟩ := hS; go_simp; rfl)); (refine wpT_take 1 (v := ?_) rfl (by kernel_rfl) (by kernel_rfl) (by kernel_rfl) (by kernel_rfl) (fun _ _ _ h => h) rfl hS0 (fun w hS => ?_) ?_; rotate_left; focus (obtain ⟨j1, j2, j3⟩ := hS; go_simp; rfl)); (refine wpT_take 2 (v := ?_) rfl (by kernel_rfl) (by kernel_rfl) (by kernel_rfl) (by kernel_rfl) (fun _ _ _ h => h) rfl hS0 (fun w hS => ?_) ?_; rotate_left; focus (obtain ⟨j1, j2, j3⟩ := hS; go_simp; rfl)); (refine wpT_take 3 (v := ?_) rfl (by kernel_rfl) (by kernel_rfl) (by kernel_rfl) (by kernel_rfl) (fun _ _ _ h => h) rfl hS0 (fun w hS => ?_) ?_; rotate_left; focus (obtain ⟨j1, j2, j3⟩ := hS; go_simp; rfl)); (refine wpT_take 5 (v := ?_) rfl (by kernel_rfl) (by kernel_rfl) (by kernel_rfl) (by kernel_rfl) (fun _ _ _ h => h) rfl hS0 (fun w hS => ?_) ?_; rotate_left; focus (obtain ⟨j1, j2, j3⟩ := hS; go_simp; rfl)); (refine wpT_take 6 (v := ?_) rfl (by kernel_rfl) (by kernel_rfl) (by kernel_rfl) (by kernel_rfl) (fun _ _ _ h => h) rfl hS0 (fun w hS => ?_) ?_; rotate_left; focus (obtain ⟨j1, j2, j3⟩ := hS; go_simp; rfl))
  refine wpT_one 4 (by kernel_rfl) (wpOp_go rfl rfl fun K hK => ?_)
  go_simp
  go_at_call 75
  (with_reducible refine (litsOf_any p.A2 r.nl p.k2 r.ll r.la r.lb w.heap.size (w.alloc (.cells (rcL r p) 26)).drew (by omega) hBd.size (hm.la.keep hBd)).mono ?_)
  rintro e w1 ⟨B2, c2, rfl, hi2, hn2, hb1⟩
  have hB1 : Below w.heap.size w w1 := Below.step hBd hBd.size hb1
  have hA1 : Has w1 w.heap.size 26 (rc r p) := hSd.keep hb1 hSd.lt
  refine hK _ _ ⟨fun _ => boxR hA1, ?_⟩
  refine wpT_one 7 (by kernel_rfl) (wpOp_go rfl rfl fun K hK => ?_)
  go_simp
  go_at_call 75
  (with_reducible refine (litsOf_any p.A3 r.na p.k3 r.gl r.ga r.gb w.heap.size w1 (by omega) hB1.size (hm.an.keep hB1)).mono ?_)
  rintro e w2 ⟨B3, c3, rfl, hi3, hn3, hb2⟩
  have hB2 : Below w.heap.size w w2 := Below.step hB1 hB1.size hb2
  have hA2 : Has w2 w.heap.size 26 (rc r p) := hA1.keep hb2 hA1.lt
  have hi2 := (hi2.keep hb2).more hb2.size
  refine hK _ _ ⟨fun _ => boxR hA2, ?_⟩
  refine wpT_one 8 (by kernel_rfl) (wpOp_go rfl rfl fun K hK => ?_)
  go_simp
  have hb3 : Below w2.heap.size w2 (w2.alloc (.cells #[.slice p.A1 r.ni p.k1, .slice B2 r.nl c2, .slice B3 r.na c3] 23)) := (Below.refl _ _).alloc (Nat.le_refl _) _
  refine hK _ _ ⟨fun _ => boxR (hA2.al _), ?_⟩
  refine wpT_one 9 (by kernel_rfl) (wpOp_go rfl rfl fun K hK => ?_)
  go_simp
  go_at_call 74
  (with_reducible refine (concat3 w2.heap.size (w2.alloc (.cells #[.slice p.A1 r.ni p.k1, .slice B2 r.nl c2, .slice B3 r.na c3] 23)) (Has.new _ _ _) ((hm.ip.keep (Below.step hB2 hB2.size hb3)).more (Below.step hB2 hB2.size hb3).size) ((hi2.keep hb3).more hb3.size) ((hi3.keep hb3).more hb3.size) hN.ip hn2 hn3 (by omega)).mono ?_)
  rintro e w4 ⟨v, rfl, ho, hb4⟩
  have hB4 : Below w.heap.size w w4 := Below.step hB2 hB2.size (Below.step hb3 hb3.size hb4)
  have hA4 : Has w4 w.heap.size 26 (rc r p) := (hA2.al _).keep hb4 (hA2.al _).lt
  refine hK _ _ ⟨fun _ => boxR hA4, ?_⟩
  refine wpT_one 10 (by kernel_rfl) (wpOp_go rfl rfl fun K hK => ?_)
  go_simp
  refine hK _ _ ⟨fun _ => boxR hA4, ?_⟩
  refine wpT_done (by kernel_rfl) (NoPanic.normal ?_) _
  go_wp2
  go_ret
  refine ⟨_, rfl, ?_, hB4⟩
  rw [HD.out, HL.out]
  exact own_base ho (by have := hB2.size; have := hb3.size; omega)

end Go.Proofs.YtkpjpokeonppbaaGreatDoor
