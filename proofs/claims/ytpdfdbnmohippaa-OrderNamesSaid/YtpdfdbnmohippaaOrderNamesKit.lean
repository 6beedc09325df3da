/- The raw circuits that OrderNames tries: numbers, errors, memory. -/
import Derived.Test.YtpdfdbnmohippaaOrderAll
import Derived.Test.YtpdfdbnmohippaaOrderSameKit
import Derived.Test.YtpdfdbnmohippaaOrderOf
namespace Go.Proofs.Ytpdfdbnmohippaa
open Go Go.RowKit
set_option linter.unusedVariables false
set_option linter.unusedSimpArgs false

/-- the valid one -/
def gR : Rw := ⟨9, 1, 1, 2, 2, 1, fun _ => 18, fun _ => 4, fun _ => 13, fun _ => 2, fun j => if j = 0 then 12 else 8, fun j => if j = 0 then 19 else 4, fun j => if j = 0 then 8 else 1, fun j => if j = 0 then 8 else 0, fun _ => 5⟩
/-- the changes -/
def oR (k : Nat) : Rw :=
  match k with
  | 0 => { gR with m := -1 }
  | 1 => { gR with m := 1001 }
  | 2 => { gR with ni := 999, ip := fun _ => 0 }
  | 3 => { gR with nb := 101, bd := fun _ => 0 }
  | 4 => { gR with nc := 101, cn := fun _ => 0 }
  | 5 => { gR with ip := fun _ => 19 }
  | 6 => { gR with ip := fun _ => 0 }
  | 7 => { gR with ip := fun _ => 20 }
  | 8 => { gR with lb := fun _ => 3 }
  | 9 => { gR with ga := fun j => if j = 0 then -1 else 4 }
  | 10 => { gR with nb := 1, bd := fun _ => 20 }
  | 11 => { gR with ni := 2, ip := fun j => if j = 0 then 18 else 4 }
  | 12 => { gR with gl := fun j => if j = 0 then 12 else 18 }
  | 13 => { gR with cn := fun _ => 2 }
  | 14 => { gR with la := fun _ => 7 }
  | 15 => { gR with ga := fun j => if j = 0 then 19 else 9 }
  | _ => { gR with gb := fun j => if j = 0 then 8 else 12 }
def oW (k : Nat) : Int := if k = 1 ∨ k = 2 ∨ k = 3 ∨ k = 4 then 4 else if k = 11 ∨ k = 12 then 43 else if k = 13 ∨ k = 14 then 46 else if k = 15 ∨ k = 16 then 41 else 8
theorem oR_chk : ∀ k, k < 17 → (oR k).chk = oW k := by decide +kernel
theorem gR_chk : gR.chk = 0 := by decide +kernel
theorem gR_sm : RSm gR := ⟨k3 9 rfl, by decide, by decide, by decide, by decide, by decide, fun _ _ => k3 18 rfl, fun _ _ => k3 4 rfl, fun _ _ => k3 13 rfl, fun _ _ => k3 2 rfl, fun _ _ => ite_bd (k3 12 rfl) (k3 8 rfl), fun _ _ => ite_bd (k3 19 rfl) (k3 4 rfl), fun _ _ => ite_bd (k3 8 rfl) (k3 1 rfl), fun _ _ => ite_bd (k3 8 rfl) (k3 0 rfl), fun _ _ => k3 5 rfl⟩
theorem oR_sm (k : Nat) : RSm (oR k) := by
  have h := gR_sm
  unfold oR
  split
  all_goals
    refine ⟨?_, ?_, ?_, ?_, ?_, ?_, ?_, ?_, ?_, ?_, ?_, ?_, ?_, ?_, ?_⟩
    all_goals first | exact h.m | exact h.ni | exact h.nl | exact h.na | exact h.nb | exact h.nc | exact h.ip | exact h.ll | exact h.la | exact h.lb | exact h.gl | exact h.ga | exact h.gb | exact h.bd | exact h.cn | (show _ ≤ 2000; decide) | (show _ ≤ 1000; decide) | exact k3 _ rfl | (intro j _; exact k3 _ rfl) | (intro j _; exact ite_bd (k3 _ rfl) (k3 _ rfl))
/-- where the lists of the valid one lie -/
abbrev gP (b1 b2 b3 b4 b5 : Nat) : Rp := ⟨some ⟨b1, 0, none⟩, some ⟨b2, 0, none⟩, some ⟨b3, 0, none⟩, some ⟨b4, 0, none⟩, some ⟨b5, 0, none⟩, 1, 1, 2, 2, 1⟩
structure GAt (w : World) (b1 b2 b3 b4 b5 : Nat) : Prop where
  h1 : Has w b1 3 #[.int .i64 18]
  h2 : Has w b2 41 #[.int .i64 4, .int .i64 13, .int .i64 2]
  h3 : Has w b3 41 #[.int .i64 12, .int .i64 19, .int .i64 8, .int .i64 8, .int .i64 4, .int .i64 1]
  h4 : Has w b4 3 #[.int .i64 8, .int .i64 0]
  h5 : Has w b5 3 #[.int .i64 5]
section
variable {w W : World} {b1 b2 b3 b4 b5 : Nat}
theorem GAt.al (h : GAt w b1 b2 b3 b4 b5) (o : Obj) : GAt (w.alloc o) b1 b2 b3 b4 b5 := ⟨h.h1.al o, h.h2.al o, h.h3.al o, h.h4.al o, h.h5.al o⟩
theorem i1 {g : Nat} {t : TypeId} {x : Int} {f : Nat → Int} (h : Has w g t #[.int .i64 x]) (e : f 0 = x) : IntsAt w w.heap.size (some ⟨g, 0, none⟩) 1 f := ints_of_has h fun j hj => by
  have hj0 : j = 0 := by omega
  subst hj0
  rw [e]; rfl
theorem i2 {g : Nat} {t : TypeId} {x y : Int} {f : Nat → Int} (h : Has w g t #[.int .i64 x, .int .i64 y]) (e : f 0 = x) (e' : f 1 = y) : IntsAt w w.heap.size (some ⟨g, 0, none⟩) 2 f := ints_of_has h fun j hj => by
  rcases lt2 hj with rfl | rfl
  · rw [e]; rfl
  · rw [e']; rfl
theorem t1 {g : Nat} {t : TypeId} {x y z : Int} {f h k : Nat → Int} (hh : Has w g t #[.int .i64 x, .int .i64 y, .int .i64 z]) (e : f 0 = x) (e' : h 0 = y) (e2 : k 0 = z) : TripsAt w w.heap.size (some ⟨g, 0, none⟩) 1 f h k := trips_has hh fun j hj => by
  have hj0 : j = 0 := by omega
  subst hj0
  rw [e, e', e2]
  exact ⟨rfl, rfl, rfl⟩
theorem t2 {g : Nat} {t : TypeId} {x y z x' y' z' : Int} {f h k : Nat → Int} (hh : Has w g t #[.int .i64 x, .int .i64 y, .int .i64 z, .int .i64 x', .int .i64 y', .int .i64 z']) (e : f 0 = x ∧ h 0 = y ∧ k 0 = z) (e' : f 1 = x' ∧ h 1 = y' ∧ k 1 = z') : TripsAt w w.heap.size (some ⟨g, 0, none⟩) 2 f h k := trips_has hh fun j hj => by
  rcases lt2 hj with rfl | rfl
  · rw [e.1, e.2.1, e.2.2]; exact ⟨rfl, rfl, rfl⟩
  · rw [e'.1, e'.2.1, e'.2.2]; exact ⟨rfl, rfl, rfl⟩
theorem GAt.mem (h : GAt w b1 b2 b3 b4 b5) : RMem w w.heap.size gR (gP b1 b2 b3 b4 b5) := ⟨i1 h.h1 rfl, t1 h.h2 rfl rfl rfl, t2 h.h3 ⟨rfl, rfl, rfl⟩ ⟨rfl, rfl, rfl⟩, i2 h.h4 rfl rfl, i1 h.h5 rfl⟩
theorem some_nils {r : Rw} {g1 g2 g3 g4 g5 k1 k2 k3 k4 k5 : Nat} : RNils r ⟨some ⟨g1, 0, none⟩, some ⟨g2, 0, none⟩, some ⟨g3, 0, none⟩, some ⟨g4, 0, none⟩, some ⟨g5, 0, none⟩, k1, k2, k3, k4, k5⟩ := ⟨(fun h => by cases h), (fun h => by cases h), (fun h => by cases h), (fun h => by cases h), (fun h => by cases h)⟩
theorem Has.far6 {g b : Nat} {t : TypeId} {cs : Array Value} (h : Has w g t cs) (hne : g ≠ b) (v0 v1 v2 v3 v4 v5 : Value) : Has ((((((w.setCell ⟨b, 0, none⟩ v0).setCell ⟨b, 1, none⟩ v1).setCell ⟨b, 2, none⟩ v2).setCell ⟨b, 3, none⟩ v3).setCell ⟨b, 4, none⟩ v4).setCell ⟨b, 5, none⟩ v5) g t cs :=
  (((((h.far (q := ⟨b, 0, none⟩) hne v0).far (q := ⟨b, 1, none⟩) hne v1).far (q := ⟨b, 2, none⟩) hne v2).far (q := ⟨b, 3, none⟩) hne v3).far (q := ⟨b, 4, none⟩) hne v4).far (q := ⟨b, 5, none⟩) hne v5
theorem made_i (w : World) (n : Nat) (t : TypeId) (g : Nat) (hg : w.heap.size = g) : IntsAt (w.alloc (.cells (madeCells #[.int .i64 0] n) t)) (w.alloc (.cells (madeCells #[.int .i64 0] n) t)).heap.size (some ⟨g, 0, none⟩) n (fun _ => 0) := by
  subst hg
  have h := World.rowIs_made w (.int .i64 0) n t
  refine fun hn => ⟨_, rfl, by simp, fun j hj => ?_⟩
  have e : (⟨w.heap.size, 0, none⟩ : Addr).add j = ⟨w.heap.size, j, none⟩ := by unfold Addr.add; split <;> simp_all
  rw [e]
  exact h.cell hj
end
/-- the calls of a case -/
theorem oCirc (k : Nat) (hk : k < 17) (p : Rp) (w : World) (hm : RMem w w.heap.size (oR k) p) (hN : RNils (oR k) p) : Calls Try.prog 9 #[rv (oR k) p] w fun e w' => ∃ (p' : Pl) (A : Option Addr) (n l : Nat) (c : Cr), e = .returned (.tuple #[cv c p', .slice A n l, .int .i64 (oW k)]) ∧ Below w.heap.size w w' := by
  refine (circ_all _ p w (oR_sm k) hm hN).mono fun e w' => ?_
  rintro ⟨p', A, l, he, _, _, hb⟩
  rw [oR_chk k hk] at he
  exact ⟨p', A, _, l, _, he, hb⟩
theorem oCheck (k : Nat) (hk : k < 17) (p : Rp) (w : World) (hm : RMem w w.heap.size (oR k) p) (hN : RNils (oR k) p) : Calls Try.prog 13 #[rv (oR k) p] w fun e w' => e = .returned (.int .i64 (oW k)) ∧ Below w.heap.size w w' := by
  have := pCheck_any _ p w (oR_sm k) hm hN
  rwa [oR_chk k hk] at this

/-- the circuit of the valid one -/
def wC : Cr := ⟨1, 1, 2, 2, 1, fun _ => 9, fun _ => 2, fun j => if j = 0 then 4 else 6, fun j => if j = 0 then 1 else 3, fun j => if j = 0 then 6 else 0, fun _ => 5⟩
theorem wC_sm : Sm wC := ⟨k3 1 rfl, by decide, by decide, by decide, by decide, fun _ => k3 9 rfl, fun _ => k3 2 rfl, fun _ => ite_bd (k3 4 rfl) (k3 6 rfl), fun _ => ite_bd (k3 1 rfl) (k3 3 rfl), fun _ => ite_bd (k3 6 rfl) (k3 0 rfl), fun _ => k3 5 rfl⟩
theorem gR_len : gR.ord.length = 2 := by decide +kernel
theorem gR_l : gR.cir.nx 0 = 9 ∧ gR.cir.rs 0 = 2 := by decide +kernel
theorem gR_g : (gR.cir.ga 0 = 4 ∧ gR.cir.gb 0 = 1) ∧ gR.cir.ga 1 = 6 ∧ gR.cir.gb 1 = 3 := by decide +kernel
theorem gR_b : gR.cir.bd 0 = 6 ∧ gR.cir.bd 1 = 0 := by decide +kernel
theorem gR_c : gR.cir.cn 0 = 5 := by decide +kernel
def gN (v : Nat) : Int := [0, -1, 2, -1, 3, -1, 4, -1, -1, 1].getD v 0
theorem gR_nw : ∀ j : Nat, j < 10 → gR.nw (j : Int) = gN j := by decide +kernel
theorem gCirc (b1 b2 b3 b4 b5 : Nat) (w : World) (h : GAt w b1 b2 b3 b4 b5) : Calls Try.prog 9 #[rv gR (gP b1 b2 b3 b4 b5)] w fun e w' => ∃ A1 A2 A3 A4 k1 k2 k3 k4 g, e = .returned (.tuple #[.agg #[.int .i64 1, .slice A1 1 k1, .slice A2 2 k2, .slice A3 2 k3, .slice A4 1 k4], .slice (some ⟨g, 0, none⟩) 10 10, .int .i64 0]) ∧ Mem w' w'.heap.size wC ⟨A1, A2, A3, A4, k1, k2, k3, k4⟩ ∧ IntsAt w' w'.heap.size (some ⟨g, 0, none⟩) 10 gN ∧ Below w.heap.size w w' := by
  refine (circ_yes gR (gP b1 b2 b3 b4 b5) w 9 rfl gR_sm h.mem some_nils gR_chk).mono fun e w' => ?_
  rintro ⟨⟨A1, A2, A3, A4, k1, k2, k3, k4⟩, g, he, hm, _, hr, hb, hgX, hnew⟩
  refine ⟨A1, A2, A3, A4, k1, k2, k3, k4, g, ?_, ⟨?_, ?_, ?_, ?_⟩, ?_, hb⟩
  · rw [he]
    show Ending.returned (.tuple #[.agg #[.int .i64 1, .slice A1 1 k1, .slice A2 gR.ord.length k2, .slice A3 2 k3, .slice A4 1 k4], .slice (some ⟨g, 0, none⟩) 10 10, .int .i64 0]) = _
    rw [gR_len]
  · exact (show PairsAt w' w'.heap.size A1 1 gR.cir.nx gR.cir.rs from hm.la).congr fun j hj => by
      have hj0 : j = 0 := by omega
      subst hj0
      exact gR_l
  · have ha : PairsAt w' w'.heap.size A2 gR.ord.length gR.cir.ga gR.cir.gb := hm.an
    rw [gR_len] at ha
    exact ha.congr fun j hj => by
      rcases lt2 hj with rfl | rfl
      · exact gR_g.1
      · exact gR_g.2
  · exact (show IntsAt w' w'.heap.size A3 2 gR.cir.bd from hm.bd).congr fun j hj => by
      rcases lt2 hj with rfl | rfl
      · exact gR_b.1
      · exact gR_b.2
  · exact (show IntsAt w' w'.heap.size A4 1 gR.cir.cn from hm.cn).congr fun j hj => by
      have hj0 : j = 0 := by omega
      subst hj0
      exact gR_c
  · exact (row_intsAt hr).congr fun j hj => gR_nw j hj
/-- the empty one -/
def eR : Rw := ⟨0, 0, 0, 0, 0, 0, fun _ => 0, fun _ => 0, fun _ => 0, fun _ => 0, fun _ => 0, fun _ => 0, fun _ => 0, fun _ => 0, fun _ => 0⟩
abbrev eRp : Rp := ⟨none, none, none, none, none, 0, 0, 0, 0, 0⟩
theorem eR_chk : eR.chk = 0 := by decide +kernel
theorem eR_sm : RSm eR := ⟨k3 0 rfl, by decide, by decide, by decide, by decide, by decide, fun _ _ => k3 0 rfl, fun _ _ => k3 0 rfl, fun _ _ => k3 0 rfl, fun _ _ => k3 0 rfl, fun _ _ => k3 0 rfl, fun _ _ => k3 0 rfl, fun _ _ => k3 0 rfl, fun _ _ => k3 0 rfl, fun _ _ => k3 0 rfl⟩
theorem eR_mem (w : World) : RMem w w.heap.size eR eRp := ⟨fun h => absurd h (Nat.not_lt_zero _), fun h => absurd h (Nat.not_lt_zero _), fun h => absurd h (Nat.not_lt_zero _), fun h => absurd h (Nat.not_lt_zero _), fun h => absurd h (Nat.not_lt_zero _)⟩
theorem eR_nils : RNils eR eRp := ⟨fun _ => ⟨rfl, rfl⟩, fun _ => ⟨rfl, rfl⟩, fun _ => ⟨rfl, rfl⟩, fun _ => ⟨rfl, rfl⟩, fun _ => ⟨rfl, rfl⟩⟩
theorem eR_len : eR.ord.length = 0 := by decide +kernel
theorem eR_nw : eR.nw 0 = 0 := by decide +kernel
theorem eCirc (w : World) : Calls Try.prog 9 #[.agg #[.int .i64 0, .slice none 0 0, .slice none 0 0, .slice none 0 0, .slice none 0 0, .slice none 0 0]] w fun e w' => ∃ A1 A2 A3 A4 k1 k2 k3 k4 g, e = .returned (.tuple #[.agg #[.int .i64 0, .slice A1 0 k1, .slice A2 0 k2, .slice A3 0 k3, .slice A4 0 k4], .slice (some ⟨g, 0, none⟩) 1 1, .int .i64 0]) ∧ IntsAt w' w'.heap.size (some ⟨g, 0, none⟩) 1 (fun _ => 0) ∧ Below w.heap.size w w' := by
  refine (circ_yes eR eRp w 0 rfl eR_sm (eR_mem w) eR_nils eR_chk).mono fun e w' => ?_
  rintro ⟨⟨A1, A2, A3, A4, k1, k2, k3, k4⟩, g, he, hm, _, hr, hb, hgX, hnew⟩
  refine ⟨A1, A2, A3, A4, k1, k2, k3, k4, g, ?_, ?_, hb⟩
  · rw [he]
    show Ending.returned (.tuple #[.agg #[.int .i64 0, .slice A1 0 k1, .slice A2 eR.ord.length k2, .slice A3 0 k3, .slice A4 0 k4], .slice (some ⟨g, 0, none⟩) 1 1, .int .i64 0]) = _
    rw [eR_len]
  · exact (row_intsAt hr).congr fun j hj => by
      have hj0 : j = 0 := by omega
      subst hj0
      exact eR_nw
theorem zeMem (w : World) (A1 A2 A3 A4 : Option Addr) (k1 k2 k3 k4 : Nat) : Mem w w.heap.size zeC ⟨A1, A2, A3, A4, k1, k2, k3, k4⟩ := ⟨fun h => absurd h (Nat.not_lt_zero _), fun h => absurd h (Nat.not_lt_zero _), fun h => absurd h (Nat.not_lt_zero _), fun h => absurd h (Nat.not_lt_zero _)⟩
/-- a circuit with less than no inputs -/
def negC : Cr := ⟨-1, 0, 0, 0, 0, fun _ => 0, fun _ => 0, fun _ => 0, fun _ => 0, fun _ => 0, fun _ => 0⟩
theorem negC_sm : Sm negC := ⟨k3 (-1) rfl, by decide, by decide, by decide, by decide, fun _ => ze_i, fun _ => ze_i, fun _ => ze_i, fun _ => ze_i, fun _ => ze_i, fun _ => ze_i⟩
theorem negC_chk : negC.chk = 8 := by decide +kernel
theorem negRaw (w : World) : Calls Try.prog 14 #[.agg #[.int .i64 (-1), .slice none 0 0, .slice none 0 0, .slice none 0 0, .slice none 0 0]] w fun e w' => e = .returned (.tuple #[.agg #[.int .i64 0, .slice none 0 0, .slice none 0 0, .slice none 0 0, .slice none 0 0, .slice none 0 0], .int .i64 8]) ∧ Below w.heap.size w w' := by
  have h := oRaw_no negC ⟨none, none, none, none, 0, 0, 0, 0⟩ w ⟨fun h => absurd h (Nat.not_lt_zero _), fun h => absurd h (Nat.not_lt_zero _), fun h => absurd h (Nat.not_lt_zero _), fun h => absurd h (Nat.not_lt_zero _)⟩ negC_sm (by rw [negC_chk]; decide)
  rw [negC_chk] at h
  exact h
theorem sameW (W : World) (A1 A2 A3 A4 B1 B2 B3 B4 : Option Addr) (k1 k2 k3 k4 l1 l2 l3 l4 : Nat) (h : Mem W W.heap.size wC ⟨A1, A2, A3, A4, k1, k2, k3, k4⟩) (h' : Mem W W.heap.size wC ⟨B1, B2, B3, B4, l1, l2, l3, l4⟩) :
    Calls Try.prog 11 #[.agg #[.int .i64 1, .slice A1 1 k1, .slice A2 2 k2, .slice A3 2 k3, .slice A4 1 k4], .agg #[.int .i64 1, .slice B1 1 l1, .slice B2 2 l2, .slice B3 2 l3, .slice B4 1 l4]] W fun e w' => e = .returned (.bool true) ∧ Below W.heap.size W w' := same_self wC ⟨A1, A2, A3, A4, k1, k2, k3, k4⟩ ⟨B1, B2, B3, B4, l1, l2, l3, l4⟩ W wC_sm h h'
theorem sameE (W : World) (A1 A2 A3 A4 : Option Addr) (k1 k2 k3 k4 : Nat) :
    Calls Try.prog 11 #[.agg #[.int .i64 0, .slice A1 0 k1, .slice A2 0 k2, .slice A3 0 k3, .slice A4 0 k4], .agg #[.int .i64 0, .slice none 0 0, .slice none 0 0, .slice none 0 0, .slice none 0 0]] W fun e w' => e = .returned (.bool true) ∧ Below W.heap.size W w' := same_self zeC ⟨A1, A2, A3, A4, k1, k2, k3, k4⟩ ⟨none, none, none, none, 0, 0, 0, 0⟩ W ze_sm (zeMem W _ _ _ _ _ _ _ _) (zeMem W _ _ _ _ _ _ _ _)
theorem wantMem {w : World} {g1 g2 g3 g4 : Nat} (h1 : Has w g1 35 #[.int .i64 9, .int .i64 2]) (h2 : Has w g2 37 #[.int .i64 4, .int .i64 1, .int .i64 6, .int .i64 3]) (h3 : Has w g3 3 #[.int .i64 6, .int .i64 0]) (h4 : Has w g4 3 #[.int .i64 5]) : Mem w w.heap.size wC ⟨some ⟨g1, 0, none⟩, some ⟨g2, 0, none⟩, some ⟨g3, 0, none⟩, some ⟨g4, 0, none⟩, 1, 2, 2, 1⟩ :=
  ⟨pairs_of_has h1 fun j hj => by
      have hj0 : j = 0 := by have : j < 1 := hj; omega
      subst hj0
      exact ⟨rfl, rfl⟩, pairs_of_has h2 fun j hj => by
      rcases lt2 hj with rfl | rfl
      · exact ⟨rfl, rfl⟩
      · exact ⟨rfl, rfl⟩, i2 h3 rfl rfl, i1 h4 rfl⟩
theorem gN_at : ∀ j, j < 10 → (#[.int .i64 0, .int .i64 (-1), .int .i64 2, .int .i64 (-1), .int .i64 3, .int .i64 (-1), .int .i64 4, .int .i64 (-1), .int .i64 (-1), .int .i64 1] : Array Value)[j]? = some (.int .i64 (gN j)) := fun j hj => by
  have : j = 0 ∨ j = 1 ∨ j = 2 ∨ j = 3 ∨ j = 4 ∨ j = 5 ∨ j = 6 ∨ j = 7 ∨ j = 8 ∨ j = 9 := by omega
  rcases this with rfl | rfl | rfl | rfl | rfl | rfl | rfl | rfl | rfl | rfl <;> rfl
theorem GAt.ne {w : World} {b1 b2 b3 b4 b5 : Nat} (h : GAt w b1 b2 b3 b4 b5) : b1 ≠ b2 ∧ b1 ≠ b3 ∧ b4 ≠ b2 ∧ b4 ≠ b3 ∧ b5 ≠ b2 ∧ b5 ≠ b3 ∧ b2 ≠ b3 :=
  ⟨Has.ne h.h1 h.h2 (by decide), Has.ne h.h1 h.h3 (by decide), Has.ne h.h4 h.h2 (by decide), Has.ne h.h4 h.h3 (by decide), Has.ne h.h5 h.h2 (by decide), Has.ne h.h5 h.h3 (by decide), fun e => by
    subst e
    have a := h.h2.cell 3
    have b := h.h3.cell 3
    rw [a] at b
    cases b⟩
/-- one cell of the definitions changed -/
theorem GAt.s2 {w : World} {b1 b2 b3 b4 b5 : Nat} (h : GAt w b1 b2 b3 b4 b5) (j : Nat) (v : Value) : Has (w.setCell ⟨b2, j, none⟩ v) b1 3 #[.int .i64 18] ∧ Has (w.setCell ⟨b2, j, none⟩ v) b2 41 ((#[.int .i64 4, .int .i64 13, .int .i64 2] : Array Value).setIfInBounds j v) ∧ Has (w.setCell ⟨b2, j, none⟩ v) b3 41 #[.int .i64 12, .int .i64 19, .int .i64 8, .int .i64 8, .int .i64 4, .int .i64 1] ∧ Has (w.setCell ⟨b2, j, none⟩ v) b4 3 #[.int .i64 8, .int .i64 0] ∧ Has (w.setCell ⟨b2, j, none⟩ v) b5 3 #[.int .i64 5] := by
  obtain ⟨n1, n2, n3, n4, n5, n6, n7⟩ := h.ne
  exact ⟨h.h1.far (q := ⟨b2, j, none⟩) n1 v, h.h2.set j v, h.h3.far (q := ⟨b2, j, none⟩) (Ne.symm n7) v, h.h4.far (q := ⟨b2, j, none⟩) n3 v, h.h5.far (q := ⟨b2, j, none⟩) n5 v⟩
theorem GAt.s3 {w : World} {b1 b2 b3 b4 b5 : Nat} (h : GAt w b1 b2 b3 b4 b5) (j : Nat) (v : Value) : Has (w.setCell ⟨b3, j, none⟩ v) b1 3 #[.int .i64 18] ∧ Has (w.setCell ⟨b3, j, none⟩ v) b2 41 #[.int .i64 4, .int .i64 13, .int .i64 2] ∧ Has (w.setCell ⟨b3, j, none⟩ v) b3 41 ((#[.int .i64 12, .int .i64 19, .int .i64 8, .int .i64 8, .int .i64 4, .int .i64 1] : Array Value).setIfInBounds j v) ∧ Has (w.setCell ⟨b3, j, none⟩ v) b4 3 #[.int .i64 8, .int .i64 0] ∧ Has (w.setCell ⟨b3, j, none⟩ v) b5 3 #[.int .i64 5] := by
  obtain ⟨n1, n2, n3, n4, n5, n6, n7⟩ := h.ne
  exact ⟨h.h1.far (q := ⟨b3, j, none⟩) n2 v, h.h2.far (q := ⟨b3, j, none⟩) n7 v, h.h3.set j v, h.h4.far (q := ⟨b3, j, none⟩) n4 v, h.h5.far (q := ⟨b3, j, none⟩) n6 v⟩

set_option maxRecDepth 100000 in
set_option maxHeartbeats 4000000 in
theorem good_any (w : World) : Calls Try.prog 10 #[] w fun e w' => ∃ b1 b2 b3 b4 b5, e = .returned (rv gR (gP b1 b2 b3 b4 b5)) ∧ GAt w' b1 b2 b3 b4 b5 ∧ w.heap.size ≤ b2 ∧ w.heap.size ≤ b3 ∧ Below w.heap.size w w' := by
  have hB0 : Below w.heap.size w (((w.alloc (.cells #[.int .i64 0, .slice none 0 0, .slice none 0 0, .slice none 0 0, .slice none 0 0, .slice none 0 0] 32)).alloc (.cells #[.int .i64 18] 3)).alloc (.cells #[.int .i64 4, .int .i64 13, .int .i64 2] 41)) := by go_grown
  have hZ0 : Has (((w.alloc (.cells #[.int .i64 0, .slice none 0 0, .slice none 0 0, .slice none 0 0, .slice none 0 0, .slice none 0 0] 32)).alloc (.cells #[.int .i64 18] 3)).alloc (.cells #[.int .i64 4, .int .i64 13, .int .i64 2] 41)) w.heap.size 32 zr := ((Has.new _ _ _).al _).al _
  have h10 : Has (((w.alloc (.cells #[.int .i64 0, .slice none 0 0, .slice none 0 0, .slice none 0 0, .slice none 0 0, .slice none 0 0] 32)).alloc (.cells #[.int .i64 18] 3)).alloc (.cells #[.int .i64 4, .int .i64 13, .int .i64 2] 41)) (w.heap.size + 1) 3 #[.int .i64 18] := (Has.new' _ _ (by simp)).al _
  have h20 : Has (((w.alloc (.cells #[.int .i64 0, .slice none 0 0, .slice none 0 0, .slice none 0 0, .slice none 0 0, .slice none 0 0] 32)).alloc (.cells #[.int .i64 18] 3)).alloc (.cells #[.int .i64 4, .int .i64 13, .int .i64 2] 41)) (w.heap.size + 1 + 1) 41 #[.int .i64 4, .int .i64 13, .int .i64 2] := Has.new' _ _ (by simp)
  go_enter Try.func10, Try.ntmps10
  go_wp2_with (go_at_call 40; (with_reducible refine (gate3_any 12 19 8 _).mono ?_); rintro e w1 ⟨rfl, hb1⟩; have hB1 := Below.step hB0 hB0.size hb1; have hZ1 := hZ0.keep hb1 hZ0.lt; have h11 := h10.keep hb1 h10.lt; have h21 := h20.keep hb1 h20.lt)
  go_wp2_with (go_at_call 40; (with_reducible refine (gate3_any 8 4 1 _).mono ?_); rintro e w2 ⟨rfl, hb2⟩; have hB2 := Below.step hB1 hB1.size hb2; have hZ2 := hZ1.keep hb2 hZ1.lt; have h12 := h11.keep hb2 h11.lt; have h22 := h21.keep hb2 h21.lt; have hl2 := hZ2.lt; have z0 : ∀ (o1 o2 o3 : Obj), (((w2.alloc o1).alloc o2).alloc o3).cell? ⟨w.heap.size, 0, none⟩ = some (.int .i64 0) := fun o1 o2 o3 => (((hZ2.al o1).al o2).al o3).cell 0; have z1 : ∀ (o1 o2 o3 : Obj), (((w2.alloc o1).alloc o2).alloc o3).cell? ⟨w.heap.size, 1, none⟩ = some (.slice none 0 0) := fun o1 o2 o3 => (((hZ2.al o1).al o2).al o3).cell 1; have z2 : ∀ (o1 o2 o3 : Obj), (((w2.alloc o1).alloc o2).alloc o3).cell? ⟨w.heap.size, 2, none⟩ = some (.slice none 0 0) := fun o1 o2 o3 => (((hZ2.al o1).al o2).al o3).cell 2; have z3 : ∀ (o1 o2 o3 : Obj), (((w2.alloc o1).alloc o2).alloc o3).cell? ⟨w.heap.size, 3, none⟩ = some (.slice none 0 0) := fun o1 o2 o3 => (((hZ2.al o1).al o2).al o3).cell 3; have z4 : ∀ (o1 o2 o3 : Obj), (((w2.alloc o1).alloc o2).alloc o3).cell? ⟨w.heap.size, 4, none⟩ = some (.slice none 0 0) := fun o1 o2 o3 => (((hZ2.al o1).al o2).al o3).cell 4; have z5 : ∀ (o1 o2 o3 : Obj), (((w2.alloc o1).alloc o2).alloc o3).cell? ⟨w.heap.size, 5, none⟩ = some (.slice none 0 0) := fun o1 o2 o3 => (((hZ2.al o1).al o2).al o3).cell 5; have fz : ∀ (o1 o2 o3 : Obj) (j : Nat), (((w2.alloc o1).alloc o2).alloc o3).frozen? ⟨w.heap.size, j, none⟩ = false := fun o1 o2 o3 j => (((hZ2.al o1).al o2).al o3).fz j)
  have hsz := hB2.size
  have hl1 := h12.lt
  have hl3 := h22.lt
  refine bodyPost_ret (v := rv gR (gP (w.heap.size + 1) (w.heap.size + 1 + 1) w2.heap.size (w2.heap.size + 1) (w2.heap.size + 1 + 1))) (by simp [results, Try.results10, go_sem, z0, z1, z2, z3, z4, z5]; exact ⟨rfl, rfl, rfl, rfl, rfl, rfl⟩) rfl ⟨_, _, _, _, _, rfl, ⟨?_, ?_, ?_, ?_, ?_⟩, by omega, by omega, ?_⟩
  · exact Has.far6 (((h12.al _).al _).al _) (by omega) _ _ _ _ _ _
  · exact Has.far6 (((h22.al _).al _).al _) (by omega) _ _ _ _ _ _
  · exact Has.far6 (((Has.new w2 _ _).al _).al _) (by omega) _ _ _ _ _ _
  · exact Has.far6 ((Has.new' _ _ (by simp)).al _) (by omega) _ _ _ _ _ _
  · exact Has.far6 (Has.new' _ _ (by simp)) (by omega) _ _ _ _ _ _
  · exact below_set6 (((hB2.alloc hsz _).alloc (by simp; omega) _).alloc (by simp; omega) _) (by omega) _ _ _ _ _ _
end Go.Proofs.Ytpdfdbnmohippaa
