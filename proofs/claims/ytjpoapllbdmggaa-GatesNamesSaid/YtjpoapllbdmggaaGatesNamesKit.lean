/- The circuits that GatesNames tries: numbers and errors. -/
import Derived.Test.YtjpoapllbdmggaaGatesAlive
import Derived.Test.YtjpoapllbdmggaaGatesKind
import Derived.Test.YtjpoapllbdmggaaGatesDep
import Derived.Test.YtjpoapllbdmggaaGatesRCone
namespace Go.Proofs.Ytjpoapllbdmggaa
open Go.RowKit
set_option linter.unusedVariables false

/-- the examples' changes -/
def nmC (k : Nat) : Cr :=
  match k with
  | 0 => { exC with i := -1 }
  | 1 => { exC with i := 998 }
  | 2 => { exC with i := 9223372036854775807 }
  | 3 => { exC with nb := 101, bd := fun _ => 0 }
  | 4 => { exC with nc := 101, cn := fun _ => 0 }
  | 5 => { exC with bd := fun _ => 12 }
  | 6 => { exC with nc := 1, cn := fun _ => -1 }
  | 7 => { exC with nx := fun _ => 12 }
  | 8 => { exC with nx := fun _ => -1 }
  | 9 => { exC with rs := fun _ => 3 }
  | 10 => { exC with rs := fun _ => -1 }
  | 11 => { exC with ga := fun j => if j = 0 then 4 else 10 }
  | 12 => { exC with gb := fun j => if j = 0 then 2 else 9 }
  | 13 => { exC with gb := fun j => if j = 0 then -1 else 7 }
  | 14 => { exC with ga := fun j => if j = 0 then 9 else 8, gb := fun j => if j = 0 then 0 else 7 }
  | _ => { exC with i := -1, nb := 101, bd := fun _ => 0 }
def nmE (k : Nat) : Int := if k = 1 ∨ k = 2 ∨ k = 3 ∨ k = 4 then 4 else 8
theorem nm_chk : ∀ k, k < 16 → (nmC k).chk = nmE k := by decide +kernel
theorem nm_sm (k : Nat) : Sm (nmC k) := by
  have h := exC_sm
  unfold nmC
  split
  all_goals
    refine ⟨?_, ?_, ?_, ?_, ?_, ?_, ?_, ?_, ?_, ?_, ?_⟩
    all_goals first | exact h.i | exact h.nl | exact h.na | exact h.nb | exact h.nc | exact h.nx | exact h.rs | exact h.ga | exact h.gb | exact h.bd | exact h.cn | (show _ ≤ 1000; decide) | (show I64 _; exact i64_k _ (by decide) (by decide)) | (intro j; show I64 _; dsimp only; exact i64_k _ (by decide) (by decide)) | (intro j; dsimp only; exact ite_bd (i64_k _ (by decide) (by decide)) (i64_k _ (by decide) (by decide))) | (show I64 9223372036854775807; unfold I64; omega)

theorem nm_bad (k : Nat) (hk : k < 16) : (nmC k).chk ≠ 0 := by rw [nm_chk k hk]; unfold nmE; split <;> decide
theorem nmVars (k : Nat) (hk : k < 16) (p : Pl) (w : World) (hm : Mem w w.heap.size (nmC k) p) : Calls Try.prog 33 #[cv (nmC k) p] w fun e w' => ∃ x : Int, e = .returned (.tuple #[.int .i64 x, .int .i64 (nmE k)]) ∧ Below w.heap.size w w' := by
  have := gVars_any _ p w hm (nm_sm k)
  rw [nm_chk k hk] at this
  exact this.mono fun e w' ⟨he, hb⟩ => ⟨_, he, hb⟩
theorem nmKind (k : Nat) (hk : k < 16) (p : Pl) (w : World) (hm : Mem w w.heap.size (nmC k) p) : Calls Try.prog 34 #[cv (nmC k) p, .int .i64 (-1)] w fun e w' => ∃ x y : Int, e = .returned (.tuple #[.int .i64 x, .int .i64 y, .int .i64 (nmE k)]) ∧ Below w.heap.size w w' := by
  have := gKind_any _ p (-1) w hm (nm_sm k) (by omega)
  have e : ((nmC k).kd (-1)).2.2 = nmE k := by rw [← nm_chk k hk]; unfold Cr.kd; rw [if_pos (nm_bad k hk)]
  rw [e] at this
  exact this.mono fun e w' ⟨he, hb⟩ => ⟨_, _, he, hb⟩
theorem nmCone (k : Nat) (hk : k < 16) (p : Pl) (w : World) (hm : Mem w w.heap.size (nmC k) p) : Calls Try.prog 35 #[cv (nmC k) p, .int .i64 (-1)] w fun e w' => ∃ v, e = .returned (.tuple #[v, .int .i64 (nmE k)]) ∧ Below w.heap.size w w' := by
  have := gCone_any _ p (-1) w hm (nm_sm k)
  refine this.mono fun e w' ⟨v, he, _, hb⟩ => ⟨v, ?_, hb⟩
  rw [he]
  have e : (nmC k).cE (-1) = nmE k := by rw [← nm_chk k hk]; exact if_pos (nm_bad k hk)
  rw [e]
theorem nmDepth (k : Nat) (hk : k < 16) (p : Pl) (w : World) (hm : Mem w w.heap.size (nmC k) p) : Calls Try.prog 36 #[cv (nmC k) p] w fun e w' => ∃ x : Int, e = .returned (.tuple #[.int .i64 x, .int .i64 (nmE k)]) ∧ Below w.heap.size w w' := by
  have := gDepth_any _ p w hm (nm_sm k)
  rw [nm_chk k hk] at this
  exact this.mono fun e w' ⟨he, hb⟩ => ⟨_, he, hb⟩
theorem nmCheck (k : Nat) (hk : k < 16) (p : Pl) (w : World) (hm : Mem w w.heap.size (nmC k) p) : Calls Try.prog 26 #[cv (nmC k) p] w fun e w' => e = .returned (.int .i64 (nmE k)) ∧ Below w.heap.size w w' := by
  have := gCheck_any _ p w hm (nm_sm k)
  rwa [nm_chk k hk] at this

theorem info_int2 : (Try.prog.info? 3).map (fun i => (i.zero, i.size, i.bytes)) = some (some (.int .i64 0), 1, 8) := info_int
theorem ExAt.al {w : World} {b1 b2 b3 : Nat} (h : ExAt w b1 b2 b3) (o : Obj) : ExAt (w.alloc o) b1 b2 b3 := ⟨h.1.al o, h.2.1.al o, h.2.2.al o⟩
theorem Mem.to1 {w W : World} {c : Cr} {p : Pl} (h : Mem w w.heap.size c p) (hb : Below w.heap.size w W) : Mem W W.heap.size c p := h.to hb hb.size
theorem memA (k : Nat) {w : World} {b1 b2 b3 : Nat} (h : ExAt w b1 b2 b3) (hk : k < 3 := by omega) : Mem w w.heap.size (nmC k) (exP b1 b2 b3) := by
  have hm := h.mem
  match k, hk with
  | 0, _ => exact ⟨hm.la, hm.an, hm.bd, hm.cn⟩
  | 1, _ => exact ⟨hm.la, hm.an, hm.bd, hm.cn⟩
  | 2, _ => exact ⟨hm.la, hm.an, hm.bd, hm.cn⟩
theorem memB (k : Nat) {w : World} {b1 b2 b3 g : Nat} (h : ExAt w b1 b2 b3) (hi : IntsAt w w.heap.size (some ⟨g, 0, none⟩) 101 (fun _ => 0)) (hk : k = 3 ∨ k = 15 := by omega) : Mem w w.heap.size (nmC k) ⟨some ⟨b1, 0, none⟩, some ⟨b2, 0, none⟩, some ⟨g, 0, none⟩, none, 1, 2, 101, 0⟩ := by
  have hm := h.mem
  rcases hk with rfl | rfl <;> exact ⟨hm.la, hm.an, hi, hm.cn⟩
theorem memC {w : World} {b1 b2 b3 g : Nat} (h : ExAt w b1 b2 b3) (hi : IntsAt w w.heap.size (some ⟨g, 0, none⟩) 101 (fun _ => 0)) : Mem w w.heap.size (nmC 4) ⟨some ⟨b1, 0, none⟩, some ⟨b2, 0, none⟩, some ⟨b3, 0, none⟩, some ⟨g, 0, none⟩, 1, 2, 1, 101⟩ :=
  ⟨h.mem.la, h.mem.an, h.mem.bd, hi⟩
theorem memD {w : World} {b1 b2 b3 g : Nat} (h : ExAt w b1 b2 b3) (hi : IntsAt w w.heap.size (some ⟨g, 0, none⟩) 1 (fun _ => 12)) : Mem w w.heap.size (nmC 5) ⟨some ⟨b1, 0, none⟩, some ⟨b2, 0, none⟩, some ⟨g, 0, none⟩, none, 1, 2, 1, 0⟩ :=
  ⟨h.mem.la, h.mem.an, hi, h.mem.cn⟩
theorem memE {w : World} {b1 b2 b3 g : Nat} (h : ExAt w b1 b2 b3) (hi : IntsAt w w.heap.size (some ⟨g, 0, none⟩) 1 (fun _ => -1)) : Mem w w.heap.size (nmC 6) ⟨some ⟨b1, 0, none⟩, some ⟨b2, 0, none⟩, some ⟨b3, 0, none⟩, some ⟨g, 0, none⟩, 1, 2, 1, 1⟩ :=
  ⟨h.mem.la, h.mem.an, h.mem.bd, hi⟩
theorem memL (k : Nat) {w : World} {b1 b2 b3 : Nat} {x1 x2 x3 : Array Value} {t1 t2 t3 : TypeId} (h1 : Has w b1 t1 x1) (h2 : Has w b2 t2 x2) (h3 : Has w b3 t3 x3)
    (e1 : ∀ j, j < 1 → x1[j * 2]? = some (.int .i64 ((nmC k).nx j)) ∧ x1[j * 2 + 1]? = some (.int .i64 ((nmC k).rs j))) (e2 : ∀ j, j < 2 → x2[j * 2]? = some (.int .i64 ((nmC k).ga j)) ∧ x2[j * 2 + 1]? = some (.int .i64 ((nmC k).gb j))) (e3 : ∀ j, j < 1 → x3[j]? = some (.int .i64 ((nmC k).bd j)))
    (n1 : (nmC k).nl = 1) (n2 : (nmC k).na = 2) (n3 : (nmC k).nb = 1) (n4 : (nmC k).nc = 0) : Mem w w.heap.size (nmC k) (exP b1 b2 b3) :=
  ⟨by rw [n1]; exact pairs_of_has h1 e1, by rw [n2]; exact pairs_of_has h2 e2, by rw [n3]; exact ints_of_has h3 e3, fun h => by omega⟩
theorem memDrew {w : World} {c : Cr} {p : Pl} (h : Mem w w.heap.size c p) : Mem w.drew w.drew.heap.size c p := ⟨h.la, h.an, h.bd, h.cn⟩
theorem hasDrew {w : World} {b : Nat} {t : TypeId} {cs : Array Value} (h : Has w b t cs) : Has w.drew b t cs := h
/-- the largest circuit tried, and the empty one -/
def mostC : Cr := ⟨1000, 0, 0, 100, 1, fun _ => 0, fun _ => 0, fun _ => 0, fun _ => 0, fun _ => 0, fun _ => 2001⟩
def nulC : Cr := ⟨0, 0, 0, 0, 0, fun _ => 0, fun _ => 0, fun _ => 0, fun _ => 0, fun _ => 0, fun _ => 0⟩
theorem most_sm : Sm mostC := ⟨i64_k 1000 (by decide) (by decide), by decide, by decide, by decide, by decide, fun _ => i64_k 0 (by decide) (by decide), fun _ => i64_k 0 (by decide) (by decide), fun _ => i64_k 0 (by decide) (by decide), fun _ => i64_k 0 (by decide) (by decide), fun _ => i64_k 0 (by decide) (by decide), fun _ => i64_k 2001 (by decide) (by decide)⟩
theorem nul_sm : Sm nulC := ⟨i64_k 0 (by decide) (by decide), by decide, by decide, by decide, by decide, fun _ => i64_k 0 (by decide) (by decide), fun _ => i64_k 0 (by decide) (by decide), fun _ => i64_k 0 (by decide) (by decide), fun _ => i64_k 0 (by decide) (by decide), fun _ => i64_k 0 (by decide) (by decide), fun _ => i64_k 0 (by decide) (by decide)⟩
theorem most_chk : mostC.chk = 0 := by decide +kernel
theorem most_vrs : mostC.vrs = 1000 := by decide +kernel
theorem most_dpt : mostC.dpt = 0 := by decide +kernel
theorem nul_chk : nulC.chk = 0 := by decide +kernel
theorem nul_vrs : nulC.vrs = 0 := by decide +kernel
def kdI (v : Nat) : Int := [0, 1, 1, 2, 3, 3].getD v 0
def ixI (v : Nat) : Int := [0, 0, 1, 0, 0, 1].getD v 0
theorem ex_kd : ∀ v : Nat, v < 6 → exC.kd (v : Int) = (kdI v, ixI v, 0) := by decide +kernel
theorem ex_kd6 : (exC.kd 6).2.2 = 2 := by decide +kernel
theorem ex_cE12 : exC.cE 12 = 2 := by decide +kernel
theorem ex_cE1 : exC.cE 1 = 0 := by decide +kernel
theorem ex_cL1 : exC.cL 1 = [] := by decide +kernel
theorem nul_mem (w : World) : Mem w w.heap.size nulC ⟨none, none, none, none, 0, 0, 0, 0⟩ := ⟨fun h => absurd h (Nat.not_lt_zero _), fun h => absurd h (Nat.not_lt_zero _), fun h => absurd h (Nat.not_lt_zero _), fun h => absurd h (Nat.not_lt_zero _)⟩
theorem nulVars (w : World) : Calls Try.prog 33 #[.agg #[.int .i64 0, .slice none 0 0, .slice none 0 0, .slice none 0 0, .slice none 0 0]] w fun e w' => e = .returned (.tuple #[.int .i64 0, .int .i64 0]) ∧ Below w.heap.size w w' := by
  have := gVars_any nulC _ w (nul_mem w) nul_sm
  rw [nul_vrs, nul_chk] at this
  exact this
abbrev mP2 (g h : Nat) : Pl := ⟨none, none, some ⟨g, 0, none⟩, some ⟨h, 0, none⟩, 0, 0, 100, 1⟩
theorem mostVars (g h : Nat) (w : World) (hm : Mem w w.heap.size mostC (mP2 g h)) : Calls Try.prog 33 #[.agg #[.int .i64 1000, .slice none 0 0, .slice none 0 0, .slice (some ⟨g, 0, none⟩) 100 100, .slice (some ⟨h, 0, none⟩) 1 1]] w fun e w' => e = .returned (.tuple #[.int .i64 1000, .int .i64 0]) ∧ Below w.heap.size w w' := by
  have := gVars_any mostC _ w hm most_sm
  rw [most_vrs, most_chk] at this
  exact this
theorem mostDepth (g h : Nat) (w : World) (hm : Mem w w.heap.size mostC (mP2 g h)) : Calls Try.prog 36 #[.agg #[.int .i64 1000, .slice none 0 0, .slice none 0 0, .slice (some ⟨g, 0, none⟩) 100 100, .slice (some ⟨h, 0, none⟩) 1 1]] w fun e w' => e = .returned (.tuple #[.int .i64 0, .int .i64 0]) ∧ Below w.heap.size w w' := by
  have := gDepth_any mostC _ w hm most_sm
  rw [most_dpt, most_chk] at this
  exact this
theorem exKind (v : Nat) (hv : v < 6) (b1 b2 b3 : Nat) (w : World) (h : ExAt w b1 b2 b3) : Calls Try.prog 34 #[cv exC (exP b1 b2 b3), .int .i64 v] w fun e w' => e = .returned (.tuple #[.int .i64 (kdI v), .int .i64 (ixI v), .int .i64 0]) ∧ Below w.heap.size w w' := by
  have := gKind_any exC _ v w h.mem exC_sm (by omega)
  rw [ex_kd v hv] at this
  exact this
theorem exKind6 (b1 b2 b3 : Nat) (w : World) (h : ExAt w b1 b2 b3) : Calls Try.prog 34 #[cv exC (exP b1 b2 b3), .int .i64 6] w fun e w' => ∃ x y : Int, e = .returned (.tuple #[.int .i64 x, .int .i64 y, .int .i64 2]) ∧ Below w.heap.size w w' := by
  have := gKind_any exC _ 6 w h.mem exC_sm (by omega)
  rw [ex_kd6] at this
  exact this.mono fun e w' ⟨he, hb⟩ => ⟨_, _, he, hb⟩
theorem exCone12 (b1 b2 b3 : Nat) (w : World) (h : ExAt w b1 b2 b3) : Calls Try.prog 35 #[cv exC (exP b1 b2 b3), .int .i64 12] w fun e w' => ∃ v, e = .returned (.tuple #[v, .int .i64 2]) ∧ Below w.heap.size w w' := by
  have := gCone_any exC _ 12 w h.mem exC_sm
  refine this.mono fun e w' ⟨v, he, _, hb⟩ => ⟨v, ?_, hb⟩
  rw [he, ex_cE12]
theorem exCone1 (b1 b2 b3 : Nat) (w : World) (h : ExAt w b1 b2 b3) : Calls Try.prog 35 #[cv exC (exP b1 b2 b3), .int .i64 1] w fun e w' => ∃ A k, e = .returned (.tuple #[.slice A 0 k, .int .i64 0]) ∧ Below w.heap.size w w' := by
  refine (gCone_out exC _ 1 w h.mem exC_sm).mono fun e w' ⟨A, k, he, hi, hb⟩ => ⟨A, k, ?_, hb⟩
  rw [he, ex_cL1, ex_cE1]; rfl
theorem made_ints (w : World) (n : Nat) (t : TypeId) (g : Nat) (hg : w.heap.size = g) : IntsAt (w.alloc (.cells (madeCells #[.int .i64 0] n) t)) (w.alloc (.cells (madeCells #[.int .i64 0] n) t)).heap.size (some ⟨g, 0, none⟩) n (fun _ => 0) := by
  subst hg
  have h := World.rowIs_made w (.int .i64 0) n t
  refine fun hn => ⟨_, rfl, by simp, fun j hj => ?_⟩
  have e : (⟨w.heap.size, 0, none⟩ : Addr).add j = ⟨w.heap.size, j, none⟩ := by unfold Addr.add; split <;> simp_all
  rw [e]
  exact h.cell hj
theorem mostMem (w : World) (o : Obj) : Mem (((w.alloc (.cells (madeCells #[.int .i64 0] 100) 3)).alloc (.cells #[.int .i64 2001] 3)).alloc o) (((w.alloc (.cells (madeCells #[.int .i64 0] 100) 3)).alloc (.cells #[.int .i64 2001] 3)).alloc o).heap.size mostC (mP2 w.heap.size (w.heap.size + 1)) := by
  have h1 := made_ints w 100 3 _ rfl
  have h2 : IntsAt ((w.alloc (.cells (madeCells #[.int .i64 0] 100) 3)).alloc (.cells #[.int .i64 2001] 3)) ((w.alloc (.cells (madeCells #[.int .i64 0] 100) 3)).alloc (.cells #[.int .i64 2001] 3)).heap.size (some ⟨w.heap.size, 0, none⟩) 100 (fun _ => 0) := (h1.keep ((Below.refl _ _).alloc (Nat.le_refl _) _)).more (by simp)
  have h3 : Has ((w.alloc (.cells (madeCells #[.int .i64 0] 100) 3)).alloc (.cells #[.int .i64 2001] 3)) (w.heap.size + 1) 3 #[.int .i64 2001] := Has.new' _ _ (by simp)
  exact ⟨fun h => absurd h (Nat.not_lt_zero _), fun h => absurd h (Nat.not_lt_zero _), (h2.keep ((Below.refl _ _).alloc (Nat.le_refl _) _)).more (by simp), ints_of_has (h3.al _) (fun j hj => by rw [Nat.lt_one_iff.1 hj]; rfl)⟩
end Go.Proofs.Ytjpoapllbdmggaa
