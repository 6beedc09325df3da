/- States, limits and errors: the law's walk (written by tools/unnames.py). -/
import Derived.Test.YtecmldnigohjfaaDoorUnMo
namespace Go.Proofs.YtecmldnigohjfaaDoor
open Go Go.RowKit
set_option linter.unusedVariables false
set_option linter.unusedSimpArgs false

/-- the clauses whose states are told -/
def nmC : List (List Int) := [[3, 5], [3, 4], [3, 4, 7], [7, 9], [], [2, 4, 6]]
theorem nm_ok : OkA 4 [2, 5] [0] := by decide
theorem nm_cls : ∀ c ∈ nmC, OkC 4 c := by unfold nmC; decide
/-- the assignment of the law, later -/
structure Na (w W : World) : Prop where
  b : Below w.heap.size w W
  bx : Bs (w.heap.size + 1 + 1) W (.int .i64 4) (.slice (some ⟨w.heap.size, 0, none⟩) 2 2) (.slice (some ⟨w.heap.size + 1, 0, none⟩) 1 1)
  nw : Nw 0 W (some ⟨w.heap.size, 0, none⟩) 2 2 [2, 5] (some ⟨w.heap.size + 1, 0, none⟩) 1 1 [0]
theorem Na.on {w W W' : World} (h : Na w W) (hb : Below W.heap.size W W') : Na w W' := ⟨bn h.b hb, h.bx.on hb, h.nw.on hb⟩
/-- what the law lays first -/
structure Nf (w W : World) : Prop where
  a : Na w W
  st : Has W (w.heap.size + 1 + 1 + 1) 5 #[.int .u8 1, .int .u8 0, .int .u8 3, .int .u8 2, .int .u8 0, .int .u8 1]
  li : Has W (w.heap.size + 1 + 1 + 1 + 1) 3 #[.int .i64 0, .int .i64 0, .int .i64 7, .int .i64 0, .int .i64 0, .int .i64 0]
  cl : Ill W W.heap.size (some ⟨w.heap.size + 1 + 1 + 1 + 1 + 1 + 1 + 1 + 1 + 1 + 1, 0, none⟩) nmC 6
def nmR (b : Nat) : Array Value := #[.slice (some ⟨b + 1 + 1 + 1 + 1 + 1, 0, none⟩) 2 2, .slice (some ⟨b + 1 + 1 + 1 + 1 + 1 + 1, 0, none⟩) 2 2, .slice (some ⟨b + 1 + 1 + 1 + 1 + 1 + 1 + 1, 0, none⟩) 3 3, .slice (some ⟨b + 1 + 1 + 1 + 1 + 1 + 1 + 1 + 1, 0, none⟩) 2 2, .slice none 0 0, .slice (some ⟨b + 1 + 1 + 1 + 1 + 1 + 1 + 1 + 1 + 1, 0, none⟩) 3 3]
def nmA (w : World) : World := ((w.alloc (.cells #[.int .i64 2, .int .i64 5] 3)).alloc (.cells #[.int .i64 0] 3)).alloc (.cells #[.int .i64 4, .slice (some ⟨w.heap.size, 0, none⟩) 2 2, .slice (some ⟨w.heap.size + 1, 0, none⟩) 1 1] 24)
def nmB (w : World) : World := (w.alloc (.cells #[.int .u8 1, .int .u8 0, .int .u8 3, .int .u8 2, .int .u8 0, .int .u8 1] 5)).alloc (.cells #[.int .i64 0, .int .i64 0, .int .i64 7, .int .i64 0, .int .i64 0, .int .i64 0] 3)
def nmD (w : World) : World := ((((w.alloc (.cells #[.int .i64 3, .int .i64 5] 3)).alloc (.cells #[.int .i64 3, .int .i64 4] 3)).alloc (.cells #[.int .i64 3, .int .i64 4, .int .i64 7] 3)).alloc (.cells #[.int .i64 7, .int .i64 9] 3)).alloc (.cells #[.int .i64 2, .int .i64 4, .int .i64 6] 3)
theorem nmA_size (w : World) : (nmA w).heap.size = w.heap.size + 1 + 1 + 1 := by unfold nmA; simp only [World.size_alloc]
theorem nmB_size (w : World) : (nmB w).heap.size = w.heap.size + 1 + 1 := by unfold nmB; simp only [World.size_alloc]
theorem nmD_size (w : World) : (nmD w).heap.size = w.heap.size + 1 + 1 + 1 + 1 + 1 := by unfold nmD; simp only [World.size_alloc]
theorem nmA_below (w : World) : Below w.heap.size w (nmA w) := bn (bn (bx_on _ _) (bx_on _ _)) (bx_on _ _)
theorem nmB_below (w : World) : Below w.heap.size w (nmB w) := bn (bx_on _ _) (bx_on _ _)
theorem nmD_below (w : World) : Below w.heap.size w (nmD w) := bn (bn (bn (bn (bx_on _ _) (bx_on _ _)) (bx_on _ _)) (bx_on _ _)) (bx_on _ _)
theorem nmA_na (w : World) : Na w (nmA w) := by
  refine ⟨nmA_below w, ⟨Has.new' _ _ (by simp only [World.size_alloc])⟩, ?_⟩
  have h0 := ((Has.new w 3 #[.int .i64 2, .int .i64 5]).al (.cells #[.int .i64 0] 3)).al (.cells #[.int .i64 4, .slice (some ⟨w.heap.size, 0, none⟩) 2 2, .slice (some ⟨w.heap.size + 1, 0, none⟩) 1 1] 24)
  have h1 := (Has.new' (w.alloc (.cells #[.int .i64 2, .int .i64 5] 3)) (t := 3) (cs := #[.int .i64 0]) (w.heap.size + 1) (World.size_alloc _ _)).al (.cells #[.int .i64 4, .slice (some ⟨w.heap.size, 0, none⟩) 2 2, .slice (some ⟨w.heap.size + 1, 0, none⟩) 1 1] 24)
  exact ⟨ia_lit h0 rfl rfl, ia_lit h1 rfl rfl, rfl, rfl, fun _ _ => Nat.zero_le _, fun _ _ => Nat.zero_le _⟩
theorem nmB_has (w : World) : Has (nmB w) w.heap.size 5 #[.int .u8 1, .int .u8 0, .int .u8 3, .int .u8 2, .int .u8 0, .int .u8 1] ∧ Has (nmB w) (w.heap.size + 1) 3 #[.int .i64 0, .int .i64 0, .int .i64 7, .int .i64 0, .int .i64 0, .int .i64 0] :=
  ⟨(Has.new _ _ _).al _, Has.new' _ _ (World.size_alloc _ _)⟩
theorem nmD_has (w : World) : Has (nmD w) w.heap.size 3 #[.int .i64 3, .int .i64 5] ∧ Has (nmD w) (w.heap.size + 1) 3 #[.int .i64 3, .int .i64 4] ∧ Has (nmD w) (w.heap.size + 1 + 1) 3 #[.int .i64 3, .int .i64 4, .int .i64 7] ∧ Has (nmD w) (w.heap.size + 1 + 1 + 1) 3 #[.int .i64 7, .int .i64 9] ∧ Has (nmD w) (w.heap.size + 1 + 1 + 1 + 1) 3 #[.int .i64 2, .int .i64 4, .int .i64 6] :=
  ⟨((((Has.new _ _ _).al _).al _).al _).al _, (((Has.new' _ _ (by simp only [World.size_alloc])).al _).al _).al _, ((Has.new' _ _ (by simp only [World.size_alloc])).al _).al _, (Has.new' _ _ (by simp only [World.size_alloc])).al _, Has.new' _ _ (by simp only [World.size_alloc])⟩
theorem nm_first (w : World) {W : World} (hW : W = (nmD (nmB (nmA w))).alloc (.cells (nmR w.heap.size) 22)) : Nf w W := by
  subst hW
  have hz : (nmB (nmA w)).heap.size = w.heap.size + 1 + 1 + 1 + 1 + 1 := by rw [nmB_size, nmA_size]
  have hz2 : (nmD (nmB (nmA w))).heap.size = w.heap.size + 1 + 1 + 1 + 1 + 1 + 1 + 1 + 1 + 1 + 1 := by rw [nmD_size, hz]
  have b1 := nmB_below (nmA w)
  have b2 := nmD_below (nmB (nmA w))
  have b3 := bx_on (nmD (nmB (nmA w))) (.cells (nmR w.heap.size) 22)
  obtain ⟨h1, h2⟩ := nmB_has (nmA w)
  rw [nmA_size] at h1 h2
  obtain ⟨d0, d1, d2, d3, d4⟩ := nmD_has (nmB (nmA w))
  rw [hz] at d0 d1 d2 d3 d4
  have h6 := Has.new' (nmD (nmB (nmA w))) (t := 22) (cs := nmR w.heap.size) _ hz2
  refine ⟨(nmA_na w).on (bn b1 (bn b2 b3)), (h1.keep b2 h1.lt).keep b3 (h1.keep b2 h1.lt).lt, (h2.keep b2 h2.lt).keep b3 (h2.keep b2 h2.lt).lt, Ill.row h6 (fun j hj => ?_) (Nat.le_refl _)⟩
  have k0 := d0.keep b3 d0.lt
  have k1 := d1.keep b3 d1.lt
  have k2 := d2.keep b3 d2.lt
  have k3 := d3.keep b3 d3.lt
  have k4 := d4.keep b3 d4.lt
  rcases j with _ | _ | _ | _ | _ | _ | j
  · exact ⟨_, 2, rfl, ia_lit k0 rfl rfl⟩
  · exact ⟨_, 2, rfl, ia_lit k1 rfl rfl⟩
  · exact ⟨_, 3, rfl, ia_lit k2 rfl rfl⟩
  · exact ⟨_, 2, rfl, ia_lit k3 rfl rfl⟩
  · exact ⟨none, 0, rfl, Ia.nil _ _⟩
  · exact ⟨_, 3, rfl, ia_lit k4 rfl rfl⟩
  · simp [nmC] at hj; omega
theorem nm_st {j : Nat} (hj : j < 6) : (#[Value.int .u8 1, .int .u8 0, .int .u8 3, .int .u8 2, .int .u8 0, .int .u8 1] : Array Value)[j]? = some (.int .u8 (stC [2, 5] (nmC.getD j []))) := by
  rcases j with _ | _ | _ | _ | _ | _ | j
  iterate 6 (· rfl)
  · omega
theorem nm_li {j : Nat} (hj : j < 6) : (#[Value.int .i64 0, .int .i64 0, .int .i64 7, .int .i64 0, .int .i64 0, .int .i64 0] : Array Value)[j]? = some (.int .i64 (stX [2, 5] (nmC.getD j []))) := by
  rcases j with _ | _ | _ | _ | _ | _ | j
  iterate 6 (· rfl)
  · omega
/-- what is not valid -/
theorem nm_badS (W : World) {A D : Option Addr} (hA : Ia W W.heap.size A [2, 3] 2) (hD : Ia W W.heap.size D [1] 1) : Calls Tryd.prog 12 #[asv 2 A 2 2 none 0 0, .slice D 1 1] W fun e w' => e = .returned (.tuple #[.int .u8 0, .int .i64 0, .int .i64 8]) ∧ Below W.heap.size W w' := by
  have h := state_any 2 A [2, 3] 2 none [] 0 D [1] 1 W hA (by decide) (i64_all (by decide)) (Ia.nil _ _) (by decide) hD (by decide) (i64_all (by decide))
  have e : sE 2 [2, 3] [] [1] = 8 := by decide
  rw [show sS 2 [2, 3] [] [1] = 0 from if_neg (by rw [e]; decide), show sX 2 [2, 3] [] [1] = 0 from if_neg (by rw [e]; decide), e] at h
  exact h
theorem nm_badR (W : World) (htab : Tab W.heap.size W) {A C : Option Addr} (hA : Ia W W.heap.size A [2, 3] 2) (hC : Ill W W.heap.size C [[1]] 1) : Calls Tryd.prog 14 #[asv 2 A 2 2 none 0 0, .slice C 1 1] W fun e w' => ∃ A k B q, e = .returned (.tuple #[asv 0 A 0 k B 0 q, .int .i64 0, .int .i64 8]) ∧ Below W.heap.size W w' := by
  have h := run15_all 2 A [2, 3] 2 none [] 0 C [[1]] 1 W hA (by decide) (i64_all (by decide)) (Ia.nil _ _) (by decide) hC (by decide) (cr_small (by decide)) htab
  have e : cE 2 [2, 3] [] [[1]] = 8 := by decide
  have e' : ¬ cE 2 [2, 3] [] [[1]] = 0 := by rw [e]; decide
  rw [show rV 2 [2, 3] [] [[1]] = 0 from if_neg e', show rT 2 [2, 3] [] [[1]] = [] from if_neg e', show rS 2 [2, 3] [] [[1]] = [] from if_neg e', show rAt 2 [2, 3] [] [[1]] = 0 from if_neg e', e] at h
  refine h.mono fun en w' hh => ?_
  obtain ⟨A, k, B, q, h1, _, h3⟩ := hh.nwA (n := 0) (m := 0) rfl rfl
  exact ⟨A, k, B, q, h1, h3⟩
theorem nm_badC {w : World} (W : World) (h : Na w W) {D : Option Addr} (hD : Ia W W.heap.size D [10] 1) : Calls Tryd.prog 12 #[asv 4 (some ⟨w.heap.size, 0, none⟩) 2 2 (some ⟨w.heap.size + 1, 0, none⟩) 1 1, .slice D 1 1] W fun e w' => e = .returned (.tuple #[.int .u8 0, .int .i64 0, .int .i64 8]) ∧ Below W.heap.size W w' := by
  have hh := state_any 4 _ [2, 5] 2 _ [0] 1 D [10] 1 W h.nw.ti (by decide) (i64_all (by decide)) h.nw.si (by decide) hD (by decide) (i64_all (by decide))
  have e : sE 4 [2, 5] [0] [10] = 8 := by decide
  rw [show sS 4 [2, 5] [0] [10] = 0 from if_neg (by rw [e]; decide), show sX 4 [2, 5] [0] [10] = 0 from if_neg (by rw [e]; decide), e] at hh
  exact hh
theorem nm_runE {w : World} (W : World) (htab : Tab W.heap.size W) (h : Na w W) {C : Option Addr} {M : List (List Int)} {kc nl : Nat} (hC : Ill W W.heap.size C M kc) (hn : nl = M.length) (hl : M.length ≤ 100000) (hr : ∀ c ∈ M, c.length ≤ 100000 ∧ ∀ x ∈ c, I64 x) {er : Int} (e : cE 4 [2, 5] [0] M = er) (he : er ≠ 0) : Calls Tryd.prog 14 #[asv 4 (some ⟨w.heap.size, 0, none⟩) 2 2 (some ⟨w.heap.size + 1, 0, none⟩) 1 1, .slice C nl kc] W fun e w' => ∃ v A n k B m q, e = .returned (.tuple #[asv v A n k B m q, .int .i64 0, .int .i64 er]) ∧ Below W.heap.size W w' := by
  have hh := run15_all 4 _ [2, 5] 2 _ [0] 1 C M kc W h.nw.ti (by decide) (i64_all (by decide)) h.nw.si (by decide) hC hl hr htab
  have e' : ¬ cE 4 [2, 5] [0] M = 0 := by rw [e]; exact he
  rw [show rV 4 [2, 5] [0] M = 0 from if_neg e', show rT 4 [2, 5] [0] M = [] from if_neg e', show rS 4 [2, 5] [0] M = [] from if_neg e', show rAt 4 [2, 5] [0] M = 0 from if_neg e', e, ← hn] at hh
  refine hh.mono fun en w' hh => ?_
  obtain ⟨A, k, B, q, h1, _, h3⟩ := hh.nwA (n := 0) (m := 0) rfl rfl
  exact ⟨0, A, 0, k, B, 0, q, h1, h3⟩
/-- many empty clauses -/
theorem rep_wr (v : Int) (h0 : 0 ≤ v) (h4 : v ≤ 4000) (n : Nat) : wrE v (List.replicate n []) = 0 := wrE_0.2 fun c hc => by
  rw [(List.mem_replicate.1 hc).2]
  exact ckE_yes h0 h4 ⟨fun x hx => (by cases hx), List.Pairwise.nil⟩
theorem nm_many {n : Nat} (h : 20000 < n) : cE 4 [2, 5] [0] (List.replicate n []) = 4 := by
  unfold cE
  rw [if_neg (by rw [aE_yes nm_ok]; decide), if_pos (by rw [List.length_replicate]; exact h)]
theorem nm_some {n : Nat} (h : n ≤ 20000) : cE 4 [2, 5] [0] (List.replicate n []) = 0 := by
  unfold cE
  rw [if_neg (by rw [aE_yes nm_ok]; decide), if_neg (by rw [List.length_replicate]; omega), rep_wr 4 (by decide) (by decide)]
theorem nm_up {n : Nat} (h : 0 < n) : upR 4 [2, 5] (List.replicate n []) = ([2, 5], 0) := by
  have : fF [2, 5] (List.replicate n []) = some 0 := by
    obtain ⟨m, rfl⟩ : ∃ m, n = m + 1 := ⟨n - 1, by omega⟩
    rw [List.replicate_succ]; rfl
  exact up_false (n := (4 : Int).toNat + 1) this (Nat.succ_pos _)
theorem rep_small (n : Nat) : ∀ c ∈ List.replicate n ([] : List Int), c.length ≤ 100000 ∧ ∀ x ∈ c, I64 x := fun c hc => by
  rw [(List.mem_replicate.1 hc).2]
  exact ⟨by simp, fun x hx => by cases hx⟩
theorem rep_ill {W : World} {g n : Nat} (h : W.rowIs g 22 n (fun _ => .slice none 0 0)) : Ill W W.heap.size (some ⟨g, 0, none⟩) (List.replicate n []) n :=
  Ill.ofRow h (by rw [List.length_replicate]) (B := W.heap.size) (Nat.le_refl _) fun j hj => by
    have e : (List.replicate n ([] : List Int)).getD j [] = [] := by rw [List.getD_eq_getElem?_getD, List.getElem?_replicate, if_pos hj]; rfl
    rw [e]
    exact ⟨none, 0, rfl, Ia.nil _ _⟩
theorem nm_runB {w : World} (W : World) (htab : Tab W.heap.size W) (h : Na w W) {g n : Nat} (hR : W.rowIs g 22 n (fun _ => .slice none 0 0)) (h0 : 0 < n) (h2 : n ≤ 20001) {er : Int} (he : er = if 20000 < n then 4 else 0) : Calls Tryd.prog 14 #[asv 4 (some ⟨w.heap.size, 0, none⟩) 2 2 (some ⟨w.heap.size + 1, 0, none⟩) 1 1, .slice (some ⟨g, 0, none⟩) n n] W fun e w' => ∃ v A n k B m q, e = .returned (.tuple #[asv v A n k B m q, .int .i64 0, .int .i64 er]) ∧ Below W.heap.size W w' := by
  by_cases hn : 20000 < n
  · rw [if_pos hn] at he
    subst he
    exact nm_runE W htab h (rep_ill hR) (by rw [List.length_replicate]) (by rw [List.length_replicate]; omega) (rep_small n) (nm_many hn) (by decide)
  · rw [if_neg hn] at he
    subst he
    have hE := nm_some (n := n) (by omega)
    have hh := run15_all 4 _ [2, 5] 2 _ [0] 1 (some ⟨g, 0, none⟩) (List.replicate n []) n W h.nw.ti (by decide) (i64_all (by decide)) h.nw.si (by decide) (rep_ill hR) (by rw [List.length_replicate]; omega) (rep_small n) htab
    rw [show rAt 4 [2, 5] [0] (List.replicate n []) = 0 by unfold rAt; rw [if_pos hE, nm_up h0], hE, List.length_replicate] at hh
    refine hh.mono fun en w' hh => ?_
    obtain ⟨A, k, B, q, h1, _, h3⟩ := hh.nwA rfl rfl
    exact ⟨_, A, _, k, B, _, q, h1, h3⟩
theorem nm_up0 : upR 4 [2, 5] [] = ([2, 5], -1) := by decide
theorem nm_up2 : upR 4 [2, 5] [[3, 4, 8], [6, 9]] = ([2, 5, 8, 6], -1) := by decide
theorem nm_c2 : cE 4 [2, 5] [0] [[2], [4, 3]] = 8 := by decide
theorem row_made2 (w : World) {n : Nat} {W : World} (hW : (w.alloc (.cells (madeCells #[.slice none 0 0] n) 22)).drew = W) : W.rowIs w.heap.size 22 n (fun _ => .slice none 0 0) := by
  subst hW
  exact World.rowIs_made w (.slice none 0 0) n 22
theorem row_made (w : World) {n : Nat} {W : World} (hW : w.alloc (.cells (madeCells #[.slice none 0 0] n) 22) = W) : W.rowIs w.heap.size 22 n (fun _ => .slice none 0 0) := by
  subst hW
  exact World.rowIs_made w (.slice none 0 0) n 22

set_option maxRecDepth 100000 in
set_option maxHeartbeats 40000000 in
theorem names15_any (w : World) (htab : Tab w.heap.size w) : Calls Tryd.prog 4 #[] w fun e w' => e = .returned (.bool true) ∧ Below w.heap.size w w' := by
  go_enter Tryd.func4, Tryd.ntmps4
  go_wp2
  obtain ⟨W0, hW0⟩ : ∃ W0, W0 = (nmD (nmB (nmA w))).alloc (.cells (nmR w.heap.size) 22) := ⟨_, rfl⟩
  have HF := Lib.hid (nm_first w hW0)
  unfold nmD nmB nmA nmR at hW0
  rw [← hW0]
  clear hW0
  have hcl6 : nmC.length = 6 := rfl
  go_loopw [5] (fun i wr => ∃ j : Nat, j ≤ 6 ∧ i = .int .i64 (j : Int) ∧ Below W0.heap.size W0 wr) (fun i _ => 6 - (intOf i).toNat)
  case atStart => exact ⟨0, Nat.zero_le _, rfl, Below.refl _ _⟩
  case round =>
    obtain ⟨j, hj, rfl, hB⟩ := hrel
    by_cases hlt : j < 6
    case pos =>
      obtain ⟨b, o, eA, hb0, hcs⟩ := HF.out.cl.h (by rw [hcl6]; omega)
      obtain ⟨C', kc', y0, hIc⟩ := hcs j (by rw [hcl6]; exact hlt)
      have eA : w.heap.size + 1 + 1 + 1 + 1 + 1 + 1 + 1 + 1 + 1 + 1 = b ∧ 0 = o := by injection eA with eA; injection eA with e1 e2; exact ⟨e1, e2⟩
      obtain ⟨rfl, rfl⟩ := eA
      have yy : wr.cell? ⟨w.heap.size + 1 + 1 + 1 + 1 + 1 + 1 + 1 + 1 + 1 + 1, j, none⟩ = some (.slice C' (nmC.getD j []).length kc') := by have := (hB.cell (p := ⟨_, 0 + j, none⟩) hb0).trans y0; rwa [Nat.zero_add] at this
      have hst : wr.cell? ⟨w.heap.size + 1 + 1 + 1, j, none⟩ = some (.int .u8 (stC [2, 5] (nmC.getD j []))) := (hB.cell (p := ⟨_, j, none⟩) HF.out.st.lt).trans ((HF.out.st.cell j).trans (nm_st hlt))
      have hli : wr.cell? ⟨w.heap.size + 1 + 1 + 1 + 1, j, none⟩ = some (.int .i64 (stX [2, 5] (nmC.getD j []))) := (hB.cell (p := ⟨_, j, none⟩) HF.out.li.lt).trans ((HF.out.li.cell j).trans (nm_li hlt))
      have hbd := bn hB (below_dn (Below.refl wr.heap.size wr) 1)
      have DS := (HF.out.a.nw.on hbd).state (v := 4) (by decide) nm_ok (hIc.on hbd) (nm_cls _ (gotD_mem (by rw [hcl6]; exact hlt))) (nc := (nmC.getD j []).length) rfl
      have hj1 : (j : Int) < 6 := by omega
      have hj0 : (0 : Int) ≤ (j : Int) := by omega
      generalize stC [2, 5] (nmC.getD j []) = sc at DS hst
      generalize stX [2, 5] (nmC.getD j []) = sx at DS hli
      generalize (nmC.getD j []).length = lc at yy DS
      have e1 : (sc != sc) = false := by simp
      have e2 : (sx != sx) = false := by simp
      have HBr := Lib.hid (And.intro hB (And.intro hst hli))
      have hS0 : (fun W : World => (W.cell? ⟨w.heap.size + 1 + 1, 0, none⟩ = some (.int .i64 4) ∧ W.cell? ⟨w.heap.size + 1 + 1, 1, none⟩ = some (.slice (some ⟨w.heap.size, 0, none⟩) 2 2) ∧ W.cell? ⟨w.heap.size + 1 + 1, 2, none⟩ = some (.slice (some ⟨w.heap.size + 1, 0, none⟩) 1 1)) ∧ W.cell? ⟨w.heap.size + 1 + 1 + 1 + 1 + 1 + 1 + 1 + 1 + 1 + 1, j, none⟩ = some (.slice C' lc kc')) wr.drew := ⟨(HF.out.a.on hB).bx.c, yy⟩
      have HSk : Hid (∀ W, Below wr.heap.size wr W → (fun W : World => (W.cell? ⟨w.heap.size + 1 + 1, 0, none⟩ = some (.int .i64 4) ∧ W.cell? ⟨w.heap.size + 1 + 1, 1, none⟩ = some (.slice (some ⟨w.heap.size, 0, none⟩) 2 2) ∧ W.cell? ⟨w.heap.size + 1 + 1, 2, none⟩ = some (.slice (some ⟨w.heap.size + 1, 0, none⟩) 1 1)) ∧ W.cell? ⟨w.heap.size + 1 + 1 + 1 + 1 + 1 + 1 + 1 + 1 + 1 + 1, j, none⟩ = some (.slice C' lc kc')) W) := Lib.hid fun W hb => ⟨(HF.out.a.on (bn hB hb)).bx.c, (hb.cell (cell_lt yy)).trans yy⟩
      clear hB hst hli yy y0 hIc hcs hbd hj
      go_wp2
      refine wp_slots (fun f => Sz f 200 ∧ Slot f 1 (.pointer (some ⟨w.heap.size + 1 + 1, 0, none⟩)) ∧ Slot f 4 (.slice (some ⟨w.heap.size + 1 + 1 + 1 + 1 + 1 + 1 + 1 + 1 + 1 + 1, 0, none⟩) 6 6) ∧ Slot f 5 (.int .i64 (j : Int))) ⟨⟨rfl, rfl⟩, ⟨rfl⟩, ⟨rfl⟩, ⟨rfl⟩⟩ fun a0' hA0 hR => ?_
      obtain ⟨hZ, hs1, hs4, hs5⟩ := hR
      have HA := Lib.hid hA0
      clear hA0
      refine wp_region_T (fun W : World => (W.cell? ⟨w.heap.size + 1 + 1, 0, none⟩ = some (.int .i64 4) ∧ W.cell? ⟨w.heap.size + 1 + 1, 1, none⟩ = some (.slice (some ⟨w.heap.size, 0, none⟩) 2 2) ∧ W.cell? ⟨w.heap.size + 1 + 1, 2, none⟩ = some (.slice (some ⟨w.heap.size + 1, 0, none⟩) 1 1)) ∧ W.cell? ⟨w.heap.size + 1 + 1 + 1 + 1 + 1 + 1 + 1 + 1 + 1 + 1, j, none⟩ = some (.slice C' lc kc')) 13 (by kernel_rfl) ?_
      refine WT.h ?_
      (refine wt_take1 0 1 (v := ?_) rfl rfl (by kernel_rfl) (by kernel_rfl) (by kernel_rfl) (by kernel_rfl) (fun _ _ _ h => h) rfl hS0 (by (repeat (first | (refine slot_hit (N := 200) ?_ (by rfl); (repeat (refine sz_put ?_)); assumption; done) | (apply slot_miss; focus rfl))); all_goals assumption) (fun ev hk hv0 w hS => ?_) ?_; rotate_left; focus (obtain ⟨⟨j0, j1, j2⟩, j3⟩ := hS; go_simp; rfl)); (refine wt_move 1 4 rfl rfl (by kernel_rfl) (by kernel_rfl) (by kernel_rfl) (by kernel_rfl) (fun _ _ _ h => h) rfl hS0 (by (repeat (first | (refine slot_hit (N := 200) ?_ (by rfl); (repeat (refine sz_put ?_)); assumption; done) | (apply slot_miss; focus rfl))); all_goals assumption) rfl ?_); (refine wt_move 2 5 rfl rfl (by kernel_rfl) (by kernel_rfl) (by kernel_rfl) (by kernel_rfl) (fun _ _ _ h => h) rfl hS0 (by (repeat (first | (refine slot_hit (N := 200) ?_ (by rfl); (repeat (refine sz_put ?_)); assumption; done) | (apply slot_miss; focus rfl))); all_goals assumption) rfl ?_); (refine wt_take2 3 53 54 (v := ?_) rfl rfl (by kernel_rfl) (by kernel_rfl) (by kernel_rfl) (by kernel_rfl) (fun _ _ _ h => h) rfl hS0 (by (repeat (first | (refine slot_hit (N := 200) ?_ (by rfl); (repeat (refine sz_put ?_)); assumption; done) | (apply slot_miss; focus rfl))); all_goals assumption) (by (repeat (first | (refine slot_hit (N := 200) ?_ (by rfl); (repeat (refine sz_put ?_)); assumption; done) | (apply slot_miss; focus rfl))); all_goals assumption) (fun ev hk hv0 hv1 w hS => ?_) ?_; rotate_left; focus (obtain ⟨⟨j0, j1, j2⟩, j3⟩ := hS; go_simp; rfl)); (refine wt_take1 4 55 (v := ?_) rfl rfl (by kernel_rfl) (by kernel_rfl) (by kernel_rfl) (by kernel_rfl) (fun _ _ _ h => h) rfl hS0 (by (repeat (first | (refine slot_hit (N := 200) ?_ (by rfl); (repeat (refine sz_put ?_)); assumption; done) | (apply slot_miss; focus rfl))); all_goals assumption) (fun ev hk hv0 w hS => ?_) ?_; rotate_left; focus (obtain ⟨⟨j0, j1, j2⟩, j3⟩ := hS; go_simp; rfl))
      refine wt_call2 5 52 56 (by kernel_rfl) rfl rfl rfl (by (repeat (first | (refine slot_hit (N := 200) ?_ (by rfl); (repeat (refine sz_put ?_)); assumption; done) | (apply slot_miss; focus rfl))); all_goals assumption) (by (repeat (first | (refine slot_hit (N := 200) ?_ (by rfl); (repeat (refine sz_put ?_)); assumption; done) | (apply slot_miss; focus rfl))); all_goals assumption) (f := ?_) (args := ?_) (fun ev hk hkf hv0 hv1 => ?_) ?_; rotate_left 2; focus (go_simp; first | rfl | (constructor <;> rfl))
      refine DS.mono ?_
      rintro e w6 ⟨rfl, hb6⟩
      have hb6 := bn (below_dn (Below.refl _ _) 1) hb6
      have hS0 := HSk.out w6 hb6
      refine ⟨_, rfl, fun _ => hS0, ?_⟩
      have HB6 := Lib.hid (bn HBr.out.1 hb6)
      have c1 := (hb6.cell (cell_lt HBr.out.2.1)).trans HBr.out.2.1
      have c2 := (hb6.cell (cell_lt HBr.out.2.2)).trans HBr.out.2.2
      clear hb6 DS
      (refine wt_move 6 57 rfl rfl (by kernel_rfl) (by kernel_rfl) (by kernel_rfl) (by kernel_rfl) (fun _ _ _ h => h) rfl hS0 (by (repeat (first | (refine slot_hit (N := 200) ?_ (by rfl); (repeat (refine sz_put ?_)); assumption; done) | (apply slot_miss; focus rfl))); all_goals assumption) rfl ?_); (refine wt_take1 7 51 (v := ?_) rfl rfl (by kernel_rfl) (by kernel_rfl) (by kernel_rfl) (by kernel_rfl) (fun _ _ _ h => h) rfl hS0 (by (repeat (first | (refine slot_hit (N := 200) ?_ (by rfl); (repeat (refine sz_put ?_)); assumption; done) | (apply slot_miss; focus rfl))); all_goals assumption) (fun ev hk hv0 w hS => ?_) ?_; rotate_left; focus (obtain ⟨⟨j0, j1, j2⟩, j3⟩ := hS; go_simp; rfl)); (refine wt_take1 8 51 (v := ?_) rfl rfl (by kernel_rfl) (by kernel_rfl) (by kernel_rfl) (by kernel_rfl) (fun _ _ _ h => h) rfl hS0 (by (repeat (first | (refine slot_hit (N := 200) ?_ (by rfl); (repeat (refine sz_put ?_)); assumption; done) | (apply slot_miss; focus rfl))); all_goals assumption) (fun ev hk hv0 w hS => ?_) ?_; rotate_left; focus (obtain ⟨⟨j0, j1, j2⟩, j3⟩ := hS; go_simp; rfl)); (refine wt_take1 9 51 (v := ?_) rfl rfl (by kernel_rfl) (by kernel_rfl) (by kernel_rfl) (by kernel_rfl) (fun _ _ _ h => h) rfl hS0 (by (repeat (first | (refine slot_hit (N := 200) ?_ (by rfl); (repeat (refine sz_put ?_)); assumption; done) | (apply slot_miss; focus rfl))); all_goals assumption) (fun ev hk hv0 w hS => ?_) ?_; rotate_left; focus (obtain ⟨⟨j0, j1, j2⟩, j3⟩ := hS; go_simp; rfl)); (refine wt_assign 10 58 rfl rfl (by kernel_rfl) (by kernel_rfl) (by kernel_rfl) (by kernel_rfl) (fun _ _ _ h => h) rfl hS0 (by (repeat (first | (refine slot_hit (N := 200) ?_ (by rfl); (repeat (refine sz_put ?_)); assumption; done) | (apply slot_miss; focus rfl))); all_goals assumption) rfl ?_); (refine wt_assign 11 59 rfl rfl (by kernel_rfl) (by kernel_rfl) (by kernel_rfl) (by kernel_rfl) (fun _ _ _ h => h) rfl hS0 (by (repeat (first | (refine slot_hit (N := 200) ?_ (by rfl); (repeat (refine sz_put ?_)); assumption; done) | (apply slot_miss; focus rfl))); all_goals assumption) rfl ?_); (refine wt_assign 12 60 rfl rfl (by kernel_rfl) (by kernel_rfl) (by kernel_rfl) (by kernel_rfl) (fun _ _ _ h => h) rfl hS0 (by (repeat (first | (refine slot_hit (N := 200) ?_ (by rfl); (repeat (refine sz_put ?_)); assumption; done) | (apply slot_miss; focus rfl))); all_goals assumption) rfl ?_)
      refine wt_done (by kernel_rfl) (NoPanic.normal ?_) _
      have ha := HA.out
      subst ha
      clear hs1 hs4 hs5 hZ hS0 HSk
      go_wp2
      go_roundw
      case rel => exact ⟨j + 1, by omega, by go_num, HB6.out⟩
      case measure => simp [intOf]; omega
    case neg =>
      obtain rfl : j = 6 := by omega
      have hA := HF.out.a.on hB
      have h1 := bx_on wr (.cells #[.int .i64 2, .int .i64 3] 3)
      have h2 := bx_on (wr.alloc (.cells #[.int .i64 2, .int .i64 3] 3)) (.cells #[.int .i64 2, .slice (some ⟨wr.heap.size, 0, none⟩) 2 2, .slice none 0 0] 24)
      have h3 := bx_on ((wr.alloc (.cells #[.int .i64 2, .int .i64 3] 3)).alloc (.cells #[.int .i64 2, .slice (some ⟨wr.heap.size, 0, none⟩) 2 2, .slice none 0 0] 24)) (.cells #[.int .i64 1] 3)
      have hIb := (ia_lit (l := [2, 3]) (Has.new wr 3 #[.int .i64 2, .int .i64 3]) rfl (n := 2) rfl).on (bn h2 h3)
      have hBb : Bs (wr.heap.size + 1) _ _ _ _ := (⟨Has.new' (wr.alloc (.cells #[.int .i64 2, .int .i64 3] 3)) (t := 24) (cs := #[.int .i64 2, .slice (some ⟨wr.heap.size, 0, none⟩) 2 2, .slice none 0 0]) (wr.heap.size + 1) (World.size_alloc _ _)⟩ : Bs (wr.heap.size + 1) _ _ _ _).on h3
      have hD := ia_lit (l := [1]) (Has.new' ((wr.alloc (.cells #[.int .i64 2, .int .i64 3] 3)).alloc (.cells #[.int .i64 2, .slice (some ⟨wr.heap.size, 0, none⟩) 2 2, .slice none 0 0] 24)) (t := 3) (cs := #[.int .i64 1]) (wr.heap.size + 1 + 1) (by simp only [World.size_alloc])) rfl (n := 1) rfl
      have E1 := nm_badS _ hIb hD
      have HH := Lib.hid (And.intro (hA.on (bn h1 (bn h2 h3))) (And.intro hBb hIb))
      clear hB hA h1 h2 h3 hIb hBb hD
      go_wp2_with (first
        | (go_at_call 12; (with_reducible refine E1.mono ?_); rintro e w2 ⟨rfl, hb2⟩
           have hA2 := HH.out.1.on hb2
           obtain ⟨b20, b21, b22⟩ := (HH.out.2.1.on hb2).c
           obtain ⟨hC2, hc2⟩ := ill1 w2 (a := [1]) (ca := #[.int .i64 1]) rfl (na := 1) rfl rfl
           have hC2b := hc2
           obtain ⟨d20, d21, d22⟩ := ((HH.out.2.1.on hb2).on hc2).c
           have E2 := nm_badR _ (htab.next (bn hA2.b hc2)) ((HH.out.2.2.on hb2).on hc2) hC2
           have H2 := Lib.hid (hA2.on hc2)
           clear hA2 hb2 hC2 hc2 hC2b E1)
        | (go_at_call 14; (with_reducible refine E2.mono ?_); rintro e w3 ⟨A3, k3, B3, q3, rfl, hb3⟩
           have hz := bx_on w3 (.cells #[.int .i64 0, .slice A3 0 k3, .slice B3 0 q3] 24)
           have hA3 := H2.out.on (bn hb3 hz)
           have hz3 := bx_on (w3.alloc (.cells #[.int .i64 0, .slice A3 0 k3, .slice B3 0 q3] 24)) (.cells #[.int .i64 10] 3)
           have hA3' := hA3.on hz3
           obtain ⟨c30, c31, c32⟩ := hA3.bx.c
           obtain ⟨d30, d31, d32⟩ := hA3'.bx.c
           have hD3 := ia_lit (l := [10]) (Has.new' (w3.alloc (.cells #[.int .i64 0, .slice A3 0 k3, .slice B3 0 q3] 24)) (t := 3) (cs := #[.int .i64 10]) (w3.heap.size + 1) (by simp only [World.size_alloc])) rfl (n := 1) rfl
           have E3 := nm_badC _ hA3' hD3
           have H3 := Lib.hid hA3'
           clear hb3 hz hz3 hA3 hA3' hD3 E2)
        | (go_at_call 12; (with_reducible refine E3.mono ?_); rintro e w4 ⟨rfl, hb4⟩
           have hA4 := H3.out.on hb4
           obtain ⟨hC4, hc4⟩ := ill2 w4 (a := [2]) (b := [4, 3]) (ca := #[.int .i64 2]) (cb := #[.int .i64 4, .int .i64 3]) rfl rfl (na := 1) (nb := 2) rfl rfl rfl
           obtain ⟨c40, c41, c42⟩ := hA4.bx.c
           have hA4' := hA4.on hc4
           obtain ⟨d40, d41, d42⟩ := hA4'.bx.c
           have E4 := nm_runE _ (htab.next hA4'.b) hA4' hC4 (nl := 2) rfl (by decide) (cr_small (by decide)) nm_c2 (by decide)
           have H4 := Lib.hid hA4'
           clear hb4 hC4 hc4 hA4 hA4' E3)
        | (go_at_call 14; (with_reducible refine E4.mono ?_); rintro e w5 ⟨v5, A5, n5, k5, B5, m5, q5, rfl, hb5⟩
           have H5 := Lib.hid (H4.out.on (bn hb5 (bx_on w5 (.cells #[.int .i64 v5, .slice A5 n5 k5, .slice B5 m5 q5] 24))))
           clear hb5 E4))
      generalize w5.alloc (.cells #[.int .i64 v5, .slice A5 n5 k5, .slice B5 m5 q5] 24) = W5 at H5 ⊢
      clear c30 c31 c32 d30 d31 d32 c40 c41 c42 d40 d41 d42 b20 b21 b22 d20 d21 d22 H2 H3 H4 HH
      obtain ⟨n1, hn1⟩ : ∃ n, n = 20001 := ⟨_, rfl⟩
      obtain ⟨n0, hn0⟩ : ∃ n, n = 20000 := ⟨_, rfl⟩
      have hmk1 : ∀ w : World, (Instr.makeSlice 25 (.int .i64 20001) (.int .i64 20001)).run Tryd.prog w = .ok (.slice (some ⟨w.heap.size, 0, none⟩) n1 n1) (w.alloc (.cells (madeCells #[.slice none 0 0] n1) 22)) := fun w => by
        have h := run_make_row' 25 22 (.slice none 0 0) 24 Tryd.underlying25 info_row15 rfl .i64 .i64 n1 (by omega) (by omega) w
        rw [show ((n1 : Nat) : Int) = 20001 by omega] at h
        exact h
      have hmk0 : ∀ w : World, (Instr.makeSlice 25 (.int .i64 20000) (.int .i64 20000)).run Tryd.prog w = .ok (.slice (some ⟨w.heap.size, 0, none⟩) n0 n0) (w.alloc (.cells (madeCells #[.slice none 0 0] n0) 22)) := fun w => by
        have h := run_make_row' 25 22 (.slice none 0 0) 24 Tryd.underlying25 info_row15 rfl .i64 .i64 n0 (by omega) (by omega) w
        rw [show ((n0 : Nat) : Int) = 20000 by omega] at h
        exact h
      have HN1 := Lib.hid hn1
      have HN0 := Lib.hid hn0
      clear hn1 hn0
      go_cut [22, 23, 24] (fun x0 x1 x2 wx => ∃ gy, x0 = .pointer (some ⟨gy, 0, none⟩) ∧ x1 = .int .i64 0 ∧ x2 = .int .i64 4 ∧ Below W5.heap.size W5 wx)
      case first =>
        have hS0 : (fun W : World => W.cell? ⟨w.heap.size + 1 + 1, 0, none⟩ = some (.int .i64 4) ∧ W.cell? ⟨w.heap.size + 1 + 1, 1, none⟩ = some (.slice (some ⟨w.heap.size, 0, none⟩) 2 2) ∧ W.cell? ⟨w.heap.size + 1 + 1, 2, none⟩ = some (.slice (some ⟨w.heap.size + 1, 0, none⟩) 1 1)) W5.drew := H5.out.bx.c
        have HSk : Hid (∀ W, Below W5.heap.size W5 W → (fun W : World => W.cell? ⟨w.heap.size + 1 + 1, 0, none⟩ = some (.int .i64 4) ∧ W.cell? ⟨w.heap.size + 1 + 1, 1, none⟩ = some (.slice (some ⟨w.heap.size, 0, none⟩) 2 2) ∧ W.cell? ⟨w.heap.size + 1 + 1, 2, none⟩ = some (.slice (some ⟨w.heap.size + 1, 0, none⟩) 1 1)) W) := Lib.hid fun W hb => (H5.out.on hb).bx.c
        refine wp_slots (fun f => Sz f 200 ∧ Slot f 1 (.pointer (some ⟨w.heap.size + 1 + 1, 0, none⟩))) ⟨⟨rfl, rfl⟩, ⟨rfl⟩⟩ fun a0 hA0 hR => ?_
        obtain ⟨hZ, hs1⟩ := hR
        have HA := Lib.hid hA0
        clear hA0
        refine wp_region_T (fun W : World => W.cell? ⟨w.heap.size + 1 + 1, 0, none⟩ = some (.int .i64 4) ∧ W.cell? ⟨w.heap.size + 1 + 1, 1, none⟩ = some (.slice (some ⟨w.heap.size, 0, none⟩) 2 2) ∧ W.cell? ⟨w.heap.size + 1 + 1, 2, none⟩ = some (.slice (some ⟨w.heap.size + 1, 0, none⟩) 1 1)) 11 (by kernel_rfl) ?_
        refine WT.h ?_
        (refine wt_take1 0 1 (v := ?_) rfl rfl (by kernel_rfl) (by kernel_rfl) (by kernel_rfl) (by kernel_rfl) (fun _ _ _ h => h) rfl hS0 (by (repeat (first | (refine slot_hit (N := 200) ?_ (by rfl); (repeat (refine sz_put ?_)); assumption; done) | (apply slot_miss; focus rfl))); all_goals assumption) (fun ev hk hv0 w hS => ?_) ?_; rotate_left; focus (obtain ⟨j0, j1, j2⟩ := hS; go_simp; rfl))
        have hB := below_dn (Below.refl W5.heap.size W5) 1
        clear hS0
        refine ways2 1 7 (by kernel_rfl) ?_ ?_
        · skip
          refine wu_val 1 rfl rfl rfl (v := ?_) (w' := ?_) (fun ev hk => ?_) ?_; rotate_left 2; focus (go_simp; first | rfl | (constructor <;> rfl))
          intro W1 hW1
          have hR := row_made2 _ hW1
          have hbW : Below W5.heap.size W5 W1 := by rw [← hW1]; exact below_dn (bx_on _ _) 1
          have hB := hbW
          clear hW1
          refine ⟨fun _ => HSk.out _ hB, ?_⟩
          refine ways2 2 7 (by kernel_rfl) ?_ ?_
          · skip
            refine wu_call2 2 113 114 rfl rfl rfl (by (repeat (first | (refine slot_hit (N := 200) ?_ (by rfl); (repeat (refine sz_put ?_)); assumption; done) | (apply slot_miss; focus rfl))); all_goals assumption) (by (repeat (first | (refine slot_hit (N := 200) ?_ (by rfl); (repeat (refine sz_put ?_)); assumption; done) | (apply slot_miss; focus rfl))); all_goals assumption) (f := ?_) (args := ?_) (fun ev hk hkf hv0 hv1 => ?_) ?_; rotate_left 2; focus (go_simp; first | rfl | (constructor <;> rfl))
            refine (nm_runB _ (htab.next (bn H5.out.b hB)) (H5.out.on hB) hR (by have := HN1.out; omega) (by have := HN1.out; omega) (er := 4) (by rw [HN1.out]; rfl)).mono ?_
            rintro e w7 ⟨v7, A7, n7, k7, B7, m7, q7, rfl, hb7⟩
            have hB := bn hB hb7
            refine ⟨_, rfl, fun _ => HSk.out _ hB, ?_⟩
            have hS0 := HSk.out _ hB
            (refine wt_move 3 115 rfl rfl (by kernel_rfl) (by kernel_rfl) (by kernel_rfl) (by kernel_rfl) (fun _ _ _ h => h) rfl hS0 (by (repeat (first | (refine slot_hit (N := 200) ?_ (by rfl); (repeat (refine sz_put ?_)); assumption; done) | (apply slot_miss; focus rfl))); all_goals assumption) rfl ?_); (refine wt_take1 4 112 (v := ?_) rfl rfl (by kernel_rfl) (by kernel_rfl) (by kernel_rfl) (by kernel_rfl) (fun _ _ _ h => h) rfl hS0 (by (repeat (first | (refine slot_hit (N := 200) ?_ (by rfl); (repeat (refine sz_put ?_)); assumption; done) | (apply slot_miss; focus rfl))); all_goals assumption) (fun ev hk hv0 w hS => ?_) ?_; rotate_left; focus (obtain ⟨j0, j1, j2⟩ := hS; go_simp; rfl)); (refine wt_take1 5 112 (v := ?_) rfl rfl (by kernel_rfl) (by kernel_rfl) (by kernel_rfl) (by kernel_rfl) (fun _ _ _ h => h) rfl hS0 (by (repeat (first | (refine slot_hit (N := 200) ?_ (by rfl); (repeat (refine sz_put ?_)); assumption; done) | (apply slot_miss; focus rfl))); all_goals assumption) (fun ev hk hv0 w hS => ?_) ?_; rotate_left; focus (obtain ⟨j0, j1, j2⟩ := hS; go_simp; rfl)); (refine wt_take1 6 112 (v := ?_) rfl rfl (by kernel_rfl) (by kernel_rfl) (by kernel_rfl) (by kernel_rfl) (fun _ _ _ h => h) rfl hS0 (by (repeat (first | (refine slot_hit (N := 200) ?_ (by rfl); (repeat (refine sz_put ?_)); assumption; done) | (apply slot_miss; focus rfl))); all_goals assumption) (fun ev hk hv0 w hS => ?_) ?_; rotate_left; focus (obtain ⟨j0, j1, j2⟩ := hS; go_simp; rfl))
            refine wt_one 7 (by kernel_rfl) ?_
            refine wu_val 7 rfl rfl rfl (v := ?_) (w' := ?_) (fun ev hk => ?_) ?_; rotate_left 2; focus (go_simp; first | rfl | (constructor <;> rfl))
            intro W2 hW2
            have hbz : Below w7.heap.size w7 W2 := by rw [← hW2]; exact bx_on _ _
            have hx : Has W2 w7.heap.size 24 #[.int .i64 0, .slice none 0 0, .slice none 0 0] := by rw [← hW2]; exact Has.new _ _ _
            have hxg : W5.heap.size ≤ w7.heap.size := hB.size
            have hB := bn hB hbz
            clear hW2
            refine ⟨fun _ => HSk.out _ hB, ?_⟩
            obtain ⟨f0, f1, f2, e0, e1, e2⟩ := And.intro (hx.cell 0) (And.intro (hx.cell 1) (And.intro (hx.cell 2) (And.intro (hx.fz 0) (And.intro (hx.fz 1) (hx.fz 2)))))
            refine wt_act2 8 22 116 (by kernel_rfl) rfl rfl rfl (by (repeat (first | (refine slot_hit (N := 200) ?_ (by rfl); (repeat (refine sz_put ?_)); assumption; done) | (apply slot_miss; focus rfl))); all_goals assumption) (by (repeat (first | (refine slot_hit (N := 200) ?_ (by rfl); (repeat (refine sz_put ?_)); assumption; done) | (apply slot_miss; focus rfl))); all_goals assumption) (w' := ?_) (fun ev hk hv0 hv1 => ?_) ?_; rotate_left; focus (go_simp; rfl)
            have hB9 := st3_below hB hxg (.int .i64 v7) (.slice A7 n7 k7) (.slice B7 m7 q7)
            have hS0 := HSk.out _ hB9
            unfold st3 at hS0 hB9
            refine ⟨fun _ => hS0, ?_⟩
            (refine wt_assign 9 117 rfl rfl (by kernel_rfl) (by kernel_rfl) (by kernel_rfl) (by kernel_rfl) (fun _ _ _ h => h) rfl hS0 (by (repeat (first | (refine slot_hit (N := 200) ?_ (by rfl); (repeat (refine sz_put ?_)); assumption; done) | (apply slot_miss; focus rfl))); all_goals assumption) rfl ?_); (refine wt_assign 10 118 rfl rfl (by kernel_rfl) (by kernel_rfl) (by kernel_rfl) (by kernel_rfl) (fun _ _ _ h => h) rfl hS0 (by (repeat (first | (refine slot_hit (N := 200) ?_ (by rfl); (repeat (refine sz_put ?_)); assumption; done) | (apply slot_miss; focus rfl))); all_goals assumption) rfl ?_)
            refine wt_done (by kernel_rfl) (NoPanic.normal ?_) _
            have ha := HA.out
            subst ha
            have HU := Lib.hid hB9
            clear hZ hs1 hS0 hx f0 f1 f2 e0 e1 e2 hB9 hB hxg
            go_wp2
            go_meet
            exact ⟨_, rfl, rfl, rfl, HU.out⟩
          · skip
            refine wu_val 7 rfl rfl rfl (v := ?_) (w' := ?_) (fun ev hk => ?_) ?_; rotate_left 2; focus (go_simp; first | rfl | (constructor <;> rfl))
            intro W2 hW2
            have hbz : Below W1.heap.size W1 W2 := by rw [← hW2]; exact bx_on _ _
            have hx : Has W2 W1.heap.size 24 #[.int .i64 0, .slice none 0 0, .slice none 0 0] := by rw [← hW2]; exact Has.new _ _ _
            have hxg : W5.heap.size ≤ W1.heap.size := hB.size
            have hB := bn hB hbz
            clear hW2
            refine ⟨fun _ => HSk.out _ hB, ?_⟩
            have hR := row_on hR hbz
            refine wt_one 2 (by kernel_rfl) ?_
            refine wu_call2 2 113 114 rfl rfl rfl (by (repeat (first | (refine slot_hit (N := 200) ?_ (by rfl); (repeat (refine sz_put ?_)); assumption; done) | (apply slot_miss; focus rfl))); all_goals assumption) (by (repeat (first | (refine slot_hit (N := 200) ?_ (by rfl); (repeat (refine sz_put ?_)); assumption; done) | (apply slot_miss; focus rfl))); all_goals assumption) (f := ?_) (args := ?_) (fun ev hk hkf hv0 hv1 => ?_) ?_; rotate_left 2; focus (go_simp; first | rfl | (constructor <;> rfl))
            refine (nm_runB _ (htab.next (bn H5.out.b hB)) (H5.out.on hB) hR (by have := HN1.out; omega) (by have := HN1.out; omega) (er := 4) (by rw [HN1.out]; rfl)).mono ?_
            rintro e w7 ⟨v7, A7, n7, k7, B7, m7, q7, rfl, hb7⟩
            have hB := bn hB hb7
            refine ⟨_, rfl, fun _ => HSk.out _ hB, ?_⟩
            have hS0 := HSk.out _ hB
            (refine wt_move 3 115 rfl rfl (by kernel_rfl) (by kernel_rfl) (by kernel_rfl) (by kernel_rfl) (fun _ _ _ h => h) rfl hS0 (by (repeat (first | (refine slot_hit (N := 200) ?_ (by rfl); (repeat (refine sz_put ?_)); assumption; done) | (apply slot_miss; focus rfl))); all_goals assumption) rfl ?_); (refine wt_take1 4 112 (v := ?_) rfl rfl (by kernel_rfl) (by kernel_rfl) (by kernel_rfl) (by kernel_rfl) (fun _ _ _ h => h) rfl hS0 (by (repeat (first | (refine slot_hit (N := 200) ?_ (by rfl); (repeat (refine sz_put ?_)); assumption; done) | (apply slot_miss; focus rfl))); all_goals assumption) (fun ev hk hv0 w hS => ?_) ?_; rotate_left; focus (obtain ⟨j0, j1, j2⟩ := hS; go_simp; rfl)); (refine wt_take1 5 112 (v := ?_) rfl rfl (by kernel_rfl) (by kernel_rfl) (by kernel_rfl) (by kernel_rfl) (fun _ _ _ h => h) rfl hS0 (by (repeat (first | (refine slot_hit (N := 200) ?_ (by rfl); (repeat (refine sz_put ?_)); assumption; done) | (apply slot_miss; focus rfl))); all_goals assumption) (fun ev hk hv0 w hS => ?_) ?_; rotate_left; focus (obtain ⟨j0, j1, j2⟩ := hS; go_simp; rfl)); (refine wt_take1 6 112 (v := ?_) rfl rfl (by kernel_rfl) (by kernel_rfl) (by kernel_rfl) (by kernel_rfl) (fun _ _ _ h => h) rfl hS0 (by (repeat (first | (refine slot_hit (N := 200) ?_ (by rfl); (repeat (refine sz_put ?_)); assumption; done) | (apply slot_miss; focus rfl))); all_goals assumption) (fun ev hk hv0 w hS => ?_) ?_; rotate_left; focus (obtain ⟨j0, j1, j2⟩ := hS; go_simp; rfl))
            have hx := hx.keep hb7 hx.lt
            obtain ⟨f0, f1, f2, e0, e1, e2⟩ := And.intro (hx.cell 0) (And.intro (hx.cell 1) (And.intro (hx.cell 2) (And.intro (hx.fz 0) (And.intro (hx.fz 1) (hx.fz 2)))))
            refine wt_act2 8 22 116 (by kernel_rfl) rfl rfl rfl (by (repeat (first | (refine slot_hit (N := 200) ?_ (by rfl); (repeat (refine sz_put ?_)); assumption; done) | (apply slot_miss; focus rfl))); all_goals assumption) (by (repeat (first | (refine slot_hit (N := 200) ?_ (by rfl); (repeat (refine sz_put ?_)); assumption; done) | (apply slot_miss; focus rfl))); all_goals assumption) (w' := ?_) (fun ev hk hv0 hv1 => ?_) ?_; rotate_left; focus (go_simp; rfl)
            have hB9 := st3_below hB hxg (.int .i64 v7) (.slice A7 n7 k7) (.slice B7 m7 q7)
            have hS0 := HSk.out _ hB9
            unfold st3 at hS0 hB9
            refine ⟨fun _ => hS0, ?_⟩
            (refine wt_assign 9 117 rfl rfl (by kernel_rfl) (by kernel_rfl) (by kernel_rfl) (by kernel_rfl) (fun _ _ _ h => h) rfl hS0 (by (repeat (first | (refine slot_hit (N := 200) ?_ (by rfl); (repeat (refine sz_put ?_)); assumption; done) | (apply slot_miss; focus rfl))); all_goals assumption) rfl ?_); (refine wt_assign 10 118 rfl rfl (by kernel_rfl) (by kernel_rfl) (by kernel_rfl) (by kernel_rfl) (fun _ _ _ h => h) rfl hS0 (by (repeat (first | (refine slot_hit (N := 200) ?_ (by rfl); (repeat (refine sz_put ?_)); assumption; done) | (apply slot_miss; focus rfl))); all_goals assumption) rfl ?_)
            refine wt_done (by kernel_rfl) (NoPanic.normal ?_) _
            have ha := HA.out
            subst ha
            have HU := Lib.hid hB9
            clear hZ hs1 hS0 hx f0 f1 f2 e0 e1 e2 hB9 hB hxg
            go_wp2
            go_meet
            exact ⟨_, rfl, rfl, rfl, HU.out⟩
        · skip
          refine wu_val 7 rfl rfl rfl (v := ?_) (w' := ?_) (fun ev hk => ?_) ?_; rotate_left 2; focus (go_simp; first | rfl | (constructor <;> rfl))
          intro W2 hW2
          have hbz : Below W5.drew.heap.size W5.drew W2 := by rw [← hW2]; exact bx_on _ _
          have hx : Has W2 W5.heap.size 24 #[.int .i64 0, .slice none 0 0, .slice none 0 0] := by rw [← hW2]; exact Has.new _ _ _
          have hxg : W5.heap.size ≤ W5.heap.size := hB.size
          have hB := bn hB hbz
          clear hW2
          refine ⟨fun _ => HSk.out _ hB, ?_⟩
          refine wt_one 1 (by kernel_rfl) ?_
          refine wu_val 1 rfl rfl rfl (v := ?_) (w' := ?_) (fun ev hk => ?_) ?_; rotate_left 2; focus (go_simp; first | rfl | (constructor <;> rfl))
          intro W1 hW1
          have hR := row_made _ hW1
          have hbW : Below W2.heap.size W2 W1 := by rw [← hW1]; exact bx_on _ _
          have hB := bn hB hbW
          clear hW1
          refine ⟨fun _ => HSk.out _ hB, ?_⟩
          have hx := hx.keep hbW hx.lt
          refine wt_one 2 (by kernel_rfl) ?_
          refine wu_call2 2 113 114 rfl rfl rfl (by (repeat (first | (refine slot_hit (N := 200) ?_ (by rfl); (repeat (refine sz_put ?_)); assumption; done) | (apply slot_miss; focus rfl))); all_goals assumption) (by (repeat (first | (refine slot_hit (N := 200) ?_ (by rfl); (repeat (refine sz_put ?_)); assumption; done) | (apply slot_miss; focus rfl))); all_goals assumption) (f := ?_) (args := ?_) (fun ev hk hkf hv0 hv1 => ?_) ?_; rotate_left 2; focus (go_simp; first | rfl | (constructor <;> rfl))
          refine (nm_runB _ (htab.next (bn H5.out.b hB)) (H5.out.on hB) hR (by have := HN1.out; omega) (by have := HN1.out; omega) (er := 4) (by rw [HN1.out]; rfl)).mono ?_
          rintro e w7 ⟨v7, A7, n7, k7, B7, m7, q7, rfl, hb7⟩
          have hB := bn hB hb7
          refine ⟨_, rfl, fun _ => HSk.out _ hB, ?_⟩
          have hS0 := HSk.out _ hB
          (refine wt_move 3 115 rfl rfl (by kernel_rfl) (by kernel_rfl) (by kernel_rfl) (by kernel_rfl) (fun _ _ _ h => h) rfl hS0 (by (repeat (first | (refine slot_hit (N := 200) ?_ (by rfl); (repeat (refine sz_put ?_)); assumption; done) | (apply slot_miss; focus rfl))); all_goals assumption) rfl ?_); (refine wt_take1 4 112 (v := ?_) rfl rfl (by kernel_rfl) (by kernel_rfl) (by kernel_rfl) (by kernel_rfl) (fun _ _ _ h => h) rfl hS0 (by (repeat (first | (refine slot_hit (N := 200) ?_ (by rfl); (repeat (refine sz_put ?_)); assumption; done) | (apply slot_miss; focus rfl))); all_goals assumption) (fun ev hk hv0 w hS => ?_) ?_; rotate_left; focus (obtain ⟨j0, j1, j2⟩ := hS; go_simp; rfl)); (refine wt_take1 5 112 (v := ?_) rfl rfl (by kernel_rfl) (by kernel_rfl) (by kernel_rfl) (by kernel_rfl) (fun _ _ _ h => h) rfl hS0 (by (repeat (first | (refine slot_hit (N := 200) ?_ (by rfl); (repeat (refine sz_put ?_)); assumption; done) | (apply slot_miss; focus rfl))); all_goals assumption) (fun ev hk hv0 w hS => ?_) ?_; rotate_left; focus (obtain ⟨j0, j1, j2⟩ := hS; go_simp; rfl)); (refine wt_take1 6 112 (v := ?_) rfl rfl (by kernel_rfl) (by kernel_rfl) (by kernel_rfl) (by kernel_rfl) (fun _ _ _ h => h) rfl hS0 (by (repeat (first | (refine slot_hit (N := 200) ?_ (by rfl); (repeat (refine sz_put ?_)); assumption; done) | (apply slot_miss; focus rfl))); all_goals assumption) (fun ev hk hv0 w hS => ?_) ?_; rotate_left; focus (obtain ⟨j0, j1, j2⟩ := hS; go_simp; rfl))
          have hx := hx.keep hb7 hx.lt
          obtain ⟨f0, f1, f2, e0, e1, e2⟩ := And.intro (hx.cell 0) (And.intro (hx.cell 1) (And.intro (hx.cell 2) (And.intro (hx.fz 0) (And.intro (hx.fz 1) (hx.fz 2)))))
          refine wt_act2 8 22 116 (by kernel_rfl) rfl rfl rfl (by (repeat (first | (refine slot_hit (N := 200) ?_ (by rfl); (repeat (refine sz_put ?_)); assumption; done) | (apply slot_miss; focus rfl))); all_goals assumption) (by (repeat (first | (refine slot_hit (N := 200) ?_ (by rfl); (repeat (refine sz_put ?_)); assumption; done) | (apply slot_miss; focus rfl))); all_goals assumption) (w' := ?_) (fun ev hk hv0 hv1 => ?_) ?_; rotate_left; focus (go_simp; rfl)
          have hB9 := st3_below hB hxg (.int .i64 v7) (.slice A7 n7 k7) (.slice B7 m7 q7)
          have hS0 := HSk.out _ hB9
          unfold st3 at hS0 hB9
          refine ⟨fun _ => hS0, ?_⟩
          (refine wt_assign 9 117 rfl rfl (by kernel_rfl) (by kernel_rfl) (by kernel_rfl) (by kernel_rfl) (fun _ _ _ h => h) rfl hS0 (by (repeat (first | (refine slot_hit (N := 200) ?_ (by rfl); (repeat (refine sz_put ?_)); assumption; done) | (apply slot_miss; focus rfl))); all_goals assumption) rfl ?_); (refine wt_assign 10 118 rfl rfl (by kernel_rfl) (by kernel_rfl) (by kernel_rfl) (by kernel_rfl) (fun _ _ _ h => h) rfl hS0 (by (repeat (first | (refine slot_hit (N := 200) ?_ (by rfl); (repeat (refine sz_put ?_)); assumption; done) | (apply slot_miss; focus rfl))); all_goals assumption) rfl ?_)
          refine wt_done (by kernel_rfl) (NoPanic.normal ?_) _
          have ha := HA.out
          subst ha
          have HU := Lib.hid hB9
          clear hZ hs1 hS0 hx f0 f1 f2 e0 e1 e2 hB9 hB hxg
          go_wp2
          go_meet
          exact ⟨_, rfl, rfl, rfl, HU.out⟩
      case rest =>
        obtain ⟨gy, rfl, rfl, rfl, hU⟩ := hcut
        obtain ⟨W6, hwa⟩ : ∃ W6, W6 = wc := ⟨_, rfl⟩
        subst hwa
        have H6 := Lib.hid (H5.out.on hU)
        clear hU
        go_wp2
        go_cut [25, 26, 27] (fun x0 x1 x2 wx => ∃ gy, x0 = .pointer (some ⟨gy, 0, none⟩) ∧ x1 = .int .i64 0 ∧ x2 = .int .i64 0 ∧ Below W6.heap.size W6 wx)
        case first =>
          have hS0 : (fun W : World => W.cell? ⟨w.heap.size + 1 + 1, 0, none⟩ = some (.int .i64 4) ∧ W.cell? ⟨w.heap.size + 1 + 1, 1, none⟩ = some (.slice (some ⟨w.heap.size, 0, none⟩) 2 2) ∧ W.cell? ⟨w.heap.size + 1 + 1, 2, none⟩ = some (.slice (some ⟨w.heap.size + 1, 0, none⟩) 1 1)) W6.drew := H6.out.bx.c
          have HSk : Hid (∀ W, Below W6.heap.size W6 W → (fun W : World => W.cell? ⟨w.heap.size + 1 + 1, 0, none⟩ = some (.int .i64 4) ∧ W.cell? ⟨w.heap.size + 1 + 1, 1, none⟩ = some (.slice (some ⟨w.heap.size, 0, none⟩) 2 2) ∧ W.cell? ⟨w.heap.size + 1 + 1, 2, none⟩ = some (.slice (some ⟨w.heap.size + 1, 0, none⟩) 1 1)) W) := Lib.hid fun W hb => (H6.out.on hb).bx.c
          refine wp_slots (fun f => Sz f 200 ∧ Slot f 1 (.pointer (some ⟨w.heap.size + 1 + 1, 0, none⟩))) ⟨⟨rfl, rfl⟩, ⟨rfl⟩⟩ fun a0 hA0 hR => ?_
          obtain ⟨hZ, hs1⟩ := hR
          have HA := Lib.hid hA0
          clear hA0
          refine wp_region_T (fun W : World => W.cell? ⟨w.heap.size + 1 + 1, 0, none⟩ = some (.int .i64 4) ∧ W.cell? ⟨w.heap.size + 1 + 1, 1, none⟩ = some (.slice (some ⟨w.heap.size, 0, none⟩) 2 2) ∧ W.cell? ⟨w.heap.size + 1 + 1, 2, none⟩ = some (.slice (some ⟨w.heap.size + 1, 0, none⟩) 1 1)) 11 (by kernel_rfl) ?_
          refine WT.h ?_
          (refine wt_take1 0 1 (v := ?_) rfl rfl (by kernel_rfl) (by kernel_rfl) (by kernel_rfl) (by kernel_rfl) (fun _ _ _ h => h) rfl hS0 (by (repeat (first | (refine slot_hit (N := 200) ?_ (by rfl); (repeat (refine sz_put ?_)); assumption; done) | (apply slot_miss; focus rfl))); all_goals assumption) (fun ev hk hv0 w hS => ?_) ?_; rotate_left; focus (obtain ⟨j0, j1, j2⟩ := hS; go_simp; rfl))
          have hB := below_dn (Below.refl W6.heap.size W6) 1
          clear hS0
          refine ways2 1 7 (by kernel_rfl) ?_ ?_
          · skip
            refine wu_val 1 rfl rfl rfl (v := ?_) (w' := ?_) (fun ev hk => ?_) ?_; rotate_left 2; focus (go_simp; first | rfl | (constructor <;> rfl))
            intro W1 hW1
            have hR := row_made2 _ hW1
            have hbW : Below W6.heap.size W6 W1 := by rw [← hW1]; exact below_dn (bx_on _ _) 1
            have hB := hbW
            clear hW1
            refine ⟨fun _ => HSk.out _ hB, ?_⟩
            refine ways2 2 7 (by kernel_rfl) ?_ ?_
            · skip
              refine wu_call2 2 120 121 rfl rfl rfl (by (repeat (first | (refine slot_hit (N := 200) ?_ (by rfl); (repeat (refine sz_put ?_)); assumption; done) | (apply slot_miss; focus rfl))); all_goals assumption) (by (repeat (first | (refine slot_hit (N := 200) ?_ (by rfl); (repeat (refine sz_put ?_)); assumption; done) | (apply slot_miss; focus rfl))); all_goals assumption) (f := ?_) (args := ?_) (fun ev hk hkf hv0 hv1 => ?_) ?_; rotate_left 2; focus (go_simp; first | rfl | (constructor <;> rfl))
              refine (nm_runB _ (htab.next (bn H6.out.b hB)) (H6.out.on hB) hR (by have := HN0.out; omega) (by have := HN0.out; omega) (er := 0) (by rw [HN0.out]; rfl)).mono ?_
              rintro e w7 ⟨v7, A7, n7, k7, B7, m7, q7, rfl, hb7⟩
              have hB := bn hB hb7
              refine ⟨_, rfl, fun _ => HSk.out _ hB, ?_⟩
              have hS0 := HSk.out _ hB
              (refine wt_move 3 122 rfl rfl (by kernel_rfl) (by kernel_rfl) (by kernel_rfl) (by kernel_rfl) (fun _ _ _ h => h) rfl hS0 (by (repeat (first | (refine slot_hit (N := 200) ?_ (by rfl); (repeat (refine sz_put ?_)); assumption; done) | (apply slot_miss; focus rfl))); all_goals assumption) rfl ?_); (refine wt_take1 4 119 (v := ?_) rfl rfl (by kernel_rfl) (by kernel_rfl) (by kernel_rfl) (by kernel_rfl) (fun _ _ _ h => h) rfl hS0 (by (repeat (first | (refine slot_hit (N := 200) ?_ (by rfl); (repeat (refine sz_put ?_)); assumption; done) | (apply slot_miss; focus rfl))); all_goals assumption) (fun ev hk hv0 w hS => ?_) ?_; rotate_left; focus (obtain ⟨j0, j1, j2⟩ := hS; go_simp; rfl)); (refine wt_take1 5 119 (v := ?_) rfl rfl (by kernel_rfl) (by kernel_rfl) (by kernel_rfl) (by kernel_rfl) (fun _ _ _ h => h) rfl hS0 (by (repeat (first | (refine slot_hit (N := 200) ?_ (by rfl); (repeat (refine sz_put ?_)); assumption; done) | (apply slot_miss; focus rfl))); all_goals assumption) (fun ev hk hv0 w hS => ?_) ?_; rotate_left; focus (obtain ⟨j0, j1, j2⟩ := hS; go_simp; rfl)); (refine wt_take1 6 119 (v := ?_) rfl rfl (by kernel_rfl) (by kernel_rfl) (by kernel_rfl) (by kernel_rfl) (fun _ _ _ h => h) rfl hS0 (by (repeat (first | (refine slot_hit (N := 200) ?_ (by rfl); (repeat (refine sz_put ?_)); assumption; done) | (apply slot_miss; focus rfl))); all_goals assumption) (fun ev hk hv0 w hS => ?_) ?_; rotate_left; focus (obtain ⟨j0, j1, j2⟩ := hS; go_simp; rfl))
              refine wt_one 7 (by kernel_rfl) ?_
              refine wu_val 7 rfl rfl rfl (v := ?_) (w' := ?_) (fun ev hk => ?_) ?_; rotate_left 2; focus (go_simp; first | rfl | (constructor <;> rfl))
              intro W2 hW2
              have hbz : Below w7.heap.size w7 W2 := by rw [← hW2]; exact bx_on _ _
              have hx : Has W2 w7.heap.size 24 #[.int .i64 0, .slice none 0 0, .slice none 0 0] := by rw [← hW2]; exact Has.new _ _ _
              have hxg : W6.heap.size ≤ w7.heap.size := hB.size
              have hB := bn hB hbz
              clear hW2
              refine ⟨fun _ => HSk.out _ hB, ?_⟩
              obtain ⟨f0, f1, f2, e0, e1, e2⟩ := And.intro (hx.cell 0) (And.intro (hx.cell 1) (And.intro (hx.cell 2) (And.intro (hx.fz 0) (And.intro (hx.fz 1) (hx.fz 2)))))
              refine wt_act2 8 25 123 (by kernel_rfl) rfl rfl rfl (by (repeat (first | (refine slot_hit (N := 200) ?_ (by rfl); (repeat (refine sz_put ?_)); assumption; done) | (apply slot_miss; focus rfl))); all_goals assumption) (by (repeat (first | (refine slot_hit (N := 200) ?_ (by rfl); (repeat (refine sz_put ?_)); assumption; done) | (apply slot_miss; focus rfl))); all_goals assumption) (w' := ?_) (fun ev hk hv0 hv1 => ?_) ?_; rotate_left; focus (go_simp; rfl)
              have hB9 := st3_below hB hxg (.int .i64 v7) (.slice A7 n7 k7) (.slice B7 m7 q7)
              have hS0 := HSk.out _ hB9
              unfold st3 at hS0 hB9
              refine ⟨fun _ => hS0, ?_⟩
              (refine wt_assign 9 124 rfl rfl (by kernel_rfl) (by kernel_rfl) (by kernel_rfl) (by kernel_rfl) (fun _ _ _ h => h) rfl hS0 (by (repeat (first | (refine slot_hit (N := 200) ?_ (by rfl); (repeat (refine sz_put ?_)); assumption; done) | (apply slot_miss; focus rfl))); all_goals assumption) rfl ?_); (refine wt_assign 10 125 rfl rfl (by kernel_rfl) (by kernel_rfl) (by kernel_rfl) (by kernel_rfl) (fun _ _ _ h => h) rfl hS0 (by (repeat (first | (refine slot_hit (N := 200) ?_ (by rfl); (repeat (refine sz_put ?_)); assumption; done) | (apply slot_miss; focus rfl))); all_goals assumption) rfl ?_)
              refine wt_done (by kernel_rfl) (NoPanic.normal ?_) _
              have ha := HA.out
              subst ha
              have HU := Lib.hid hB9
              clear hZ hs1 hS0 hx f0 f1 f2 e0 e1 e2 hB9 hB hxg
              go_wp2
              go_meet
              exact ⟨_, rfl, rfl, rfl, HU.out⟩
            · skip
              refine wu_val 7 rfl rfl rfl (v := ?_) (w' := ?_) (fun ev hk => ?_) ?_; rotate_left 2; focus (go_simp; first | rfl | (constructor <;> rfl))
              intro W2 hW2
              have hbz : Below W1.heap.size W1 W2 := by rw [← hW2]; exact bx_on _ _
              have hx : Has W2 W1.heap.size 24 #[.int .i64 0, .slice none 0 0, .slice none 0 0] := by rw [← hW2]; exact Has.new _ _ _
              have hxg : W6.heap.size ≤ W1.heap.size := hB.size
              have hB := bn hB hbz
              clear hW2
              refine ⟨fun _ => HSk.out _ hB, ?_⟩
              have hR := row_on hR hbz
              refine wt_one 2 (by kernel_rfl) ?_
              refine wu_call2 2 120 121 rfl rfl rfl (by (repeat (first | (refine slot_hit (N := 200) ?_ (by rfl); (repeat (refine sz_put ?_)); assumption; done) | (apply slot_miss; focus rfl))); all_goals assumption) (by (repeat (first | (refine slot_hit (N := 200) ?_ (by rfl); (repeat (refine sz_put ?_)); assumption; done) | (apply slot_miss; focus rfl))); all_goals assumption) (f := ?_) (args := ?_) (fun ev hk hkf hv0 hv1 => ?_) ?_; rotate_left 2; focus (go_simp; first | rfl | (constructor <;> rfl))
              refine (nm_runB _ (htab.next (bn H6.out.b hB)) (H6.out.on hB) hR (by have := HN0.out; omega) (by have := HN0.out; omega) (er := 0) (by rw [HN0.out]; rfl)).mono ?_
              rintro e w7 ⟨v7, A7, n7, k7, B7, m7, q7, rfl, hb7⟩
              have hB := bn hB hb7
              refine ⟨_, rfl, fun _ => HSk.out _ hB, ?_⟩
              have hS0 := HSk.out _ hB
              (refine wt_move 3 122 rfl rfl (by kernel_rfl) (by kernel_rfl) (by kernel_rfl) (by kernel_rfl) (fun _ _ _ h => h) rfl hS0 (by (repeat (first | (refine slot_hit (N := 200) ?_ (by rfl); (repeat (refine sz_put ?_)); assumption; done) | (apply slot_miss; focus rfl))); all_goals assumption) rfl ?_); (refine wt_take1 4 119 (v := ?_) rfl rfl (by kernel_rfl) (by kernel_rfl) (by kernel_rfl) (by kernel_rfl) (fun _ _ _ h => h) rfl hS0 (by (repeat (first | (refine slot_hit (N := 200) ?_ (by rfl); (repeat (refine sz_put ?_)); assumption; done) | (apply slot_miss; focus rfl))); all_goals assumption) (fun ev hk hv0 w hS => ?_) ?_; rotate_left; focus (obtain ⟨j0, j1, j2⟩ := hS; go_simp; rfl)); (refine wt_take1 5 119 (v := ?_) rfl rfl (by kernel_rfl) (by kernel_rfl) (by kernel_rfl) (by kernel_rfl) (fun _ _ _ h => h) rfl hS0 (by (repeat (first | (refine slot_hit (N := 200) ?_ (by rfl); (repeat (refine sz_put ?_)); assumption; done) | (apply slot_miss; focus rfl))); all_goals assumption) (fun ev hk hv0 w hS => ?_) ?_; rotate_left; focus (obtain ⟨j0, j1, j2⟩ := hS; go_simp; rfl)); (refine wt_take1 6 119 (v := ?_) rfl rfl (by kernel_rfl) (by kernel_rfl) (by kernel_rfl) (by kernel_rfl) (fun _ _ _ h => h) rfl hS0 (by (repeat (first | (refine slot_hit (N := 200) ?_ (by rfl); (repeat (refine sz_put ?_)); assumption; done) | (apply slot_miss; focus rfl))); all_goals assumption) (fun ev hk hv0 w hS => ?_) ?_; rotate_left; focus (obtain ⟨j0, j1, j2⟩ := hS; go_simp; rfl))
              have hx := hx.keep hb7 hx.lt
              obtain ⟨f0, f1, f2, e0, e1, e2⟩ := And.intro (hx.cell 0) (And.intro (hx.cell 1) (And.intro (hx.cell 2) (And.intro (hx.fz 0) (And.intro (hx.fz 1) (hx.fz 2)))))
              refine wt_act2 8 25 123 (by kernel_rfl) rfl rfl rfl (by (repeat (first | (refine slot_hit (N := 200) ?_ (by rfl); (repeat (refine sz_put ?_)); assumption; done) | (apply slot_miss; focus rfl))); all_goals assumption) (by (repeat (first | (refine slot_hit (N := 200) ?_ (by rfl); (repeat (refine sz_put ?_)); assumption; done) | (apply slot_miss; focus rfl))); all_goals assumption) (w' := ?_) (fun ev hk hv0 hv1 => ?_) ?_; rotate_left; focus (go_simp; rfl)
              have hB9 := st3_below hB hxg (.int .i64 v7) (.slice A7 n7 k7) (.slice B7 m7 q7)
              have hS0 := HSk.out _ hB9
              unfold st3 at hS0 hB9
              refine ⟨fun _ => hS0, ?_⟩
              (refine wt_assign 9 124 rfl rfl (by kernel_rfl) (by kernel_rfl) (by kernel_rfl) (by kernel_rfl) (fun _ _ _ h => h) rfl hS0 (by (repeat (first | (refine slot_hit (N := 200) ?_ (by rfl); (repeat (refine sz_put ?_)); assumption; done) | (apply slot_miss; focus rfl))); all_goals assumption) rfl ?_); (refine wt_assign 10 125 rfl rfl (by kernel_rfl) (by kernel_rfl) (by kernel_rfl) (by kernel_rfl) (fun _ _ _ h => h) rfl hS0 (by (repeat (first | (refine slot_hit (N := 200) ?_ (by rfl); (repeat (refine sz_put ?_)); assumption; done) | (apply slot_miss; focus rfl))); all_goals assumption) rfl ?_)
              refine wt_done (by kernel_rfl) (NoPanic.normal ?_) _
              have ha := HA.out
              subst ha
              have HU := Lib.hid hB9
              clear hZ hs1 hS0 hx f0 f1 f2 e0 e1 e2 hB9 hB hxg
              go_wp2
              go_meet
              exact ⟨_, rfl, rfl, rfl, HU.out⟩
          · skip
            refine wu_val 7 rfl rfl rfl (v := ?_) (w' := ?_) (fun ev hk => ?_) ?_; rotate_left 2; focus (go_simp; first | rfl | (constructor <;> rfl))
            intro W2 hW2
            have hbz : Below W6.drew.heap.size W6.drew W2 := by rw [← hW2]; exact bx_on _ _
            have hx : Has W2 W6.heap.size 24 #[.int .i64 0, .slice none 0 0, .slice none 0 0] := by rw [← hW2]; exact Has.new _ _ _
            have hxg : W6.heap.size ≤ W6.heap.size := hB.size
            have hB := bn hB hbz
            clear hW2
            refine ⟨fun _ => HSk.out _ hB, ?_⟩
            refine wt_one 1 (by kernel_rfl) ?_
            refine wu_val 1 rfl rfl rfl (v := ?_) (w' := ?_) (fun ev hk => ?_) ?_; rotate_left 2; focus (go_simp; first | rfl | (constructor <;> rfl))
            intro W1 hW1
            have hR := row_made _ hW1
            have hbW : Below W2.heap.size W2 W1 := by rw [← hW1]; exact bx_on _ _
            have hB := bn hB hbW
            clear hW1
            refine ⟨fun _ => HSk.out _ hB, ?_⟩
            have hx := hx.keep hbW hx.lt
            refine wt_one 2 (by kernel_rfl) ?_
            refine wu_call2 2 120 121 rfl rfl rfl (by (repeat (first | (refine slot_hit (N := 200) ?_ (by rfl); (repeat (refine sz_put ?_)); assumption; done) | (apply slot_miss; focus rfl))); all_goals assumption) (by (repeat (first | (refine slot_hit (N := 200) ?_ (by rfl); (repeat (refine sz_put ?_)); assumption; done) | (apply slot_miss; focus rfl))); all_goals assumption) (f := ?_) (args := ?_) (fun ev hk hkf hv0 hv1 => ?_) ?_; rotate_left 2; focus (go_simp; first | rfl | (constructor <;> rfl))
            refine (nm_runB _ (htab.next (bn H6.out.b hB)) (H6.out.on hB) hR (by have := HN0.out; omega) (by have := HN0.out; omega) (er := 0) (by rw [HN0.out]; rfl)).mono ?_
            rintro e w7 ⟨v7, A7, n7, k7, B7, m7, q7, rfl, hb7⟩
            have hB := bn hB hb7
            refine ⟨_, rfl, fun _ => HSk.out _ hB, ?_⟩
            have hS0 := HSk.out _ hB
            (refine wt_move 3 122 rfl rfl (by kernel_rfl) (by kernel_rfl) (by kernel_rfl) (by kernel_rfl) (fun _ _ _ h => h) rfl hS0 (by (repeat (first | (refine slot_hit (N := 200) ?_ (by rfl); (repeat (refine sz_put ?_)); assumption; done) | (apply slot_miss; focus rfl))); all_goals assumption) rfl ?_); (refine wt_take1 4 119 (v := ?_) rfl rfl (by kernel_rfl) (by kernel_rfl) (by kernel_rfl) (by kernel_rfl) (fun _ _ _ h => h) rfl hS0 (by (repeat (first | (refine slot_hit (N := 200) ?_ (by rfl); (repeat (refine sz_put ?_)); assumption; done) | (apply slot_miss; focus rfl))); all_goals assumption) (fun ev hk hv0 w hS => ?_) ?_; rotate_left; focus (obtain ⟨j0, j1, j2⟩ := hS; go_simp; rfl)); (refine wt_take1 5 119 (v := ?_) rfl rfl (by kernel_rfl) (by kernel_rfl) (by kernel_rfl) (by kernel_rfl) (fun _ _ _ h => h) rfl hS0 (by (repeat (first | (refine slot_hit (N := 200) ?_ (by rfl); (repeat (refine sz_put ?_)); assumption; done) | (apply slot_miss; focus rfl))); all_goals assumption) (fun ev hk hv0 w hS => ?_) ?_; rotate_left; focus (obtain ⟨j0, j1, j2⟩ := hS; go_simp; rfl)); (refine wt_take1 6 119 (v := ?_) rfl rfl (by kernel_rfl) (by kernel_rfl) (by kernel_rfl) (by kernel_rfl) (fun _ _ _ h => h) rfl hS0 (by (repeat (first | (refine slot_hit (N := 200) ?_ (by rfl); (repeat (refine sz_put ?_)); assumption; done) | (apply slot_miss; focus rfl))); all_goals assumption) (fun ev hk hv0 w hS => ?_) ?_; rotate_left; focus (obtain ⟨j0, j1, j2⟩ := hS; go_simp; rfl))
            have hx := hx.keep hb7 hx.lt
            obtain ⟨f0, f1, f2, e0, e1, e2⟩ := And.intro (hx.cell 0) (And.intro (hx.cell 1) (And.intro (hx.cell 2) (And.intro (hx.fz 0) (And.intro (hx.fz 1) (hx.fz 2)))))
            refine wt_act2 8 25 123 (by kernel_rfl) rfl rfl rfl (by (repeat (first | (refine slot_hit (N := 200) ?_ (by rfl); (repeat (refine sz_put ?_)); assumption; done) | (apply slot_miss; focus rfl))); all_goals assumption) (by (repeat (first | (refine slot_hit (N := 200) ?_ (by rfl); (repeat (refine sz_put ?_)); assumption; done) | (apply slot_miss; focus rfl))); all_goals assumption) (w' := ?_) (fun ev hk hv0 hv1 => ?_) ?_; rotate_left; focus (go_simp; rfl)
            have hB9 := st3_below hB hxg (.int .i64 v7) (.slice A7 n7 k7) (.slice B7 m7 q7)
            have hS0 := HSk.out _ hB9
            unfold st3 at hS0 hB9
            refine ⟨fun _ => hS0, ?_⟩
            (refine wt_assign 9 124 rfl rfl (by kernel_rfl) (by kernel_rfl) (by kernel_rfl) (by kernel_rfl) (fun _ _ _ h => h) rfl hS0 (by (repeat (first | (refine slot_hit (N := 200) ?_ (by rfl); (repeat (refine sz_put ?_)); assumption; done) | (apply slot_miss; focus rfl))); all_goals assumption) rfl ?_); (refine wt_assign 10 125 rfl rfl (by kernel_rfl) (by kernel_rfl) (by kernel_rfl) (by kernel_rfl) (fun _ _ _ h => h) rfl hS0 (by (repeat (first | (refine slot_hit (N := 200) ?_ (by rfl); (repeat (refine sz_put ?_)); assumption; done) | (apply slot_miss; focus rfl))); all_goals assumption) rfl ?_)
            refine wt_done (by kernel_rfl) (NoPanic.normal ?_) _
            have ha := HA.out
            subst ha
            have HU := Lib.hid hB9
            clear hZ hs1 hS0 hx f0 f1 f2 e0 e1 e2 hB9 hB hxg
            go_wp2
            go_meet
            exact ⟨_, rfl, rfl, rfl, HU.out⟩
        case rest =>
          obtain ⟨gy2, rfl, rfl, rfl, hU⟩ := hcut
          obtain ⟨W7, hwa⟩ : ∃ W7, W7 = wc := ⟨_, rfl⟩
          subst hwa
          have H7 := Lib.hid (H6.out.on hU)
          clear hU hmk1 hmk0 HN1 HN0
          obtain ⟨c70, c71, c72⟩ := H7.out.bx.c
          have E8 := H7.out.nw.run (v := 4) (by decide) nm_ok (Ill.nil W7 _) (fun c hc => by cases hc) (by decide) (htab.next H7.out.b) (n' := 2) (by rw [nm_up0]; rfl) (nl := 0) rfl
          rw [nm_up0] at E8
          go_wp2_with (first
            | (go_at_call 14; (with_reducible refine E8.mono ?_); rintro e w8 ⟨A8, k8, B8, q8, rfl, hN8, hb8⟩
               have hz := bx_on w8 (.cells #[.int .i64 4, .slice A8 2 k8, .slice B8 1 q8] 24)
               have hA8 := H7.out.on (bn hb8 hz)
               obtain ⟨hC8, hc8⟩ := ill2 (w8.alloc (.cells #[.int .i64 4, .slice A8 2 k8, .slice B8 1 q8] 24)) (a := [3, 4, 8]) (b := [6, 9]) (ca := #[.int .i64 3, .int .i64 4, .int .i64 8]) (cb := #[.int .i64 6, .int .i64 9]) rfl rfl (na := 3) (nb := 2) rfl rfl rfl
               have hA9 := hA8.on hc8
               have hX1 := (hN8.on hz).on hc8
               have hX2 := (Bs.new w8 (.int .i64 4) (.slice A8 2 k8) (.slice B8 1 q8)).on hc8
               rw [show (w8.alloc (.cells #[.int .i64 4, .slice A8 2 k8, .slice B8 1 q8] 24)).heap.size = w8.heap.size + 1 from World.size_alloc _ _] at hC8 hA9 hX1 hX2
               have HX8 := Lib.hid (And.intro hX1 hX2)
               obtain ⟨c80, c81, c82⟩ := hA8.bx.c
               obtain ⟨d80, d81, d82⟩ := hA9.bx.c
               have E9 := hA9.nw.run (v := 4) (by decide) nm_ok hC8 (by decide) (by decide) (htab.next hA9.b) (n' := 4) (by rw [nm_up2]; rfl) (nl := 2) rfl
               rw [nm_up2] at E9
               have H8 := Lib.hid hA9
               clear hb8 hz hA8 hA9 hC8 hc8 hN8 hX1 hX2)
            | (go_at_call 14; (with_reducible refine E9.mono ?_); rintro e w9 ⟨A9, k9, B9, q9, rfl, hN9, hb9⟩
               have hz := bx_on w9 (.cells #[.int .i64 4, .slice A9 4 k9, .slice B9 1 q9] 24)
               have hbz := bn hb9 hz
               have H9 := Lib.hid (And.intro (H8.out.on hbz) (And.intro (HX8.out.1.on hbz) (And.intro (HX8.out.2.on hbz) (And.intro (hN9.on hz) (Bs.new w9 (.int .i64 4) (.slice A9 4 k9) (.slice B9 1 q9))))))
               have E10 := alive15_any _ (htab.next H9.out.1.b)
               clear hN9 hb9 hz hbz E9)
            | (go_at_call 17; (with_reducible refine E10.mono ?_); rintro e w10 ⟨rfl, hb10⟩
               have H10 := Lib.hid (And.intro (H9.out.1.on hb10) (And.intro (H9.out.2.1.on hb10) (And.intro (H9.out.2.2.1.on hb10) (And.intro (H9.out.2.2.2.1.on hb10) (H9.out.2.2.2.2.on hb10)))))
               obtain ⟨a10, a11, a12⟩ := H10.out.1.bx.c
               obtain ⟨x10, x11, x12⟩ := H10.out.2.2.1.c
               clear hb10 E10)
            | (go_at_call 16; (with_reducible refine (Nw.same (v := 4) H10.out.2.1 (by decide) (by decide) H10.out.1.nw).mono ?_); rintro e w11 ⟨rfl, hb11⟩
               have hY := H10.out.2.2.2.2.on hb11
               obtain ⟨y0, y1, y2⟩ := hY.c
               have hl := Nw.lit w11 (n := 4) (m := 1) (t := [2, 5, 8, 6]) (s := [0]) (cs := #[.int .i64 2, .int .i64 5, .int .i64 8, .int .i64 6]) (cs2 := #[.int .i64 0]) rfl rfl rfl rfl
               have hbl := bn (bx_on w11 (.cells #[.int .i64 2, .int .i64 5, .int .i64 8, .int .i64 6] 3)) (bx_on (w11.alloc (.cells #[.int .i64 2, .int .i64 5, .int .i64 8, .int .i64 6] 3)) (.cells #[.int .i64 0] 3))
               have E12 := Nw.same (v := 4) ((H10.out.2.2.2.1.on hb11).on hbl) (by decide) (by decide) hl
               have H11 := Lib.hid (bn (bn H10.out.1.b hb11) hbl)
               clear hb11 hY hl hbl)
            | (go_at_call 16; (with_reducible refine E12.mono ?_); rintro e w12 ⟨rfl, hb12⟩
               have H12 := Lib.hid (bn H11.out hb12)
               clear hb12))
          go_ret
          exact ⟨rfl, H12.out⟩

end Go.Proofs.YtecmldnigohjfaaDoor
