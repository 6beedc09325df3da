/- A list of pairs of ints (arrays), as it comes in. -/
import Derived.Test.YtpdfdbnmohippaaGatesFrame
import Derived.Test.YtpdfdbnmohippaaOrderMovedKit
import Derived.WideKeyPair
import Derived.Deep.SlicePairs
namespace Go.Proofs.Ytpdfdbnmohippaa
open Go Go.RowKit Go.ChangeShapes Go.WideShapes
set_option linter.unusedVariables false
set_option linter.unusedSimpArgs false
section
variable {H : Type} {enc : TypeId × Value → H} {W : World} {base : Nat} {held : Bool}
set_option maxRecDepth 100000 in
theorem open_two {n : Nat} {v0 v1 : Value} {y : DataW H × List MemPlace} (h : DataW.trod enc Try.prog W base (fun _ => true) held n 57 [v0, v1] = some y) : ∃ x z : Int, I64 x ∧ I64 z ∧ v0 = .int .i64 x ∧ v1 = .int .i64 z := by
  have hu : Try.prog.underlying 57 = some (.array 2 3) := Try.underlying57
  have c1 : Try.prog.cellsOf 3 = 1 := by kernel_rfl
  have c2 : Try.prog.cellsOf 57 = 2 := by kernel_rfl
  cases n with
  | zero => simp [DataW.trod] at h
  | succ n =>
    rw [DataW.trod_step] at h
    unfold DataW.trodStep at h
    simp only [hu] at h
    rw [if_pos (by rw [c2]; rfl)] at h
    simp only [Option.map_eq_some_iff] at h
    obtain ⟨xs, hx, e1⟩ := h
    rw [show List.range 2 = [0, 1] from rfl, List.mapM_cons, List.mapM_cons, List.mapM_nil] at hx
    simp only [bind, Option.bind_eq_some_iff, pure, Option.some.injEq, c1] at hx
    obtain ⟨y0, h0, _, ⟨y1, h1, _, rfl, rfl⟩, rfl⟩ := hx
    obtain ⟨a, ea, _, wa⟩ := DataW.trod_int Try.underlying3 h0
    obtain ⟨b, eb, _, wb⟩ := DataW.trod_int Try.underlying3 h1
    simp at ea eb
    exact ⟨a, b, i64_of wa, i64_of wb, ea, eb⟩
set_option maxRecDepth 100000 in
theorem open_prs {v : Value} {d : DataW H} {ps : List MemPlace} {r : Reach} {b0 : Nat} (hv : Value.okWide Try.prog W r b0 56 v) (h : DataW.Trod enc Try.prog W base (fun _ => true) held 56 v d ps) :
    ∃ (A : Option Addr) (m k : Nat) (f g : Nat → Int), v = .slice A m k ∧ PairsAt W W.heap.size A m f g ∧ (A = none → m = 0 ∧ k = 0) ∧ (∀ j, I64 (f j)) ∧ (∀ j, I64 (g j)) ∧ m ≤ k ∧ k ≤ maxLen := by
  obtain ⟨a0, n0, k0, rfl⟩ := okWide_slice Try.underlying56 hv
  obtain ⟨fuel, hf⟩ := h
  have ce : Try.prog.cellsOf 57 = 2 := by kernel_rfl
  rcases Deep.open_slice Try.underlying56 hf with ⟨hv, _⟩ | ⟨a, len, cap, m, n, D, Pl, hv, hb, hl, hml, hm, _, hx⟩
  · injection hv with hv
    exact ⟨none, 0, 0, fun _ => 0, fun _ => 0, hv, fun h => absurd h (Nat.not_lt_zero _), fun _ => ⟨rfl, rfl⟩, fun _ => i64_0, fun _ => i64_0, Nat.le_refl _, Nat.zero_le _⟩
  · injection hv with hv
    have hm' : m = cap := by simpa using hm
    have each : ∀ j, ∃ x y : Int, I64 x ∧ I64 y ∧ (j < len → W.cell? (a.add (j * 2)) = some (.int .i64 x) ∧ W.cell? (a.add (j * 2 + 1)) = some (.int .i64 y)) := fun j => by
      by_cases hj : j < len
      · obtain ⟨cs', h1, h2⟩ := hx j (by omega)
        rw [ce] at h1
        obtain ⟨_, hlen, hcell⟩ := World.cells?_some h1
        match cs', hlen with
        | [v0, v1], _ =>
          obtain ⟨x, z, i1, i2, e1, e2⟩ := open_two h2
          have g0 := hcell 0 (by omega)
          have g1 := hcell 1 (by omega)
          rw [Deep.add_add] at g0 g1
          exact ⟨x, z, i1, i2, fun _ => ⟨by rw [← e1]; simpa using g0, by rw [← e2]; simpa using g1⟩⟩
      · exact ⟨0, 0, i64_0, i64_0, fun h => absurd h hj⟩
    obtain ⟨f, hf⟩ := Classical.axiomOfChoice each
    obtain ⟨g, hg⟩ := Classical.axiomOfChoice hf
    refine ⟨some a, len, cap, f, g, hv, fun hn => ⟨a, rfl, ?_, fun j hj => ?_⟩, (fun h => by cases h), fun j => (hg j).1, fun j => (hg j).2.1, hl, hml⟩
    · have := cell_lt ((hg 0).2.2 hn).1
      rwa [add_block] at this
    · obtain ⟨h0, h1⟩ := (hg j).2.2 hj
      exact ⟨h0, by rw [← add_succ]; exact h1⟩
end
namespace Rw
variable {r : Rw} {l : Int → Int}
theorem mv_on (hp : Prm r.m l) (h : r.num = true) : (r.mv l).on = r.on := by
  unfold on
  rw [mv_chk hp h]
  rfl
theorem mv_oc (hp : Prm r.m l) (h : r.num = true) : (r.mv l).oc = r.oc := by
  by_cases h0 : r.chk = 0
  · have h1 : (r.mv l).chk = 0 := by rw [mv_chk hp h]; exact h0
    obtain ⟨b1, b2, b3, b4, b5⟩ := lits_bd h
    have ho := mv_ord hp h
    have hoa : ∀ j, j < r.ord.length → r.ord.getD j 0 < r.na := fun j hj => ord_at hj
    rw [oc_yes h0, oc_yes h1]
    have f1 : (fun j => if j < r.nl then (r.mv l).told (mvl l (r.la j)) else 0) = fun j => if j < r.nl then r.told (r.la j) else 0 := funext fun j => by
      by_cases hj : j < r.nl
      · rw [if_pos hj, if_pos hj, mv_told hp h (b2 j hj).2.1 (b2 j hj).2.2]
      · rw [if_neg hj, if_neg hj]
    have f2 : (fun j => if j < r.ord.length then max ((r.mv l).told (mvl l (r.ga (r.ord.getD j 0)))) ((r.mv l).told (mvl l (r.gb (r.ord.getD j 0)))) else 0) = fun j => if j < r.ord.length then max (r.told (r.ga (r.ord.getD j 0))) (r.told (r.gb (r.ord.getD j 0))) else 0 := funext fun j => by
      by_cases hj : j < r.ord.length
      · have hq := b3 _ (hoa j hj)
        rw [if_pos hj, if_pos hj, mv_told hp h hq.2.1.1 hq.2.1.2, mv_told hp h hq.2.2.1 hq.2.2.2]
      · rw [if_neg hj, if_neg hj]
    have f3 : (fun j => if j < r.ord.length then min ((r.mv l).told (mvl l (r.ga (r.ord.getD j 0)))) ((r.mv l).told (mvl l (r.gb (r.ord.getD j 0)))) else 0) = fun j => if j < r.ord.length then min (r.told (r.ga (r.ord.getD j 0))) (r.told (r.gb (r.ord.getD j 0))) else 0 := funext fun j => by
      by_cases hj : j < r.ord.length
      · have hq := b3 _ (hoa j hj)
        rw [if_pos hj, if_pos hj, mv_told hp h hq.2.1.1 hq.2.1.2, mv_told hp h hq.2.2.1 hq.2.2.2]
      · rw [if_neg hj, if_neg hj]
    have f4 : (fun j => if j < r.nb then (r.mv l).told (mvl l (r.bd j)) else 0) = fun j => if j < r.nb then r.told (r.bd j) else 0 := funext fun j => by
      by_cases hj : j < r.nb
      · rw [if_pos hj, if_pos hj, mv_told hp h (b4 j hj).1 (b4 j hj).2]
      · rw [if_neg hj, if_neg hj]
    have f5 : (fun j => if j < r.nc then (r.mv l).told (mvl l (r.cn j)) else 0) = fun j => if j < r.nc then r.told (r.cn j) else 0 := funext fun j => by
      by_cases hj : j < r.nc
      · rw [if_pos hj, if_pos hj, mv_told hp h (b5 j hj).1 (b5 j hj).2]
      · rw [if_neg hj, if_neg hj]
    show Cr.mk (r.ni : Nat) r.nl (r.mv l).ord.length r.nb r.nc (fun j => if j < r.nl then (r.mv l).told (mvl l (r.la j)) else 0) (fun j => if j < r.nl then r.lb j else 0)
      (fun j => if j < (r.mv l).ord.length then max ((r.mv l).told (mvl l (r.ga ((r.mv l).ord.getD j 0)))) ((r.mv l).told (mvl l (r.gb ((r.mv l).ord.getD j 0)))) else 0)
      (fun j => if j < (r.mv l).ord.length then min ((r.mv l).told (mvl l (r.ga ((r.mv l).ord.getD j 0)))) ((r.mv l).told (mvl l (r.gb ((r.mv l).ord.getD j 0)))) else 0)
      (fun j => if j < r.nb then (r.mv l).told (mvl l (r.bd j)) else 0) (fun j => if j < r.nc then (r.mv l).told (mvl l (r.cn j)) else 0) = _
    rw [ho, f1, f2, f3, f4, f5]
    rfl
  · rw [oc_no h0, oc_no (by rw [mv_chk hp h]; exact h0)]
end Rw
theorem RSm.mv {r : Rw} {l : Int → Int} (hs : RSm r) (hp : Prm r.m l) (h : r.num = true) (hm : r.m ≤ 1000) : RSm (r.mv l) := by
  obtain ⟨b1, b2, b3, b4, b5⟩ := lits_bd (Rw.mv_num hp h)
  have k : ∀ x : Int, 0 ≤ x ∧ x ≤ 2 * r.m + 1 → I64 x := fun x hx => i64_k x (by omega) (by omega)
  exact ⟨hs.m, hs.ni, hs.nl, hs.na, hs.nb, hs.nc, fun j hj => k _ (b1 j hj), fun j hj => k _ (b2 j hj).1, fun j hj => k _ (b2 j hj).2, hs.lb, fun j hj => k _ (b3 j hj).1, fun j hj => k _ (b3 j hj).2.1, fun j hj => k _ (b3 j hj).2.2, fun j hj => k _ (b4 j hj), fun j hj => k _ (b5 j hj)⟩
theorem chk_num {r : Rw} (h : r.chk ≠ 8) (h2 : r.chk ≠ 4) : r.num = true ∧ 0 ≤ r.m ∧ r.m ≤ 1000 := by
  unfold Rw.chk at h h2
  by_cases h0 : r.m < 0
  · rw [if_pos h0] at h; exact absurd rfl h
  · rw [if_neg h0] at h h2
    by_cases hb : r.big = true
    · rw [if_pos hb] at h2; exact absurd rfl h2
    · rw [if_neg hb] at h h2
      have hb' : r.big = false := by simpa using hb
      have := of_decide_eq_false hb'
      by_cases hn : r.num = true
      · exact ⟨hn, by omega, by omega⟩
      · rw [if_pos (by simpa using hn)] at h; exact absurd rfl h
end Go.Proofs.Ytpdfdbnmohippaa
