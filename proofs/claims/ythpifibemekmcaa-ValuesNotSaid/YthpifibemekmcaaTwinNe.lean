/- Twin's copies of the bad literals and of the constraints lie apart. -/
import Derived.Test.YthpifibemekmcaaGatesTwin
namespace Go.Proofs.Ythpifibemekmcaa
open Go.RowKit
set_option linter.unusedVariables false
set_option linter.unusedSimpArgs false

set_option maxRecDepth 100000 in
set_option maxHeartbeats 4000000 in
theorem twin_ne (c : Cr) (p : Pl) (w : World) (hs : Sm c) (hm : Mem w w.heap.size c p) (hN : Nils c p) :
    Calls Try.prog 22 #[cv c p] w fun e w' => ∃ p', e = .returned (cv c p') ∧ OwnC w' (w.heap.size + 2) c p' ∧ Below w.heap.size w w' ∧ p'.A3 ≠ p'.A4 := by
  have g1 := hs.nl
  have g2 := hs.na
  have g3 := hs.nb
  have g4 := hs.nc
  obtain ⟨i1, hi1, hz1, hs1, hy1⟩ := info_parts info_latch
  obtain ⟨i2, hi2, hz2, hs2, hy2⟩ := info_parts info_and
  obtain ⟨i3, hi3, hz3, hs3, hy3⟩ := info_parts info_int
  have T0 : Tw w ((w.alloc (.cells (cc c p) 38)).alloc (.cells zc 38)) (cc c p) zc := ⟨by go_grown, (Has.new _ _ _).keep ((Below.refl (w.heap.size + 1) _).alloc (by simp) _) (by omega), by simpa using Has.new (w.alloc (.cells (cc c p) 38)) 38 zc, by simp⟩
  go_enter Try.func22, Try.ntmps22
  go_wp2_with (first
    | (at_builtin
       (refine append_to_new rfl (.tmp 3) (.tmp 5) _ rfl (w.heap.size + 2) 33 i1 _ 2 16 Try.underlying34 hi1 hz1 hs1 hy1 rfl (by decide) (w.heap.size + 1 + 1) rfl (by go_size) (Has.new' _ _ (by simp)) p.A1 c.nl p.k1 (pairL c.nx c.rs c.nl) rfl (pairL_len _ _ _) ((hm.la.keep (T0.b.alloc (by have := T0.l; omega) _)).src hN.la) (pairL_one _ _ _) (by simp only [maxLen]; omega) (by omega) (by go_size) ?_)
       intro g1 k1 w1 ho1 hg1 hat1
       obtain ⟨hM1, hQ1, hz1', hy1'⟩ := T0.mid hg1 (by simp)
       have T1 : Tw w (w1.setCell ⟨w.heap.size, 1, none⟩ (.slice (some ⟨g1, 0, none⟩) c.nl k1)) #[.int .i64 c.i, .slice (some ⟨g1, 0, none⟩) c.nl k1, .slice p.A2 c.na p.k2, .slice p.A3 c.nb p.k3, .slice p.A4 c.nc p.k4] zc := T0.step hg1 (by simp) 1 (.slice (some ⟨g1, 0, none⟩) c.nl k1)
       have x11 : w1.cell? ⟨w.heap.size, 1, none⟩ = _ := hM1.cell 1
       have x12 : w1.cell? ⟨w.heap.size, 2, none⟩ = _ := hM1.cell 2
       have x13 : w1.cell? ⟨w.heap.size, 3, none⟩ = _ := hM1.cell 3
       have x14 : w1.cell? ⟨w.heap.size, 4, none⟩ = _ := hM1.cell 4
       have f11 := hM1.fz 1
       simp only [cc, List.getElem?_toArray, List.getElem?_cons_zero, List.getElem?_cons_succ] at x11 x12 x13 x14)
    | (at_builtin
       (refine append_to_new rfl (.tmp 8) (.tmp 10) _ rfl (w.heap.size + 2) 76 i2 _ 2 16 Try.underlying35 hi2 hz2 hs2 hy2 rfl (by decide) w1.heap.size rfl (by go_size) (Has.new' _ _ (by simp)) p.A2 c.na p.k2 (pairL c.ga c.gb c.na) rfl (pairL_len _ _ _) ((hm.an.keep (T1.b.alloc (by have := T1.l; omega) _)).src hN.an) (pairL_one _ _ _) (by simp only [maxLen]; omega) (by omega) (by go_size) ?_)
       intro g2 k2 w2 ho2 hg2 hat2
       obtain ⟨hM2, hQ2, hz2', hy2'⟩ := T1.mid hg2 (by simp)
       have T2 : Tw w (w2.setCell ⟨w.heap.size, 2, none⟩ (.slice (some ⟨g2, 0, none⟩) c.na k2)) #[.int .i64 c.i, .slice (some ⟨g1, 0, none⟩) c.nl k1, .slice (some ⟨g2, 0, none⟩) c.na k2, .slice p.A3 c.nb p.k3, .slice p.A4 c.nc p.k4] zc := T1.step hg2 (by simp) 2 (.slice (some ⟨g2, 0, none⟩) c.na k2)
       have x21 : w2.cell? ⟨w.heap.size, 1, none⟩ = _ := hM2.cell 1
       have x22 : w2.cell? ⟨w.heap.size, 2, none⟩ = _ := hM2.cell 2
       have x23 : w2.cell? ⟨w.heap.size, 3, none⟩ = _ := hM2.cell 3
       have x24 : w2.cell? ⟨w.heap.size, 4, none⟩ = _ := hM2.cell 4
       have f21 := hM2.fz 2
       simp only [cc, List.getElem?_toArray, List.getElem?_cons_zero, List.getElem?_cons_succ] at x21 x22 x23 x24)
    | (at_builtin
       (refine append_to_new rfl (.tmp 13) (.tmp 15) _ rfl (w.heap.size + 2) 3 i3 _ 1 8 Try.underlying36 hi3 hz3 hs3 hy3 rfl (by decide) w2.heap.size rfl (by go_size) (Has.new' _ _ (by simp)) p.A3 c.nb p.k3 (intL c.bd c.nb) rfl (intL_len _ _) ((hm.bd.keep (T2.b.alloc (by have := T2.l; omega) _)).src hN.bd) (intL_one _ _) (by simp only [maxLen]; omega) (by omega) (by go_size) ?_)
       intro g3 k3 w3 ho3 hg3 hat3
       obtain ⟨hM3, hQ3, hz3', hy3'⟩ := T2.mid hg3 (by simp)
       have T3 : Tw w (w3.setCell ⟨w.heap.size, 3, none⟩ (.slice (some ⟨g3, 0, none⟩) c.nb k3)) #[.int .i64 c.i, .slice (some ⟨g1, 0, none⟩) c.nl k1, .slice (some ⟨g2, 0, none⟩) c.na k2, .slice (some ⟨g3, 0, none⟩) c.nb k3, .slice p.A4 c.nc p.k4] zc := T2.step hg3 (by simp) 3 (.slice (some ⟨g3, 0, none⟩) c.nb k3)
       have x31 : w3.cell? ⟨w.heap.size, 1, none⟩ = _ := hM3.cell 1
       have x32 : w3.cell? ⟨w.heap.size, 2, none⟩ = _ := hM3.cell 2
       have x33 : w3.cell? ⟨w.heap.size, 3, none⟩ = _ := hM3.cell 3
       have x34 : w3.cell? ⟨w.heap.size, 4, none⟩ = _ := hM3.cell 4
       have f31 := hM3.fz 3
       simp only [cc, List.getElem?_toArray, List.getElem?_cons_zero, List.getElem?_cons_succ] at x31 x32 x33 x34)
    | (at_builtin
       (refine append_to_new rfl (.tmp 18) (.tmp 20) _ rfl (w.heap.size + 2) 3 i3 _ 1 8 Try.underlying36 hi3 hz3 hs3 hy3 rfl (by decide) w3.heap.size rfl (by go_size) (Has.new' _ _ (by simp)) p.A4 c.nc p.k4 (intL c.cn c.nc) rfl (intL_len _ _) ((hm.cn.keep (T3.b.alloc (by have := T3.l; omega) _)).src hN.cn) (intL_one _ _) (by simp only [maxLen]; omega) (by omega) (by go_size) ?_)
       intro g4 k4 w4 ho4 hg4 hat4
       obtain ⟨hM4, hQ4, hz4', hy4'⟩ := T3.mid hg4 (by simp)
       have T4 : Tw w (w4.setCell ⟨w.heap.size, 4, none⟩ (.slice (some ⟨g4, 0, none⟩) c.nc k4)) #[.int .i64 c.i, .slice (some ⟨g1, 0, none⟩) c.nl k1, .slice (some ⟨g2, 0, none⟩) c.na k2, .slice (some ⟨g3, 0, none⟩) c.nb k3, .slice (some ⟨g4, 0, none⟩) c.nc k4] zc := T3.step hg4 (by simp) 4 (.slice (some ⟨g4, 0, none⟩) c.nc k4)
       have x41 : w4.cell? ⟨w.heap.size, 1, none⟩ = _ := hM4.cell 1
       have x42 : w4.cell? ⟨w.heap.size, 2, none⟩ = _ := hM4.cell 2
       have x43 : w4.cell? ⟨w.heap.size, 3, none⟩ = _ := hM4.cell 3
       have x44 : w4.cell? ⟨w.heap.size, 4, none⟩ = _ := hM4.cell 4
       have f41 := hM4.fz 4
       simp only [cc, List.getElem?_toArray, List.getElem?_cons_zero, List.getElem?_cons_succ] at x41 x42 x43 x44
       have x40 : w4.cell? ⟨w.heap.size, 0, none⟩ = some (.int .i64 c.i) := hM4.cell 0
       have zz0 : w4.cell? ⟨w.heap.size + 1, 0, none⟩ = some (.int .i64 0) := hQ4.cell 0
       have zf0 := hQ4.fz 0
       have zz1 : w4.cell? ⟨w.heap.size + 1, 1, none⟩ = some (.slice none 0 0) := hQ4.cell 1
       have zf1 := hQ4.fz 1
       have zz2 : w4.cell? ⟨w.heap.size + 1, 2, none⟩ = some (.slice none 0 0) := hQ4.cell 2
       have zf2 := hQ4.fz 2
       have zz3 : w4.cell? ⟨w.heap.size + 1, 3, none⟩ = some (.slice none 0 0) := hQ4.cell 3
       have zf3 := hQ4.fz 3
       have zz4 : w4.cell? ⟨w.heap.size + 1, 4, none⟩ = some (.slice none 0 0) := hQ4.cell 4
       have zf4 := hQ4.fz 4))
  have O1 := T3.own hg4 (by simp) 4 (.slice (some ⟨g4, 0, none⟩) c.nc k4) rfl (T2.own hg3 (by simp) 3 (.slice (some ⟨g3, 0, none⟩) c.nb k3) rfl (T1.own hg2 (by simp) 2 (.slice (some ⟨g2, 0, none⟩) c.na k2) rfl (own_set (b := w.heap.size) (j := 1) (v := .slice (some ⟨g1, 0, none⟩) c.nl k1) ho1 (by omega))))
  have O2 := T3.own hg4 (by simp) 4 (.slice (some ⟨g4, 0, none⟩) c.nc k4) rfl (T2.own hg3 (by simp) 3 (.slice (some ⟨g3, 0, none⟩) c.nb k3) rfl (own_set (b := w.heap.size) (j := 2) (v := .slice (some ⟨g2, 0, none⟩) c.na k2) ho2 (by omega)))
  have O3 := T3.own hg4 (by simp) 4 (.slice (some ⟨g4, 0, none⟩) c.nc k4) rfl (own_set (b := w.heap.size) (j := 3) (v := .slice (some ⟨g3, 0, none⟩) c.nb k3) ho3 (by omega))
  have O4 := own_set (b := w.heap.size) (j := 4) (v := .slice (some ⟨g4, 0, none⟩) c.nc k4) ho4 (by omega)
  have HB := T4.b
  have HE : g3 ≠ g4 := by have := own_lt ho3; simp at hat4; omega
  refine bodyPost_ret (v := cv c ⟨some ⟨g1, 0, none⟩, some ⟨g2, 0, none⟩, some ⟨g3, 0, none⟩, some ⟨g4, 0, none⟩, k1, k2, k3, k4⟩) (by simp [results, Try.results22, go_sem, zz0, zz1, zz2, zz3, zz4]) rfl ⟨_, rfl, ⟨⟨_, rfl, ?_⟩, ⟨_, rfl, ?_⟩, ⟨_, rfl, ?_⟩, _, rfl, ?_⟩, ?_, ?_⟩
  · exact own_set (own_set (own_set (own_set (own_set O1 (by omega)) (by omega)) (by omega)) (by omega)) (by omega)
  · exact own_set (own_set (own_set (own_set (own_set O2 (by omega)) (by omega)) (by omega)) (by omega)) (by omega)
  · exact own_set (own_set (own_set (own_set (own_set O3 (by omega)) (by omega)) (by omega)) (by omega)) (by omega)
  · exact own_set (own_set (own_set (own_set (own_set O4 (by omega)) (by omega)) (by omega)) (by omega)) (by omega)
  · exact ((((HB.setCell (by simp) _).setCell (by simp) _).setCell (by simp) _).setCell (by simp) _).setCell (by simp) _
  · intro h; injection h with h; injection h with h; exact HE h
end Go.Proofs.Ythpifibemekmcaa
