/- The reference's contracts: Sorted, Without. -/
import Derived.Test.YtigfdfbjpelcaaaClIo
import Derived.BigRegion
namespace Go.Proofs.Ytigfdfbjpelcaaa
open Go Go.RowKit
set_option linter.unusedVariables false
set_option linter.unusedSimpArgs false

theorem take_mem {l : List Int} {j : Nat} (hj : j < l.length) (x : Int) : x ∈ l.take (j + 1) ↔ x ∈ l.take j ∨ x = l.getD j 0 := by
  rw [List.take_succ_eq_append_getElem hj, List.mem_append, List.mem_singleton, getD_at hj]

theorem Io.cl {B g N cap : Nat} {w : World} {l : List Int} (h : Io B w (.slice (some ⟨g, 0, none⟩) N cap) l) {j : Nat} (hj : j < l.length) : w.cell? ⟨g, j, none⟩ = some (.int .i64 (l.getD j 0)) ∧ w.frozen? ⟨g, j, none⟩ = false := by
  obtain ⟨g', cap', e, _, _, _, h1, h2⟩ := h.slice (by omega)
  injection e with e _ _
  injection e with e
  injection e with e
  subst e
  exact ⟨h1 j hj, h2 j⟩

set_option maxRecDepth 100000 in
set_option maxHeartbeats 8000000 in
theorem rSorted_any (A : Option Addr) (l : List Int) (k : Nat) (w : World) (h : Ia w w.heap.size A l k) (hl : l.length ≤ 100000) :
    Calls Try.prog 35 #[.slice A l.length k] w fun e w' => ∃ v, e = .returned v ∧ Io w.heap.size w' v (srt l) ∧ Below w.heap.size w w' := by
  obtain ⟨n, hn⟩ : ∃ n, n = l.length := ⟨_, rfl⟩
  rw [← hn]
  have hl1 : n ≤ 100000 := by rw [hn]; exact hl
  have HH := Lib.hid (And.intro h hn)
  clear h hl hn
  go_enter Try.func35, Try.ntmps35
  go_wp2
  go_loopw [3, 4] (fun v i wr => ∃ (j : Nat) (m : List Int), j ≤ n ∧ i = .int .i64 (j : Int) ∧ Io w.heap.size wr v m ∧ Below w.heap.size w wr ∧ m.Pairwise (· < ·) ∧ (∀ x, x ∈ m ↔ x ∈ l.take j) ∧ m.length ≤ j) (fun _ i _ => n - (intOf i).toNat)
  case atStart => exact ⟨0, [], Nat.zero_le _, rfl, Io.nil _ _, Below.refl _ _, List.Pairwise.nil, fun x => by simp, Nat.le_refl _⟩
  case round =>
    obtain ⟨j, m, hj, rfl, hown, hB, hss, hmem, hml⟩ := hrel
    by_cases hlt : j < n
    · obtain ⟨b, o, rfl, hb0, hcs⟩ := HH.out.1.cells (by have := HH.out.2; omega)
      have hjl : j < l.length := by have := HH.out.2; omega
      have y0 := hcs j hjl
      have y : _ = _ := (hB.cell (cell_lt y0)).trans y0
      have hj1 : (j : Int) < (n : Int) := by omega
      have hj0 : (0 : Int) ≤ (j : Int) := by omega
      obtain ⟨x, hx⟩ : ∃ u, u = l.getD j 0 := ⟨_, rfl⟩
      rw [← hx] at y
      obtain ⟨Am, km, rfl, hIm⟩ := hown.at
      have DH := rHas_any Am m km x wr.heap.size wr hIm (by omega)
      obtain ⟨mn, hmn⟩ : ∃ mn, mn = m.length := ⟨_, rfl⟩
      cases he : hs m x with
      | true =>
        rw [he] at DH
        have HK := Lib.hid (show Io w.heap.size wr (.slice Am mn km) m ∧ Below w.heap.size w wr ∧ m.Pairwise (· < ·) ∧ (∀ z, z ∈ m ↔ z ∈ l.take (j + 1)) ∧ m.length ≤ j + 1 from ⟨hmn ▸ hown, hB, hss, fun z => by
          rw [take_mem hjl, ← hx, ← hmem z]
          exact ⟨Or.inl, fun h => h.elim id fun e => e ▸ hs_iff.1 he⟩, by omega⟩)
        rw [← hmn] at DH ⊢
        clear hown hB hss hmem hml hcs y0 hx he hIm hmn
        go_wp2_with (first | (go_at_call 23; (with_reducible refine DH.mono ?_); rintro e w' ⟨rfl, rfl⟩))
        go_roundw
        case rel => exact ⟨j + 1, m, by omega, by go_num, HK.out⟩
        case measure => simp [intOf]; omega
      | false =>
        rw [he] at DH
        have hxm := hs_no.1 he
        have HK := Lib.hid (And.intro hss (And.intro hmem (And.intro hml (And.intro hx (And.intro hxm (And.intro hjl hmn))))))
        have HO := Lib.hid (And.intro hown hB)
        have hmn1 : mn ≤ 100000 := by omega
        rw [← hmn] at DH ⊢
        clear hown hss hmem hml hcs y0 hx he hIm hxm hmn
        go_wp2_with (first
          | (go_at_call 23; (with_reducible refine DH.mono ?_); rintro e w' ⟨rfl, rfl⟩)
          | (at_builtin
             (refine io_append rfl (.tmp 18) (.tmp 23) rfl w.heap.size _ m rfl (by rw [HK.out.2.2.2.2.2.2]; exact (HO.out.1).keep ((Below.refl _ _).alloc (Nat.le_refl _) _)) _ 1 1 [x] rfl rfl (src_int _ _) (by have := HK.out.2.2.1; have := hl1; simp; omega) (by have := HO.out.2.size; simp; omega) ?_)
             intro v1 w1 ho1 hb1
             obtain ⟨g, cap, rfl, hg, hgl, hcm, _, _⟩ := ho1.slice (by simp)
             have hlen : (m ++ [x]).length = mn + 1 := by rw [HK.out.2.2.2.2.2.2]; simp
             rw [hlen] at ho1 ⊢
             have HI := Lib.hid (And.intro (show Io w.heap.size w1 (.slice (some ⟨g, 0, none⟩) (mn + 1) cap) (ins m x mn) by rw [HK.out.2.2.2.2.2.2, ins_end, ← HK.out.2.2.2.2.2.2]; exact ho1) (show Below w.heap.size w w1 from (HO.out.2.alloc HO.out.2.size _).trans hb1))
             clear hlen ho1 hb1 hg hgl hcm))
        go_loopw [5] (fun kk wr2 => ∃ q : Nat, q ≤ mn ∧ kk = .int .i64 (q : Int) ∧ Io w.heap.size wr2 (.slice (some ⟨g, 0, none⟩) (mn + 1) cap) (ins m x q) ∧ Below w.heap.size w wr2 ∧ (∀ t, q ≤ t → t < mn → x < m.getD t 0)) (fun kk _ => (intOf kk).toNat)
        case atStart => exact ⟨mn, Nat.le_refl _, by go_num, HI.out.1, HI.out.2, fun t h1 h2 => by omega⟩
        case round =>
          clear HI HO
          obtain ⟨q, hq, rfl, hown2, hB2, hgt⟩ := hrel
          have hil := ins_len m x q
          rw [← HK.out.2.2.2.2.2.2] at hil
          by_cases hq0 : 0 < q
          · have d0 : decide (0 < q) = true := decide_eq_true hq0
            obtain ⟨y1, f1⟩ := hown2.cl (j := q) (by omega)
            obtain ⟨y2, f2⟩ := hown2.cl (j := q - 1) (by omega)
            rw [ins_at m x q (by rw [← HK.out.2.2.2.2.2.2]; omega)] at y1 y2
            rw [show insF m x q q = x by unfold insF; rw [if_neg (by omega), if_pos rfl]] at y1
            rw [show insF m x q (q - 1) = m.getD (q - 1) 0 by unfold insF; rw [if_pos (by omega)]] at y2
            obtain ⟨p, hp⟩ : ∃ p, p = m.getD (q - 1) 0 := ⟨_, rfl⟩
            rw [← hp] at y2
            have i0 : (0 : Int) ≤ (q : Int) := by omega
            have i1 : (q : Int) < (mn : Int) + 1 := by omega
            have i2 : (0 : Int) ≤ (q : Int) - 1 := by omega
            have i3 : (q : Int) - 1 < (mn : Int) + 1 := by omega
            by_cases hxp : x < p
            · have e1 : decide (x < p) = true := decide_eq_true hxp
              have HI := Lib.hid (And.intro hown2 (And.intro hB2 (And.intro hgt (And.intro hp (And.intro hxp hil)))))
              clear hown2 hB2 hgt hp hxp hil
              go_wp2
              go_quiet (fail)
              go_wp2
              have hwq : IntKind.i64.wrap ((q : Int) - 1) = (q : Int) - 1 := by rw [IntKind.wrap_i64]; omega
              have hwn : ((q : Int) - 1).toNat = q - 1 := by omega
              have hq1 : (1 : Int) ≤ (q : Int) := by omega
              have hne : ¬ q = q - 1 := by omega
              have hne2 : ¬ q - 1 = q := by omega
              go_region
              go_wp2
              have hA := (HI.out.1.keep (below_dn (w := wr) (Below.refl _ _) (nq + 1))).store q p
              have hC := hA.1.store (q - 1) x
              have HF := Lib.hid (show Io w.heap.size (((wr.drewN (nq + 1)).setCell ⟨g, q, none⟩ (.int .i64 p)).setCell ⟨g, q - 1, none⟩ (.int .i64 x)) (.slice (some ⟨g, 0, none⟩) (mn + 1) cap) (ins m x (q - 1)) ∧ Below w.heap.size w (((wr.drewN (nq + 1)).setCell ⟨g, q, none⟩ (.int .i64 p)).setCell ⟨g, q - 1, none⟩ (.int .i64 x)) from
                ⟨by rw [← ins_swap m x (by omega) (by have := HK.out.2.2.2.2.2.2; omega), ← HI.out.2.2.2.1]; exact hC.1, ((below_dn HI.out.2.1 (nq + 1)).trans hA.2).trans hC.2⟩)
              clear hA hC
              go_roundw
              case rel => exact ⟨q - 1, by omega, by go_num, HF.out.1, HF.out.2, fun t h1 h2 => by
                rcases Nat.lt_or_ge t q with h' | h'
                · rw [show t = q - 1 by omega, ← HI.out.2.2.2.1]; exact HI.out.2.2.2.2.1
                · exact HI.out.2.2.1 t h' h2⟩
              case measure => simp [intOf]; omega
            · have e1 : decide (x < p) = false := decide_eq_false hxp
              have HI := Lib.hid (And.intro hown2 (And.intro hB2 (And.intro hgt (And.intro hp (And.intro hxp hil)))))
              clear hown2 hB2 hgt hp hxp hil
              go_wp2
              go_quiet (fail)
              go_wp2
              go_roundw
              case rel => exact ⟨j + 1, ins m x q, by omega, by go_num, HI.out.1.keep (below_dn (Below.refl _ _) _), below_dn HI.out.2.1 _, ins_ss HK.out.1 (by have := HK.out.2.2.2.2.2.2; omega) (fun t h1 h2 => HI.out.2.2.1 t h1 (by have := HK.out.2.2.2.2.2.2; omega)) (fun _ => by
                  have h1 := HI.out.2.2.2.1
                  have h2 := HI.out.2.2.2.2.1
                  have h3 : p ∈ m := by rw [h1]; exact Go.Proofs.Ytigfdfbjpelcaaa.getD_mem (by have := HK.out.2.2.2.2.2.2; omega)
                  have h4 : p ≠ x := fun e => HK.out.2.2.2.2.1 (e ▸ h3)
                  rw [← h1]; omega), fun z => by
                    rw [mem_ins m x (by have := HK.out.2.2.2.2.2.2; omega), take_mem HK.out.2.2.2.2.2.1, HK.out.2.1 z, ← HK.out.2.2.2.1], by rw [ins_len]; have := HK.out.2.2.1; omega⟩
              case measure => simp [intOf]; omega
          · have d0 : decide (0 < q) = false := decide_eq_false hq0
            have HI := Lib.hid (And.intro hown2 (And.intro hB2 (And.intro hgt hil)))
            clear hown2 hB2 hgt hil
            go_wp2
            go_quiet (fail)
            go_wp2
            go_roundw
            case rel => exact ⟨j + 1, ins m x q, by omega, by go_num, HI.out.1.keep (below_dn (Below.refl _ _) _), below_dn HI.out.2.1 _, ins_ss HK.out.1 (by have := HK.out.2.2.2.2.2.2; omega) (fun t h1 h2 => HI.out.2.2.1 t h1 (by have := HK.out.2.2.2.2.2.2; omega)) (fun h => absurd h hq0), fun z => by
                    rw [mem_ins m x (by have := HK.out.2.2.2.2.2.2; omega), take_mem HK.out.2.2.2.2.2.1, HK.out.2.1 z, ← HK.out.2.2.2.1], by rw [ins_len]; have := HK.out.2.2.1; omega⟩
            case measure => simp [intOf]; omega
    · obtain rfl : j = n := by omega
      have hR := srt_eq hss (fun x => (hmem x).trans (by rw [HH.out.2, List.take_length]))
      rw [hR] at hown
      have HK := Lib.hid (And.intro hown hB)
      have hjn : ¬ (j : Int) < (j : Int) := by omega
      clear hown hB hss hmem hml hR
      go_wp2
      go_ret
      exact ⟨_, rfl, HK.out.1, HK.out.2⟩

end Go.Proofs.Ytigfdfbjpelcaaa
