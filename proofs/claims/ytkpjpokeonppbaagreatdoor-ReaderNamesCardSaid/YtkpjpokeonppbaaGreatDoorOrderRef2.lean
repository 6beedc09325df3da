/- The reference of layer 3: used literals, numbers. -/
import Derived.Test.YtkpjpokeonppbaaGreatDoorOrderRef
import Derived.Test.YtkpjpokeonppbaaGreatDoorHeadTail
import Derived.Deep.AppendLies
namespace Go.Proofs.YtkpjpokeonppbaaGreatDoor
open Go.RowKit
set_option linter.unusedVariables false
set_option linter.unusedSimpArgs false

set_option maxRecDepth 100000 in
set_option maxHeartbeats 2000000 in
theorem oUsed_any (r : Rw) (p : Rp) (w : World) (hs : RSm r) (hm : RMem w w.heap.size r p) (hN : RNils r p) :
    Calls Tryz.prog 46 #[rv r p] w (ListIs r.uL w) := by
  have g1 := hs.nl
  have g2 := hs.na
  have g3 := hs.nb
  have g4 := hs.nc
  obtain ⟨i0, hi0, hzz0, hs0, hy0⟩ := info_parts info_int
  have hbox2 : Has ((w.alloc (.cells (rc r p) 26)).alloc (.cells #[] 3)) w.heap.size 26 (rc r p) := (Has.new _ _ _).al _
  have hBox2 : Below w.heap.size w ((w.alloc (.cells (rc r p) 26)).alloc (.cells #[] 3)) := by go_grown
  obtain ⟨x0, x1, x2, x3, x4, x5⟩ := hbox2.rbox
  go_enter Tryz.func46, Tryz.ntmps46
  go_wp2_with (first
    | (at_builtin
       (refine append_to_new rfl (.tmp 6) (.tmp 8) _ rfl (w.heap.size + 1) 3 i0 _ 1 8 Tryz.underlying23 hi0 hzz0 hs0 hy0 rfl (by decide) (w.heap.size + 1) rfl (by go_size) (Has.new' _ _ (by simp)) p.A4 r.nb p.k4 (intL r.bd r.nb) rfl (intL_len _ _) ((hm.bd.keep hBox2).src hN.bd) (intL_one _ _) (by simp only [maxLen]; omega) (by omega) (by go_size) ?_)
       intro g1 k1 w1 ho1 hg1 hat1
       have hH1 : Has w1 w.heap.size 26 (rc r p) := hbox2.grow hg1 (by omega)
       have hB1 : Below w.heap.size w w1 := hBox2.grown hg1 (by simp; omega) (fun k hk => by cases hk; omega)
       have hz1 := hH1.lt
       obtain ⟨u0, u1, u2, u3, u4, u5⟩ := hH1.rbox)
    | (at_builtin
       (refine append_more rfl (.tmp 10) (.tmp 12) _ rfl (w.heap.size + 1) 3 i0 _ 1 8 Tryz.underlying23 hi0 hzz0 hs0 hy0 rfl (by decide) _ r.nb (intL r.bd r.nb) rfl ho1 p.A5 r.nc p.k5 (intL r.cn r.nc) rfl (intL_len _ _) ((hm.cn.keep hB1).src hN.cn) (intL_one _ _) (by simp only [maxLen]; omega) (by omega) (by omega) ?_)
       intro v2 w2 ho2 hg2
       have hH2 : Has w2 w.heap.size 26 (rc r p) := app_has0 hH1 ho1 hg2 (by omega)
       have hB2 : Below w.heap.size w w2 := app_below0 hB1 hB1.size (by omega) ho1 hg2))
  clear hg1 hat1 hg2 x0 x1 x2 x3 x4 x5 u0 u1 u2 u3 u4 u5 hbox2 hBox2
  rw [il_lst, il_lst, ← il_app] at ho2
  have hsz1 : w.heap.size < w2.heap.size := hH2.lt
  go_loopw [3, 4] (fun v i wr => ∃ q : Nat, q ≤ r.nl ∧ i = .int .i64 q ∧ wr.ownsRow (w.heap.size + 1) 3 1 v (lst r.bd r.nb ++ lst r.cn r.nc ++ lst r.la q).length (il (lst r.bd r.nb ++ lst r.cn r.nc ++ lst r.la q)) ∧ Has wr w.heap.size 26 (rc r p) ∧ Below w.heap.size w wr) (fun _ i _ => r.nl - (intOf i).toNat)
  case atStart => exact ⟨0, Nat.zero_le _, rfl, by simpa [lst] using ho2, hH2, hB2⟩
  case round =>
    obtain ⟨q, hq, rfl, hown, hHr, hBr⟩ := hrel
    have hlen : (lst r.bd r.nb ++ lst r.cn r.nc ++ lst r.la q).length = r.nb + r.nc + q := by simp [lst_len]; omega
    obtain ⟨x0, x1, x2, x3, x4, x5⟩ := hHr.rbox
    by_cases hlt : q < r.nl
    · obtain ⟨a, hA, hab, hcs⟩ := (hm.la.keep hBr) (by omega)
      obtain ⟨y0, y1, y2⟩ := hcs q hlt
      rw [hA] at x2
      clear hcs
      have hX : lst r.bd r.nb ++ lst r.cn r.nc ++ lst r.la (q + 1) = (lst r.bd r.nb ++ lst r.cn r.nc ++ lst r.la q) ++ [r.la q] := by simp [lst_succ]
      have HX := Lib.hid hX
      clear hX
      go_wp2_with (at_builtin; refine wpList_append_own _ rfl _ _ 23 rfl (w.heap.size + 1) 3 i0 (.int .i64 0) 1 8 Tryz.underlying23 hi0 hzz0 hs0 hy0 rfl (by decide) _ _ _ rfl (hown.alloc _) ⟨wr.heap.size, 0, none⟩ 1 1 [.int .i64 (r.la q)] rfl rfl (cell_one_new _ _ _) (by simp [Value.oneCell']) (by simp only [maxLen]; omega) (by omega) (by have := hHr.lt; simp; omega) ?_; intro v' w8 hown' hgrow _)
      go_roundw
      case rel => exact ⟨q + 1, by omega, by go_num, by rw [HX.out, List.length_append, il_app]; exact hown', app_has hHr hown hgrow (by omega), app_below hBr hBr.size (by omega) hown hgrow⟩
      case measure => simp [intOf]; omega
    · obtain rfl : q = r.nl := by omega
      clear hq hlt
      go_wp2
      clear x0 x1 x2 x3 x4 x5
      go_loopw [3, 5] (fun v i wr => ∃ q : Nat, q ≤ r.na ∧ i = .int .i64 q ∧ wr.ownsRow (w.heap.size + 1) 3 1 v (lst r.bd r.nb ++ lst r.cn r.nc ++ lst r.la r.nl ++ twos r.ga r.gb q).length (il (lst r.bd r.nb ++ lst r.cn r.nc ++ lst r.la r.nl ++ twos r.ga r.gb q)) ∧ Has wr w.heap.size 26 (rc r p) ∧ Below w.heap.size w wr) (fun _ i _ => r.na - (intOf i).toNat)
      case atStart => exact ⟨0, Nat.zero_le _, rfl, by simpa [lst, twos] using hown, hHr, hBr⟩
      case round =>
        clear hown hHr hBr hlen
        obtain ⟨q, hq, rfl, hown, hHr, hBr⟩ := hrel
        have hlen : (lst r.bd r.nb ++ lst r.cn r.nc ++ lst r.la r.nl ++ twos r.ga r.gb q).length = r.nb + r.nc + r.nl + 2 * q := by simp [lst_len, twos_len]; omega
        obtain ⟨x0, x1, x2, x3, x4, x5⟩ := hHr.rbox
        by_cases hlt : q < r.na
        · obtain ⟨a, hA, hab, hcs⟩ := (hm.an.keep hBr) (by omega)
          obtain ⟨y0, y1, y2⟩ := hcs q hlt
          rw [hA] at x3
          have HA1 := Lib.hid hA
          clear hcs hA
          have hX : lst r.bd r.nb ++ lst r.cn r.nc ++ lst r.la r.nl ++ twos r.ga r.gb (q + 1) = (lst r.bd r.nb ++ lst r.cn r.nc ++ lst r.la r.nl ++ twos r.ga r.gb q) ++ [r.ga q, r.gb q] := by simp [twos]
          have HX := Lib.hid hX
          clear hX
          have hi1 : (0 : Int) ≤ (q : Int) := by omega
          have hi2 : (q : Int) < (r.na : Int) := by omega
          go_wp2
          have hS0 : wr.drew.cell? ⟨w.heap.size, 3, none⟩ = some (.slice (some a) r.na p.k3) ∧ wr.drew.cell? ⟨(a.add (q * 3)).block, (a.add (q * 3)).off + 1, none⟩ = some (.int .i64 (r.ga q)) ∧ wr.drew.cell? ⟨(a.add (q * 3)).block, (a.add (q * 3)).off + 2, none⟩ = some (.int .i64 (r.gb q)) := ⟨x3, y1, y2⟩
          refine wp_region_T (fun w' => w'.cell? ⟨w.heap.size, 3, none⟩ = some (.slice (some a) r.na p.k3) ∧ w'.cell? ⟨(a.add (q * 3)).block, (a.add (q * 3)).off + 1, none⟩ = some (.int .i64 (r.ga q)) ∧ w'.cell? ⟨(a.add (q * 3)).block, (a.add (q * 3)).off + 2, none⟩ = some (.int .i64 (r.gb q))) 15 (by kernel_rfl) ?_
          (refine wpT_take 0 (v := ?_) rfl (by kernel_rfl) (by kernel_rfl) (by kernel_rfl) (by kernel_rfl) (fun _ _ _ h => h) rfl hS0 (fun w hS => ?_) ?_; rotate_left; focus (obtain ⟨j1, j2, j3⟩ := hS; go_simp; rfl)); (refine wpT_take 1 (v := ?_) rfl (by kernel_rfl) (by kernel_rfl) (by kernel_rfl) (by kernel_rfl) (fun _ _ _ h => h) rfl hS0 (fun w hS => ?_) ?_; rotate_left; focus (obtain ⟨j1, j2, j3⟩ := hS; go_simp; rfl)); (refine wpT_take 2 (v := ?_) rfl (by kernel_rfl) (by kernel_rfl) (by kernel_rfl) (by kernel_rfl) (fun _ _ _ h => h) rfl hS0 (fun w hS => ?_) ?_; rotate_left; focus (obtain ⟨j1, j2, j3⟩ := hS; go_simp; rfl)); (refine wpT_take 3 (v := ?_) rfl (by kernel_rfl) (by kernel_rfl) (by kernel_rfl) (by kernel_rfl) (fun _ _ _ h => h) rfl hS0 (fun w hS => ?_) ?_; rotate_left; focus (obtain ⟨j1, j2, j3⟩ := hS; go_simp; rfl)); (refine wpT_take 4 (v := ?_) rfl (by kernel_rfl) (by kernel_rfl) (by kernel_rfl) (by kernel_rfl) (fun _ _ _ h => h) rfl hS0 (fun w hS => ?_) ?_; rotate_left; focus (obtain ⟨j1, j2, j3⟩ := hS; go_simp; rfl)); (refine wpT_take 5 (v := ?_) rfl (by kernel_rfl) (by kernel_rfl) (by kernel_rfl) (by kernel_rfl) (fun _ _ _ h => h) rfl hS0 (fun w hS => ?_) ?_; rotate_left; focus (obtain ⟨j1, j2, j3⟩ := hS; go_simp; rfl)); (refine wpT_take 6 (v := ?_) rfl (by kernel_rfl) (by kernel_rfl) (by kernel_rfl) (by kernel_rfl) (fun _ _ _ h => h) rfl hS0 (fun w hS => ?_) ?_; rotate_left; focus (obtain ⟨j1, j2, j3⟩ := hS; go_simp; rfl)); (refine wpT_take 7 (v := ?_) rfl (by kernel_rfl) (by kernel_rfl) (by kernel_rfl) (by kernel_rfl) (fun _ _ _ h => h) rfl hS0 (fun w hS => ?_) ?_; rotate_left; focus (obtain ⟨j1, j2, j3⟩ := hS; go_simp; rfl)); (refine wpT_take 8 (v := ?_) rfl (by kernel_rfl) (by kernel_rfl) (by kernel_rfl) (by kernel_rfl) (fun _ _ _ h => h) rfl hS0 (fun w hS => ?_) ?_; rotate_left; focus (obtain ⟨j1, j2, j3⟩ := hS; go_simp; rfl)); (refine wpT_take 9 (v := ?_) rfl (by kernel_rfl) (by kernel_rfl) (by kernel_rfl) (by kernel_rfl) (fun _ _ _ h => h) rfl hS0 (fun w hS => ?_) ?_; rotate_left; focus (obtain ⟨j1, j2, j3⟩ := hS; go_simp; rfl)); (refine wpT_take 10 (v := ?_) rfl (by kernel_rfl) (by kernel_rfl) (by kernel_rfl) (by kernel_rfl) (fun _ _ _ h => h) rfl hS0 (fun w hS => ?_) ?_; rotate_left; focus (obtain ⟨j1, j2, j3⟩ := hS; go_simp; rfl)); (refine wpT_take 11 (v := ?_) rfl (by kernel_rfl) (by kernel_rfl) (by kernel_rfl) (by kernel_rfl) (fun _ _ _ h => h) rfl hS0 (fun w hS => ?_) ?_; rotate_left; focus (obtain ⟨j1, j2, j3⟩ := hS; go_simp; rfl)); (refine wpT_take 12 (v := ?_) rfl (by kernel_rfl) (by kernel_rfl) (by kernel_rfl) (by kernel_rfl) (fun _ _ _ h => h) rfl hS0 (fun w hS => ?_) ?_; rotate_left; focus (obtain ⟨j1, j2, j3⟩ := hS; go_simp; rfl))
          refine wpT_one 13 (by kernel_rfl) (wpOp_go rfl rfl fun K hK => ?_)
          go_simp
          refine hK _ _ ⟨fun _ => ⟨ca hS0.1 _, ca hS0.2.1 _, ca hS0.2.2 _⟩, ?_⟩
          refine wpT_one 14 (by kernel_rfl) (wpOp_go rfl rfl fun K hK => ?_)
          refine wp_append_lies _ _ _ _ (by rfl) (w.heap.size + 1) 3 i0 _ 1 8 Tryz.underlying23 hi0 hzz0 hs0 hy0 rfl (by omega) _ _ _ (by rfl) ((hown.alloc _).drew) ⟨wr.heap.size, 0, none⟩ 2 2 [.int .i64 (r.ga q), .int .i64 (r.gb q)] (by rfl) (by rfl) (World.news_of_block (cs := #[.int .i64 (r.ga q), .int .i64 (r.gb q)]) (t := 3) (fr := (0, 0)) (Has.new' _ _ (by simp))) (by simp [Value.oneCell']) (by omega) (by simp only [maxLen]; omega) (by omega) (by have := hHr.lt; simp; omega) (wr.heap.size + 1) (by simp) ?_
          intro gg cap w8 hown' hgrow hat hlt8
          obtain ⟨vv, hvv⟩ : ∃ vv, vv = Value.slice (some ⟨gg, 0, none⟩) ((lst r.bd r.nb ++ lst r.cn r.nc ++ lst r.la r.nl ++ twos r.ga r.gb q).length + 2) cap := ⟨_, rfl⟩
          rw [← hvv] at hown' ⊢
          clear hvv
          have hgrow := grown_undrew hgrow
          have hH8 := app_has hHr hown hgrow (by omega)
          have hB8 := app_below hBr hBr.size (by omega) hown hgrow
          have hS8 : w8.cell? ⟨w.heap.size, 3, none⟩ = some (.slice (some a) r.na p.k3) ∧ w8.cell? ⟨(a.add (q * 3)).block, (a.add (q * 3)).off + 1, none⟩ = some (.int .i64 (r.ga q)) ∧ w8.cell? ⟨(a.add (q * 3)).block, (a.add (q * 3)).off + 2, none⟩ = some (.int .i64 (r.gb q)) := by
            obtain ⟨a', hA', hab2, hcs'⟩ := (hm.an.keep hB8) (by omega)
            rw [HA1.out] at hA'
            cases hA'
            have z := hH8.cell 3
            refine ⟨?_, (hcs' q hlt).2.1, (hcs' q hlt).2.2⟩
            rw [z, ← HA1.out]; rfl
          refine hK _ _ ⟨fun _ => hS8, ?_⟩
          refine wpT_one 15 (by kernel_rfl) (wpOp_go rfl rfl fun K hK => ?_)
          go_simp
          refine hK _ _ ⟨fun h => absurd h (by decide), ?_⟩
          refine wpT_done (by kernel_rfl) (NoPanic.normal ?_) _
          go_wp2
          go_roundw
          case rel => exact ⟨q + 1, by omega, by go_num, by rw [HX.out, il_app, show ((lst r.bd r.nb ++ lst r.cn r.nc ++ lst r.la r.nl ++ twos r.ga r.gb q) ++ [r.ga q, r.gb q]).length = (lst r.bd r.nb ++ lst r.cn r.nc ++ lst r.la r.nl ++ twos r.ga r.gb q).length + 2 from by rw [List.length_append]; rfl]; exact hown', app_has hHr hown hgrow (by omega), app_below hBr hBr.size (by omega) hown hgrow⟩
          case measure => simp [intOf]; omega
        · obtain rfl : q = r.na := by omega
          clear hq hlt
          have hown2 := hown
          obtain ⟨A, k, hv, _⟩ := own_list hown
          subst hv
          go_wp2
          go_ret
          exact ⟨_, rfl, own_base hown2 (by omega), hBr⟩
end Go.Proofs.YtkpjpokeonppbaaGreatDoor
