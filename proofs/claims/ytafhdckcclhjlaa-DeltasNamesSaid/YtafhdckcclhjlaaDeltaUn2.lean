/- The contract of deltas.Unpack. -/
import Derived.Test.YtafhdckcclhjlaaDeltaUn
namespace Go.Proofs.Ytafhdckcclhjlaa
open Go Go.RowKit
set_option linter.unusedVariables false
set_option linter.unusedSimpArgs false

theorem gt_bd {v : Int} (h0 : 1 ≤ v) (h1 : v ≤ 1000) (l : List UInt8) : 0 ≤ gtS v l ∧ gtS v l ≤ 10 := by
  have := g1S_le l
  unfold gtS
  split <;> omega

set_option maxRecDepth 100000 in
set_option maxHeartbeats 8000000 in
theorem dUnpack_yes {v : Int} {N : Nat} (A : Option Addr) (l : List UInt8) (k : Nat) (w : World) (h : Bya w w.heap.size A l k) (hl : l.length ≤ 100000) (hE : asd v N = 0) : Calls Try.prog 14 #[.int .i64 v, .int .i64 (N : Int), .slice A l.length k] w (GsErr v N l w) := by
  have hw := asd_ways v N
  have hv0 : 1 ≤ v := by omega
  have hv1 : v ≤ 1000 := by omega
  have hn1 : v + N ≤ 1001 := by omega
  clear hw
  have D := dVars_any (v := v) (n := N) (by unfold I64; omega) (by unfold I64; omega) w
  rw [hE] at D
  have D1 := Lib.hid D
  have H := Lib.hid h
  have HE := Lib.hid hE
  obtain ⟨L, hL⟩ : ∃ L, l.length = L := ⟨_, rfl⟩
  rw [hL] at hl ⊢
  have HL := Lib.hid hL
  clear D h hE hL
  go_enter Try.func14, Try.ntmps14
  go_wp2_with (go_at_call 25; (with_reducible refine D1.out.mono ?_); rintro e w1 ⟨rfl, rfl⟩)
  go_loopw [10, 11, 23] (fun u t i wr => ∃ q : Nat, q ≤ N ∧ i = .int .i64 (q : Int) ∧ t = .int .i64 (upT v l q : Int) ∧ Gso w.heap.size wr u q (upA v l) (upB v l) ∧ Below w.heap.size w wr ∧ upE v l q = 0) (fun _ _ i _ => N - (intOf i).toNat)
  case atStart => exact ⟨0, Nat.zero_le _, rfl, rfl, Gso.nil _ _ _ _, Below.refl _ _, rfl⟩
  case round =>
    obtain ⟨q, hq, rfl, rfl, hT, hBr, hR⟩ := hrel
    have HR := Lib.hid hR
    clear hR
    by_cases hlt : q < N
    · have hq1 : (q : Int) < (N : Int) := by omega
      have hq0 : (0 : Int) ≤ (q : Int) := by omega
      have HT := Lib.hid hT
      have hBs := hBr.size
      have hTl := upT_le v l q
      obtain ⟨T, hTT⟩ : ∃ T, upT v l q = T := ⟨_, rfl⟩
      obtain ⟨d, hd⟩ : ∃ d, l.drop T = d := ⟨_, rfl⟩
      obtain ⟨o, ho⟩ : ∃ o, v + (q : Int) = o := ⟨_, rfl⟩
      rw [hTT] at hTl ⊢
      obtain ⟨U, hU⟩ : ∃ U, wr.drew = U := ⟨_, rfl⟩
      have hBU : Below w.heap.size w U := hU ▸ d_drew hBr
      have HTU : Hid (Gso w.heap.size U u10 q (upA v l) (upB v l)) := hU ▸ HT
      obtain ⟨A', k', hs, hA'⟩ := (H.out.to hBU hBU.size).from T hTl.1
      rw [HL.out, hd] at hs
      rw [hd] at hA'
      obtain ⟨D, hD⟩ : ∃ D, d.length = D := ⟨_, rfl⟩
      have LO := Lib.hid (fun W => dLit_any (v := o) (by omega) (by omega) W)
      have RG : Hid (∀ W, Below U.heap.size U W → Calls Try.prog 27 #[.int .i64 (2 * o), .slice A' D k'] W fun e w' => e = .returned (.tuple #[.agg #[.int .i64 (gtA o d), .int .i64 (gtB o d)], .int .i64 (gtS o d), .int .i64 (g1E o d)]) ∧ Below W.heap.size W w') := Lib.hid fun W hW => by
        rw [← hD]
        exact dGate_any (by omega) (by omega) A' d k' W (hA'.to hW hW.size) (by rw [← hd, List.length_drop]; have := HL.out; omega)
      have hgb := gt_bd (v := o) (by omega) (by omega) d
      rw [hD] at hs
      have HG := Lib.hid (show g1E (v + q) (l.drop (upT v l q)) = g1E o d by rw [hTT, hd, ho])
      have HGA : Hid (g1E o d = 0 → upA v l q = gtA o d ∧ upB v l q = gtB o d ∧ (upT v l (q + 1) : Int) = (T : Int) + gtS o d) := Lib.hid fun e => by
        obtain ⟨y1, y2, y3⟩ := gt_yes e
        refine ⟨by rw [y1, upA, hTT, hd, ho], by rw [y2, upB, hTT, hd, ho], ?_⟩
        rw [upT, hTT, hd, y3]; omega
      obtain ⟨gA, hgA⟩ : ∃ x, gtA o d = x := ⟨_, rfl⟩
      obtain ⟨gB, hgB⟩ : ∃ x, gtB o d = x := ⟨_, rfl⟩
      obtain ⟨gS, hgS⟩ : ∃ x, gtS o d = x := ⟨_, rfl⟩
      obtain ⟨gE, hgE⟩ : ∃ x, g1E o d = x := ⟨_, rfl⟩
      rw [hgA, hgB, hgS, hgE] at RG HGA
      rw [hgS] at hgb
      rw [hgE] at HG
      have HTT := Lib.hid hTT
      have hTl1 := hTl.1
      rw [HL.out] at hTl1
      clear hT hTT hd hA' hD hgA hgB hgS hgE hTl
      have hvq : v + (q : Int) = o := ho
      have HO := Lib.hid ho
      go_wp2
      refine Go.Code.wp_mono (Q := fun e a' W' => e = .normal ∧ ∃ b, (Sz a' 51 ∧ Slot a' 0 (.int .i64 v) ∧ Slot a' 1 (.int .i64 (N : Int)) ∧ Slot a' 2 (.slice A L k) ∧ Slot a' 3 (undef) ∧ Slot a' 4 (undef) ∧ Slot a' 5 (undef) ∧ Slot a' 9 (.int .i64 0) ∧ Slot a' 10 (u10) ∧ Slot a' 11 (.int .i64 (T : Int)) ∧ Slot a' 12 (.int .i64 (q : Int)) ∧ Slot a' 13 (.pointer (some ⟨b, 0, none⟩)) ∧ Slot a' 14 (.int .i64 gS) ∧ Slot a' 15 (.int .i64 gE) ∧ Slot a' 16 (.int .i64 v) ∧ Slot a' 17 (.int .i64 (N : Int)) ∧ Slot a' 18 (.int .i64 0) ∧ Slot a' 19 (.int .i64 0) ∧ Slot a' 20 (.bool false) ∧ Slot a' 21 (undef) ∧ Slot a' 22 (.int .i64 (N : Int)) ∧ Slot a' 23 (.int .i64 (q : Int)) ∧ Slot a' 49 (undef) ∧ Slot a' 50 (undef)) ∧ Has W' b 29 #[.int .i64 gA, .int .i64 gB] ∧ Below U.heap.size U W') ?rest ?reg
      case reg =>
        refine wp_slots (fun f => Sz f 51 ∧ Slot f 0 (.int .i64 v) ∧ Slot f 1 (.int .i64 (N : Int)) ∧ Slot f 2 (.slice A L k) ∧ Slot f 3 (undef) ∧ Slot f 4 (undef) ∧ Slot f 5 (undef) ∧ Slot f 9 (.int .i64 0) ∧ Slot f 10 (u10) ∧ Slot f 11 (.int .i64 (T : Int)) ∧ Slot f 12 (.int .i64 (q : Int)) ∧ Slot f 16 (.int .i64 v) ∧ Slot f 17 (.int .i64 (N : Int)) ∧ Slot f 18 (.int .i64 0) ∧ Slot f 19 (.int .i64 0) ∧ Slot f 20 (.bool false) ∧ Slot f 21 (undef) ∧ Slot f 22 (.int .i64 (N : Int)) ∧ Slot f 23 (.int .i64 (q : Int)) ∧ Slot f 49 (undef) ∧ Slot f 50 (undef)) ⟨⟨rfl, rfl⟩, ⟨rfl⟩, ⟨rfl⟩, ⟨rfl⟩, ⟨rfl⟩, ⟨rfl⟩, ⟨rfl⟩, ⟨rfl⟩, ⟨rfl⟩, ⟨rfl⟩, ⟨rfl⟩, ⟨rfl⟩, ⟨rfl⟩, ⟨rfl⟩, ⟨rfl⟩, ⟨rfl⟩, ⟨rfl⟩, ⟨rfl⟩, ⟨rfl⟩, ⟨rfl⟩, ⟨rfl⟩⟩ fun a0 hA0 hR => ?_
        obtain ⟨hZ, hs0, hs1, hs2, hs3, hs4, hs5, hs9, hs10, hs11, hs12, hs16, hs17, hs18, hs19, hs20, hs21, hs22, hs23, hs49, hs50⟩ := hR
        clear hA0
        have hS0 : (fun _ : World => True) U := trivial
        refine wp_region_T' hU (fun _ => True) 16 (by kernel_rfl) ?_
        refine WT.h ?_
        (refine wt_move 0 0 rfl rfl (by kernel_rfl) (by kernel_rfl) (by kernel_rfl) (by kernel_rfl) (fun _ _ _ h => h) rfl hS0 (by (repeat (first | (refine slot_hit (N := 51) ?_ (by rfl); (repeat (refine sz_put ?_)); assumption; done) | (apply slot_miss; focus rfl))); all_goals assumption) rfl ?_); (refine wt_move 1 12 rfl rfl (by kernel_rfl) (by kernel_rfl) (by kernel_rfl) (by kernel_rfl) (fun _ _ _ h => h) rfl hS0 (by (repeat (first | (refine slot_hit (N := 51) ?_ (by rfl); (repeat (refine sz_put ?_)); assumption; done) | (apply slot_miss; focus rfl))); all_goals assumption) rfl ?_); (refine wt_take2 2 27 28 (v := ?_) rfl rfl (by kernel_rfl) (by kernel_rfl) (by kernel_rfl) (by kernel_rfl) (fun _ _ _ h => h) rfl hS0 (by (repeat (first | (refine slot_hit (N := 51) ?_ (by rfl); (repeat (refine sz_put ?_)); assumption; done) | (apply slot_miss; focus rfl))); all_goals assumption) (by (repeat (first | (refine slot_hit (N := 51) ?_ (by rfl); (repeat (refine sz_put ?_)); assumption; done) | (apply slot_miss; focus rfl))); all_goals assumption) (fun ev hk hv0 hv1 w hS => ?_) ?_; rotate_left; focus (go_simp; rfl)); (refine wt_move 4 2 rfl rfl (by kernel_rfl) (by kernel_rfl) (by kernel_rfl) (by kernel_rfl) (fun _ _ _ h => h) rfl hS0 (by (repeat (first | (refine slot_hit (N := 51) ?_ (by rfl); (repeat (refine sz_put ?_)); assumption; done) | (apply slot_miss; focus rfl))); all_goals assumption) rfl ?_); (refine wt_move 5 11 rfl rfl (by kernel_rfl) (by kernel_rfl) (by kernel_rfl) (by kernel_rfl) (fun _ _ _ h => h) rfl hS0 (by (repeat (first | (refine slot_hit (N := 51) ?_ (by rfl); (repeat (refine sz_put ?_)); assumption; done) | (apply slot_miss; focus rfl))); all_goals assumption) rfl ?_); (refine wt_take2 6 31 32 (v := ?_) rfl rfl (by kernel_rfl) (by kernel_rfl) (by kernel_rfl) (by kernel_rfl) (fun _ _ _ h => h) rfl hS0 (by (repeat (first | (refine slot_hit (N := 51) ?_ (by rfl); (repeat (refine sz_put ?_)); assumption; done) | (apply slot_miss; focus rfl))); all_goals assumption) (by (repeat (first | (refine slot_hit (N := 51) ?_ (by rfl); (repeat (refine sz_put ?_)); assumption; done) | (apply slot_miss; focus rfl))); all_goals assumption) (fun ev hk hv0 hv1 w hS => ?_) ?_; rotate_left; focus (go_simp; rfl))
        refine dy_ways2 3 12 (by kernel_rfl) ?_ ?_
        · refine dy_call 3 29 rfl rfl rfl (by (repeat (first | (refine slot_hit (N := 51) ?_ (by rfl); (repeat (refine sz_put ?_)); assumption; done) | (apply slot_miss; focus rfl))); all_goals assumption) (f := ?_) (args := ?_) (fun ev hk hkf hv0 => ?_) ?_
          rotate_left 2
          focus (go_simp; first | rfl | (constructor <;> rfl))
          rw [wrap_in (x := o) (by omega) (by omega)]
          (with_reducible refine (LO.out _).mono ?_)
          rintro e V0 ⟨rfl, rfl⟩
          refine ⟨_, rfl, fun _ => trivial, ?_⟩
          refine dy_ways2 7 12 (by kernel_rfl) ?_ ?_
          · refine dy_call2 7 30 33 rfl rfl rfl (by (repeat (first | (refine slot_hit (N := 51) ?_ (by rfl); (repeat (refine sz_put ?_)); assumption; done) | (apply slot_miss; focus rfl))); all_goals assumption) (by (repeat (first | (refine slot_hit (N := 51) ?_ (by rfl); (repeat (refine sz_put ?_)); assumption; done) | (apply slot_miss; focus rfl))); all_goals assumption) (f := ?_) (args := ?_) (fun ev hk hkf hv0 hv1 => ?_) ?_
            rotate_left 2
            focus (go_simp; first | rfl | (constructor <;> rfl))
            (with_reducible refine (RG.out _ (Below.refl _ _)).mono ?_)
            rintro e V2 ⟨rfl, hb2⟩
            refine ⟨_, rfl, fun _ => trivial, ?_⟩
            have hS0 : (fun _ : World => True) V2 := trivial
            (refine wt_move 8 34 rfl rfl (by kernel_rfl) (by kernel_rfl) (by kernel_rfl) (by kernel_rfl) (fun _ _ _ h => h) rfl hS0 (by (repeat (first | (refine slot_hit (N := 51) ?_ (by rfl); (repeat (refine sz_put ?_)); assumption; done) | (apply slot_miss; focus rfl))); all_goals assumption) rfl ?_); (refine wt_take1 9 26 (v := ?_) rfl rfl (by kernel_rfl) (by kernel_rfl) (by kernel_rfl) (by kernel_rfl) (fun _ _ _ h => h) rfl hS0 (by (repeat (first | (refine slot_hit (N := 51) ?_ (by rfl); (repeat (refine sz_put ?_)); assumption; done) | (apply slot_miss; focus rfl))); all_goals assumption) (fun ev hk hv0 w hS => ?_) ?_; rotate_left; focus (go_simp; rfl)); (refine wt_take1 10 26 (v := ?_) rfl rfl (by kernel_rfl) (by kernel_rfl) (by kernel_rfl) (by kernel_rfl) (fun _ _ _ h => h) rfl hS0 (by (repeat (first | (refine slot_hit (N := 51) ?_ (by rfl); (repeat (refine sz_put ?_)); assumption; done) | (apply slot_miss; focus rfl))); all_goals assumption) (fun ev hk hv0 w hS => ?_) ?_; rotate_left; focus (go_simp; rfl)); (refine wt_take1 11 26 (v := ?_) rfl rfl (by kernel_rfl) (by kernel_rfl) (by kernel_rfl) (by kernel_rfl) (fun _ _ _ h => h) rfl hS0 (by (repeat (first | (refine slot_hit (N := 51) ?_ (by rfl); (repeat (refine sz_put ?_)); assumption; done) | (apply slot_miss; focus rfl))); all_goals assumption) (fun ev hk hv0 w hS => ?_) ?_; rotate_left; focus (go_simp; rfl))
            refine wt_one 12 (by kernel_rfl) ?_
            refine dy_val 12 rfl rfl rfl (v := ?_) (w' := ?_) (fun ev hk => ?_) ?_
            rotate_left 2
            focus (go_simp; first | rfl | (constructor <;> rfl))
            intro V9 hV9
            have hZ9 : Has V9 V2.heap.size 29 #[.int .i64 0, .int .i64 0] := hV9 ▸ Has.new _ _ _
            have hB9 : Below U.heap.size U V9 := hV9 ▸ hb2.alloc hb2.size _
            have hblk : U.heap.size ≤ V2.heap.size := hb2.size
            clear hV9
            refine ⟨fun _ => trivial, ?_⟩
            have f0 := hZ9.fz 0
            have f1 := hZ9.fz 1
            have z0 := hZ9.cell 0
            have z1 := hZ9.cell 1
            have hS0 : (fun _ : World => True) V9 := trivial
            refine wt_one 13 (by kernel_rfl) ?_
            refine dy_act2 13 13 35 rfl rfl rfl (by (repeat (first | (refine slot_hit (N := 51) ?_ (by rfl); (repeat (refine sz_put ?_)); assumption; done) | (apply slot_miss; focus rfl))); all_goals assumption) (by (repeat (first | (refine slot_hit (N := 51) ?_ (by rfl); (repeat (refine sz_put ?_)); assumption; done) | (apply slot_miss; focus rfl))); all_goals assumption) (w' := ?_) (fun ev hk hv0 hv1 => ?_) ?_
            rotate_left
            focus (go_simp; rfl)
            intro V4 hV4
            have hH : Has V4 V2.heap.size 29 #[.int .i64 gA, .int .i64 gB] := hV4 ▸ (hZ9.set 0 _).set 1 _
            have hBH : Below U.heap.size U V4 := hV4 ▸ (hB9.setCell hblk _).setCell hblk _
            clear hV4 z0 z1 f0 f1 hZ9 hB9
            refine ⟨fun _ => trivial, ?_⟩
            have hS0 : (fun _ : World => True) V4 := trivial
            (refine wt_assign 14 36 rfl rfl (by kernel_rfl) (by kernel_rfl) (by kernel_rfl) (by kernel_rfl) (fun _ _ _ h => h) rfl hS0 (by (repeat (first | (refine slot_hit (N := 51) ?_ (by rfl); (repeat (refine sz_put ?_)); assumption; done) | (apply slot_miss; focus rfl))); all_goals assumption) rfl ?_); (refine wt_assign 15 37 rfl rfl (by kernel_rfl) (by kernel_rfl) (by kernel_rfl) (by kernel_rfl) (fun _ _ _ h => h) rfl hS0 (by (repeat (first | (refine slot_hit (N := 51) ?_ (by rfl); (repeat (refine sz_put ?_)); assumption; done) | (apply slot_miss; focus rfl))); all_goals assumption) rfl ?_)
            refine wt_done (by kernel_rfl) (NoPanic.normal ⟨rfl, _, ⟨?_, ?_, ?_, ?_, ?_, ?_, ?_, ?_, ?_, ?_, ?_, ?_, ?_, ?_, ?_, ?_, ?_, ?_, ?_, ?_, ?_, ?_, ?_, ?_⟩, hH, hBH⟩) _
            · (repeat (refine sz_put ?_)); assumption
            · exact (by (repeat (first | (refine slot_hit (N := 51) ?_ (by rfl); (repeat (refine sz_put ?_)); assumption; done) | (apply slot_miss; focus rfl))); all_goals assumption)
            · exact (by (repeat (first | (refine slot_hit (N := 51) ?_ (by rfl); (repeat (refine sz_put ?_)); assumption; done) | (apply slot_miss; focus rfl))); all_goals assumption)
            · exact (by (repeat (first | (refine slot_hit (N := 51) ?_ (by rfl); (repeat (refine sz_put ?_)); assumption; done) | (apply slot_miss; focus rfl))); all_goals assumption)
            · exact (by (repeat (first | (refine slot_hit (N := 51) ?_ (by rfl); (repeat (refine sz_put ?_)); assumption; done) | (apply slot_miss; focus rfl))); all_goals assumption)
            · exact (by (repeat (first | (refine slot_hit (N := 51) ?_ (by rfl); (repeat (refine sz_put ?_)); assumption; done) | (apply slot_miss; focus rfl))); all_goals assumption)
            · exact (by (repeat (first | (refine slot_hit (N := 51) ?_ (by rfl); (repeat (refine sz_put ?_)); assumption; done) | (apply slot_miss; focus rfl))); all_goals assumption)
            · exact (by (repeat (first | (refine slot_hit (N := 51) ?_ (by rfl); (repeat (refine sz_put ?_)); assumption; done) | (apply slot_miss; focus rfl))); all_goals assumption)
            · exact (by (repeat (first | (refine slot_hit (N := 51) ?_ (by rfl); (repeat (refine sz_put ?_)); assumption; done) | (apply slot_miss; focus rfl))); all_goals assumption)
            · exact (by (repeat (first | (refine slot_hit (N := 51) ?_ (by rfl); (repeat (refine sz_put ?_)); assumption; done) | (apply slot_miss; focus rfl))); all_goals assumption)
            · exact (by (repeat (first | (refine slot_hit (N := 51) ?_ (by rfl); (repeat (refine sz_put ?_)); assumption; done) | (apply slot_miss; focus rfl))); all_goals assumption)
            · exact (by (repeat (first | (refine slot_hit (N := 51) ?_ (by rfl); (repeat (refine sz_put ?_)); assumption; done) | (apply slot_miss; focus rfl))); all_goals assumption)
            · exact (by (repeat (first | (refine slot_hit (N := 51) ?_ (by rfl); (repeat (refine sz_put ?_)); assumption; done) | (apply slot_miss; focus rfl))); all_goals assumption)
            · exact (by (repeat (first | (refine slot_hit (N := 51) ?_ (by rfl); (repeat (refine sz_put ?_)); assumption; done) | (apply slot_miss; focus rfl))); all_goals assumption)
            · exact (by (repeat (first | (refine slot_hit (N := 51) ?_ (by rfl); (repeat (refine sz_put ?_)); assumption; done) | (apply slot_miss; focus rfl))); all_goals assumption)
            · exact (by (repeat (first | (refine slot_hit (N := 51) ?_ (by rfl); (repeat (refine sz_put ?_)); assumption; done) | (apply slot_miss; focus rfl))); all_goals assumption)
            · exact (by (repeat (first | (refine slot_hit (N := 51) ?_ (by rfl); (repeat (refine sz_put ?_)); assumption; done) | (apply slot_miss; focus rfl))); all_goals assumption)
            · exact (by (repeat (first | (refine slot_hit (N := 51) ?_ (by rfl); (repeat (refine sz_put ?_)); assumption; done) | (apply slot_miss; focus rfl))); all_goals assumption)
            · exact (by (repeat (first | (refine slot_hit (N := 51) ?_ (by rfl); (repeat (refine sz_put ?_)); assumption; done) | (apply slot_miss; focus rfl))); all_goals assumption)
            · exact (by (repeat (first | (refine slot_hit (N := 51) ?_ (by rfl); (repeat (refine sz_put ?_)); assumption; done) | (apply slot_miss; focus rfl))); all_goals assumption)
            · exact (by (repeat (first | (refine slot_hit (N := 51) ?_ (by rfl); (repeat (refine sz_put ?_)); assumption; done) | (apply slot_miss; focus rfl))); all_goals assumption)
            · exact (by (repeat (first | (refine slot_hit (N := 51) ?_ (by rfl); (repeat (refine sz_put ?_)); assumption; done) | (apply slot_miss; focus rfl))); all_goals assumption)
            · exact (by (repeat (first | (refine slot_hit (N := 51) ?_ (by rfl); (repeat (refine sz_put ?_)); assumption; done) | (apply slot_miss; focus rfl))); all_goals assumption)
            · exact (by (repeat (first | (refine slot_hit (N := 51) ?_ (by rfl); (repeat (refine sz_put ?_)); assumption; done) | (apply slot_miss; focus rfl))); all_goals assumption)
          · refine dy_val 12 rfl rfl rfl (v := ?_) (w' := ?_) (fun ev hk => ?_) ?_
            rotate_left 2
            focus (go_simp; first | rfl | (constructor <;> rfl))
            intro V8 hV8
            have hZ8 : Has V8 U.heap.size 29 #[.int .i64 0, .int .i64 0] := hV8 ▸ Has.new _ _ _
            have hB8 : Below U.heap.size U V8 := hV8 ▸ (Below.refl _ _).alloc (Nat.le_refl _) _
            have hblk : U.heap.size ≤ U.heap.size := Nat.le_refl _
            clear hV8
            refine ⟨fun _ => trivial, ?_⟩
            refine wt_one 7 (by kernel_rfl) ?_
            refine dy_call2 7 30 33 rfl rfl rfl (by (repeat (first | (refine slot_hit (N := 51) ?_ (by rfl); (repeat (refine sz_put ?_)); assumption; done) | (apply slot_miss; focus rfl))); all_goals assumption) (by (repeat (first | (refine slot_hit (N := 51) ?_ (by rfl); (repeat (refine sz_put ?_)); assumption; done) | (apply slot_miss; focus rfl))); all_goals assumption) (f := ?_) (args := ?_) (fun ev hk hkf hv0 hv1 => ?_) ?_
            rotate_left 2
            focus (go_simp; first | rfl | (constructor <;> rfl))
            (with_reducible refine (RG.out _ hB8).mono ?_)
            rintro e V9 ⟨rfl, hb9⟩
            refine ⟨_, rfl, fun _ => trivial, ?_⟩
            have hS0 : (fun _ : World => True) V9 := trivial
            (refine wt_move 8 34 rfl rfl (by kernel_rfl) (by kernel_rfl) (by kernel_rfl) (by kernel_rfl) (fun _ _ _ h => h) rfl hS0 (by (repeat (first | (refine slot_hit (N := 51) ?_ (by rfl); (repeat (refine sz_put ?_)); assumption; done) | (apply slot_miss; focus rfl))); all_goals assumption) rfl ?_); (refine wt_take1 9 26 (v := ?_) rfl rfl (by kernel_rfl) (by kernel_rfl) (by kernel_rfl) (by kernel_rfl) (fun _ _ _ h => h) rfl hS0 (by (repeat (first | (refine slot_hit (N := 51) ?_ (by rfl); (repeat (refine sz_put ?_)); assumption; done) | (apply slot_miss; focus rfl))); all_goals assumption) (fun ev hk hv0 w hS => ?_) ?_; rotate_left; focus (go_simp; rfl)); (refine wt_take1 10 26 (v := ?_) rfl rfl (by kernel_rfl) (by kernel_rfl) (by kernel_rfl) (by kernel_rfl) (fun _ _ _ h => h) rfl hS0 (by (repeat (first | (refine slot_hit (N := 51) ?_ (by rfl); (repeat (refine sz_put ?_)); assumption; done) | (apply slot_miss; focus rfl))); all_goals assumption) (fun ev hk hv0 w hS => ?_) ?_; rotate_left; focus (go_simp; rfl)); (refine wt_take1 11 26 (v := ?_) rfl rfl (by kernel_rfl) (by kernel_rfl) (by kernel_rfl) (by kernel_rfl) (fun _ _ _ h => h) rfl hS0 (by (repeat (first | (refine slot_hit (N := 51) ?_ (by rfl); (repeat (refine sz_put ?_)); assumption; done) | (apply slot_miss; focus rfl))); all_goals assumption) (fun ev hk hv0 w hS => ?_) ?_; rotate_left; focus (go_simp; rfl))
            have hZ9 := hZ8.keep hb9 hZ8.lt
            have hB9 : Below U.heap.size U V9 := Below.step hB8 hB8.size hb9
            clear hZ8 hB8
            have f0 := hZ9.fz 0
            have f1 := hZ9.fz 1
            have z0 := hZ9.cell 0
            have z1 := hZ9.cell 1
            have hS0 : (fun _ : World => True) V9 := trivial
            refine wt_one 13 (by kernel_rfl) ?_
            refine dy_act2 13 13 35 rfl rfl rfl (by (repeat (first | (refine slot_hit (N := 51) ?_ (by rfl); (repeat (refine sz_put ?_)); assumption; done) | (apply slot_miss; focus rfl))); all_goals assumption) (by (repeat (first | (refine slot_hit (N := 51) ?_ (by rfl); (repeat (refine sz_put ?_)); assumption; done) | (apply slot_miss; focus rfl))); all_goals assumption) (w' := ?_) (fun ev hk hv0 hv1 => ?_) ?_
            rotate_left
            focus (go_simp; rfl)
            intro V4 hV4
            have hH : Has V4 U.heap.size 29 #[.int .i64 gA, .int .i64 gB] := hV4 ▸ (hZ9.set 0 _).set 1 _
            have hBH : Below U.heap.size U V4 := hV4 ▸ (hB9.setCell hblk _).setCell hblk _
            clear hV4 z0 z1 f0 f1 hZ9 hB9
            refine ⟨fun _ => trivial, ?_⟩
            have hS0 : (fun _ : World => True) V4 := trivial
            (refine wt_assign 14 36 rfl rfl (by kernel_rfl) (by kernel_rfl) (by kernel_rfl) (by kernel_rfl) (fun _ _ _ h => h) rfl hS0 (by (repeat (first | (refine slot_hit (N := 51) ?_ (by rfl); (repeat (refine sz_put ?_)); assumption; done) | (apply slot_miss; focus rfl))); all_goals assumption) rfl ?_); (refine wt_assign 15 37 rfl rfl (by kernel_rfl) (by kernel_rfl) (by kernel_rfl) (by kernel_rfl) (fun _ _ _ h => h) rfl hS0 (by (repeat (first | (refine slot_hit (N := 51) ?_ (by rfl); (repeat (refine sz_put ?_)); assumption; done) | (apply slot_miss; focus rfl))); all_goals assumption) rfl ?_)
            refine wt_done (by kernel_rfl) (NoPanic.normal ⟨rfl, _, ⟨?_, ?_, ?_, ?_, ?_, ?_, ?_, ?_, ?_, ?_, ?_, ?_, ?_, ?_, ?_, ?_, ?_, ?_, ?_, ?_, ?_, ?_, ?_, ?_⟩, hH, hBH⟩) _
            · (repeat (refine sz_put ?_)); assumption
            · exact (by (repeat (first | (refine slot_hit (N := 51) ?_ (by rfl); (repeat (refine sz_put ?_)); assumption; done) | (apply slot_miss; focus rfl))); all_goals assumption)
            · exact (by (repeat (first | (refine slot_hit (N := 51) ?_ (by rfl); (repeat (refine sz_put ?_)); assumption; done) | (apply slot_miss; focus rfl))); all_goals assumption)
            · exact (by (repeat (first | (refine slot_hit (N := 51) ?_ (by rfl); (repeat (refine sz_put ?_)); assumption; done) | (apply slot_miss; focus rfl))); all_goals assumption)
            · exact (by (repeat (first | (refine slot_hit (N := 51) ?_ (by rfl); (repeat (refine sz_put ?_)); assumption; done) | (apply slot_miss; focus rfl))); all_goals assumption)
            · exact (by (repeat (first | (refine slot_hit (N := 51) ?_ (by rfl); (repeat (refine sz_put ?_)); assumption; done) | (apply slot_miss; focus rfl))); all_goals assumption)
            · exact (by (repeat (first | (refine slot_hit (N := 51) ?_ (by rfl); (repeat (refine sz_put ?_)); assumption; done) | (apply slot_miss; focus rfl))); all_goals assumption)
            · exact (by (repeat (first | (refine slot_hit (N := 51) ?_ (by rfl); (repeat (refine sz_put ?_)); assumption; done) | (apply slot_miss; focus rfl))); all_goals assumption)
            · exact (by (repeat (first | (refine slot_hit (N := 51) ?_ (by rfl); (repeat (refine sz_put ?_)); assumption; done) | (apply slot_miss; focus rfl))); all_goals assumption)
            · exact (by (repeat (first | (refine slot_hit (N := 51) ?_ (by rfl); (repeat (refine sz_put ?_)); assumption; done) | (apply slot_miss; focus rfl))); all_goals assumption)
            · exact (by (repeat (first | (refine slot_hit (N := 51) ?_ (by rfl); (repeat (refine sz_put ?_)); assumption; done) | (apply slot_miss; focus rfl))); all_goals assumption)
            · exact (by (repeat (first | (refine slot_hit (N := 51) ?_ (by rfl); (repeat (refine sz_put ?_)); assumption; done) | (apply slot_miss; focus rfl))); all_goals assumption)
            · exact (by (repeat (first | (refine slot_hit (N := 51) ?_ (by rfl); (repeat (refine sz_put ?_)); assumption; done) | (apply slot_miss; focus rfl))); all_goals assumption)
            · exact (by (repeat (first | (refine slot_hit (N := 51) ?_ (by rfl); (repeat (refine sz_put ?_)); assumption; done) | (apply slot_miss; focus rfl))); all_goals assumption)
            · exact (by (repeat (first | (refine slot_hit (N := 51) ?_ (by rfl); (repeat (refine sz_put ?_)); assumption; done) | (apply slot_miss; focus rfl))); all_goals assumption)
            · exact (by (repeat (first | (refine slot_hit (N := 51) ?_ (by rfl); (repeat (refine sz_put ?_)); assumption; done) | (apply slot_miss; focus rfl))); all_goals assumption)
            · exact (by (repeat (first | (refine slot_hit (N := 51) ?_ (by rfl); (repeat (refine sz_put ?_)); assumption; done) | (apply slot_miss; focus rfl))); all_goals assumption)
            · exact (by (repeat (first | (refine slot_hit (N := 51) ?_ (by rfl); (repeat (refine sz_put ?_)); assumption; done) | (apply slot_miss; focus rfl))); all_goals assumption)
            · exact (by (repeat (first | (refine slot_hit (N := 51) ?_ (by rfl); (repeat (refine sz_put ?_)); assumption; done) | (apply slot_miss; focus rfl))); all_goals assumption)
            · exact (by (repeat (first | (refine slot_hit (N := 51) ?_ (by rfl); (repeat (refine sz_put ?_)); assumption; done) | (apply slot_miss; focus rfl))); all_goals assumption)
            · exact (by (repeat (first | (refine slot_hit (N := 51) ?_ (by rfl); (repeat (refine sz_put ?_)); assumption; done) | (apply slot_miss; focus rfl))); all_goals assumption)
            · exact (by (repeat (first | (refine slot_hit (N := 51) ?_ (by rfl); (repeat (refine sz_put ?_)); assumption; done) | (apply slot_miss; focus rfl))); all_goals assumption)
            · exact (by (repeat (first | (refine slot_hit (N := 51) ?_ (by rfl); (repeat (refine sz_put ?_)); assumption; done) | (apply slot_miss; focus rfl))); all_goals assumption)
            · exact (by (repeat (first | (refine slot_hit (N := 51) ?_ (by rfl); (repeat (refine sz_put ?_)); assumption; done) | (apply slot_miss; focus rfl))); all_goals assumption)
        · refine dy_val 12 rfl rfl rfl (v := ?_) (w' := ?_) (fun ev hk => ?_) ?_
          rotate_left 2
          focus (go_simp; first | rfl | (constructor <;> rfl))
          intro V8 hV8
          have hZ8 : Has V8 U.heap.size 29 #[.int .i64 0, .int .i64 0] := hV8 ▸ Has.new _ _ _
          have hB8 : Below U.heap.size U V8 := hV8 ▸ (Below.refl _ _).alloc (Nat.le_refl _) _
          have hblk : U.heap.size ≤ U.heap.size := Nat.le_refl _
          clear hV8
          refine ⟨fun _ => trivial, ?_⟩
          refine wt_one 3 (by kernel_rfl) ?_
          refine dy_call 3 29 rfl rfl rfl (by (repeat (first | (refine slot_hit (N := 51) ?_ (by rfl); (repeat (refine sz_put ?_)); assumption; done) | (apply slot_miss; focus rfl))); all_goals assumption) (f := ?_) (args := ?_) (fun ev hk hkf hv0 => ?_) ?_
          rotate_left 2
          focus (go_simp; first | rfl | (constructor <;> rfl))
          rw [wrap_in (x := o) (by omega) (by omega)]
          (with_reducible refine (LO.out _).mono ?_)
          rintro e V0 ⟨rfl, rfl⟩
          refine ⟨_, rfl, fun _ => trivial, ?_⟩
          refine wt_one 7 (by kernel_rfl) ?_
          refine dy_call2 7 30 33 rfl rfl rfl (by (repeat (first | (refine slot_hit (N := 51) ?_ (by rfl); (repeat (refine sz_put ?_)); assumption; done) | (apply slot_miss; focus rfl))); all_goals assumption) (by (repeat (first | (refine slot_hit (N := 51) ?_ (by rfl); (repeat (refine sz_put ?_)); assumption; done) | (apply slot_miss; focus rfl))); all_goals assumption) (f := ?_) (args := ?_) (fun ev hk hkf hv0 hv1 => ?_) ?_
          rotate_left 2
          focus (go_simp; first | rfl | (constructor <;> rfl))
          (with_reducible refine (RG.out _ hB8).mono ?_)
          rintro e V9 ⟨rfl, hb9⟩
          refine ⟨_, rfl, fun _ => trivial, ?_⟩
          have hS0 : (fun _ : World => True) V9 := trivial
          (refine wt_move 8 34 rfl rfl (by kernel_rfl) (by kernel_rfl) (by kernel_rfl) (by kernel_rfl) (fun _ _ _ h => h) rfl hS0 (by (repeat (first | (refine slot_hit (N := 51) ?_ (by rfl); (repeat (refine sz_put ?_)); assumption; done) | (apply slot_miss; focus rfl))); all_goals assumption) rfl ?_); (refine wt_take1 9 26 (v := ?_) rfl rfl (by kernel_rfl) (by kernel_rfl) (by kernel_rfl) (by kernel_rfl) (fun _ _ _ h => h) rfl hS0 (by (repeat (first | (refine slot_hit (N := 51) ?_ (by rfl); (repeat (refine sz_put ?_)); assumption; done) | (apply slot_miss; focus rfl))); all_goals assumption) (fun ev hk hv0 w hS => ?_) ?_; rotate_left; focus (go_simp; rfl)); (refine wt_take1 10 26 (v := ?_) rfl rfl (by kernel_rfl) (by kernel_rfl) (by kernel_rfl) (by kernel_rfl) (fun _ _ _ h => h) rfl hS0 (by (repeat (first | (refine slot_hit (N := 51) ?_ (by rfl); (repeat (refine sz_put ?_)); assumption; done) | (apply slot_miss; focus rfl))); all_goals assumption) (fun ev hk hv0 w hS => ?_) ?_; rotate_left; focus (go_simp; rfl)); (refine wt_take1 11 26 (v := ?_) rfl rfl (by kernel_rfl) (by kernel_rfl) (by kernel_rfl) (by kernel_rfl) (fun _ _ _ h => h) rfl hS0 (by (repeat (first | (refine slot_hit (N := 51) ?_ (by rfl); (repeat (refine sz_put ?_)); assumption; done) | (apply slot_miss; focus rfl))); all_goals assumption) (fun ev hk hv0 w hS => ?_) ?_; rotate_left; focus (go_simp; rfl))
          have hZ9 := hZ8.keep hb9 hZ8.lt
          have hB9 : Below U.heap.size U V9 := Below.step hB8 hB8.size hb9
          clear hZ8 hB8
          have f0 := hZ9.fz 0
          have f1 := hZ9.fz 1
          have z0 := hZ9.cell 0
          have z1 := hZ9.cell 1
          have hS0 : (fun _ : World => True) V9 := trivial
          refine wt_one 13 (by kernel_rfl) ?_
          refine dy_act2 13 13 35 rfl rfl rfl (by (repeat (first | (refine slot_hit (N := 51) ?_ (by rfl); (repeat (refine sz_put ?_)); assumption; done) | (apply slot_miss; focus rfl))); all_goals assumption) (by (repeat (first | (refine slot_hit (N := 51) ?_ (by rfl); (repeat (refine sz_put ?_)); assumption; done) | (apply slot_miss; focus rfl))); all_goals assumption) (w' := ?_) (fun ev hk hv0 hv1 => ?_) ?_
          rotate_left
          focus (go_simp; rfl)
          intro V4 hV4
          have hH : Has V4 U.heap.size 29 #[.int .i64 gA, .int .i64 gB] := hV4 ▸ (hZ9.set 0 _).set 1 _
          have hBH : Below U.heap.size U V4 := hV4 ▸ (hB9.setCell hblk _).setCell hblk _
          clear hV4 z0 z1 f0 f1 hZ9 hB9
          refine ⟨fun _ => trivial, ?_⟩
          have hS0 : (fun _ : World => True) V4 := trivial
          (refine wt_assign 14 36 rfl rfl (by kernel_rfl) (by kernel_rfl) (by kernel_rfl) (by kernel_rfl) (fun _ _ _ h => h) rfl hS0 (by (repeat (first | (refine slot_hit (N := 51) ?_ (by rfl); (repeat (refine sz_put ?_)); assumption; done) | (apply slot_miss; focus rfl))); all_goals assumption) rfl ?_); (refine wt_assign 15 37 rfl rfl (by kernel_rfl) (by kernel_rfl) (by kernel_rfl) (by kernel_rfl) (fun _ _ _ h => h) rfl hS0 (by (repeat (first | (refine slot_hit (N := 51) ?_ (by rfl); (repeat (refine sz_put ?_)); assumption; done) | (apply slot_miss; focus rfl))); all_goals assumption) rfl ?_)
          refine wt_done (by kernel_rfl) (NoPanic.normal ⟨rfl, _, ⟨?_, ?_, ?_, ?_, ?_, ?_, ?_, ?_, ?_, ?_, ?_, ?_, ?_, ?_, ?_, ?_, ?_, ?_, ?_, ?_, ?_, ?_, ?_, ?_⟩, hH, hBH⟩) _
          · (repeat (refine sz_put ?_)); assumption
          · exact (by (repeat (first | (refine slot_hit (N := 51) ?_ (by rfl); (repeat (refine sz_put ?_)); assumption; done) | (apply slot_miss; focus rfl))); all_goals assumption)
          · exact (by (repeat (first | (refine slot_hit (N := 51) ?_ (by rfl); (repeat (refine sz_put ?_)); assumption; done) | (apply slot_miss; focus rfl))); all_goals assumption)
          · exact (by (repeat (first | (refine slot_hit (N := 51) ?_ (by rfl); (repeat (refine sz_put ?_)); assumption; done) | (apply slot_miss; focus rfl))); all_goals assumption)
          · exact (by (repeat (first | (refine slot_hit (N := 51) ?_ (by rfl); (repeat (refine sz_put ?_)); assumption; done) | (apply slot_miss; focus rfl))); all_goals assumption)
          · exact (by (repeat (first | (refine slot_hit (N := 51) ?_ (by rfl); (repeat (refine sz_put ?_)); assumption; done) | (apply slot_miss; focus rfl))); all_goals assumption)
          · exact (by (repeat (first | (refine slot_hit (N := 51) ?_ (by rfl); (repeat (refine sz_put ?_)); assumption; done) | (apply slot_miss; focus rfl))); all_goals assumption)
          · exact (by (repeat (first | (refine slot_hit (N := 51) ?_ (by rfl); (repeat (refine sz_put ?_)); assumption; done) | (apply slot_miss; focus rfl))); all_goals assumption)
          · exact (by (repeat (first | (refine slot_hit (N := 51) ?_ (by rfl); (repeat (refine sz_put ?_)); assumption; done) | (apply slot_miss; focus rfl))); all_goals assumption)
          · exact (by (repeat (first | (refine slot_hit (N := 51) ?_ (by rfl); (repeat (refine sz_put ?_)); assumption; done) | (apply slot_miss; focus rfl))); all_goals assumption)
          · exact (by (repeat (first | (refine slot_hit (N := 51) ?_ (by rfl); (repeat (refine sz_put ?_)); assumption; done) | (apply slot_miss; focus rfl))); all_goals assumption)
          · exact (by (repeat (first | (refine slot_hit (N := 51) ?_ (by rfl); (repeat (refine sz_put ?_)); assumption; done) | (apply slot_miss; focus rfl))); all_goals assumption)
          · exact (by (repeat (first | (refine slot_hit (N := 51) ?_ (by rfl); (repeat (refine sz_put ?_)); assumption; done) | (apply slot_miss; focus rfl))); all_goals assumption)
          · exact (by (repeat (first | (refine slot_hit (N := 51) ?_ (by rfl); (repeat (refine sz_put ?_)); assumption; done) | (apply slot_miss; focus rfl))); all_goals assumption)
          · exact (by (repeat (first | (refine slot_hit (N := 51) ?_ (by rfl); (repeat (refine sz_put ?_)); assumption; done) | (apply slot_miss; focus rfl))); all_goals assumption)
          · exact (by (repeat (first | (refine slot_hit (N := 51) ?_ (by rfl); (repeat (refine sz_put ?_)); assumption; done) | (apply slot_miss; focus rfl))); all_goals assumption)
          · exact (by (repeat (first | (refine slot_hit (N := 51) ?_ (by rfl); (repeat (refine sz_put ?_)); assumption; done) | (apply slot_miss; focus rfl))); all_goals assumption)
          · exact (by (repeat (first | (refine slot_hit (N := 51) ?_ (by rfl); (repeat (refine sz_put ?_)); assumption; done) | (apply slot_miss; focus rfl))); all_goals assumption)
          · exact (by (repeat (first | (refine slot_hit (N := 51) ?_ (by rfl); (repeat (refine sz_put ?_)); assumption; done) | (apply slot_miss; focus rfl))); all_goals assumption)
          · exact (by (repeat (first | (refine slot_hit (N := 51) ?_ (by rfl); (repeat (refine sz_put ?_)); assumption; done) | (apply slot_miss; focus rfl))); all_goals assumption)
          · exact (by (repeat (first | (refine slot_hit (N := 51) ?_ (by rfl); (repeat (refine sz_put ?_)); assumption; done) | (apply slot_miss; focus rfl))); all_goals assumption)
          · exact (by (repeat (first | (refine slot_hit (N := 51) ?_ (by rfl); (repeat (refine sz_put ?_)); assumption; done) | (apply slot_miss; focus rfl))); all_goals assumption)
          · exact (by (repeat (first | (refine slot_hit (N := 51) ?_ (by rfl); (repeat (refine sz_put ?_)); assumption; done) | (apply slot_miss; focus rfl))); all_goals assumption)
          · exact (by (repeat (first | (refine slot_hit (N := 51) ?_ (by rfl); (repeat (refine sz_put ?_)); assumption; done) | (apply slot_miss; focus rfl))); all_goals assumption)
      case rest =>
        rintro e a' W3 ⟨rfl, b, ⟨hZ, hs0, hs1, hs2, hs3, hs4, hs5, hs9, hs10, hs11, hs12, hs13, hs14, hs15, hs16, hs17, hs18, hs19, hs20, hs21, hs22, hs23, hs49, hs50⟩, hH3, hB3⟩
        refine q_known hZ [(0, (.int .i64 v)), (1, (.int .i64 (N : Int))), (2, (.slice A L k)), (3, (undef)), (4, (undef)), (5, (undef)), (9, (.int .i64 0)), (10, (u10)), (11, (.int .i64 (T : Int))), (12, (.int .i64 (q : Int))), (13, (.pointer (some ⟨b, 0, none⟩))), (14, (.int .i64 gS)), (15, (.int .i64 gE)), (16, (.int .i64 v)), (17, (.int .i64 (N : Int))), (18, (.int .i64 0)), (19, (.int .i64 0)), (20, (.bool false)), (21, (undef)), (22, (.int .i64 (N : Int))), (23, (.int .i64 (q : Int))), (49, (undef)), (50, (undef))] ⟨hs0, hs1, hs2, hs3, hs4, hs5, hs9, hs10, hs11, hs12, hs13, hs14, hs15, hs16, hs17, hs18, hs19, hs20, hs21, hs22, hs23, hs49, hs50, trivial⟩ fun fv fl hfl => ?_
        obtain rfl : fl = [((.int .i64 v) : Value), ((.int .i64 (N : Int)) : Value), ((.slice A L k) : Value), ((undef) : Value), ((undef) : Value), ((undef) : Value), fv 6, fv 7, fv 8, ((.int .i64 0) : Value), ((u10) : Value), ((.int .i64 (T : Int)) : Value), ((.int .i64 (q : Int)) : Value), ((.pointer (some ⟨b, 0, none⟩)) : Value), ((.int .i64 gS) : Value), ((.int .i64 gE) : Value), ((.int .i64 v) : Value), ((.int .i64 (N : Int)) : Value), ((.int .i64 0) : Value), ((.int .i64 0) : Value), ((.bool false) : Value), ((undef) : Value), ((.int .i64 (N : Int)) : Value), ((.int .i64 (q : Int)) : Value), fv 24, fv 25, fv 26, fv 27, fv 28, fv 29, fv 30, fv 31, fv 32, fv 33, fv 34, fv 35, fv 36, fv 37, fv 38, fv 39, fv 40, fv 41, fv 42, fv 43, fv 44, fv 45, fv 46, fv 47, fv 48, ((undef) : Value), ((undef) : Value)] := hfl.symm.trans (by kernel_rfl)
        clear hfl hZ hs0 hs1 hs2 hs3 hs4 hs5 hs9 hs10 hs11 hs12 hs13 hs14 hs15 hs16 hs17 hs18 hs19 hs20 hs21 hs22 hs23 hs49 hs50
        have y0 := hH3.cell 0
        have y1 := hH3.cell 1
        have hBW : Below w.heap.size w W3 := Below.step hBU hBU.size hB3
        have hT3 := HTU.out.keep hB3
        by_cases hg0 : gE = 0
        · subst hg0
          obtain ⟨z1, z2, z3⟩ := HGA.out rfl
          have HZ := Lib.hid (And.intro z1 (And.intro z2 z3))
          have HC : Hid (∀ j u, [Value.int .i64 (upA v l q), Value.int .i64 (upB v l q)][j]? = some u → (W3.alloc (.cells #[.int .i64 gA, .int .i64 gB] 29)).cell? ((⟨W3.heap.size, 0, none⟩ : Addr).add j) = some u) := Lib.hid (by rw [z1, z2]; exact cell_two_new W3 _ _ _)
          clear z1 z2 z3
          go_wp2_with (at_builtin; refine gs_append rfl _ _ rfl w.heap.size u10 q (upA v l) (upB v l) rfl (World.ownsRow.alloc hT3 _) W3.heap.size rfl HC.out (by omega) (by simp only [World.size_alloc]; have := hBW.size; omega) ?_; intro v8 w8 ho8 hb8)
          go_roundw
          case rel => exact ⟨q + 1, by omega, by go_num, by rw [HZ.out.2.2], ho8, (hBW.alloc hBW.size _).trans hb8, upE_next HR.out HG.out⟩
          case measure => simp [intOf]; omega
        · have hi : (gE != 0) = true := by simpa using hg0
          have HN := Lib.hid (And.intro (show unE v N l = gE from (un_stop HE.out HR.out hlt (by rw [HG.out]; exact hg0)).trans HG.out) hg0)
          clear hg0
          go_wp2
          go_ret3
          exact GsErr.no HN.out.1 HN.out.2 hBW
    · obtain rfl : q = N := by omega
      have hlt' : ¬ (q : Int) < (q : Int) := by omega
      clear hlt
      go_wp2
      go_ret3
      exact GsErr.yes HE.out HR.out hT hBr

end Go.Proofs.Ytafhdckcclhjlaa
