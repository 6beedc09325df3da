/- The reference's Raw: a circuit as a raw one. -/
import Derived.Test.YtnkpmcpinicciaaDoorOrderRaw
namespace Go.Proofs.YtnkpmcpinicciaaDoor
open Go.RowKit
set_option linter.unusedVariables false
set_option linter.unusedSimpArgs false

/-- a raw circuit's value handed back -/
def OfIs (r : Rw) (w : World) (e : Ending) (w' : World) : Prop := ∃ p, e = .returned (rv r p) ∧ RMem w' w'.heap.size r p ∧ RNils r p ∧ (∀ b, b < w.heap.size → Far p b) ∧ Below w.heap.size w w'

set_option maxRecDepth 100000 in
set_option maxHeartbeats 4000000 in
theorem oOf_any (c : Cr) (p : Pl) (w : World) (hm : Mem w w.heap.size c p) (hs : Sm c) (hN : Nils c p) (h : c.chk = 0) :
    Calls Tryd.prog 33 #[cv c p] w (OfIs c.raw w) := by
  have hb := Cr.chk_i (c := c) (by simp [h]) hs
  have hk := Lib.hid h
  clear h
  have g1 := hs.nl
  have g2 := hs.na
  have g3 := hs.nb
  have g4 := hs.nc
  obtain ⟨i0, hi0, hzz0, hs0, hy0⟩ := info_parts info_int
  obtain ⟨i3, hi3, hzz3, hs3, hy3⟩ := info_parts info_def
  go_enter Tryd.func33, Tryd.ntmps33
  go_wp2_with (first
    | (go_at_call 41; refine (rSize_any c p _ hb.1 hb.2.1 g1 g2).mono ?_; rintro e w1 ⟨rfl, hb1⟩; have hz1 : w.heap.size + 1 < w1.heap.size := (by have := hb1.size; (try simp at this); omega); have hB1 : Below w.heap.size w w1 := Below.step (by go_grown) (by go_size) hb1; have hA1 : Has w1 w.heap.size 37 (cc c p) := ((Has.new _ _ _).al _).keep hb1 (by go_size); have hZ1 : Has w1 (w.heap.size + 1) 27 zr := (Has.new' _ _ (by simp)).keep hb1 (by simp)))
  have HA := Lib.hid hA1
  obtain ⟨b, hbe⟩ : ∃ b, b = w1.heap.size := ⟨_, rfl⟩
  obtain ⟨X, hXe⟩ : ∃ X, X = w1.alloc (.cells #[.int .i64 c.sz, .slice none 0 0, .slice none 0 0, .slice none 0 0, .slice none 0 0, .slice none 0 0] 27) := ⟨_, rfl⟩
  have hX : Has X b 27 #[.int .i64 c.sz, .slice none 0 0, .slice none 0 0, .slice none 0 0, .slice none 0 0, .slice none 0 0] := by rw [hXe, hbe]; exact Has.new _ _ _
  have hBr : Below w1.heap.size w1 X := by rw [hXe]; exact (Below.refl _ _).alloc (Nat.le_refl _) _
  have hb1b : w1.heap.size ≤ b := by omega
  have hH := HA.out.keep hBr HA.out.lt
  have hbW := hX.lt
  have hcW := hH.lt
  rw [← hXe, ← hbe]
  clear hXe hbe hA1 hb1
  obtain ⟨q0, q1, q2, q3, q4⟩ := hH.box
  go_loopw [4, 5] (fun u i wr => ∃ q : Nat, ∃ v, (q : Int) ≤ c.i ∧ i = .int .i64 q ∧ u = .int .i64 (1 + (q : Int)) ∧ wr.ownsRow X.heap.size 3 1 v q (intL c.raw.ip q) ∧ Has wr b 27 #[.int .i64 c.sz, v, .slice none 0 0, .slice none 0 0, .slice none 0 0, .slice none 0 0] ∧ Below w1.heap.size w1 wr ∧ Kept X wr b) (fun _ i _ => c.i.toNat - (intOf i).toNat)
  case atStart => exact ⟨0, _, by omega, rfl, by simp, World.ownsRow_nil _ _ _ _, hX, hBr, Kept.refl _ _⟩
  case round =>
    clear hX hBr hH
    obtain ⟨q, v, hq, rfl, rfl, hown, hX, hBr, hK0⟩ := hrel
    have y1 : wr.cell? ⟨b, 1, none⟩ = some v := hX.cell 1
    have yf : wr.frozen? ⟨b, 1, none⟩ = false := hX.fz 1
    have hks := hK0.s
    have hbX := hX.lt
    have hH := HA.out.keep hBr HA.out.lt
    obtain ⟨q0, q1, q2, q3, q4⟩ := hH.box
    by_cases hlt : (q : Int) < c.i
    · have n1 : IntKind.i64.wrap (2 * (1 + (q : Int))) = 2 * (1 + (q : Int)) := IntWalk.i64_in _ (by omega)
      go_wp2_with (at_builtin; refine wpList_append_lies _ rfl _ _ 22 rfl X.heap.size 3 i0 (.int .i64 0) 1 8 Tryd.underlying22 hi0 hzz0 hs0 hy0 rfl (by decide) v q (intL c.raw.ip q) rfl (hown.alloc _) ⟨wr.heap.size, 0, none⟩ 1 1 [.int .i64 (2 * (1 + (q : Int)))] rfl rfl (cell_one_new _ _ _) (by simp [Value.oneCell']) (by omega) (by simp only [maxLen]; omega) (by omega) (by simp; omega) (wr.heap.size + 1) (by simp) ?_; intro gg cap w8 hown' hgrow hat hlt8; have hX8 := app_has hX hown hgrow (by omega); have y8 : w8.cell? ⟨b, 1, none⟩ = some v := hX8.cell 1; have yf8 : w8.frozen? ⟨b, 1, none⟩ = false := hX8.fz 1)
      go_roundw
      case rel => exact ⟨q + 1, _, by omega, by go_num, by go_num, own_set hown' (by omega), hX8.set 1 _, (app_below hBr hBr.size (by omega) hown hgrow).setCell hb1b _, hK0.round hown hgrow⟩
      case measure => simp [intOf]; omega
    · obtain ⟨m0, hme⟩ : ∃ m0, m0 = q := ⟨_, rfl⟩
      subst hme
      have hqi : Hid ((m0 : Int) = c.i) := by show _ = _; omega
      obtain ⟨P1, k1, hv1, i1, hn1, hd1⟩ := own_ints' hown
      subst hv1
      have d1 : ∀ a, P1 = some a → a.block ≠ b := fun a e => by have := hd1 a e; omega
      obtain ⟨W1, hW1⟩ : ∃ W1, W1 = wr := ⟨_, rfl⟩
      subst hW1
      have hbW := hX.lt
      have hcW := hH.lt
      clear y1
      go_wp2
      go_loopw [4, 6] (fun u i wr => ∃ q : Nat, ∃ v, q ≤ c.nl ∧ i = .int .i64 q ∧ u = .int .i64 (1 + c.i + (q : Int)) ∧ wr.ownsRow W1.heap.size 24 3 v q (tripL c.raw.ll c.raw.la c.raw.lb q) ∧ Has wr b 27 #[.int .i64 c.sz, .slice P1 m0 k1, v, .slice none 0 0, .slice none 0 0, .slice none 0 0] ∧ Below w1.heap.size w1 wr ∧ Kept W1 wr b) (fun _ i _ => c.nl - (intOf i).toNat)
      case atStart => exact ⟨0, _, Nat.zero_le _, rfl, by rw [← hqi.out]; simp, World.ownsRow_nil _ _ _ _, hX, hBr, Kept.refl _ _⟩
      case round =>
        clear hX hBr hH
        obtain ⟨q, v, hq, rfl, rfl, hown, hX, hBr, hK2⟩ := hrel
        have hks := hK2.s
        have hH := HA.out.keep hBr HA.out.lt
        have hHl := hH.lt
        have hbX := hX.lt
        obtain ⟨q0, q1, q2, q3, q4⟩ := hH.box
        by_cases hlt : q < c.nl
        · obtain ⟨a, hA, hab, hcs⟩ := ((hm.to hB1 (by omega)).la.keep hBr) (by omega)
          obtain ⟨c1, c2⟩ := hcs q hlt
          have hi1 : (0 : Int) ≤ (q : Int) := by omega
          have hi2 : (q : Int) < (c.nl : Int) := by omega
          have m2 : IntKind.i64.wrap (2 * (1 + c.i + (q : Int))) = 2 * (1 + c.i + (q : Int)) := IntWalk.i64_in _ (by have : c.sz = c.i + c.nl + c.na := rfl; omega)
          have m4 : IntKind.i64.wrap (1 + c.i + (q : Int) + 1) = 1 + c.i + (q : Int) + 1 := IntWalk.i64_in _ (by have : c.sz = c.i + c.nl + c.na := rfl; omega)
          rw [hA] at q1
          have HA1 := Lib.hid hA
          clear hcs hA
          have hab' : (a.add (q * 2)).block < wr.heap.size := by rw [add_block]; have := hBr.size; omega
          go_wp2
          have hS0 : wr.drew.cell? ⟨b, 2, none⟩ = some v ∧ wr.drew.cell? ⟨w.heap.size, 1, none⟩ = some (.slice (some a) c.nl p.k1) ∧ wr.drew.cell? (a.add (q * 2)) = some (.int .i64 (c.nx q)) ∧ wr.drew.cell? ⟨(a.add (q * 2)).block, (a.add (q * 2)).off + 1, none⟩ = some (.int .i64 (c.rs q)) := ⟨hX.cell 2, q1, c1, c2⟩
          refine wp_region_T (fun w' => w'.cell? ⟨b, 2, none⟩ = some v ∧ w'.cell? ⟨w.heap.size, 1, none⟩ = some (.slice (some a) c.nl p.k1) ∧ w'.cell? (a.add (q * 2)) = some (.int .i64 (c.nx q)) ∧ w'.cell? ⟨(a.add (q * 2)).block, (a.add (q * 2)).off + 1, none⟩ = some (.int .i64 (c.rs q))) 19 (by kernel_rfl) ?_
          (refine wpT_take 0 (v := ?_) rfl (by kernel_rfl) (by kernel_rfl) (by kernel_rfl) (by kernel_rfl) (fun _ _ _ h => h) rfl hS0 (fun w hS => ?_) ?_; rotate_left; focus (obtain ⟨j1, j2, j3, j4⟩ := hS; go_simp; rfl)); (refine wpT_take 1 (v := ?_) rfl (by kernel_rfl) (by kernel_rfl) (by kernel_rfl) (by kernel_rfl) (fun _ _ _ h => h) rfl hS0 (fun w hS => ?_) ?_; rotate_left; focus (obtain ⟨j1, j2, j3, j4⟩ := hS; go_simp; rfl)); (refine wpT_take 2 (v := ?_) rfl (by kernel_rfl) (by kernel_rfl) (by kernel_rfl) (by kernel_rfl) (fun _ _ _ h => h) rfl hS0 (fun w hS => ?_) ?_; rotate_left; focus (obtain ⟨j1, j2, j3, j4⟩ := hS; go_simp; rfl)); (refine wpT_take 3 (v := ?_) rfl (by kernel_rfl) (by kernel_rfl) (by kernel_rfl) (by kernel_rfl) (fun _ _ _ h => h) rfl hS0 (fun w hS => ?_) ?_; rotate_left; focus (obtain ⟨j1, j2, j3, j4⟩ := hS; go_simp; rfl)); (refine wpT_take 4 (v := ?_) rfl (by kernel_rfl) (by kernel_rfl) (by kernel_rfl) (by kernel_rfl) (fun _ _ _ h => h) rfl hS0 (fun w hS => ?_) ?_; rotate_left; focus (obtain ⟨j1, j2, j3, j4⟩ := hS; go_simp; rfl)); (refine wpT_take 5 (v := ?_) rfl (by kernel_rfl) (by kernel_rfl) (by kernel_rfl) (by kernel_rfl) (fun _ _ _ h => h) rfl hS0 (fun w hS => ?_) ?_; rotate_left; focus (obtain ⟨j1, j2, j3, j4⟩ := hS; go_simp; rfl)); (refine wpT_take 6 (v := ?_) rfl (by kernel_rfl) (by kernel_rfl) (by kernel_rfl) (by kernel_rfl) (fun _ _ _ h => h) rfl hS0 (fun w hS => ?_) ?_; rotate_left; focus (obtain ⟨j1, j2, j3, j4⟩ := hS; go_simp; rfl)); (refine wpT_take 7 (v := ?_) rfl (by kernel_rfl) (by kernel_rfl) (by kernel_rfl) (by kernel_rfl) (fun _ _ _ h => h) rfl hS0 (fun w hS => ?_) ?_; rotate_left; focus (obtain ⟨j1, j2, j3, j4⟩ := hS; go_simp; rfl)); (refine wpT_take 8 (v := ?_) rfl (by kernel_rfl) (by kernel_rfl) (by kernel_rfl) (by kernel_rfl) (fun _ _ _ h => h) rfl hS0 (fun w hS => ?_) ?_; rotate_left; focus (obtain ⟨j1, j2, j3, j4⟩ := hS; go_simp; rfl)); (refine wpT_take 9 (v := ?_) rfl (by kernel_rfl) (by kernel_rfl) (by kernel_rfl) (by kernel_rfl) (fun _ _ _ h => h) rfl hS0 (fun w hS => ?_) ?_; rotate_left; focus (obtain ⟨j1, j2, j3, j4⟩ := hS; go_simp; rfl)); (refine wpT_take 10 (v := ?_) rfl (by kernel_rfl) (by kernel_rfl) (by kernel_rfl) (by kernel_rfl) (fun _ _ _ h => h) rfl hS0 (fun w hS => ?_) ?_; rotate_left; focus (obtain ⟨j1, j2, j3, j4⟩ := hS; go_simp; rfl)); (refine wpT_take 11 (v := ?_) rfl (by kernel_rfl) (by kernel_rfl) (by kernel_rfl) (by kernel_rfl) (fun _ _ _ h => h) rfl hS0 (fun w hS => ?_) ?_; rotate_left; focus (obtain ⟨j1, j2, j3, j4⟩ := hS; go_simp; rfl)); (refine wpT_take 12 (v := ?_) rfl (by kernel_rfl) (by kernel_rfl) (by kernel_rfl) (by kernel_rfl) (fun _ _ _ h => h) rfl hS0 (fun w hS => ?_) ?_; rotate_left; focus (obtain ⟨j1, j2, j3, j4⟩ := hS; go_simp; rfl)); (refine wpT_take 13 (v := ?_) rfl (by kernel_rfl) (by kernel_rfl) (by kernel_rfl) (by kernel_rfl) (fun _ _ _ h => h) rfl hS0 (fun w hS => ?_) ?_; rotate_left; focus (obtain ⟨j1, j2, j3, j4⟩ := hS; go_simp; rfl)); (refine wpT_take 14 (v := ?_) rfl (by kernel_rfl) (by kernel_rfl) (by kernel_rfl) (by kernel_rfl) (fun _ _ _ h => h) rfl hS0 (fun w hS => ?_) ?_; rotate_left; focus (obtain ⟨j1, j2, j3, j4⟩ := hS; go_simp; rfl)); (refine wpT_take 15 (v := ?_) rfl (by kernel_rfl) (by kernel_rfl) (by kernel_rfl) (by kernel_rfl) (fun _ _ _ h => h) rfl hS0 (fun w hS => ?_) ?_; rotate_left; focus (obtain ⟨j1, j2, j3, j4⟩ := hS; go_simp; rfl)); (refine wpT_take 16 (v := ?_) rfl (by kernel_rfl) (by kernel_rfl) (by kernel_rfl) (by kernel_rfl) (fun _ _ _ h => h) rfl hS0 (fun w hS => ?_) ?_; rotate_left; focus (obtain ⟨j1, j2, j3, j4⟩ := hS; go_simp; rfl))
          refine wpT_one 17 (by kernel_rfl) (wpOp_go rfl rfl fun K hK => ?_)
          go_simp
          refine hK _ _ ⟨fun _ => ⟨ca hS0.1 _, ca hS0.2.1 _, ca hS0.2.2.1 _, ca hS0.2.2.2 _⟩, ?_⟩
          refine wpT_one 18 (by kernel_rfl) (wpOp_go rfl rfl fun K hK => ?_)
          refine wp_append_lies _ _ _ _ (by rfl) W1.heap.size 24 i3 _ 3 24 Tryd.underlying25 hi3 hzz3 hs3 hy3 rfl (by omega) v q (tripL c.raw.ll c.raw.la c.raw.lb q) (by rfl) ((hown.alloc _).drew) ⟨wr.heap.size, 0, none⟩ 1 1 [.int .i64 (2 * (1 + c.i + (q : Int))), .int .i64 (c.nx q), .int .i64 (c.rs q)] (by rfl) (by rfl) (World.news_of_block (cs := #[.int .i64 (2 * (1 + c.i + (q : Int))), .int .i64 (c.nx q), .int .i64 (c.rs q)]) (t := 24) (fr := (0, 0)) (Has.new' _ _ (by simp))) (by simp [Value.oneCell']) (by omega) (by simp only [maxLen]; omega) (by omega) (by simp; omega) (wr.heap.size + 1) (by simp) ?_
          intro gg cap w8 hown' hgrow hat hlt8
          have hgrow := grown_undrew hgrow
          have hX8 := app_has hX hown hgrow (by omega)
          have hH8 := app_has hH hown hgrow (by omega)
          have y8 : w8.cell? ⟨b, 2, none⟩ = some v := hX8.cell 2
          have yf8 : w8.frozen? ⟨b, 2, none⟩ = false := hX8.fz 2
          have hB8 := app_below hBr hBr.size (by omega) hown hgrow
          have hS8 : w8.cell? ⟨b, 2, none⟩ = some v ∧ w8.cell? ⟨w.heap.size, 1, none⟩ = some (.slice (some a) c.nl p.k1) ∧ w8.cell? (a.add (q * 2)) = some (.int .i64 (c.nx q)) ∧ w8.cell? ⟨(a.add (q * 2)).block, (a.add (q * 2)).off + 1, none⟩ = some (.int .i64 (c.rs q)) := by
            obtain ⟨a', hA', hab2, hcs'⟩ := ((hm.to hB1 (by omega)).la.keep hB8) (by omega)
            rw [HA1.out] at hA'
            cases hA'
            have z := hH8.cell 1
            refine ⟨y8, ?_, (hcs' q hlt).1, (hcs' q hlt).2⟩
            rw [z, ← HA1.out]; rfl
          refine hK _ _ ⟨fun _ => hS8, ?_⟩
          refine wpT_one 19 (by kernel_rfl) (wpOp_go rfl rfl fun K hK => ?_)
          go_simp
          refine hK _ _ ⟨fun h => absurd h (by decide), ?_⟩
          refine wpT_one 20 (by kernel_rfl) (wpOp_go rfl rfl fun K hK => ?_)
          go_simp
          refine hK _ _ ⟨fun h => absurd h (by decide), ?_⟩
          refine wpT_done (by kernel_rfl) (NoPanic.normal ?_) _
          go_wp2
          go_roundw
          case rel => exact ⟨q + 1, _, by omega, by go_num, by go_num, own_set hown' (by omega), hX8.set 2 _, hB8.setCell hb1b _, hK2.round hown hgrow⟩
          case measure => simp [intOf]; omega
        · obtain rfl : q = c.nl := by omega
          clear hq hlt
          obtain ⟨P2, k2, hv2, i2, hn2, hd2⟩ := own_trips hown
          subst hv2
          have d2 : ∀ a, P2 = some a → a.block ≠ b := fun a e => by have := hd2 a e; omega
          have i1 := hK2.ints i1 d1
          obtain ⟨W2, hW2⟩ : ∃ W2, W2 = wr := ⟨_, rfl⟩
          subst hW2
          have hbW := hX.lt
          have hcW := hH.lt
          go_wp2
          go_loopw [4, 7] (fun u i wr => ∃ q : Nat, ∃ v, q ≤ c.na ∧ i = .int .i64 q ∧ u = .int .i64 (1 + c.i + c.nl + (q : Int)) ∧ wr.ownsRow W2.heap.size 24 3 v q (tripL c.raw.gl c.raw.ga c.raw.gb q) ∧ Has wr b 27 #[.int .i64 c.sz, .slice P1 m0 k1, .slice P2 c.nl k2, v, .slice none 0 0, .slice none 0 0] ∧ Below w1.heap.size w1 wr ∧ Kept W2 wr b) (fun _ i _ => c.na - (intOf i).toNat)
          case atStart => exact ⟨0, _, Nat.zero_le _, rfl, by simp, World.ownsRow_nil _ _ _ _, hX, hBr, Kept.refl _ _⟩
          case round =>
            clear hX hBr hH
            obtain ⟨q, v, hq, rfl, rfl, hown, hX, hBr, hK3⟩ := hrel
            have hks := hK3.s
            have hH := HA.out.keep hBr HA.out.lt
            have hHl := hH.lt
            have hbX := hX.lt
            obtain ⟨q0, q1, q2, q3, q4⟩ := hH.box
            by_cases hlt : q < c.na
            · obtain ⟨a, hA, hab, hcs⟩ := ((hm.to hB1 (by omega)).an.keep hBr) (by omega)
              obtain ⟨c1, c2⟩ := hcs q hlt
              have hi1 : (0 : Int) ≤ (q : Int) := by omega
              have hi2 : (q : Int) < (c.na : Int) := by omega
              have m2 : IntKind.i64.wrap (2 * (1 + c.i + c.nl + (q : Int))) = 2 * (1 + c.i + c.nl + (q : Int)) := IntWalk.i64_in _ (by have : c.sz = c.i + c.nl + c.na := rfl; omega)
              have m4 : IntKind.i64.wrap (1 + c.i + c.nl + (q : Int) + 1) = 1 + c.i + c.nl + (q : Int) + 1 := IntWalk.i64_in _ (by have : c.sz = c.i + c.nl + c.na := rfl; omega)
              rw [hA] at q2
              have HA1 := Lib.hid hA
              clear hcs hA
              have hab' : (a.add (q * 2)).block < wr.heap.size := by rw [add_block]; have := hBr.size; omega
              go_wp2
              have hS0 : wr.drew.cell? ⟨b, 3, none⟩ = some v ∧ wr.drew.cell? ⟨w.heap.size, 2, none⟩ = some (.slice (some a) c.na p.k2) ∧ wr.drew.cell? (a.add (q * 2)) = some (.int .i64 (c.ga q)) ∧ wr.drew.cell? ⟨(a.add (q * 2)).block, (a.add (q * 2)).off + 1, none⟩ = some (.int .i64 (c.gb q)) := ⟨hX.cell 3, q2, c1, c2⟩
              refine wp_region_T (fun w' => w'.cell? ⟨b, 3, none⟩ = some v ∧ w'.cell? ⟨w.heap.size, 2, none⟩ = some (.slice (some a) c.na p.k2) ∧ w'.cell? (a.add (q * 2)) = some (.int .i64 (c.ga q)) ∧ w'.cell? ⟨(a.add (q * 2)).block, (a.add (q * 2)).off + 1, none⟩ = some (.int .i64 (c.gb q))) 19 (by kernel_rfl) ?_
              (refine wpT_take 0 (v := ?_) rfl (by kernel_rfl) (by kernel_rfl) (by kernel_rfl) (by kernel_rfl) (fun _ _ _ h => h) rfl hS0 (fun w hS => ?_) ?_; rotate_left; focus (obtain ⟨j1, j2, j3, j4⟩ := hS; go_simp; rfl)); (refine wpT_take 1 (v := ?_) rfl (by kernel_rfl) (by kernel_rfl) (by kernel_rfl) (by kernel_rfl) (fun _ _ _ h => h) rfl hS0 (fun w hS => ?_) ?_; rotate_left; focus (obtain ⟨j1, j2, j3, j4⟩ := hS; go_simp; rfl)); (refine wpT_take 2 (v := ?_) rfl (by kernel_rfl) (by kernel_rfl) (by kernel_rfl) (by kernel_rfl) (fun _ _ _ h => h) rfl hS0 (fun w hS => ?_) ?_; rotate_left; focus (obtain ⟨j1, j2, j3, j4⟩ := hS; go_simp; rfl)); (refine wpT_take 3 (v := ?_) rfl (by kernel_rfl) (by kernel_rfl) (by kernel_rfl) (by kernel_rfl) (fun _ _ _ h => h) rfl hS0 (fun w hS => ?_) ?_; rotate_left; focus (obtain ⟨j1, j2, j3, j4⟩ := hS; go_simp; rfl)); (refine wpT_take 4 (v := ?_) rfl (by kernel_rfl) (by kernel_rfl) (by kernel_rfl) (by kernel_rfl) (fun _ _ _ h => h) rfl hS0 (fun w hS => ?_) ?_; rotate_left; focus (obtain ⟨j1, j2, j3, j4⟩ := hS; go_simp; rfl)); (refine wpT_take 5 (v := ?_) rfl (by kernel_rfl) (by kernel_rfl) (by kernel_rfl) (by kernel_rfl) (fun _ _ _ h => h) rfl hS0 (fun w hS => ?_) ?_; rotate_left; focus (obtain ⟨j1, j2, j3, j4⟩ := hS; go_simp; rfl)); (refine wpT_take 6 (v := ?_) rfl (by kernel_rfl) (by kernel_rfl) (by kernel_rfl) (by kernel_rfl) (fun _ _ _ h => h) rfl hS0 (fun w hS => ?_) ?_; rotate_left; focus (obtain ⟨j1, j2, j3, j4⟩ := hS; go_simp; rfl)); (refine wpT_take 7 (v := ?_) rfl (by kernel_rfl) (by kernel_rfl) (by kernel_rfl) (by kernel_rfl) (fun _ _ _ h => h) rfl hS0 (fun w hS => ?_) ?_; rotate_left; focus (obtain ⟨j1, j2, j3, j4⟩ := hS; go_simp; rfl)); (refine wpT_take 8 (v := ?_) rfl (by kernel_rfl) (by kernel_rfl) (by kernel_rfl) (by kernel_rfl) (fun _ _ _ h => h) rfl hS0 (fun w hS => ?_) ?_; rotate_left; focus (obtain ⟨j1, j2, j3, j4⟩ := hS; go_simp; rfl)); (refine wpT_take 9 (v := ?_) rfl (by kernel_rfl) (by kernel_rfl) (by kernel_rfl) (by kernel_rfl) (fun _ _ _ h => h) rfl hS0 (fun w hS => ?_) ?_; rotate_left; focus (obtain ⟨j1, j2, j3, j4⟩ := hS; go_simp; rfl)); (refine wpT_take 10 (v := ?_) rfl (by kernel_rfl) (by kernel_rfl) (by kernel_rfl) (by kernel_rfl) (fun _ _ _ h => h) rfl hS0 (fun w hS => ?_) ?_; rotate_left; focus (obtain ⟨j1, j2, j3, j4⟩ := hS; go_simp; rfl)); (refine wpT_take 11 (v := ?_) rfl (by kernel_rfl) (by kernel_rfl) (by kernel_rfl) (by kernel_rfl) (fun _ _ _ h => h) rfl hS0 (fun w hS => ?_) ?_; rotate_left; focus (obtain ⟨j1, j2, j3, j4⟩ := hS; go_simp; rfl)); (refine wpT_take 12 (v := ?_) rfl (by kernel_rfl) (by kernel_rfl) (by kernel_rfl) (by kernel_rfl) (fun _ _ _ h => h) rfl hS0 (fun w hS => ?_) ?_; rotate_left; focus (obtain ⟨j1, j2, j3, j4⟩ := hS; go_simp; rfl)); (refine wpT_take 13 (v := ?_) rfl (by kernel_rfl) (by kernel_rfl) (by kernel_rfl) (by kernel_rfl) (fun _ _ _ h => h) rfl hS0 (fun w hS => ?_) ?_; rotate_left; focus (obtain ⟨j1, j2, j3, j4⟩ := hS; go_simp; rfl)); (refine wpT_take 14 (v := ?_) rfl (by kernel_rfl) (by kernel_rfl) (by kernel_rfl) (by kernel_rfl) (fun _ _ _ h => h) rfl hS0 (fun w hS => ?_) ?_; rotate_left; focus (obtain ⟨j1, j2, j3, j4⟩ := hS; go_simp; rfl)); (refine wpT_take 15 (v := ?_) rfl (by kernel_rfl) (by kernel_rfl) (by kernel_rfl) (by kernel_rfl) (fun _ _ _ h => h) rfl hS0 (fun w hS => ?_) ?_; rotate_left; focus (obtain ⟨j1, j2, j3, j4⟩ := hS; go_simp; rfl)); (refine wpT_take 16 (v := ?_) rfl (by kernel_rfl) (by kernel_rfl) (by kernel_rfl) (by kernel_rfl) (fun _ _ _ h => h) rfl hS0 (fun w hS => ?_) ?_; rotate_left; focus (obtain ⟨j1, j2, j3, j4⟩ := hS; go_simp; rfl))
              refine wpT_one 17 (by kernel_rfl) (wpOp_go rfl rfl fun K hK => ?_)
              go_simp
              refine hK _ _ ⟨fun _ => ⟨ca hS0.1 _, ca hS0.2.1 _, ca hS0.2.2.1 _, ca hS0.2.2.2 _⟩, ?_⟩
              refine wpT_one 18 (by kernel_rfl) (wpOp_go rfl rfl fun K hK => ?_)
              refine wp_append_lies _ _ _ _ (by rfl) W2.heap.size 24 i3 _ 3 24 Tryd.underlying25 hi3 hzz3 hs3 hy3 rfl (by omega) v q (tripL c.raw.gl c.raw.ga c.raw.gb q) (by rfl) ((hown.alloc _).drew) ⟨wr.heap.size, 0, none⟩ 1 1 [.int .i64 (2 * (1 + c.i + c.nl + (q : Int))), .int .i64 (c.ga q), .int .i64 (c.gb q)] (by rfl) (by rfl) (World.news_of_block (cs := #[.int .i64 (2 * (1 + c.i + c.nl + (q : Int))), .int .i64 (c.ga q), .int .i64 (c.gb q)]) (t := 24) (fr := (0, 0)) (Has.new' _ _ (by simp))) (by simp [Value.oneCell']) (by omega) (by simp only [maxLen]; omega) (by omega) (by simp; omega) (wr.heap.size + 1) (by simp) ?_
              intro gg cap w8 hown' hgrow hat hlt8
              have hgrow := grown_undrew hgrow
              have hX8 := app_has hX hown hgrow (by omega)
              have hH8 := app_has hH hown hgrow (by omega)
              have y8 : w8.cell? ⟨b, 3, none⟩ = some v := hX8.cell 3
              have yf8 : w8.frozen? ⟨b, 3, none⟩ = false := hX8.fz 3
              have hB8 := app_below hBr hBr.size (by omega) hown hgrow
              have hS8 : w8.cell? ⟨b, 3, none⟩ = some v ∧ w8.cell? ⟨w.heap.size, 2, none⟩ = some (.slice (some a) c.na p.k2) ∧ w8.cell? (a.add (q * 2)) = some (.int .i64 (c.ga q)) ∧ w8.cell? ⟨(a.add (q * 2)).block, (a.add (q * 2)).off + 1, none⟩ = some (.int .i64 (c.gb q)) := by
                obtain ⟨a', hA', hab2, hcs'⟩ := ((hm.to hB1 (by omega)).an.keep hB8) (by omega)
                rw [HA1.out] at hA'
                cases hA'
                have z := hH8.cell 2
                refine ⟨y8, ?_, (hcs' q hlt).1, (hcs' q hlt).2⟩
                rw [z, ← HA1.out]; rfl
              refine hK _ _ ⟨fun _ => hS8, ?_⟩
              refine wpT_one 19 (by kernel_rfl) (wpOp_go rfl rfl fun K hK => ?_)
              go_simp
              refine hK _ _ ⟨fun h => absurd h (by decide), ?_⟩
              refine wpT_one 20 (by kernel_rfl) (wpOp_go rfl rfl fun K hK => ?_)
              go_simp
              refine hK _ _ ⟨fun h => absurd h (by decide), ?_⟩
              refine wpT_done (by kernel_rfl) (NoPanic.normal ?_) _
              go_wp2
              go_roundw
              case rel => exact ⟨q + 1, _, by omega, by go_num, by go_num, own_set hown' (by omega), hX8.set 3 _, hB8.setCell hb1b _, hK3.round hown hgrow⟩
              case measure => simp [intOf]; omega
            · obtain rfl : q = c.na := by omega
              clear hq hlt
              obtain ⟨P3, k3, hv3, i3, hn3, hd3⟩ := own_trips hown
              subst hv3
              have d3 : ∀ a, P3 = some a → a.block ≠ b := fun a e => by have := hd3 a e; omega
              have i1 := hK3.ints i1 d1
              have i2 := hK3.trips i2 d2
              obtain ⟨W3, hW3⟩ : ∃ W3, W3 = wr := ⟨_, rfl⟩
              subst hW3
              have hbW := hX.lt
              have hcW := hH.lt
              have y4f : W3.frozen? ⟨b, 4, none⟩ = false := hX.fz 4
              have hX0 := hX.al (.cells #[] 3)
              have hH3 := HA.out.keep hBr HA.out.lt
              obtain ⟨q0, q1, q2, q3, q4⟩ := (hH3.al (.cells #[] 3)).box
              have hz3 := hX.lt
              have hw3 := hH3.lt
              have hMW := (hm.to hB1 (by omega)).keep hBr
              go_wp2_with (first
                | (at_builtin
                   (refine append_to_new rfl (.tmp 84) (.tmp 86) _ rfl W3.heap.size 3 i0 _ 1 8 Tryd.underlying22 hi0 hzz0 hs0 hy0 rfl (by decide) W3.heap.size rfl (by go_size) (Has.new' _ _ rfl) p.A3 c.nb p.k3 (intL c.bd c.nb) rfl (intL_len _ _) ((hMW.bd.keep ((Below.refl _ _).alloc hBr.size _)).src hN.bd) (intL_one _ _) (by simp only [maxLen]; omega) (by omega) (by go_size) ?_)
                   intro g4 k4 w4 ho4 hg4 hat4
                   have hX4 := hX0.grow hg4 (by omega)
                   have hB4 : Below w1.heap.size w1 w4 := (hBr.alloc hBr.size _).grown hg4 (by have := hBr.size; simp; omega) (fun k hk => by cases hk; exact hBr.size)
                   have hK4 : Kept W3 w4 b := ⟨by have := hg4.size; simp at this; omega, fun g hl hne => (hg4.block g (by simp; omega) (fun e => by cases e; omega)).trans (Below.heap_alloc _ _ _ hl)⟩
                   have z4 : w4.cell? ⟨b, 4, none⟩ = some (.slice none 0 0) := hX4.cell 4
                   have zf4 : w4.frozen? ⟨b, 4, none⟩ = false := hX4.fz 4
                   have hl4 := own_lt ho4
                   have hge4 := own_ge ho4
                   have hX5 := (hX4.set 4 (.slice (some ⟨g4, 0, none⟩) c.nb k4)).al (.cells #[] 3)
                   have hH4 := HA.out.keep hB4 HA.out.lt
                   have hs4 : W3.heap.size ≤ w4.heap.size := hK4.s
                   obtain ⟨r0, r1, r2, r3, r4⟩ := ((hH4.far (q := ⟨b, 4, none⟩) (by simp; omega) (.slice (some ⟨g4, 0, none⟩) c.nb k4)).al (.cells #[] 3)).box
                   have hM4 := (hm.to hB1 (by omega)).keep (hB4.setCell hb1b (p := ⟨b, 4, none⟩) (.slice (some ⟨g4, 0, none⟩) c.nb k4)))
                | (at_builtin
                   (refine append_to_new rfl (.tmp 89) (.tmp 91) _ rfl w4.heap.size 3 i0 _ 1 8 Tryd.underlying22 hi0 hzz0 hs0 hy0 rfl (by decide) w4.heap.size rfl (by simp [World.setCell]) (Has.new' _ _ (by simp [World.setCell])) p.A4 c.nc p.k4 (intL c.cn c.nc) rfl (intL_len _ _) ((hM4.cn.keep ((Below.refl _ _).alloc (by have := hB4.size; simp [World.setCell]; omega) _)).src hN.cn) (intL_one _ _) (by simp only [maxLen]; omega) (by omega) (by simp [World.setCell]) ?_)
                   intro g5 k5 w5 ho5 hg5 hat5
                   have hX6 := hX5.grow hg5 (by omega)
                   have hB5 : Below w1.heap.size w1 w5 := ((hB4.setCell (p := ⟨b, 4, none⟩) hb1b _).alloc (by have := hB4.size; simp [World.setCell]; omega) _).grown hg5 (by have := hB4.size; simp [World.setCell]; omega) (fun k hk => by cases hk; exact hB4.size)
                   have hs5 : w4.heap.size ≤ w5.heap.size := by have := hg5.size; simp [World.setCell] at this; omega
                   have hK5 : Kept W3 w5 b := ⟨by omega, fun g hl hne => (hg5.block g (by simp [World.setCell]; omega) (fun e => by cases e; omega)).trans ((Below.heap_alloc _ _ _ (by simp [World.setCell]; omega)).trans ((Below.heap_setCell _ _ _ _ (by simpa using hne)).trans (hK4.k g hl hne)))⟩
                   have ho45 : w5.ownsRow W3.heap.size 3 1 (.slice (some ⟨g4, 0, none⟩) c.nb k4) c.nb (intL c.bd c.nb) := own_keep ho4 ((hg5.block g4 (by simp [World.setCell]; omega) (fun e => by cases e; omega)).trans ((Below.heap_alloc _ _ _ (by simp [World.setCell]; omega)).trans (Below.heap_setCell _ _ _ _ (by simp; omega))))
                   have v0 : w5.cell? ⟨b, 0, none⟩ = some (.int .i64 c.sz) := hX6.cell 0
                   have v1 : w5.cell? ⟨b, 1, none⟩ = some (.slice P1 m0 k1) := hX6.cell 1
                   have v2 : w5.cell? ⟨b, 2, none⟩ = some (.slice P2 c.nl k2) := hX6.cell 2
                   have v3 : w5.cell? ⟨b, 3, none⟩ = some (.slice P3 c.na k3) := hX6.cell 3
                   have v4 : w5.cell? ⟨b, 4, none⟩ = some (.slice (some ⟨g4, 0, none⟩) c.nb k4) := hX6.cell 4
                   have v5 : w5.cell? ⟨b, 5, none⟩ = some (.slice none 0 0) := hX6.cell 5
                   have vf5 : w5.frozen? ⟨b, 5, none⟩ = false := hX6.fz 5
                   obtain ⟨⟨e0, e1, e2, e3, e4, e5⟩, e0', e1', e2', e3', e4', e5'⟩ := (hZ1.keep hB5 hz1).zr6))
              have hl5 := own_lt ho5
              have hge5 := own_ge ho5
              refine bodyPost_ret (v := rv c.raw ⟨P1, P2, P3, some ⟨g4, 0, none⟩, some ⟨g5, 0, none⟩, k1, k2, k3, k4, k5⟩) (by simp [results, Tryd.results33, go_sem, e0, e1, e2, e3, e4, e5]; exact ⟨rfl, by show _ = c.i.toNat; have := hqi.out; omega, rfl, rfl, rfl, rfl⟩) rfl ⟨_, rfl, ?_, ?_, ?_, ?_⟩
              · have i1' := hK5.ints i1 d1
                have i2' := hK5.trips i2 d2
                have i3' := hK5.trips i3 d3
                have i4' := own_ints ho45 (fun _ => by omega)
                have i5' := own_ints ho5 (fun _ => by omega)
                have hq : c.raw.ni = m0 := by show c.i.toNat = m0; have := hqi.out; omega
                have hM5 : RMem w5 w5.heap.size c.raw ⟨P1, P2, P3, some ⟨g4, 0, none⟩, some ⟨g5, 0, none⟩, k1, k2, k3, k4, k5⟩ := ⟨by rw [hq]; exact i1', i2', i3', i4', i5'⟩
                exact RMem.set6 (hM5.set (b := b) ⟨d1, d2, d3, fun a e => by cases e; simp; omega, fun a e => by cases e; simp; omega⟩ 5 _) ⟨fun a e => by have := hd1 a e; omega, fun a e => by have := hd2 a e; omega, fun a e => by have := hd3 a e; omega, fun a e => by cases e; simp; omega, fun a e => by cases e; simp; omega⟩ _ _ _ _ _ _
              · exact ⟨fun h => by have := hn1 h; refine ⟨?_, this.2⟩; show c.i.toNat = 0; have := hqi.out; omega, hn2, hn3, fun h => (by cases h), fun h => (by cases h)⟩
              · exact fun b' hb' => ⟨fun a e => by have := hd1 a e; omega, fun a e => by have := hd2 a e; omega, fun a e => by have := hd3 a e; omega, fun a e => by cases e; simp; omega, fun a e => by cases e; simp; omega⟩
              · exact below_set6 ((Below.step hB1 hB1.size hB5).setCell (by simp; omega) _) (by omega) _ _ _ _ _ _
end Go.Proofs.YtnkpmcpinicciaaDoor
