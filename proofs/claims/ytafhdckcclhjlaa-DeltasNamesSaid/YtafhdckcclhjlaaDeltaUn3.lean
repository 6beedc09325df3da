/- The contracts of the reference's Unpack and Same, and of writes, reads, alive of the laws. -/
import Derived.Test.YtafhdckcclhjlaaDeltaUn2
namespace Go.Proofs.Ytafhdckcclhjlaa
open Go Go.RowKit
set_option linter.unusedVariables false
set_option linter.unusedSimpArgs false

set_option maxRecDepth 100000 in
set_option maxHeartbeats 4000000 in
theorem rUnpack_no {v n : Int} (hv : I64 v) (hn : I64 n) (A : Option Addr) (l : List UInt8) (k : Nat) (w : World) (hE : asd v n ≠ 0) : Calls Try.prog 21 #[.int .i64 v, .int .i64 n, .slice A l.length k] w (GsErr v n l w) := by
  have D := rAsked9_any hv hn w
  have HU := Lib.hid (show unE v n l = asd v n by unfold unE; rw [if_pos hE])
  obtain ⟨E, hEE⟩ : ∃ E, asd v n = E := ⟨_, rfl⟩
  rw [hEE] at D hE HU
  have hi : (E != 0) = true := by simpa using hE
  have HE := Lib.hid hE
  have D1 := Lib.hid D
  clear D hEE hE
  go_enter Try.func21, Try.ntmps21
  go_wp2_with (go_at_call 22; (with_reducible refine D1.out.mono ?_); rintro e w1 ⟨rfl, rfl⟩)
  go_ret3
  exact GsErr.no HU.out HE.out (Below.refl _ _)

/-- gates that a call owned ahead of a box stay when the box is written -/
theorem Gso.box {B n b : Nat} {w2 : World} {v : Value} {f g : Nat → Int} (h : Gso B w2 v n f g) (j : Nat) (x : Value) (hv : ∀ k, v.ownBlock = some k → k < b) : Gso B (w2.setCell ⟨b, j, none⟩ x) v n f g := by
  refine ⟨h.1, h.2.imp id fun ⟨g', cap, cur, h1, h2, h3, h4⟩ => ⟨g', cap, cur, h1, h2, ?_, h4⟩⟩
  have : g' < b := hv g' (by rw [h1]; rfl)
  rw [Below.heap_setCell _ _ _ _ (by omega : g' ≠ b)]
  exact h3
/-- how a gate is read, number by number -/
theorem g1_steps (v : Int) (l : List UInt8) : (rdE l ≠ 0 ∧ g1E v l = rdE l) ∨ (rdE l = 0 ∧ rgt v (2 * v - rdN l) 0 = false ∧ g1E v l = 8) ∨ (rdE l = 0 ∧ rgt v (2 * v - rdN l) 0 = true ∧ rdE (l.drop (rdS l)) ≠ 0 ∧ g1E v l = rdE (l.drop (rdS l))) ∨ (rdE l = 0 ∧ rgt v (2 * v - rdN l) 0 = true ∧ rdE (l.drop (rdS l)) = 0 ∧ rgt v (2 * v - rdN l) (2 * v - rdN l - rdN (l.drop (rdS l))) = false ∧ g1E v l = 8) ∨ (rdE l = 0 ∧ rgt v (2 * v - rdN l) 0 = true ∧ rdE (l.drop (rdS l)) = 0 ∧ rgt v (2 * v - rdN l) (2 * v - rdN l - rdN (l.drop (rdS l))) = true ∧ g1E v l = 0) := g1_ways v l

set_option maxRecDepth 100000 in
set_option maxHeartbeats 8000000 in
theorem rUnpack_yes {v : Int} {N : Nat} (A : Option Addr) (l : List UInt8) (k : Nat) (w : World) (h : Bya w w.heap.size A l k) (hl : l.length ≤ 100000) (hE : asd v N = 0) : Calls Try.prog 21 #[.int .i64 v, .int .i64 (N : Int), .slice A l.length k] w (GsErr v N l w) := by
  have hw := asd_ways v N
  have hv0 : 1 ≤ v := by omega
  have hv1 : v ≤ 1000 := by omega
  have hn1 : v + N ≤ 1001 := by omega
  clear hw
  have D := rAsked9_any (v := v) (n := N) (by unfold I64; omega) (by unfold I64; omega) w
  rw [hE] at D
  have D1 := Lib.hid D
  have H := Lib.hid h
  have HE := Lib.hid hE
  obtain ⟨L, hL⟩ : ∃ L, l.length = L := ⟨_, rfl⟩
  rw [hL] at hl ⊢
  have HL := Lib.hid hL
  clear D h hE hL
  go_enter Try.func21, Try.ntmps21
  go_wp2_with (go_at_call 22; (with_reducible refine D1.out.mono ?_); rintro e w1 ⟨rfl, rfl⟩)
  go_loopw [9, 10, 11] (fun u t i wr => ∃ q : Nat, q ≤ N ∧ i = .int .i64 (q : Int) ∧ t = .int .i64 (upT v l q : Int) ∧ Gso w.heap.size wr u q (upA v l) (upB v l) ∧ Below w.heap.size w wr ∧ upE v l q = 0) (fun _ _ i _ => N - (intOf i).toNat)
  case atStart => exact ⟨0, Nat.zero_le _, rfl, rfl, Gso.nil _ _ _ _, Below.refl _ _, rfl⟩
  case round =>
    obtain ⟨q, hq, rfl, rfl, hT, hBr, hR⟩ := hrel
    have HR := Lib.hid hR
    clear hR
    by_cases hlt : q < N
    · have hq1 : (q : Int) < (N : Int) := by omega
      have hq0 : (0 : Int) ≤ (q : Int) := by omega
      have HT := Lib.hid hT
      have hBs := hBr.size
      have hTl := upT_le v l q
      obtain ⟨T, hTT⟩ : ∃ T, upT v l q = T := ⟨_, rfl⟩
      have HG := g1_steps (v + q) (l.drop T)
      have HG1 := Lib.hid (show g1E (v + q) (l.drop (upT v l q)) = g1E (v + q) (l.drop T) by rw [hTT])
      have HV : Hid (upA v l q = 2 * (v + q) - rdN (l.drop T) ∧ upB v l q = 2 * (v + q) - rdN (l.drop T) - rdN ((l.drop T).drop (rdS (l.drop T))) ∧ upT v l (q + 1) = T + rdS (l.drop T) + rdS ((l.drop T).drop (rdS (l.drop T)))) := Lib.hid (by
        refine ⟨by rw [upA, hTT]; rfl, by rw [upB, hTT]; rfl, ?_⟩
        rw [upT, hTT, g1S]; omega)
      obtain ⟨gE, hgE⟩ : ∃ x, g1E (v + q) (l.drop T) = x := ⟨_, rfl⟩
      rw [hgE] at HG HG1
      rw [hTT] at hTl ⊢
      obtain ⟨A', k', hs, hA'⟩ := H.out.from T hTl.1
      have hS1 := rdS_le (l.drop T)
      obtain ⟨A2, k2, hs2, hA2⟩ := H.out.from (T + rdS (l.drop T)) (by rw [List.length_drop] at hS1; omega)
      have RD1 : Hid (∀ W, Below w.heap.size w W → Calls Try.prog 19 #[.slice A' (l.drop T).length k'] W fun e w' => e = .returned (rdV (l.drop T)) ∧ W = w') := Lib.hid fun W hW => rRead_any A' (l.drop T) k' W (hA'.to hW hW.size) (by rw [List.length_drop]; have := HL.out; omega)
      have RD2 : Hid (∀ W, Below w.heap.size w W → Calls Try.prog 19 #[.slice A2 (l.drop (T + rdS (l.drop T))).length k2] W fun e w' => e = .returned (rdV (l.drop (T + rdS (l.drop T)))) ∧ W = w') := Lib.hid fun W hW => rRead_any A2 _ k2 W (hA2.to hW hW.size) (by rw [List.length_drop]; have := HL.out; omega)
      have hS2 := rdS_le ((l.drop T).drop (rdS (l.drop T)))
      have hN1 := rd_bd (l.drop T)
      have hN2 := rd_bd ((l.drop T).drop (rdS (l.drop T)))
      rw [List.drop_drop] at HG HV hS2 hN2
      rw [List.length_drop] at hs hs2 RD1 RD2 hS2 hS1
      unfold rdV at RD1 RD2
      rw [HL.out] at hs hs2 RD1 RD2 hS1 hS2
      have hTl1 := hTl.1
      have hTl2 := hTl.2
      rw [HL.out] at hTl1
      obtain ⟨X, hX⟩ : ∃ X, (rdN (l.drop T) : Int) = X := ⟨_, rfl⟩
      obtain ⟨S, hS⟩ : ∃ S, rdS (l.drop T) = S := ⟨_, rfl⟩
      obtain ⟨E, hE⟩ : ∃ E, rdE (l.drop T) = E := ⟨_, rfl⟩
      rw [hS] at HG HV hs2 RD1 RD2 hS1 hS2 hN2
      rw [hX] at HG HV RD1 hN1
      rw [hE] at HG RD1
      obtain ⟨Y, hY⟩ : ∃ Y, (rdN (l.drop (T + S)) : Int) = Y := ⟨_, rfl⟩
      obtain ⟨S2, hS2'⟩ : ∃ S2, rdS (l.drop (T + S)) = S2 := ⟨_, rfl⟩
      obtain ⟨E2, hE2⟩ : ∃ E2, rdE (l.drop (T + S)) = E2 := ⟨_, rfl⟩
      rw [hY] at HG HV RD2 hN2
      rw [hS2'] at HV RD2 hS2
      rw [hE2] at HG RD2
      have hcast : ((T + S : Nat) : Int) = (T : Int) + (S : Int) := by omega
      rw [hcast] at hs2
      have RR := fun (a b : Int) (ha : I64 a) (hb : I64 b) W => rRight_any (v := v + q) (a := a) (b := b) (by omega) (by omega) ha hb W
      have R1 := RR (2 * (v + q) - X) 0 (by unfold I64; omega) i64_z
      have R2 := RR (2 * (v + q) - X) (2 * (v + q) - X - Y) (by unfold I64; omega) (by unfold I64; omega)
      obtain ⟨r1, hr1⟩ : ∃ r, rgt (v + q) (2 * (v + q) - X) 0 = r := ⟨_, rfl⟩
      obtain ⟨r2, hr2⟩ : ∃ r, rgt (v + q) (2 * (v + q) - X) (2 * (v + q) - X - Y) = r := ⟨_, rfl⟩
      rw [hr1] at HG R1
      rw [hr2] at HG R2
      have P1 := Lib.hid R1
      have P2 := Lib.hid R2
      have HNO : Hid (gE ≠ 0 → unE v N l = gE) := Lib.hid fun h => (un_stop HE.out HR.out hlt (by rw [HG1.out]; exact h)).trans HG1.out
      have HBR := Lib.hid hBr
      clear RR R1 R2 hr1 hr2 hcast hX hS hE hY hS2' hE2 hA' hA2 hTT hTl hT
      clear hgE
      have HB0 : Hid (Below w.heap.size w (wr.alloc (.cells #[.int .i64 (2 * (v + q) - X), .int .i64 0] 29))) := Lib.hid (hBr.alloc hBs _)
      have HH0 := Lib.hid (Has.new wr 29 #[.int .i64 (2 * (v + q) - X), .int .i64 0])
      rcases HG with g | g | g | g | g
      · obtain ⟨g1, rfl⟩ := g
        have hi : (gE != 0) = true := by simpa using g1
        have HN := Lib.hid (And.intro (HNO.out g1) g1)
        clear g1
        go_wp2_with (go_at_call 19; (with_reducible refine (RD1.out _ HBR.out).mono ?_); rintro e w1 ⟨rfl, rfl⟩)
        go_ret3
        exact GsErr.no HN.out.1 HN.out.2 HBR.out
      · obtain ⟨rfl, rfl, rfl⟩ := g
        go_wp2_with (first
          | (go_at_call 19; (with_reducible refine (RD1.out _ HBR.out).mono ?_); rintro e w1 ⟨rfl, rfl⟩)
          | (go_at_call 31; (with_reducible refine (P1.out _).mono ?_); rintro e w2 ⟨rfl, hb2⟩))
        go_ret3
        exact GsErr.no (HNO.out (by decide)) (by decide) (Below.step HB0.out HB0.out.size hb2)
      · obtain ⟨rfl, rfl, g1, rfl⟩ := g
        have hi : (gE != 0) = true := by simpa using g1
        have HN := Lib.hid (And.intro (HNO.out g1) g1)
        clear g1
        go_wp2_with (first
          | (go_at_call 19; (with_reducible refine (RD1.out _ HBR.out).mono ?_); rintro e w1 ⟨rfl, rfl⟩)
          | (go_at_call 31; (with_reducible refine (P1.out _).mono ?_); rintro e w2 ⟨rfl, hb2⟩; have hB2 := Below.step HB0.out HB0.out.size hb2)
          | (go_at_call 19; (with_reducible refine (RD2.out _ hB2).mono ?_); rintro e w3 ⟨rfl, rfl⟩))
        go_ret3
        exact GsErr.no HN.out.1 HN.out.2 hB2
      · obtain ⟨rfl, rfl, rfl, rfl, rfl⟩ := g
        go_wp2_with (first
          | (go_at_call 19; (with_reducible refine (RD1.out _ HBR.out).mono ?_); rintro e w1 ⟨rfl, rfl⟩)
          | (go_at_call 31; (with_reducible refine (P1.out _).mono ?_); rintro e w2 ⟨rfl, hb2⟩; have hB2 := Below.step HB0.out HB0.out.size hb2; have hH2 := HH0.out.keep hb2 HH0.out.lt; have y0 := hH2.cell 0; have y1 := hH2.cell 1; have f0 := hH2.fz 0; have f1 := hH2.fz 1)
          | (go_at_call 19; (with_reducible refine (RD2.out _ hB2).mono ?_); rintro e w3 ⟨rfl, rfl⟩)
          | (go_at_call 31; (with_reducible refine (P2.out _).mono ?_); rintro e w4 ⟨rfl, hb4⟩))
        go_ret3
        exact GsErr.no (HNO.out (by decide)) (by decide) (Below.step (hB2.setCell hBs _) (by simp; exact hB2.size) hb4)
      · obtain ⟨rfl, rfl, rfl, rfl, rfl⟩ := g
        have HC : Hid (∀ W j u, [Value.int .i64 (upA v l q), Value.int .i64 (upB v l q)][j]? = some u → (World.alloc W (.cells #[.int .i64 (2 * (v + q) - X), .int .i64 (2 * (v + q) - X - Y)] 29)).cell? ((⟨W.heap.size, 0, none⟩ : Addr).add j) = some u) := Lib.hid (by rw [HV.out.1, HV.out.2.1]; exact fun W => cell_two_new W _ _ _)
        go_wp2_with (first
          | (go_at_call 19; (with_reducible refine (RD1.out _ HBR.out).mono ?_); rintro e w1 ⟨rfl, rfl⟩)
          | (go_at_call 31; (with_reducible refine (P1.out _).mono ?_); rintro e w2 ⟨rfl, hb2⟩; have hB2 := Below.step HB0.out HB0.out.size hb2; have hH2 := HH0.out.keep hb2 HH0.out.lt; have y0 := hH2.cell 0; have y1 := hH2.cell 1; have f0 := hH2.fz 0; have f1 := hH2.fz 1; have ht2 := (World.ownsRow.alloc HT.out (.cells #[.int .i64 (2 * (v + q) - X), .int .i64 0] 29)); have hT2 := Gso.keep ht2 hb2)
          | (go_at_call 19; (with_reducible refine (RD2.out _ hB2).mono ?_); rintro e w3 ⟨rfl, rfl⟩)
          | (go_at_call 31; (with_reducible refine (P2.out _).mono ?_); rintro e w4 ⟨rfl, hb4⟩; have hH4 := (hH2.set 1 (.int .i64 (2 * (v + q) - X - Y))).keep hb4 (by simp; exact hH2.lt); have hB2' : Below w.heap.size w (w2.setCell ⟨wr.heap.size, 1, none⟩ (.int .i64 (2 * (v + q) - X - Y))) := hB2.setCell hBs _; have hB4 := Below.step hB2' hB2'.size hb4; have z0 := hH4.cell 0; have z1 := hH4.cell 1; have hT4 := Gso.keep (Gso.box hT2 1 (.int .i64 (2 * (v + q) - X - Y)) fun k hk => (World.ownsRow.lt HT.out k hk).2) hb4)
          | (at_builtin; refine gs_append rfl _ _ rfl w.heap.size u9 q (upA v l) (upB v l) rfl (World.ownsRow.alloc hT4 _) w4.heap.size rfl (HC.out w4) (by omega) (by simp only [World.size_alloc]; have := hB4.size; omega) ?_; intro v8 w8 ho8 hb8))
        go_roundw
        case rel => exact ⟨q + 1, by omega, by go_num, by rw [HV.out.2.2]; go_num, ho8, (hB4.alloc hB4.size _).trans hb8, upE_next HR.out HG1.out⟩
        case measure => simp [intOf]; omega
    · obtain rfl : q = N := by omega
      have hlt' : ¬ (q : Int) < (q : Int) := by omega
      clear hlt
      go_wp2
      go_ret3
      exact GsErr.yes HE.out HR.out hT hBr

end Go.Proofs.Ytafhdckcclhjlaa
