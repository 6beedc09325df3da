/- The contract of traces.Cut. -/
import Derived.Test.YtpobkemgbbgolaaTraceBegin
import Derived.WalkMore
namespace Go.Proofs.Ytpobkemgbbgolaa
open Go.RowKit
set_option linter.unusedVariables false
set_option linter.unusedSimpArgs false

/-- the run of nothing -/
def z0T : Tr := ⟨0, fun _ => false, 0, fun _ => 0, fun _ _ => false⟩
theorem z0T_mem (w : World) (B : Nat) : TMem w B z0T ⟨none, 0, none, 0⟩ := ⟨fun h => absurd h (Nat.not_lt_zero _), fun h => absurd h (Nat.not_lt_zero _), fun _ => ⟨rfl, rfl⟩, fun _ => ⟨rfl, rfl⟩, Nat.le_refl _, Nat.zero_le _⟩
/-- what Cut returns -/
def Cr.cutT (c : Cr) (t : Tr) : Tr := if c.tck t = 0 ∧ 0 < c.cun t then t.cut (c.cun t) else z0T
def Cr.cutE (c : Cr) (t : Tr) : Int := if c.tck t = 0 then (if 0 < c.cun t then 0 else 6) else c.tck t
def CutIs (u : Tr) (x : Int) (w : World) (e : Ending) (w' : World) : Prop := ∃ q, e = .returned (.tuple #[tv u q, .int .i64 x]) ∧ TMem w' w'.heap.size u q ∧ Below w.heap.size w w'

/-- the three boxes of Cut -/
abbrev ct3 (w : World) (c : Cr) (p : Pl) (t : Tr) (q : Tp) : World := (ctW w c p t q).alloc (.cells #[.slice none 0 0, .slice none 0 0] 32)
theorem ct3_b (w : World) (c : Cr) (p : Pl) (t : Tr) (q : Tp) : Below w.heap.size w (ct3 w c p t q) := (ct_b w c p t q).alloc (ct_z w c p t q) _
theorem ct3_z (w : World) (c : Cr) (p : Pl) (t : Tr) (q : Tp) : w.heap.size ≤ (ct3 w c p t q).heap.size := (ct3_b w c p t q).size
theorem ct3_k {w w1 : World} {c : Cr} {p : Pl} {t : Tr} {q : Tp} (hb : Below (ct3 w c p t q).heap.size (ct3 w c p t q) w1) : Below w.heap.size w w1 ∧ Has w1 w.heap.size 28 (cc c p) ∧ Has w1 (w.heap.size + 1) 32 (tcs t q) ∧ Has w1 (w.heap.size + 1 + 1) 32 #[.slice none 0 0, .slice none 0 0] ∧ w.heap.size + 1 + 1 < w1.heap.size := by
  have h0 := (ct_c w c p t q).al (.cells #[.slice none 0 0, .slice none 0 0] 32)
  have h1 := (ct_t w c p t q).al (.cells #[.slice none 0 0, .slice none 0 0] 32)
  have h2 : Has (ct3 w c p t q) (w.heap.size + 1 + 1) 32 #[.slice none 0 0, .slice none 0 0] := Has.new' _ _ (by simp)
  exact ⟨Below.step (ct3_b w c p t q) (ct3_z w c p t q) hb, h0.keep hb h0.lt, h1.keep hb h1.lt, h2.keep hb h2.lt, (h2.keep hb h2.lt).lt⟩
theorem below_set2 {B : Nat} {w w1 : World} (h : Below B w w1) {x : Nat} (hx : B ≤ x) (u v : Value) : Below B w ((w1.setCell ⟨x, 0, none⟩ u).setCell ⟨x, 1, none⟩ v) := (h.setCell (by simpa using hx) _).setCell (by simpa using hx) _

section
variable {c : Cr} {p : Pl} {t : Tr} {q : Tp}
theorem beg_at {x : Int} {n : Nat} (hx : x = n) (h0 : 0 < n) (hn : n ≤ t.ni) (w : World) (ht : TMem w w.heap.size t q) (hts : TSm t) : Calls Try.prog 20 #[tv t q, .int .i64 x] w (RunIs (t.cut n) w) := hx ▸ beginning_any h0 hn w ht hts

set_option maxRecDepth 100000 in
set_option maxHeartbeats 4000000 in
theorem tcut_no (hk : c.tck t ≠ 0) (w : World) (h : RArg w w.heap.size c p t q) :
    Calls Try.prog 7 #[cv c p, tv t q] w (CutIs z0T (c.tck t) w) := by
  have h1 : (c.tck t != 0) = true := by simpa [bne] using hk
  have HK := Lib.hid hk
  have hB0 := ct3_b w c p t q
  clear hk
  go_enter Try.func7, Try.ntmps7
  go_wp2
  go_step3
  go_wp2_with (first
    | (go_at_call 17; (with_reducible refine (tprops_no HK.out _ (h.to (ct3_b w c p t q) (ct3_z w c p t q))).mono ?_); rintro e w1 ⟨A, k, A', k', rfl, hi1, hi2, hb1⟩; obtain ⟨hB1, hA1, hT1, hZ1, hz1⟩ := ct3_k hb1; obtain ⟨z0, z1⟩ := (show w1.cell? ⟨w.heap.size + 1 + 1, 0, none⟩ = some (.slice none 0 0) ∧ w1.cell? ⟨w.heap.size + 1 + 1, 1, none⟩ = some (.slice none 0 0) from ⟨hZ1.cell 0, hZ1.cell 1⟩); have f0 := hZ1.fz 0; have f1 := hZ1.fz 1))
  try rw [Exit.noGoto_ret]
  refine bodyPost_ret (v := .tuple #[.agg #[.slice none 0 0, .slice none 0 0], .int .i64 (c.tck t)]) (by simp [results, Try.results7, go_sem, z0, z1]) rfl ⟨⟨none, 0, none, 0⟩, rfl, z0T_mem _ _, below_set2 hB1 (by omega) _ _⟩

set_option maxRecDepth 100000 in
set_option maxHeartbeats 4000000 in
theorem tcut_yes (hk : c.tck t = 0) (w : World) (h : RArg w w.heap.size c p t q) :
    Calls Try.prog 7 #[cv c p, tv t q] w (CutIs (if 0 < c.cun t then t.cut (c.cun t) else z0T) (if 0 < c.cun t then 0 else 6) w) := by
  obtain ⟨n, hn⟩ : ∃ n, t.ni = n := ⟨_, rfl⟩
  have hn0 := (Cr.tck_ok hk).2.1
  have hn1 := (Cr.tck_ok hk).2.2.1
  have g1 := h.hs.nb
  obtain ⟨U, hU⟩ : ∃ U, (if 0 < c.cun t then t.cut (c.cun t) else z0T) = U := ⟨_, rfl⟩
  obtain ⟨X, hX⟩ : ∃ X : Int, (if 0 < c.cun t then 0 else 6) = X := ⟨_, rfl⟩
  have HNO : Hid (c.cun t = 0 → U = z0T ∧ X = 6) := fun h => by rw [← hU, ← hX, h]; exact ⟨rfl, rfl⟩
  have HYES : Hid (∀ r, c.cun t = r + 1 → U = t.cut (r + 1) ∧ X = 0) := fun r h => by rw [← hU, ← hX, h]; exact ⟨if_pos (by omega), if_pos (by omega)⟩
  have HEND : Hid ((∀ j, j < n → c.hf t j = true ∧ c.ff t j = c.nb) → c.cun t = 0) := fun h => Cr.cun_end (by rw [hn]; exact h)
  have HSTOP : Hid (∀ r, r < n → (∀ j, j < r → c.hf t j = true ∧ c.ff t j = c.nb) → c.hf t r = false → c.cun t = 0) := fun r hr h1 h2 => Cr.cun_no (by rw [hn]; exact hr) h1 h2
  have HHIT : Hid (∀ r, r < n → (∀ j, j < r → c.hf t j = true ∧ c.ff t j = c.nb) → c.hf t r = true → c.ff t r ≠ c.nb → c.cun t = r + 1) := fun r hr h1 h2 h3 => Cr.cun_yes (by rw [hn]; exact hr) h1 h2 h3
  rw [hU, hX]
  rw [hn] at hn0 hn1
  obtain ⟨R, hR⟩ : ∃ R, c.hf t = R := ⟨_, rfl⟩
  obtain ⟨G, hG⟩ : ∃ G, c.bf t = G := ⟨_, rfl⟩
  have HF : Hid (∀ r, c.ff t r = led (fun j => !G r j) c.nb) := fun r => by rw [← hG]; rfl
  rw [hR] at HEND HSTOP HHIT
  have HK := Lib.hid hk
  have HN := Lib.hid hn
  have HR := Lib.hid hR
  have HG := Lib.hid hG
  have hB0 := ct3_b w c p t q
  have props : ∀ W, RArg W W.heap.size c p t q → Calls Try.prog 17 #[cv c p, tv t q] W (PrErr n R (fun _ => c.nb) G 0 W) := fun W hW => by
    have := tprops_yes HK.out HN.out W hW
    rwa [HR.out, HG.out] at this
  have HP := Lib.hid props
  clear hk hn hR hG hU hX props
  go_enter Try.func7, Try.ntmps7
  go_wp2
  go_step3
  go_wp2_with (first
    | (go_at_call 17; (with_reducible refine (HP.out _ (h.to (ct3_b w c p t q) (ct3_z w c p t q))).mono ?_); rintro e w1 ⟨A, k, A', k', rfl, hi1, hi2, hb1⟩; obtain ⟨hB1, hA1, hT1, hZ1, hz1⟩ := ct3_k hb1))
  obtain ⟨a1, rfl, ha1, hr1⟩ := hi1 hn0
  obtain ⟨a2, rfl, ha2, hr2⟩ := hi2 hn0
  obtain ⟨z0, z1⟩ := (show w1.cell? ⟨w.heap.size + 1 + 1, 0, none⟩ = some (.slice none 0 0) ∧ w1.cell? ⟨w.heap.size + 1 + 1, 1, none⟩ = some (.slice none 0 0) from ⟨hZ1.cell 0, hZ1.cell 1⟩)
  obtain ⟨x0, x1⟩ := hT1.tbox
  have f0 := hZ1.fz 0
  have f1 := hZ1.fz 1
  have H1 := Lib.hid hr1
  have H2 := Lib.hid hr2
  clear hb1 hr1 hr2 hi1 hi2
  go_step3
  go_wp2
  go_loopw [9, 27] (fun f i wr => ∃ r : Nat, r ≤ n ∧ i = .int .i64 r ∧ f = .int .i64 0 ∧ Hid (∀ j, j < r → R j = true ∧ c.ff t j = c.nb) ∧ w1 = wr) (fun _ i _ => n - (intOf i).toNat)
  case atStart => exact ⟨0, Nat.zero_le _, rfl, rfl, Lib.hid (fun j hj => absurd hj (Nat.not_lt_zero _)), rfl⟩
  case round =>
    obtain ⟨r, hr, rfl, rfl, hL, rfl⟩ := hrel
    by_cases hlt : r < n
    · have y0 := H1.out r hlt
      obtain ⟨A'', k'', y1, hy, _⟩ := H2.out r hlt
      have hq0 : (0 : Int) ≤ (r : Int) := by omega
      have hq1 : (r : Int) < (n : Int) := by omega
      cases hv : R r
      · rw [hv] at y0
        obtain ⟨rfl, rfl⟩ := HNO.out (HSTOP.out r hlt hL.out hv)
        clear hv
        go_wp2
        refine bodyPost_ret (v := .tuple #[.agg #[.slice none 0 0, .slice none 0 0], .int .i64 6]) (by simp [results, Try.results7, go_sem, z0, z1]) rfl ⟨⟨none, 0, none, 0⟩, rfl, z0T_mem _ _, below_set2 hB1 (by omega) _ _⟩
      · rw [hv] at y0
        have HV := Lib.hid hv
        clear hv
        go_wp2
        go_loopw [9, 39] (fun f i wr => ∃ s : Nat, s ≤ c.nb ∧ i = .int .i64 s ∧ f = .int .i64 0 ∧ Hid (∀ j, j < s → (!G r j) = true) ∧ w1 = wr) (fun _ i _ => c.nb - (intOf i).toNat)
        case atStart => exact ⟨0, Nat.zero_le _, rfl, rfl, Lib.hid (fun j hj => absurd hj (Nat.not_lt_zero _)), rfl⟩
        case round =>
          obtain ⟨s, hs, rfl, rfl, hM, rfl⟩ := hrel
          by_cases hls : s < c.nb
          · obtain ⟨a3, rfl, ha3, hr3⟩ := hy (by omega)
            have y2 := hr3 s hls
            have hs0 : (0 : Int) ≤ (s : Int) := by omega
            have hs1 : (s : Int) < (c.nb : Int) := by omega
            clear hr3
            cases hb : G r s
            · rw [hb] at y2
              have HB := Lib.hid hb
              clear hb
              go_wp2
              go_roundw
              case rel => exact ⟨s + 1, by omega, by go_num, rfl, Lib.hid (fun j hj => by
                rcases Nat.lt_succ_iff_lt_or_eq.1 hj with h' | h'
                · exact hM.out j h'
                · subst h'; rw [HB.out]; rfl), by trivial⟩
              case measure => simp [intOf]; omega
            · rw [hb] at y2
              have hf : c.ff t r = s := by rw [HF.out]; exact led_at hls hM.out (by rw [hb]; rfl)
              obtain ⟨rfl, rfl⟩ := HYES.out r (HHIT.out r hlt hL.out HV.out (by omega))
              have e10 : ((r : Int) + 1 == 0) = false := by simp; omega
              have e11 : Hid ((r : Int) + 1 = ((r + 1 : Nat) : Int)) := by show _ = _; omega
              have hle : Hid (r + 1 ≤ t.ni) := by show r + 1 ≤ t.ni; rw [HN.out]; omega
              have htw := h.ht.to hB1 hB1.size
              clear hb hf
              go_wp2_with (first
                | (go_at_call 20; (with_reducible refine (beg_at e11.out (Nat.succ_pos r) hle.out w1 htw h.hts).mono ?_); rintro e w5 ⟨q5, rfl, hN5, hb5⟩
                   have hZ5 := hZ1.keep hb5 hZ1.lt
                   have hB5 := Below.step hB1 hB1.size hb5
                   obtain ⟨u0, u1⟩ := (show w5.cell? ⟨w.heap.size + 1 + 1, 0, none⟩ = some (.slice none 0 0) ∧ w5.cell? ⟨w.heap.size + 1 + 1, 1, none⟩ = some (.slice none 0 0) from ⟨hZ5.cell 0, hZ5.cell 1⟩)
                   have v0 := hZ5.fz 0
                   have v1 := hZ5.fz 1))
              refine bodyPost_ret (v := .tuple #[tv (t.cut (r + 1)) q5, .int .i64 0]) (by simp [results, Try.results7, go_sem, u0, u1]) rfl ⟨q5, rfl, ((hN5.set (by omega) 0 _).set (by omega) 1 _).mem, below_set2 hB5 (by omega) _ _⟩
          · obtain rfl : s = c.nb := by omega
            have hf : c.ff t r = c.nb := by rw [HF.out]; exact led_end hM.out
            have HFF := Lib.hid hf
            clear hs hls hf
            go_wp2
            go_roundw
            case rel => exact ⟨r + 1, by omega, by go_num, rfl, Lib.hid (fun j hj => by
              rcases Nat.lt_succ_iff_lt_or_eq.1 hj with h' | h'
              · exact hL.out j h'
              · subst h'; exact ⟨HV.out, HFF.out⟩), by trivial⟩
            case measure => simp [intOf]; omega
    · obtain rfl : r = n := by omega
      obtain ⟨rfl, rfl⟩ := HNO.out (HEND.out hL.out)
      clear hr hlt
      go_wp2
      refine bodyPost_ret (v := .tuple #[.agg #[.slice none 0 0, .slice none 0 0], .int .i64 6]) (by simp [results, Try.results7, go_sem, z0, z1]) rfl ⟨⟨none, 0, none, 0⟩, rfl, z0T_mem _ _, below_set2 hB1 (by omega) _ _⟩
theorem tcut_any (w : World) (h : RArg w w.heap.size c p t q) :
    Calls Try.prog 7 #[cv c p, tv t q] w (CutIs (c.cutT t) (c.cutE t) w) := by
  by_cases hk : c.tck t = 0
  · have e1 : c.cutT t = if 0 < c.cun t then t.cut (c.cun t) else z0T := by
      unfold Cr.cutT
      by_cases h0 : 0 < c.cun t
      · rw [if_pos ⟨hk, h0⟩, if_pos h0]
      · rw [if_neg fun h => h0 h.2, if_neg h0]
    have e2 : c.cutE t = if 0 < c.cun t then 0 else 6 := if_pos hk
    rw [e1, e2]
    exact tcut_yes hk w h
  · have e1 : c.cutT t = z0T := if_neg fun h => hk h.1
    have e2 : c.cutE t = c.tck t := if_neg hk
    rw [e1, e2]
    exact tcut_no hk w h
end
