/- The reference of layer 11: Parsed and Read. -/
import Derived.Test.YtbppdifghkkooaaGreatDoorWitRef
import Derived.Test.YtbppdifghkkooaaGreatDoorWitRead
namespace Go.Proofs.YtbppdifghkkooaaGreatDoor
open Go Go.RowKit
set_option linter.unusedVariables false
set_option linter.unusedSimpArgs false

theorem rok_of {c : Cr} {s : List UInt8} (h : WOk c s) : rOk (pcs 10 s) := rOk_iff.2 ⟨h.m, h.n.1, h.n.2, by
  have h9 := h.b
  unfold nbr at h9
  split at h9
  · cases h9
  · next hc => exact Nat.one_le_iff_ne_zero.2 fun q => hc (Or.inl q)⟩
theorem rok_no {c : Cr} {s : List UInt8} (h : ¬ rOk (pcs 10 s)) : wOk c s = false := wOk_no fun h' => h (rok_of h')
/-- how long a row is that is told -/
def rwN (c : Cr) (s : List UInt8) (j : Nat) : Nat := if isD (mR s (2 + j)) c.i.toNat = true then c.i.toNat else 0
/-- the lines as cells -/
def LnsIs (n : Nat) (G : Nat → ByteArray) (w : World) (e : Ending) (w' : World) : Prop := ∃ g k, e = .returned (.slice (some ⟨g, 0, none⟩) n k) ∧ (∀ j, j < n → w'.cell? ⟨g, j, none⟩ = some (.string (G j))) ∧ w.heap.size ≤ g ∧ g < w'.heap.size ∧ n ≤ k ∧ k ≤ maxLen ∧ Below w.heap.size w w'
theorem lns_any (s : List UInt8) (hs : s.length ≤ 100000) (W : World) : Calls Tryz.prog 75 #[.string (str s), .int .u8 10] W (LnsIs (pcs 10 s).length (fun j => str ((pcs 10 s).getD j [])) W) := by
  refine (rSplit_any s 10 10 rfl W hs).mono fun e w' h => ?_
  obtain ⟨v, he, ho, hb⟩ := h
  obtain ⟨n, hn⟩ : ∃ n, (pcs 10 s).length = n + 1 := ⟨(pcs 10 s).length - 1, by have := List.length_pos_iff.2 (pcs_ne 10 s); omega⟩
  rw [hn] at ho
  obtain ⟨g, k, rfl, h1, h2, h3, h4⟩ := own_there ho
  rw [hn]
  refine ⟨g, k, he, fun j hj => ?_, h1, h2, h3, h4, hb⟩
  rw [← at_add]
  exact ho.cells (g := g) rfl _ _ (strL_at (by omega))
theorem zero_told {c : Cr} {s : List UInt8} {w w' : World} (hb : Below w.heap.size w w') (h : wOk c s = false) : ToldIs c s w (.returned (.tuple #[.agg #[.slice none 0 0, .slice none 0 0], .int .i64 0, .bool false])) w' := told_zero hb h

section
variable {c : Cr} {p : Pl}
set_option maxRecDepth 100000 in
set_option maxHeartbeats 8000000 in
theorem rParsed_any (s : List UInt8) (hs : s.length ≤ 100000) (w : World) (hm : Mem w w.heap.size c p) (hsm : Sm c) (hi0 : 0 ≤ c.i) (hi1 : c.i ≤ 1000) :
    Calls Tryz.prog 51 #[cv c p, .string (str s)] w (ToldIs c s w) := by
  have hB0 : Below w.heap.size w (rdw w c p) := ((Below.refl _ _).alloc (Nat.le_refl _) _).alloc (by simp) _
  have hC0 : Has (rdw w c p) w.heap.size 34 (cc c p) := (Has.new w 34 (cc c p)).al _
  have hZ0 : Has (rdw w c p) (w.heap.size + 1) 47 #[.slice none 0 0, .slice none 0 0] := Has.new' _ _ (by simp)
  have HB0 := Lib.hid (And.intro hB0 (And.intro hC0 hZ0))
  have hb1 : w.heap.size ≤ w.heap.size + 1 := Nat.le_succ _
  have HF : Hid (¬ rOk (pcs 10 s) → wOk c s = false) := Lib.hid rok_no
  have HY : Hid (rOk (pcs 10 s) → okM s = true ∧ (pcs 10 s).length = (mL s).length + 3 ∧ (pcs 10 s).getD 1 [] = 98 :: mR s 0 ∧ (∀ j, 1 ≤ j → j < (mL s).length → (pcs 10 s).getD (j + 1) [] = mR s j) ∧ 3 ≤ (mL s).length ∧ (mL s).length ≤ 102) := Lib.hid fun h => by
    have h1 := rOk_iff.1 h
    have h2 := line_at h1.1
    exact ⟨h1.1, h2.1, h2.2.1, h2.2.2, h1.2.1, h1.2.2.1⟩
  have HML := Lib.hid (show ∀ j, ((pcs 10 s).getD j []).length ≤ 100000 from fun j => Nat.le_trans (getD_short 10 s j) hs)
  have D := lns_any s hs (rdw w c p)
  obtain ⟨G, hG⟩ : ∃ G : Nat → ByteArray, G = fun j => str ((pcs 10 s).getD j []) := ⟨_, rfl⟩
  obtain ⟨n, hn⟩ : ∃ n, n = (pcs 10 s).length := ⟨_, rfl⟩
  obtain ⟨S, hS⟩ : ∃ S, S = str s := ⟨_, rfl⟩
  rw [← hG, ← hn, ← hS] at D
  rw [← hS]
  have HD := Lib.hid D
  have HG : Hid (∀ j, G j = str ((pcs 10 s).getD j [])) := Lib.hid fun j => by rw [hG]
  have HN := Lib.hid hn
  have HS := Lib.hid (And.intro hS hs)
  have HM := Lib.hid (And.intro hm (And.intro hsm (And.intro hi0 hi1)))
  clear hB0 hC0 hZ0 D hG hn hS hm hsm hi0 hi1 hs
  by_cases h1 : n < 6
  · have HW := Lib.hid (HF.out fun h => by have := h.1; have := HN.out; omega)
    have e1 : decide ((n : Int) < 6) = true := decide_eq_true (by omega)
    clear h1 HF HY HM
    go_enter Tryz.func51, Tryz.ntmps51
    go_wp2_with (go_at_call 75; (with_reducible refine HD.out.mono ?_); rintro e w1 ⟨g, k, rfl, hcl, hg1, hg2, hk1, hk2, hb2⟩; have hZ1 := HB0.out.2.2.keep hb2 HB0.out.2.2.lt; have hB1 := Below.step HB0.out.1 HB0.out.1.size hb2; obtain ⟨z0, z1, f0, f1⟩ := box_two hZ1; have hC1 := HB0.out.2.1.keep hb2 HB0.out.2.1.lt; clear hcl hb2)
    refine bodyPost_ret (v := .tuple #[.agg #[.slice none 0 0, .slice none 0 0], .int .i64 0, .bool false]) (by simp [results, Tryz.results51, go_sem, z0, z1]) rfl (zero_told (below_s2 hB1 hb1 _ _) HW.out)
  by_cases h2 : 105 < n
  · have HW := Lib.hid (HF.out fun h => by have := h.2.1; have := HN.out; omega)
    have e1 : decide ((n : Int) < 6) = false := decide_eq_false (by omega)
    have e2 : decide ((105 : Int) < (n : Int)) = true := decide_eq_true (by omega)
    clear h1 h2 HF HY HM
    go_enter Tryz.func51, Tryz.ntmps51
    go_wp2_with (go_at_call 75; (with_reducible refine HD.out.mono ?_); rintro e w1 ⟨g, k, rfl, hcl, hg1, hg2, hk1, hk2, hb2⟩; have hZ1 := HB0.out.2.2.keep hb2 HB0.out.2.2.lt; have hB1 := Below.step HB0.out.1 HB0.out.1.size hb2; obtain ⟨z0, z1, f0, f1⟩ := box_two hZ1; have hC1 := HB0.out.2.1.keep hb2 HB0.out.2.1.lt; clear hcl hb2)
    refine bodyPost_ret (v := .tuple #[.agg #[.slice none 0 0, .slice none 0 0], .int .i64 0, .bool false]) (by simp [results, Tryz.results51, go_sem, z0, z1]) rfl (zero_told (below_s2 hB1 hb1 _ _) HW.out)
  have e1 : decide ((n : Int) < 6) = false := decide_eq_false (by omega)
  have e2 : decide ((105 : Int) < (n : Int)) = false := decide_eq_false (by omega)
  obtain ⟨m2, hm2⟩ : ∃ m2, n = m2 + 2 := ⟨n - 2, by omega⟩
  have x1 : (n : Int) - 1 = ((m2 + 1 : Nat) : Int) := by omega
  have x2 : (n : Int) - 2 = (m2 : Int) := by omega
  have hm4 : 4 ≤ m2 := by omega
  have hm103 : m2 ≤ 103 := by omega
  obtain ⟨m1, hm1⟩ : ∃ m1, m1 = m2 + 1 := ⟨_, rfl⟩
  rw [← hm1] at x1
  have w1' : IntKind.i64.wrap (m1 : Int) = (m1 : Int) := IntWalk.i64_in _ (by omega)
  have w2' : IntKind.i64.wrap (m2 : Int) = (m2 : Int) := IntWalk.i64_in _ (by omega)
  have l1 : (m1 : Int) < (n : Int) := by omega
  have l2 : (m2 : Int) < (n : Int) := by omega
  have l0 : (0 : Int) < (n : Int) := by omega
  have l3 : (1 : Int) < (n : Int) := by omega
  have l4 : (2 : Int) < (n : Int) := by omega
  have HMM := Lib.hid (And.intro hm1 hm2)
  have HR1 : Hid (rOk (pcs 10 s) → (G m1).toList = [] ∧ (G m2).toList = [46] ∧ (G 0).toList = [49] ∧ 2 ≤ ((pcs 10 s).getD 1 []).length ∧ ((pcs 10 s).getD 1 []).getD 0 0 = 98) := Lib.hid fun h => by
    obtain ⟨_, _, r3, r4, r5, r6, r7⟩ := h
    rw [← HN.out] at r3 r4
    rw [show n - 1 = m1 by omega] at r3
    rw [show n - 2 = m2 by omega] at r4
    refine ⟨?_, ?_, ?_, r6, r7⟩
    · rw [HG.out, str_list, r3]
    · rw [HG.out, str_list, r4]
    · rw [HG.out, str_list, r5]
  have HCL : Hid (∀ {W : World} {g : Nat}, (∀ j, j < n → W.cell? ⟨g, j, none⟩ = some (.string (G j))) → W.cell? ⟨g, m1, none⟩ = some (.string (G m1)) ∧ W.cell? ⟨g, m2, none⟩ = some (.string (G m2)) ∧ W.cell? ⟨g, 0, none⟩ = some (.string (G 0)) ∧ W.cell? ⟨g, 1, none⟩ = some (.string (G 1)) ∧ W.cell? ⟨g, 2, none⟩ = some (.string (G 2))) := Lib.hid fun h => ⟨h _ (by omega), h _ (by omega), h _ (by omega), h _ (by omega), h _ (by omega)⟩
  clear hm1 hm2
  by_cases h3 : (G m1).toList = []
  · have e3 : ((G m1).toList == ([] : List UInt8)) = true := by simpa using h3
    by_cases h4 : (G m2).toList = [46]
    · have e4 : ((G m2).toList == ([46] : List UInt8)) = true := by simpa using h4
      by_cases h5 : (G 0).toList = [49]
      · have e5 : ((G 0).toList == ([49] : List UInt8)) = true := by simpa using h5
        obtain ⟨z, hz⟩ : ∃ z, z = ((pcs 10 s).getD 1 []).length := ⟨_, rfl⟩
        have k1 : ∀ W : World, (Builtin.len_ #[9] 3 #[.string (G 1)]).run Tryz.prog W = .ok (.int .i64 (z : Int)) W := fun W => by rw [HG.out, hz]; exact str_len Tryz.underlying9 _ W
        by_cases h6 : 2 ≤ z
        · have e6 : decide ((z : Int) < 2) = false := decide_eq_false (by omega)
          obtain ⟨x, hx⟩ : ∃ x : Int, x = ((((pcs 10 s).getD 1 []).getD 0 0).toNat : Int) := ⟨_, rfl⟩
          have kx : ∀ W : World, (Instr.index 9 (.string (G 1)) (.int .i64 0)).run Tryz.prog W = .ok (.int .u8 x) W := fun W => by
            rw [HG.out, hx]
            exact str_idx Tryz.underlying9 _ (x := 0) (j := 0) rfl (by omega) W
          have HZ := Lib.hid hz
          by_cases h7 : x = 98
          · have e7 : (x != 98) = false := by simp [h7]
            have hok : rOk (pcs 10 s) := ⟨by have := HN.out; omega, by have := HN.out; omega, by rw [← HN.out, show n - 1 = m1 by have := HMM.out; omega]; have := h3; rw [HG.out, str_list] at this; exact this, by rw [← HN.out, show n - 2 = m2 by have := HMM.out; omega]; have := h4; rw [HG.out, str_list] at this; exact this, by have := h5; rw [HG.out, str_list] at this; exact this, by rw [← HZ.out]; exact h6, UInt8.toNat_inj.1 (by show _ = 98; omega)⟩
            have HYY := Lib.hid (HY.out hok)
            clear h1 h2 h3 h4 h5 h6 h7 hz hx hok HF HY HR1
            obtain ⟨R0, hR0⟩ : ∃ R0, R0 = str (mR s 0) := ⟨_, rfl⟩
            obtain ⟨bad, hbad⟩ : ∃ bad, bad = nbrI (mR s 0) := ⟨_, rfl⟩
            obtain ⟨ni, hni⟩ : ∃ ni, ni = c.i.toNat := ⟨_, rfl⟩
            have HNI := Lib.hid (show c.i = (ni : Int) ∧ ni ≤ 1000 by have := HM.out.2.2; omega)
            have ks : ∀ W : World, (Instr.slice 9 (.string (G 1)) (some (.int .i64 1)) none none).run Tryz.prog W = .ok (.string R0) W := fun W => by
              rw [HG.out, HYY.out.2.2.1, hR0]
              exact str_from Tryz.underlying9 _ (x := 1) (j := 1) rfl (by simp) W
            have hml0 : (mR s 0).length ≤ 100000 := by
              have := HML.out 1
              rw [HYY.out.2.2.1, List.length_cons] at this
              omega
            have DN : Hid (∀ W, Calls Tryz.prog 100 #[.string R0] W fun e w' => e = .returned (.int .i64 bad) ∧ W = w') := Lib.hid fun W => by
              rw [hR0, hbad]
              exact rNumber_any _ W hml0
            have hG2 : ∀ j, 1 ≤ j → j < (mL s).length → G (j + 1) = str (mR s j) ∧ (mR s j).length ≤ 100000 := fun j h1 h2 => by
              have e := HYY.out.2.2.2.1 j h1 h2
              refine ⟨by rw [HG.out, e], ?_⟩
              rw [← e]
              exact HML.out _
            have HG2 := Lib.hid hG2
            obtain ⟨b5, hb5e⟩ : ∃ b5, b5 = isD (mR s 1) c.nl := ⟨_, rfl⟩
            have HB5 := Lib.hid hb5e
            have DV1 : Hid (∀ W, Calls Tryz.prog 101 #[.string (G 2), .int .i64 (c.nl : Int)] W (ValrB (mR s 1) c.nl b5 W)) := Lib.hid fun W => by
              have h := hG2 1 (by omega) (by have := HYY.out; omega)
              rw [h.1, hb5e]
              exact rValues_any _ c.nl _ rfl h.2 W
            have DV2 : Hid (∀ r, r < m2 - 3 → ∀ W, Calls Tryz.prog 101 #[.string (G (3 + r)), .int .i64 c.i] W (ValrB (mR s (2 + r)) ni (isD (mR s (2 + r)) ni) W)) := Lib.hid fun r hr W => by
              have h := hG2 (2 + r) (by omega) (by have := HYY.out; have := HMM.out; have := HN.out; omega)
              rw [show 3 + r = 2 + r + 1 by omega, h.1]
              exact rValues_any _ ni _ HNI.out.1 h.2 W
            obtain ⟨bq, hbq⟩ : ∃ bq : Nat → Bool, bq = fun r => isD (mR s 1) c.nl && decide (∀ j, j < r → isD (mR s (2 + j)) ni = true) := ⟨_, rfl⟩
            have HQ0' : Hid (bq 0 = b5) := Lib.hid (by rw [hb5e, hbq]; show (_ && decide _) = _; rw [decide_eq_true (fun j hj => absurd hj (Nat.not_lt_zero _)), Bool.and_true])
            have HQ1 : Hid (∀ r, bq (r + 1) = (bq r && isD (mR s (2 + r)) ni)) := Lib.hid fun r => by
              rw [hbq]
              show (isD (mR s 1) c.nl && decide _) = ((isD (mR s 1) c.nl && decide _) && _)
              rw [Bool.and_assoc]
              congr 1
              rw [Bool.eq_iff_iff, Bool.and_eq_true, decide_eq_true_eq, decide_eq_true_eq]
              exact ⟨fun h => ⟨fun j hj => h j (by omega), h r (by omega)⟩, fun h j hj => by
                rcases Nat.lt_succ_iff_lt_or_eq.1 hj with h' | h'
                · exact h.1 j h'
                · subst h'; exact h.2⟩
            have HQ2 : Hid (∀ r, bq r = true → isD (mR s 1) c.nl = true ∧ ∀ j, j < r → isD (mR s (2 + j)) ni = true) := Lib.hid fun r h => by
              rw [hbq] at h
              have h : (isD (mR s 1) c.nl && decide _) = true := h
              rw [Bool.and_eq_true, decide_eq_true_eq] at h
              exact h
            have HWK : Hid (wOk c s = (decide (0 ≤ bad) && bq (m2 - 3))) := Lib.hid (by
              rw [wOk_parts]
              have e1 : rwB s = true := by unfold rwB; rw [HYY.out.1, decide_eq_true ⟨HYY.out.2.2.2.2.1, HYY.out.2.2.2.2.2⟩]; rfl
              have e2 : (nbr (mR s 0)).isSome = decide (0 ≤ bad) := by
                rw [hbad]
                cases h : nbr (mR s 0) with
                | none => rw [nbrI_no h]; rfl
                | some v => rw [nbrI_yes h]; symm; exact decide_eq_true (by omega)
              rw [e1, Bool.true_and, e2, hbq, ← hni]
              show (_ && (_ && decide _)) = (_ && (_ && decide _))
              have e3 : (mL s).length - 2 = m2 - 3 := by have := HYY.out; have := HMM.out; have := HN.out; omega
              rw [e3])
            have HBD : Hid (decide (0 ≤ bad) = true → bad = (wBd s : Int)) := Lib.hid fun h => by
              have h := of_decide_eq_true h
              rw [hbad] at h ⊢
              unfold wBd
              cases h2 : nbr (mR s 0) with
              | none => rw [nbrI_no h2] at h; omega
              | some v => rw [nbrI_yes h2]; rfl
            have HTR : Hid (wTr c s = ⟨c.nl, bvD (mR s 1), m2 - 3, fun _ => ni, fun j => bvD (mR s (2 + j))⟩) := Lib.hid (by
              unfold wTr
              have e3 : (mL s).length - 2 = m2 - 3 := by have := HYY.out; have := HMM.out; have := HN.out; omega
              rw [e3, hni])
            have HNL : Hid (∀ j, rwN c s j ≤ ni) := Lib.hid fun j => by unfold rwN; rw [← hni]; split; exact Nat.le_refl _; exact Nat.zero_le _
            have HN1 : Hid (∀ r, isD (mR s (2 + r)) ni = true → rwN c s r = ni) := Lib.hid fun r h => by unfold rwN; rw [← hni, if_pos h]
            have HN0 : Hid (∀ r, isD (mR s (2 + r)) ni = false → rwN c s r = 0) := Lib.hid fun r h => by unfold rwN; rw [← hni, if_neg (by rw [h]; simp)]
            clear hR0 hbad hni hG2 hbq hml0 HG2 hb5e
            go_enter Tryz.func51, Tryz.ntmps51
            go_wp2_with (first
              | (go_at_call 75; (with_reducible refine HD.out.mono ?_); rintro e w1 ⟨g, k, rfl, hcl, hg1, hg2, hk1, hk2, hb2⟩; have hZ1 := HB0.out.2.2.keep hb2 HB0.out.2.2.lt; have hB1 := Below.step HB0.out.1 HB0.out.1.size hb2; have hC1 := HB0.out.2.1.keep hb2 HB0.out.2.1.lt; obtain ⟨y9, y8, y0, y1, y2⟩ := HCL.out hcl; have HCELL := Lib.hid hcl; clear hcl hb2; have hg3 : w.heap.size + 1 < g := (by simp at hg1; omega))
              | (go_at_call 100; (with_reducible refine (DN.out _).mono ?_); rintro e w2 ⟨rfl, rfl⟩))
            have hBd : Below w.heap.size w w1.drew := below_dn hB1 1
            have hZd : Has w1.drew (w.heap.size + 1) 47 #[.slice none 0 0, .slice none 0 0] := hZ1
            have hCd : Has w1.drew w.heap.size 34 (cc c p) := hC1
            have hS0 : w1.drew.cell? ⟨g, 2, none⟩ = some (.string (G 2)) ∧ w1.drew.cell? ⟨w.heap.size, 1, none⟩ = some (.slice p.A1 c.nl p.k1) := ⟨y2, hCd.cell 1⟩
            have HS1 := Lib.hid hS0
            have hgd : g < w1.drew.heap.size := hg2
            clear y9 y8 y0 y1 y2
            go_wp2
            refine wp_region_T (fun w' => w'.cell? ⟨g, 2, none⟩ = some (.string (G 2)) ∧ w'.cell? ⟨w.heap.size, 1, none⟩ = some (.slice p.A1 c.nl p.k1)) 12 (by kernel_rfl) ?_
            (refine wpT_take 0 (v := ?_) rfl (by kernel_rfl) (by kernel_rfl) (by kernel_rfl) (by kernel_rfl) (fun _ _ _ h => h) rfl hS0 (fun w hS => ?_) ?_; rotate_left; focus (obtain ⟨j0, j1⟩ := hS; go_simp; rfl)); (refine wpT_take 1 (v := ?_) rfl (by kernel_rfl) (by kernel_rfl) (by kernel_rfl) (by kernel_rfl) (fun _ _ _ h => h) rfl hS0 (fun w hS => ?_) ?_; rotate_left; focus (obtain ⟨j0, j1⟩ := hS; go_simp; rfl)); (refine wpT_take 2 (v := ?_) rfl (by kernel_rfl) (by kernel_rfl) (by kernel_rfl) (by kernel_rfl) (fun _ _ _ h => h) rfl hS0 (fun w hS => ?_) ?_; rotate_left; focus (obtain ⟨j0, j1⟩ := hS; go_simp; rfl)); (refine wpT_take 3 (v := ?_) rfl (by kernel_rfl) (by kernel_rfl) (by kernel_rfl) (by kernel_rfl) (fun _ _ _ h => h) rfl hS0 (fun w hS => ?_) ?_; rotate_left; focus (obtain ⟨j0, j1⟩ := hS; go_simp; rfl)); (refine wpT_take 4 (v := ?_) rfl (by kernel_rfl) (by kernel_rfl) (by kernel_rfl) (by kernel_rfl) (fun _ _ _ h => h) rfl hS0 (fun w hS => ?_) ?_; rotate_left; focus (obtain ⟨j0, j1⟩ := hS; go_simp; rfl)); (refine wpT_take 5 (v := ?_) rfl (by kernel_rfl) (by kernel_rfl) (by kernel_rfl) (by kernel_rfl) (fun _ _ _ h => h) rfl hS0 (fun w hS => ?_) ?_; rotate_left; focus (obtain ⟨j0, j1⟩ := hS; go_simp; rfl))
            refine wpT_one 6 (by kernel_rfl) (wpOp_go rfl rfl fun K hK => ?_)
            go_simp
            go_at_call 101
            (with_reducible refine (DV1.out w1.drew).mono ?_)
            rintro e w5 ⟨A5, m5, k5, rfl, hb5, hm5, hm5t, hm5f, hi5, hn5, hl5⟩
            have hS0 : w5.cell? ⟨g, 2, none⟩ = some (.string (G 2)) ∧ w5.cell? ⟨w.heap.size, 1, none⟩ = some (.slice p.A1 c.nl p.k1) := ⟨(hb5.cell (cell_lt HS1.out.1)).trans HS1.out.1, (hb5.cell (cell_lt HS1.out.2)).trans HS1.out.2⟩
            have hB5 := Below.step hBd hBd.size hb5
            have hZ5 := hZd.keep hb5 hZd.lt
            have hC5 := hCd.keep hb5 hCd.lt
            have hcl5 : Hid (∀ j, j < n → w5.cell? ⟨g, j, none⟩ = some (.string (G j))) := Lib.hid fun j hj => (hb5.cell (p := ⟨g, j, none⟩) hgd).trans (HCELL.out j hj)
            have hg5 : g < w5.heap.size := Nat.lt_of_lt_of_le hgd hb5.size
            have hl5' : ∀ a, A5 = some a → w.heap.size + 1 + 1 ≤ a.block := fun a ha => by have := hl5 a ha; have := hZd.lt; omega
            refine hK _ _ ⟨fun _ => hS0, ?_⟩
            (refine wpT_take 7 (v := ?_) rfl (by kernel_rfl) (by kernel_rfl) (by kernel_rfl) (by kernel_rfl) (fun _ _ _ h => h) rfl hS0 (fun w hS => ?_) ?_; rotate_left; focus (obtain ⟨j0, j1⟩ := hS; go_simp; rfl)); (refine wpT_take 8 (v := ?_) rfl (by kernel_rfl) (by kernel_rfl) (by kernel_rfl) (by kernel_rfl) (fun _ _ _ h => h) rfl hS0 (fun w hS => ?_) ?_; rotate_left; focus (obtain ⟨j0, j1⟩ := hS; go_simp; rfl)); (refine wpT_take 9 (v := ?_) rfl (by kernel_rfl) (by kernel_rfl) (by kernel_rfl) (by kernel_rfl) (fun _ _ _ h => h) rfl hS0 (fun w hS => ?_) ?_; rotate_left; focus (obtain ⟨j0, j1⟩ := hS; go_simp; rfl)); (refine wpT_take 10 (v := ?_) rfl (by kernel_rfl) (by kernel_rfl) (by kernel_rfl) (by kernel_rfl) (fun _ _ _ h => h) rfl hS0 (fun w hS => ?_) ?_; rotate_left; focus (obtain ⟨j0, j1⟩ := hS; go_simp; rfl)); (refine wpT_take 11 (v := ?_) rfl (by kernel_rfl) (by kernel_rfl) (by kernel_rfl) (by kernel_rfl) (fun _ _ _ h => h) rfl hS0 (fun w hS => ?_) ?_; rotate_left; focus (obtain ⟨j0, j1⟩ := hS; go_simp; rfl))
            refine wpT_done (by kernel_rfl) (NoPanic.normal ?_) _
            have hX6 : Has (w5.alloc (.cells #[.slice A5 m5 k5, .slice none 0 0] 47)) w5.heap.size 47 #[.slice A5 m5 k5, .slice none 0 0] := Has.new _ _ _
            have hZ6 := hZ5.al (.cells #[.slice A5 m5 k5, .slice none 0 0] 47)
            have hC6 := hC5.al (.cells #[.slice A5 m5 k5, .slice none 0 0] 47)
            have hB6 := hB5.alloc hB5.size (.cells #[.slice A5 m5 k5, .slice none 0 0] 47)
            have hi6 := hi5.to ((Below.refl w5.heap.size w5).alloc (Nat.le_refl _) (.cells #[.slice A5 m5 k5, .slice none 0 0] 47)) (by simp)
            have hz5 := hZ5.lt
            have hne5 : ∀ a, A5 = some a → 0 < m5 → a.block < w5.heap.size := fun a ha hm => by
              obtain ⟨a', e, hl, _⟩ := hi5 hm
              rw [ha] at e
              cases e
              exact hl
            have hcl6 : Hid (∀ j, j < n → (w5.alloc (.cells #[.slice A5 m5 k5, .slice none 0 0] 47)).cell? ⟨g, j, none⟩ = some (.string (G j))) := Lib.hid fun j hj => ca (hcl5.out j hj) _
            have H6 := Lib.hid (And.intro hX6 (And.intro hZ6 (And.intro hC6 (And.intro hB6 hi6))))
            have HM5 := Lib.hid (And.intro hm5 (And.intro hm5t (And.intro hm5f (And.intro hn5 (And.intro hl5' hne5)))))
            have HGZ := Lib.hid (And.intro hg5 hz5)
            clear hi6 hC6 hZ6 hX6 hB6 hcl5 hZ5 hC5 hB5 hi5 hn5 hl5 hl5' hne5 hm5 hm5t hm5f hZd hCd hBd hb5 hS0 hB1 hC1 hZ1 hg5 hz5 HS1 hgd
            go_wp2
            obtain ⟨W6, hW6⟩ : ∃ W6, w5.alloc (.cells #[.slice A5 m5 k5, .slice none 0 0] 47) = W6 := ⟨_, rfl⟩
            rw [hW6] at H6 hcl6 ⊢
            obtain ⟨bx, hbx⟩ : ∃ bx, w5.heap.size = bx := ⟨_, rfl⟩
            rw [hbx] at H6 HGZ HM5 ⊢
            clear hW6 hbx
            have hgbx := HGZ.out.1
            have hzbx := HGZ.out.2
            have hW6l := H6.out.1.lt
            have hcl7 := hcl6
            go_loopw [11, 13] (fun u11 i wr => ∃ r q : Nat, ∃ v, Hid (r ≤ m2 - 3 ∧ q = 3 + r) ∧ i = .int .i64 (q : Int) ∧ u11 = .bool (bq r) ∧ Has wr bx 47 #[.slice A5 m5 k5, v] ∧ Grid wr W6.heap.size v r (rwN c s) (fun j => bvD (mR s (2 + j))) (some bx) W6.heap.size ∧ W6.grownBy wr (some bx)) (fun _ i _ => n - (intOf i).toNat)
            case atStart => exact ⟨0, 3, _, Lib.hid ⟨Nat.zero_le _, rfl⟩, rfl, by rw [HQ0'.out], H6.out.1, Grid.nil _ _ _ _ _, grown_of (Below.refl _ _)⟩
            case round =>
              obtain ⟨r, q, v, hrq, rfl, rfl, hX, hG, hgw⟩ := hrel
              have hBr : Below w.heap.size w wr := H6.out.2.2.2.1.grown hgw H6.out.2.2.2.1.size (fun k hk => by cases hk; omega)
              have hzr := hgw.size
              have hXl := hX.lt
              have hCr := H6.out.2.2.1.grow hgw (by omega)
              have hZr := H6.out.2.1.grow hgw (by omega)
              by_cases hlt : q < m2
              · have hq0 : (0 : Int) ≤ (q : Int) := by omega
                have hq1 : (q : Int) < (m2 : Int) := by omega
                have hq2 : (q : Int) < (n : Int) := by omega
                have hw9 : IntKind.i64.wrap ((q : Int) + 1) = (q : Int) + 1 := IntWalk.i64_in _ (by omega)
                have hrl : r < m2 - 3 := by have := hrq.out; omega
                have yq : wr.cell? ⟨g, q, none⟩ = some (.string (G q)) := (World.cell?_of_block (hgw.block g (by omega) (fun e => by injection e with e; omega))).trans (hcl7.out q (by have := HMM.out; omega))
                have hS0 : wr.drew.cell? ⟨g, q, none⟩ = some (.string (G q)) ∧ wr.drew.cell? ⟨w.heap.size, 0, none⟩ = some (.int .i64 c.i) := ⟨yq, hCr.cell 0⟩
                have HS1 := Lib.hid hS0
                have hXd : Has wr.drew bx 47 #[.slice A5 m5 k5, v] := hX
                have hGd : Grid wr.drew W6.heap.size v r (rwN c s) (fun j => bvD (mR s (2 + j))) (some bx) W6.heap.size := ⟨hG.ex⟩
                have hgd : W6.grownBy wr.drew (some bx) := grown_dn hgw 1
                obtain ⟨bd, hbd⟩ : ∃ bd, bd = isD (mR s (2 + r)) ni := ⟨_, rfl⟩
                have DV : Hid (∀ W, Calls Tryz.prog 101 #[.string (G q), .int .i64 c.i] W (ValrB (mR s (2 + r)) ni bd W)) := Lib.hid fun W => by
                  have := DV2.out r hrl W
                  rwa [← hrq.out.2, ← hbd] at this
                have HBQ := Lib.hid (show bq (r + 1) = (bq r && bd) by rw [hbd]; exact HQ1.out r)
                have HRN : Hid (∀ m, (bd = true → m = ni) → (bd = false → m = 0) → m = rwN c s r) := Lib.hid fun m h1 h2 => by
                  cases h : bd
                  · rw [HN0.out r (by rw [← hbd, h])]; exact h2 h
                  · rw [HN1.out r (by rw [← hbd, h])]; exact h1 h
                have hni : ni ≤ 1000 := HNI.out.2
                have HBR := Lib.hid hBr
                clear hX hG hgw yq hBr hCr hZr hbd
                go_wp2
                refine wp_region_T (fun w' => w'.cell? ⟨g, q, none⟩ = some (.string (G q)) ∧ w'.cell? ⟨w.heap.size, 0, none⟩ = some (.int .i64 c.i)) 12 (by kernel_rfl) ?_
                (refine wpT_take 0 (v := ?_) rfl (by kernel_rfl) (by kernel_rfl) (by kernel_rfl) (by kernel_rfl) (fun _ _ _ h => h) rfl hS0 (fun w hS => ?_) ?_; rotate_left; focus (obtain ⟨j0, j1⟩ := hS; go_simp; rfl)); (refine wpT_take 1 (v := ?_) rfl (by kernel_rfl) (by kernel_rfl) (by kernel_rfl) (by kernel_rfl) (fun _ _ _ h => h) rfl hS0 (fun w hS => ?_) ?_; rotate_left; focus (obtain ⟨j0, j1⟩ := hS; go_simp; rfl)); (refine wpT_take 2 (v := ?_) rfl (by kernel_rfl) (by kernel_rfl) (by kernel_rfl) (by kernel_rfl) (fun _ _ _ h => h) rfl hS0 (fun w hS => ?_) ?_; rotate_left; focus (obtain ⟨j0, j1⟩ := hS; go_simp; rfl)); (refine wpT_take 3 (v := ?_) rfl (by kernel_rfl) (by kernel_rfl) (by kernel_rfl) (by kernel_rfl) (fun _ _ _ h => h) rfl hS0 (fun w hS => ?_) ?_; rotate_left; focus (obtain ⟨j0, j1⟩ := hS; go_simp; rfl)); (refine wpT_take 4 (v := ?_) rfl (by kernel_rfl) (by kernel_rfl) (by kernel_rfl) (by kernel_rfl) (fun _ _ _ h => h) rfl hS0 (fun w hS => ?_) ?_; rotate_left; focus (obtain ⟨j0, j1⟩ := hS; go_simp; rfl)); (refine wpT_take 5 (v := ?_) rfl (by kernel_rfl) (by kernel_rfl) (by kernel_rfl) (by kernel_rfl) (fun _ _ _ h => h) rfl hS0 (fun w hS => ?_) ?_; rotate_left; focus (obtain ⟨j0, j1⟩ := hS; go_simp; rfl))
                refine wpT_one 6 (by kernel_rfl) (wpOp_go rfl rfl fun K hK => ?_)
                go_simp
                go_at_call 101
                (with_reducible refine (DV.out wr.drew).mono ?_)
                rintro e w6 ⟨A6, m6, k6, rfl, hb6, hm6, hm6t, hm6f, hi6, hn6, hl6⟩
                have hS0 : w6.cell? ⟨g, q, none⟩ = some (.string (G q)) ∧ w6.cell? ⟨w.heap.size, 0, none⟩ = some (.int .i64 c.i) := ⟨(hb6.cell (cell_lt HS1.out.1)).trans HS1.out.1, (hb6.cell (cell_lt HS1.out.2)).trans HS1.out.2⟩
                have hX6 := hXd.keep hb6 hXd.lt
                have hG6 := hGd.call hb6
                have hg6 := grown_trans hgd (grown_of hb6)
                have hap := hGd.apart (m := m6) hl6 (E := some bx) (fun g hg => by cases hg; exact hXd.lt)
                have hz6 := hb6.size
                have hz6b := hX6.lt
                have hl6' : ∀ a, A6 = some a → W6.heap.size ≤ a.block := fun a ha => Nat.le_trans hgd.size (hl6 a ha)
                refine hK _ _ ⟨fun _ => hS0, ?_⟩
                (refine wpT_take 7 (v := ?_) rfl (by kernel_rfl) (by kernel_rfl) (by kernel_rfl) (by kernel_rfl) (fun _ _ _ h => h) rfl hS0 (fun w hS => ?_) ?_; rotate_left; focus (obtain ⟨j0, j1⟩ := hS; go_simp; rfl)); (refine wpT_take 8 (v := ?_) rfl (by kernel_rfl) (by kernel_rfl) (by kernel_rfl) (by kernel_rfl) (fun _ _ _ h => h) rfl hS0 (fun w hS => ?_) ?_; rotate_left; focus (obtain ⟨j0, j1⟩ := hS; go_simp; rfl)); (refine wpT_take 9 (v := ?_) rfl (by kernel_rfl) (by kernel_rfl) (by kernel_rfl) (by kernel_rfl) (fun _ _ _ h => h) rfl hS0 (fun w hS => ?_) ?_; rotate_left; focus (obtain ⟨j0, j1⟩ := hS; go_simp; rfl)); (refine wpT_take 10 (v := ?_) rfl (by kernel_rfl) (by kernel_rfl) (by kernel_rfl) (by kernel_rfl) (fun _ _ _ h => h) rfl hS0 (fun w hS => ?_) ?_; rotate_left; focus (obtain ⟨j0, j1⟩ := hS; go_simp; rfl)); (refine wpT_take 11 (v := ?_) rfl (by kernel_rfl) (by kernel_rfl) (by kernel_rfl) (by kernel_rfl) (fun _ _ _ h => h) rfl hS0 (fun w hS => ?_) ?_; rotate_left; focus (obtain ⟨j0, j1⟩ := hS; go_simp; rfl))
                refine wpT_done (by kernel_rfl) (NoPanic.normal ?_) _
                have hrn : m6 = rwN c s r := HRN.out m6 hm6t hm6f
                have HI6 := Lib.hid (And.intro hi6 (And.intro hn6 (And.intro hap hl6')))
                obtain ⟨u0, u1, v0, v1⟩ := box_two hX6
                clear hS0 hm6t hm6f hi6 hn6 hap hl6 hl6' hm6 hXd hGd hgd hb6 DV
                subst hrn
                obtain ⟨bo, hbo⟩ : ∃ bo, bo = bq r := ⟨_, rfl⟩
                rw [← hbo] at HBQ ⊢
                have hr9 : r ≤ 100000 := by omega
                have hbw : W6.heap.size ≤ w6.heap.size := hg6.size
                cases bo
                all_goals
                  clear hbo
                  go_wp2_with (at_builtin; (refine append_row rfl _ _ _ rfl Tryz.underlying45 W6.heap.size v r (rwN c s) (fun j => bvD (mR s (2 + j))) (some bx) rfl (hG6.al _) w6.heap.size 1 A6 k6 rfl ((Has.new w6 44 #[.slice A6 (rwN c s r) k6]).cell 0) (HI6.out.1.to ((Below.refl _ _).alloc (Nat.le_refl _) _) (by simp)) HI6.out.2.1 HI6.out.2.2.1 hr9 (by simp; omega) ?_ (fun _ a ha => HI6.out.2.2.2 a ha)); intro v8 w8 hG8 hg8 _; obtain ⟨A8, k8, rfl, _⟩ := hG8.at; have hX8 := (hG6.al (.cells #[.slice A6 (rwN c s r) k6] 44)).has (hX6.al _) hg8 (by omega); have hg8' := grown_over (grown_trans hg6 (grown_al w6 (.cells #[.slice A6 (rwN c s r) k6] 44) |> fun h => ⟨h.os, h.tape, h.output, h.size, fun i hi hr => h.block i hi (by simp)⟩)) hg8 (fun k hk => (hG6.lt hk).1); obtain ⟨t0, t1, p0, p1⟩ := box_two hX8)
                  go_roundw
                  case rel => exact ⟨r + 1, q + 1, _, Lib.hid (by have := hrq.out; omega), by go_num, by rw [HBQ.out]; rfl, hX8.set 1 _, hG8.far (grown_set w8 bx 1 _) (Or.inr rfl) (Or.inr (fun e => by have := (hG8.lt e).1; omega)) (Or.inl rfl), grown_trans hg8' (grown_set w8 bx 1 _)⟩
                  case measure => simp [intOf]; omega
              · obtain ⟨q', hqe⟩ : ∃ q', q' = q := ⟨_, rfl⟩
                subst hqe
                have hqn : ¬ (q' : Int) < (m2 : Int) := by omega
                have hr : r = m2 - 3 := by have := hrq.out; omega
                obtain ⟨A2, k2, rfl, hi2, hn2, hc2, _⟩ := hG.at
                obtain ⟨x0, x1', _, _⟩ := box_two hX
                obtain ⟨z0, z1, f0, f1⟩ := box_two hZr
                have HFIN : Hid (∀ u v, wOk c s = true → (⟨m5, bvD (mR s 1), r, fun _ => ni, fun j => bvD (mR s (2 + j))⟩ : Tr) = wTr c s ∧ bad = (wBd s : Int) ∧ TNew ((wr.setCell ⟨w.heap.size + 1, 0, none⟩ u).setCell ⟨w.heap.size + 1, 1, none⟩ v) w.heap.size ⟨m5, bvD (mR s 1), r, fun _ => ni, fun j => bvD (mR s (2 + j))⟩ ⟨A5, k5, A2, k2⟩) := Lib.hid fun u v h => by
                  rw [HWK.out, Bool.and_eq_true] at h
                  have hq := HQ2.out _ h.2
                  have hb : b5 = true := by rw [HB5.out]; exact hq.1
                  refine ⟨?_, HBD.out h.1, ?_⟩
                  · rw [HTR.out, ← hr, HM5.out.2.1 hb]
                  · have hT : TNew wr (w.heap.size + 1 + 1) ⟨m5, bvD (mR s 1), r, fun _ => ni, fun j => bvD (mR s (2 + j))⟩ ⟨A5, k5, A2, k2⟩ := by
                      refine ⟨H6.out.2.2.2.2.by hgw (fun hm a ha e => by have := HM5.out.2.2.2.2.2 a ha hm; injection e with e; omega), HM5.out.2.2.2.1, HM5.out.2.2.2.2.1, ?_⟩
                      obtain ⟨xs, ho, hc⟩ := (hG.weak (base' := w.heap.size + 1 + 1) (lo' := w.heap.size + 1 + 1) (by omega) (by omega)).ex
                      exact ⟨⟨xs, ho, fun j hj => by have hj : j < r := hj; have e := HN1.out j (hq.2 j (by omega)); have h := hc j hj; rw [e] at h; exact h⟩⟩
                    exact ((hT.set (Nat.lt_succ_self _) 0 u).set (Nat.lt_succ_self _) 1 v).weak (by omega)
                obtain ⟨bo, hbo⟩ : ∃ bo, bo = bq r := ⟨_, rfl⟩
                have HBO := Lib.hid (show wOk c s = (decide (0 ≤ bad) && bo) by rw [HWK.out, hbo, hr])
                rw [← hbo]
                have HBR := Lib.hid hBr
                clear hX hG hgw hBr hCr hZr hi2 hn2 hc2 hbo hlt hrq hr
                cases bo
                · have HW : Hid (wOk c s = false) := Lib.hid (by rw [HBO.out, Bool.and_false])
                  go_wp2
                  refine bodyPost_ret (v := .tuple #[.agg #[.slice A5 m5 k5, .slice A2 r k2], .int .i64 bad, .bool false]) (by simp [results, Tryz.results51, go_sem, z0, z1]) rfl ⟨⟨m5, bvD (mR s 1), r, fun _ => ni, fun j => bvD (mR s (2 + j))⟩, ⟨A5, k5, A2, k2⟩, bad, by rw [HW.out], below_s2 HBR.out hb1 _ _, HFIN.out _ _⟩
                · have HW : Hid (wOk c s = decide (0 ≤ bad)) := Lib.hid (by rw [HBO.out, Bool.and_true])
                  go_wp2
                  refine bodyPost_ret (v := .tuple #[.agg #[.slice A5 m5 k5, .slice A2 r k2], .int .i64 bad, .bool (decide (0 ≤ bad))]) (by simp [results, Tryz.results51, go_sem, z0, z1]) rfl ⟨⟨m5, bvD (mR s 1), r, fun _ => ni, fun j => bvD (mR s (2 + j))⟩, ⟨A5, k5, A2, k2⟩, bad, by rw [HW.out], below_s2 HBR.out hb1 _ _, HFIN.out _ _⟩
          · have e7 : (x != 98) = true := by simpa [bne] using h7
            have HW := Lib.hid (HF.out fun h => h7 (by have := (HR1.out h).2.2.2.2; rw [this] at hx; exact hx))
            clear h1 h2 h3 h4 h5 h6 h7 hz hx HF HY HR1 HM
            go_enter Tryz.func51, Tryz.ntmps51
            go_wp2_with (go_at_call 75; (with_reducible refine HD.out.mono ?_); rintro e w1 ⟨g, k, rfl, hcl, hg1, hg2, hk1, hk2, hb2⟩; have hZ1 := HB0.out.2.2.keep hb2 HB0.out.2.2.lt; have hB1 := Below.step HB0.out.1 HB0.out.1.size hb2; obtain ⟨z0, z1, f0, f1⟩ := box_two hZ1; have hC1 := HB0.out.2.1.keep hb2 HB0.out.2.1.lt; obtain ⟨y9, y8, y0, y1, y2⟩ := HCL.out hcl; clear hcl hb2)
            refine bodyPost_ret (v := .tuple #[.agg #[.slice none 0 0, .slice none 0 0], .int .i64 0, .bool false]) (by simp [results, Tryz.results51, go_sem, z0, z1]) rfl (zero_told (below_s2 hB1 hb1 _ _) HW.out)
        · have e6 : decide ((z : Int) < 2) = true := decide_eq_true (by omega)
          have HW := Lib.hid (HF.out fun h => h6 (by rw [hz]; exact (HR1.out h).2.2.2.1))
          clear h1 h2 h3 h4 h5 h6 hz HF HY HR1 HM
          go_enter Tryz.func51, Tryz.ntmps51
          go_wp2_with (go_at_call 75; (with_reducible refine HD.out.mono ?_); rintro e w1 ⟨g, k, rfl, hcl, hg1, hg2, hk1, hk2, hb2⟩; have hZ1 := HB0.out.2.2.keep hb2 HB0.out.2.2.lt; have hB1 := Below.step HB0.out.1 HB0.out.1.size hb2; obtain ⟨z0, z1, f0, f1⟩ := box_two hZ1; have hC1 := HB0.out.2.1.keep hb2 HB0.out.2.1.lt; obtain ⟨y9, y8, y0, y1, y2⟩ := HCL.out hcl; clear hcl hb2)
          refine bodyPost_ret (v := .tuple #[.agg #[.slice none 0 0, .slice none 0 0], .int .i64 0, .bool false]) (by simp [results, Tryz.results51, go_sem, z0, z1]) rfl (zero_told (below_s2 hB1 hb1 _ _) HW.out)
      · have e5 : ((G 0).toList == ([49] : List UInt8)) = false := by simpa using h5
        have HW := Lib.hid (HF.out fun h => h5 (HR1.out h).2.2.1)
        clear h1 h2 h3 h4 h5 HF HY HR1 HM
        go_enter Tryz.func51, Tryz.ntmps51
        go_wp2_with (go_at_call 75; (with_reducible refine HD.out.mono ?_); rintro e w1 ⟨g, k, rfl, hcl, hg1, hg2, hk1, hk2, hb2⟩; have hZ1 := HB0.out.2.2.keep hb2 HB0.out.2.2.lt; have hB1 := Below.step HB0.out.1 HB0.out.1.size hb2; obtain ⟨z0, z1, f0, f1⟩ := box_two hZ1; have hC1 := HB0.out.2.1.keep hb2 HB0.out.2.1.lt; obtain ⟨y9, y8, y0, y1, y2⟩ := HCL.out hcl; clear hcl hb2)
        refine bodyPost_ret (v := .tuple #[.agg #[.slice none 0 0, .slice none 0 0], .int .i64 0, .bool false]) (by simp [results, Tryz.results51, go_sem, z0, z1]) rfl (zero_told (below_s2 hB1 hb1 _ _) HW.out)
    · have e4 : ((G m2).toList == ([46] : List UInt8)) = false := by simpa using h4
      have HW := Lib.hid (HF.out fun h => h4 (HR1.out h).2.1)
      clear h1 h2 h3 h4 HF HY HR1 HM
      go_enter Tryz.func51, Tryz.ntmps51
      go_wp2_with (go_at_call 75; (with_reducible refine HD.out.mono ?_); rintro e w1 ⟨g, k, rfl, hcl, hg1, hg2, hk1, hk2, hb2⟩; have hZ1 := HB0.out.2.2.keep hb2 HB0.out.2.2.lt; have hB1 := Below.step HB0.out.1 HB0.out.1.size hb2; obtain ⟨z0, z1, f0, f1⟩ := box_two hZ1; have hC1 := HB0.out.2.1.keep hb2 HB0.out.2.1.lt; obtain ⟨y9, y8, y0, y1, y2⟩ := HCL.out hcl; clear hcl hb2)
      refine bodyPost_ret (v := .tuple #[.agg #[.slice none 0 0, .slice none 0 0], .int .i64 0, .bool false]) (by simp [results, Tryz.results51, go_sem, z0, z1]) rfl (zero_told (below_s2 hB1 hb1 _ _) HW.out)
  · have e3 : ((G m1).toList == ([] : List UInt8)) = false := by simpa using h3
    have HW := Lib.hid (HF.out fun h => h3 (HR1.out h).1)
    clear h1 h2 h3 HF HY HR1 HM
    go_enter Tryz.func51, Tryz.ntmps51
    go_wp2_with (go_at_call 75; (with_reducible refine HD.out.mono ?_); rintro e w1 ⟨g, k, rfl, hcl, hg1, hg2, hk1, hk2, hb2⟩; have hZ1 := HB0.out.2.2.keep hb2 HB0.out.2.2.lt; have hB1 := Below.step HB0.out.1 HB0.out.1.size hb2; obtain ⟨z0, z1, f0, f1⟩ := box_two hZ1; have hC1 := HB0.out.2.1.keep hb2 HB0.out.2.1.lt; obtain ⟨y9, y8, y0, y1, y2⟩ := HCL.out hcl; clear hcl hb2)
    refine bodyPost_ret (v := .tuple #[.agg #[.slice none 0 0, .slice none 0 0], .int .i64 0, .bool false]) (by simp [results, Tryz.results51, go_sem, z0, z1]) rfl (zero_told (below_s2 hB1 hb1 _ _) HW.out)

set_option maxRecDepth 100000 in
set_option maxHeartbeats 8000000 in
theorem rRead11_any (s : List UInt8) (hs : s.length ≤ 100000) (w : World) (hm : Mem w w.heap.size c p) (hsm : Sm c) :
    Calls Tryz.prog 23 #[cv c p, .string (str s)] w (WrdIs c s w) := by
  have hB0 : Below w.heap.size w (rdw w c p) := ((Below.refl _ _).alloc (Nat.le_refl _) _).alloc (by simp) _
  have hC0 : Has (rdw w c p) w.heap.size 34 (cc c p) := (Has.new w 34 (cc c p)).al _
  have hZ0 : Has (rdw w c p) (w.heap.size + 1) 47 #[.slice none 0 0, .slice none 0 0] := Has.new' _ _ (by simp)
  have DG : Hid (∀ W, Below w.heap.size w W → Calls Tryz.prog 50 #[cv c p] W fun e w' => e = .returned (.int .i64 c.chk) ∧ Below W.heap.size W w') := Lib.hid fun W hb => rCheck_any c p W (hm.to hb hb.size) hsm
  have HB0 := Lib.hid (And.intro hB0 (And.intro hC0 hZ0))
  have hb1 : w.heap.size ≤ w.heap.size + 1 := Nat.le_succ _
  by_cases hk : c.chk = 0
  · have hi0 := Cr.chk_i (c := c) (by simpa using hk) hsm
    rw [hk] at DG
    have DT : Hid (∀ W, Below w.heap.size w W → Calls Tryz.prog 51 #[cv c p, .string (str s)] W (ToldIs c s W)) := Lib.hid fun W hb => rParsed_any s hs W (hm.to hb hb.size) hsm (by omega) (by omega)
    obtain ⟨S, hS⟩ : ∃ S, S = str s := ⟨_, rfl⟩
    rw [← hS] at DT ⊢
    cases ho : wOk c s
    · have HR := Lib.hid (show c.wrE s = 12 by unfold Cr.wrE; rw [if_neg (by omega), if_pos ho])
      have DT' : Hid (∀ W, Below w.heap.size w W → Calls Tryz.prog 51 #[cv c p, .string S] W fun e w' => (∃ t : Tr, ∃ q : Tp, ∃ b : Int, e = .returned (.tuple #[tv t q, .int .i64 b, .bool false])) ∧ Below W.heap.size W w') := Lib.hid fun W hb => (DT.out W hb).mono fun e w' h => by
        obtain ⟨t, q, b, he, hb', _⟩ := h
        rw [ho] at he
        exact ⟨⟨t, q, b, he⟩, hb'⟩
      clear hB0 hC0 hZ0 hk hm hsm DT hS ho hi0
      go_enter Tryz.func23, Tryz.ntmps23
      go_wp2_with (first
        | (go_at_call 50; (with_reducible refine (DG.out _ HB0.out.1).mono ?_); rintro e w1 ⟨rfl, hb1'⟩; have hC1 := HB0.out.2.1.keep hb1' HB0.out.2.1.lt; have hZ1 := HB0.out.2.2.keep hb1' HB0.out.2.2.lt; have hB1 := Below.step HB0.out.1 HB0.out.1.size hb1'; obtain ⟨x0, x1, x2, x3, x4⟩ := hC1.box; clear hb1')
        | (go_at_call 51; (with_reducible refine (DT'.out w1 hB1).mono ?_); rintro e w2 ⟨⟨t, q, b, rfl⟩, hb2⟩; have hZ2 := hZ1.keep hb2 hZ1.lt; have hB2 := Below.step hB1 hB1.size hb2; obtain ⟨z0, z1, f0, f1⟩ := box_two (hZ2.al (.cells #[.slice q.A1 t.nf q.k1, .slice q.A2 t.ni q.k2] 47))))
      refine bodyPost_ret (v := .tuple #[.agg #[.slice none 0 0, .slice none 0 0], .int .i64 0, .int .i64 12]) (by simp [results, Tryz.results23, go_sem, z0, z1]) rfl (wrd_err (below_s2 (hB2.alloc hB2.size _) hb1 _ _) HR.out (by decide))
    · have hW := wOk_iff.1 ho
      obtain ⟨t, ht⟩ : ∃ t, t = wTr c s := ⟨_, rfl⟩
      obtain ⟨n, hn⟩ : ∃ n : Int, n = (wBd s : Int) := ⟨_, rfl⟩
      obtain ⟨x, hx⟩ : ∃ x, x = c.wck t n := ⟨_, rfl⟩
      have hx2 : c.wrE s = x := by unfold Cr.wrE; rw [if_neg (by omega), ho, if_neg (by simp), hx, ht, hn]
      have hts := wTr_sm hsm hW (by omega)
      rw [← ht] at hts
      have hnb : I64 n := by
        have := nbr_le hW.b
        rw [hn]
        exact ⟨by omega, by omega⟩
      have DT' : Hid (∀ W, Below w.heap.size w W → Calls Tryz.prog 51 #[cv c p, .string S] W fun e w' => ∃ q : Tp, e = .returned (.tuple #[tv t q, .int .i64 n, .bool true]) ∧ TNew w' W.heap.size t q ∧ Below W.heap.size W w') := Lib.hid fun W hb => (DT.out W hb).mono fun e w' h => by
        obtain ⟨t', q, b, he, hb', h3⟩ := h
        rw [ho] at he
        obtain ⟨e1, e2, e3⟩ := h3 ho
        rw [e1, ← ht, e2, ← hn] at he
        rw [e1, ← ht] at e3
        exact ⟨q, he, e3, hb'⟩
      have DC : Hid (∀ W q, Below w.heap.size w W → TNew W (w.heap.size + 1 + 1) t q → Calls Tryz.prog 52 #[cv c p, tv t q, .int .i64 n] W fun e w' => e = .returned (.int .i64 x) ∧ Below W.heap.size W w') := Lib.hid fun W q hb hT => by
        rw [hx]
        exact rCheck11_any n hnb W ⟨hm.to hb hb.size, hsm, hT.mem, hts⟩
      have HX := Lib.hid (And.intro hx2 (And.intro ht hn))
      clear hB0 hC0 hZ0 hk hm hsm DT hS ho hi0 hx hx2 ht hn hnb hts hW
      by_cases h0 : x = 0
      · have e0 : (x != 0) = false := by simpa using h0
        have HR : Hid (c.wrT s = t ∧ (c.wrB s : Int) = n ∧ c.wrE s = 0) := Lib.hid (by
          have he : c.wrE s = 0 := HX.out.1.trans h0
          refine ⟨?_, ?_, he⟩
          · unfold Cr.wrT; rw [if_pos he, HX.out.2.1]
          · unfold Cr.wrB; rw [if_pos he, HX.out.2.2])
        clear h0
        go_enter Tryz.func23, Tryz.ntmps23
        go_wp2_with (first
          | (go_at_call 50; (with_reducible refine (DG.out _ HB0.out.1).mono ?_); rintro e w1 ⟨rfl, hb1'⟩; have hC1 := HB0.out.2.1.keep hb1' HB0.out.2.1.lt; have hZ1 := HB0.out.2.2.keep hb1' HB0.out.2.2.lt; have hB1 := Below.step HB0.out.1 HB0.out.1.size hb1'; obtain ⟨x0, x1, x2, x3, x4⟩ := hC1.box; clear hb1')
          | (go_at_call 51; (with_reducible refine (DT'.out w1 hB1).mono ?_); rintro e w2 ⟨q, rfl, hT2, hb2⟩; have hC3 := (hC1.keep hb2 hC1.lt).al (.cells #[.slice q.A1 t.nf q.k1, .slice q.A2 t.ni q.k2] 47); have hZ3 := (hZ1.keep hb2 hZ1.lt).al (.cells #[.slice q.A1 t.nf q.k1, .slice q.A2 t.ni q.k2] 47); have hB3 := (Below.step hB1 hB1.size hb2).alloc (Below.step hB1 hB1.size hb2).size (.cells #[.slice q.A1 t.nf q.k1, .slice q.A2 t.ni q.k2] 47); have hX3 : Has (w2.alloc (.cells #[.slice q.A1 t.nf q.k1, .slice q.A2 t.ni q.k2] 47)) w2.heap.size 47 #[.slice q.A1 t.nf q.k1, .slice q.A2 t.ni q.k2] := Has.new _ _ _; have hz1 := hZ1.lt; have hT3 := (hT2.call ((Below.refl w2.heap.size w2).alloc (Nat.le_refl _) (.cells #[.slice q.A1 t.nf q.k1, .slice q.A2 t.ni q.k2] 47))).weak (base' := w.heap.size + 1 + 1) (by omega); obtain ⟨u0, u1, u2, u3, u4⟩ := hC3.box; obtain ⟨v0, v1, v2, v3⟩ := box_two hX3)
          | (go_at_call 52; (with_reducible refine (DC.out _ q hB3 hT3).mono ?_); rintro e w4 ⟨rfl, hb4⟩; have hX4 := hX3.keep hb4 hX3.lt; obtain ⟨y0, y1, y2, y3⟩ := box_two hX4; obtain ⟨z0, z1, f0, f1⟩ := box_two (hZ3.keep hb4 hZ3.lt); have hB4 := Below.step hB3 hB3.size hb4; have hT4 := hT3.call hb4))
        refine bodyPost_ret (v := .tuple #[tv t q, .int .i64 n, .int .i64 0]) (by simp [results, Tryz.results23, go_sem, z0, z1]) rfl ⟨q, by rw [HR.out.1, HR.out.2.1, HR.out.2.2], ?_, below_s2 hB4 hb1 _ _⟩
        rw [HR.out.1]
        exact ((hT4.set (Nat.lt_succ_self _) 0 _).set (Nat.lt_succ_self _) 1 _).mem
      · have e0 : (x != 0) = true := by simpa using h0
        have H0 := Lib.hid h0
        clear h0
        go_enter Tryz.func23, Tryz.ntmps23
        go_wp2_with (go_at_call 50; (with_reducible refine (DG.out _ HB0.out.1).mono ?_); rintro e w1 ⟨rfl, hb1'⟩; have hC1 := HB0.out.2.1.keep hb1' HB0.out.2.1.lt; have hZ1 := HB0.out.2.2.keep hb1' HB0.out.2.2.lt; have hB1 := Below.step HB0.out.1 HB0.out.1.size hb1'; obtain ⟨x0, x1, x2, x3, x4⟩ := hC1.box; clear hb1')
        go_wp2_with (go_at_call 51; (with_reducible refine (DT'.out w1 hB1).mono ?_); rintro e w2 ⟨q, rfl, hT2, hb2⟩; have hC3 := (hC1.keep hb2 hC1.lt).al (.cells #[.slice q.A1 t.nf q.k1, .slice q.A2 t.ni q.k2] 47); have hZ3 := (hZ1.keep hb2 hZ1.lt).al (.cells #[.slice q.A1 t.nf q.k1, .slice q.A2 t.ni q.k2] 47); have hB3 := (Below.step hB1 hB1.size hb2).alloc (Below.step hB1 hB1.size hb2).size (.cells #[.slice q.A1 t.nf q.k1, .slice q.A2 t.ni q.k2] 47); have hX3 : Has (w2.alloc (.cells #[.slice q.A1 t.nf q.k1, .slice q.A2 t.ni q.k2] 47)) w2.heap.size 47 #[.slice q.A1 t.nf q.k1, .slice q.A2 t.ni q.k2] := Has.new _ _ _; have hz1 := hZ1.lt; have hT3 := (hT2.call ((Below.refl w2.heap.size w2).alloc (Nat.le_refl _) (.cells #[.slice q.A1 t.nf q.k1, .slice q.A2 t.ni q.k2] 47))).weak (base' := w.heap.size + 1 + 1) (by omega); obtain ⟨u0, u1, u2, u3, u4⟩ := hC3.box; obtain ⟨v0, v1, v2, v3⟩ := box_two hX3)
        go_wp2_with (go_at_call 52; (with_reducible refine (DC.out _ q hB3 hT3).mono ?_); rintro e w4 ⟨rfl, hb4⟩; have hZ4 := hZ3.keep hb4 hZ3.lt; have hX4 := hX3.keep hb4 hX3.lt; have hC4 := hC3.keep hb4 hC3.lt; obtain ⟨z0, z1, f0, f1⟩ := box_two hZ4; obtain ⟨y0, y1, y2, y3⟩ := box_two hX4; obtain ⟨u0, u1, u2, u3, u4⟩ := hC4.box; have hB4 := Below.step hB3 hB3.size hb4; have hT4 := hT3.call hb4)
        go_wp2_with (go_at_call 52; (with_reducible refine (DC.out _ q hB4 hT4).mono ?_); rintro e w5 ⟨rfl, hb5⟩; obtain ⟨z0', z1', f0', f1'⟩ := box_two (hZ4.keep hb5 hZ4.lt); have hB5 := Below.step hB4 hB4.size hb5)
        refine bodyPost_ret (v := .tuple #[.agg #[.slice none 0 0, .slice none 0 0], .int .i64 0, .int .i64 x]) (by simp [results, Tryz.results23, go_sem, z0', z1']) rfl (wrd_err (below_s2 hB5 hb1 _ _) HX.out.1 H0.out)
  · have HR := Lib.hid (show c.wrE s = c.chk by unfold Cr.wrE; rw [if_pos hk])
    obtain ⟨x, hx⟩ : ∃ x, x = c.chk := ⟨_, rfl⟩
    have e0 : (x != 0) = true := by rw [hx]; simpa using hk
    have H0 : Hid (x ≠ 0) := Lib.hid (by rw [hx]; exact hk)
    rw [← hx] at DG HR
    clear hB0 hC0 hZ0 hk hx hm hsm
    go_enter Tryz.func23, Tryz.ntmps23
    go_wp2_with (go_at_call 50; (with_reducible refine (DG.out _ HB0.out.1).mono ?_); rintro e w1 ⟨rfl, hb1'⟩; have hC1 := HB0.out.2.1.keep hb1' HB0.out.2.1.lt; have hZ1 := HB0.out.2.2.keep hb1' HB0.out.2.2.lt; have hB1 := Below.step HB0.out.1 HB0.out.1.size hb1'; obtain ⟨x0, x1, x2, x3, x4⟩ := hC1.box)
    go_wp2_with (go_at_call 50; (with_reducible refine (DG.out _ hB1).mono ?_); rintro e w2 ⟨rfl, hb2⟩; have hB2 := Below.step hB1 hB1.size hb2; obtain ⟨z0, z1, f0, f1⟩ := box_two (hZ1.keep hb2 hZ1.lt))
    refine bodyPost_ret (v := .tuple #[.agg #[.slice none 0 0, .slice none 0 0], .int .i64 0, .int .i64 x]) (by simp [results, Tryz.results23, go_sem, z0, z1]) rfl (wrd_err (below_s2 hB2 hb1 _ _) HR.out H0.out)
end

end Go.Proofs.YtbppdifghkkooaaGreatDoor
