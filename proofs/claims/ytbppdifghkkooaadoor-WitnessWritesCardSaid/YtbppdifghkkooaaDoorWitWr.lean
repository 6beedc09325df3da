/- The text that Write returns. -/
import Derived.Test.YtbppdifghkkooaaDoorWitProg
import Derived.Test.YtbppdifghkkooaaDoorWitChk
namespace Go.Proofs.YtbppdifghkkooaaDoor
open Go Go.RowKit
set_option linter.unusedVariables false
set_option linter.unusedSimpArgs false

/-- what Write returns -/
def Cr.wrW (c : Cr) (t : Tr) (b : Int) : List UInt8 := if c.wck t b = 0 then wtx t b else []
theorem Cr.chk_nb {c : Cr} (h5 : c.chk = 0) : c.nb ≤ 100 := by
  unfold Cr.chk at h5
  split at h5
  · omega
  · split at h5
    · omega
    · omega
theorem jt_len {c : UInt8} {m : Nat} : ∀ {L : List (List UInt8)}, (∀ p ∈ L, p.length ≤ m) → (Lib.joinTail [c] L).length ≤ L.length * (m + 1)
  | [], _ => by simp [Lib.joinTail]
  | p :: L, h => by
    have h1 := h p (by simp)
    have h2 := jt_len (c := c) (L := L) fun q hq => h q (by simp [hq])
    have e : Lib.joinTail [c] (p :: L) = c :: (p ++ Lib.joinTail [c] L) := by simp [Lib.joinTail]
    rw [e, List.length_cons, List.length_append, List.length_cons, Nat.succ_mul]
    omega
theorem mdl_le {t : Tr} {b : Int} {m n : Nat} (h1 : t.nf ≤ m) (h2 : ∀ j, j < t.ni → t.ln j ≤ m) (h3 : t.ni ≤ n) (h0 : 0 ≤ b) (h9 : b ≤ 9999) : (mdl t b).length ≤ 4 + (n + 1) * (m + 1) := by
  have hd := dgs_len h0 h9
  have hL : ∀ p ∈ d01 t.fi t.nf :: (List.range t.ni).map fun j => d01 (t.ip j) (t.ln j), p.length ≤ m := fun p hp => by
    rcases List.mem_cons.1 hp with rfl | hp
    · rw [d01_len]; exact h1
    · obtain ⟨j, hj, rfl⟩ := List.mem_map.1 hp
      rw [d01_len]; exact h2 j (List.mem_range.1 hj)
  unfold mdl rwL
  rw [Lib.join_cons, List.length_append]
  have := jt_len (c := 10) hL
  simp only [List.length_cons, List.length_map, List.length_range] at this
  have h7 : (t.ni + 1) * (m + 1) ≤ (n + 1) * (m + 1) := Nat.mul_le_mul (by omega) (Nat.le_refl _)
  omega
theorem mdl_len {c : Cr} {t : Tr} {b : Int} (hs : TSm t) (h : c.tck t = 0) (h0 : 0 ≤ b) (h1 : b ≤ 9999) : (mdl t b).length ≤ 200000 := by
  obtain ⟨_, _, h3, _, _, h6⟩ := Cr.tck_ok h
  have := mdl_le (m := 1000) (n := 100) hs.nf hs.ln h3 h0 h1
  omega
/-- the text of a run that is not great is short -/
theorem wtx_short {c : Cr} {t : Tr} {b : Int} (hg : t.gr = false) (h : c.wck t b = 0) : (wtx t b).length ≤ 2000 := by
  obtain ⟨k1, k2, k3, _⟩ := Cr.wck_ok h
  obtain ⟨h1, h2, h3, h4, _, h6⟩ := Cr.tck_ok k1
  have hnb := Cr.chk_nb h1
  have hd := of_decide_eq_false hg
  have hl : ∀ j, j < t.ni → t.ln j ≤ 60 := fun j hj => by
    rcases Nat.lt_or_ge 60 (t.ln j) with h' | h'
    · exact absurd (Or.inr (Or.inr ⟨j, hj, h'⟩)) hd
    · exact h'
  have := mdl_le (t := t) (b := b) (m := 60) (n := 20) (by omega) hl (by omega) k2 (by omega)
  unfold wtx
  simp only [List.length_append, List.length_cons, List.length_nil]
  omega
/-- strings.Join of rows -/
theorem join_any (L : List (List UInt8)) (g k n : Nat) (hn : n = L.length) (hk : n ≤ k) (hl : L.length ≤ 100000) (hj : (Lib.join L [10]).length ≤ 10000000) (w : World) (hS : StrsAt w w.heap.size (some ⟨g, 0, none⟩) n (lnA L)) (h0 : 0 < n) :
    Calls Tryd.prog 14 #[.slice (some ⟨g, 0, none⟩) n k, .string ⟨#[10]⟩] w fun e w' => e = .returned (.string (str (Lib.join L [10]))) ∧ Below w.heap.size w w' := by
  subst hn
  obtain ⟨a, e, hb, hc⟩ := hS h0
  cases e
  have hm : (L.map str).map (·.data.toList) = L := by
    rw [List.map_map]
    conv => rhs; rw [← List.map_id L]
    exact List.map_congr_left fun x _ => by simp [str]
  have h := Tryd.strings_Join g 0 k (L.map str) ⟨#[10]⟩ w (fun j x hx => by
    rw [List.getElem?_map] at hx
    obtain ⟨p, hp, rfl⟩ := Option.map_eq_some_iff.1 hx
    have hjl : j < L.length := (List.getElem?_eq_some_iff.1 hp).1
    have := hc j hjl
    have e : (⟨g, 0, none⟩ : Addr).add j = ⟨g, j, none⟩ := by unfold Addr.add; split <;> simp_all
    rw [e] at this
    rw [Nat.zero_add, this]
    unfold lnA
    rw [List.getD_eq_getElem?_getD, hp]; rfl) hb (by rw [List.length_map]; omega) (by rw [List.length_map]; exact hk) (by
    rw [hm]
    have e2 : (⟨#[10]⟩ : ByteArray).data.toList = [10] := rfl
    rw [e2]; omega)
  rw [hm, List.length_map] at h
  exact h
/-- the rows up to some frame -/
def rwK (t : Tr) (b : Int) (r : Nat) : List (List UInt8) := dgs b :: d01 t.fi t.nf :: (List.range r).map fun j => d01 (t.ip j) (t.ln j)
theorem rwK_succ (t : Tr) (b : Int) (r : Nat) : rwK t b (r + 1) = rwK t b r ++ [d01 (t.ip r) (t.ln r)] := by unfold rwK; rw [List.range_succ, List.map_append]; rfl
theorem rwK_len (t : Tr) (b : Int) (r : Nat) : (rwK t b r).length = r + 2 := by unfold rwK; simp

section
variable {c : Cr} {p : Pl} {t : Tr} {q : Tp}

set_option maxRecDepth 100000 in
set_option maxHeartbeats 8000000 in
theorem wWrite_any (b : Int) (hb : I64 b) (w : World) (h : RArg w w.heap.size c p t q) (hk3 : c.nb ≤ p.k3 ∧ p.k3 ≤ maxLen) :
    Calls Tryd.prog 7 #[cv c p, tv t q, .int .i64 b] w fun e w' => e = .returned (.tuple #[.string (str (c.wrW t b)), .int .i64 (c.wck t b)]) ∧ Below w.heap.size w w' := by
  have hW := h.to (ct_b w c p t q) (ct_z w c p t q)
  have DC := Lib.hid (wCheck_any b hb (ctW w c p t q) hW hk3)
  by_cases hk : c.wck t b = 0
  · obtain ⟨h1, h2, h3, _⟩ := Cr.wck_ok hk
    obtain ⟨k1, k2, k3, k4, _, k6⟩ := Cr.tck_ok h1
    obtain ⟨n, rfl⟩ : ∃ n : Nat, b = (n : Int) := ⟨b.toNat, by omega⟩
    have hn : n < 100 := by
      have h5 := k1
      unfold Cr.chk at h5
      split at h5
      · omega
      · split at h5
        · omega
        · omega
    have HR : Hid (c.wrW t n = wtx t n) := Lib.hid (by unfold Cr.wrW; rw [if_pos hk])
    have HK := Lib.hid hk
    rw [hk] at DC
    have hml := mdl_len h.hts h1 h2 (by omega)
    have hip := h.ht.ip
    have hfi := h.ht.fi
    obtain ⟨m, hm⟩ : ∃ m, m = t.ni := ⟨_, rfl⟩
    rw [← hm] at hip k2 k3
    obtain ⟨a2, hA2, ha2, hr2⟩ := hip k2
    have DI : Hid (∀ W, Calls Tryd.prog 12 #[.int .i64 (n : Int)] W fun e w' => e = .returned (.string (str (dgs n))) ∧ w' = W) := Lib.hid fun W => by
      have := Tryd.strconv_Itoa_small n hn W
      rw [dgs_nat _ (by omega), Int.toNat_natCast]
      exact this
    have hnf := h.hts.nf
    have DF : Hid (∀ W, Below w.heap.size w W → Calls Tryd.prog 13 #[.slice q.A1 t.nf q.k1] W fun e w' => e = .returned (.string (str (d01 t.fi t.nf))) ∧ Below W.heap.size W w') := Lib.hid fun W hb => rowOf_any _ _ _ _ w.heap.size W (by omega) hb.size (hfi.keep hb)
    have DR : Hid (∀ W r, r < m → Below w.heap.size w W → ∀ A k, BlsAt W W.heap.size A (t.ln r) (t.ip r) → Calls Tryd.prog 13 #[.slice A (t.ln r) k] W fun e w' => e = .returned (.string (str (d01 (t.ip r) (t.ln r)))) ∧ Below W.heap.size W w') := Lib.hid fun W r hr hb A k hi => rowOf_any A _ k _ W.heap.size W (by have := h.hts.ln r (by omega); omega) (Nat.le_refl _) hi
    have DJ : Hid (∀ W g k, m + 2 ≤ k → StrsAt W W.heap.size (some ⟨g, 0, none⟩) (m + 2) (lnA (rwK t n m)) → Calls Tryd.prog 14 #[.slice (some ⟨g, 0, none⟩) (m + 2) k, .string ⟨#[10]⟩] W fun e w' => e = .returned (.string (str (mdl t n))) ∧ Below W.heap.size W w') := Lib.hid fun W g k hk hS => by
      have e : Lib.join (rwK t n m) [10] = mdl t n := by rw [hm]; rfl
      have h := join_any (rwK t n m) g k (m + 2) (rwK_len _ _ _).symm hk (by rw [rwK_len]; omega) (by rw [e]; omega) W hS (by omega)
      rw [e] at h
      exact h
    have ha1 : ∀ W : World, (Op.stringOp .add ⟨#[49, 10, 98]⟩ (str (mdl t n))).run Tryd.prog W = .ok (.string (str ([49, 10, 98] ++ mdl t n))) W := fun W => str_add (l := [49, 10, 98]) (m := mdl t n) (by simp; omega) W
    have ha2' : ∀ W : World, (Op.stringOp .add (str ([49, 10, 98] ++ mdl t n)) ⟨#[10, 46, 10]⟩).run Tryd.prog W = .ok (.string (str (wtx t n))) W := fun W => by
      have := str_add (l := [49, 10, 98] ++ mdl t n) (m := [10, 46, 10]) (by simp; omega) W
      have e : ([49, 10, 98] ++ mdl t n) ++ [10, 46, 10] = wtx t n := by unfold wtx; rw [List.append_assoc]
      rw [e] at this
      exact this
    obtain ⟨S1, hS1⟩ : ∃ S1, S1 = str (mdl t n) := ⟨_, rfl⟩
    obtain ⟨S2, hS2⟩ : ∃ S2, S2 = str ([49, 10, 98] ++ mdl t n) := ⟨_, rfl⟩
    obtain ⟨S3, hS3⟩ : ∃ S3, S3 = str (wtx t n) := ⟨_, rfl⟩
    obtain ⟨s0, hs0⟩ : ∃ s0, s0 = str (dgs (n : Int)) := ⟨_, rfl⟩
    obtain ⟨s1, hs1⟩ : ∃ s1, s1 = str (d01 t.fi t.nf) := ⟨_, rfl⟩
    rw [← hS1] at DJ ha1
    rw [← hS2] at ha1 ha2'
    rw [← hS3] at ha2'
    rw [← hs0] at DI
    rw [← hs1] at DF
    obtain ⟨i0, hi0, hzz0, hs0', hy0⟩ := info_parts info_str
    have HH := Lib.hid (And.intro hA2 (And.intro ha2 (And.intro hr2 (And.intro hm (And.intro hS3 (And.intro hs0 hs1))))))
    have h100 : m ≤ 100 := k3
    clear hk h1 h2 h3 k1 k2 k4 k6 hml hip hfi hm hA2 ha2 hr2 hS1 hS2 hS3 hs0 hs1 hnf hW hb hk3 h
    go_enter Tryd.func7, Tryd.ntmps7
    go_upto_region 4 with (go_at_call 9; (with_reducible refine DC.out.mono ?_); rintro e w1 ⟨rfl, hb1⟩; obtain ⟨hB1, hA1, hT1, hz1⟩ := ct_k hb1; obtain ⟨x0, x1⟩ := hT1.tbox)
    have hT1l := hT1.lt
    have hBd : Below w.heap.size w w1.drew := below_dn hB1 1
    have hS0 : w1.drew.cell? ⟨w.heap.size + 1, 0, none⟩ = some (.slice q.A1 t.nf q.k1) := x0
    have HS1 := Lib.hid hS0
    have hTd : Has w1.drew (w.heap.size + 1) 30 (tcs t q) := hT1
    clear hb1
    go_wp2
    refine wp_region_T (fun w' => w'.cell? ⟨w.heap.size + 1, 0, none⟩ = some (.slice q.A1 t.nf q.k1)) 7 (by kernel_rfl) ?_
    (refine wpT_take 0 (v := ?_) rfl (by kernel_rfl) (by kernel_rfl) (by kernel_rfl) (by kernel_rfl) (fun _ _ _ h => h) rfl hS0 (fun w hS => ?_) ?_; rotate_left; focus (obtain j0 := hS; go_simp; rfl)); (refine wpT_take 2 (v := ?_) rfl (by kernel_rfl) (by kernel_rfl) (by kernel_rfl) (by kernel_rfl) (fun _ _ _ h => h) rfl hS0 (fun w hS => ?_) ?_; rotate_left; focus (obtain j0 := hS; go_simp; rfl)); (refine wpT_take 3 (v := ?_) rfl (by kernel_rfl) (by kernel_rfl) (by kernel_rfl) (by kernel_rfl) (fun _ _ _ h => h) rfl hS0 (fun w hS => ?_) ?_; rotate_left; focus (obtain j0 := hS; go_simp; rfl))
    refine wpT_one 1 (by kernel_rfl) (wpOp_go rfl rfl fun K hK => ?_)
    go_simp
    go_at_call 12
    (with_reducible refine (DI.out _).mono ?_)
    rintro e w2 ⟨rfl, rfl⟩
    refine hK _ _ ⟨fun _ => hS0, ?_⟩
    refine wpT_one 4 (by kernel_rfl) (wpOp_go rfl rfl fun K hK => ?_)
    go_simp
    go_at_call 13
    (with_reducible refine (DF.out _ hBd).mono ?_)
    rintro e w5 ⟨rfl, hb5⟩
    have hS0 : w5.cell? ⟨w.heap.size + 1, 0, none⟩ = some (.slice q.A1 t.nf q.k1) := (hb5.cell (cell_lt HS1.out)).trans HS1.out
    have hB5 := Below.step hBd hBd.size hb5
    have hT5 := hTd.keep hb5 hTd.lt
    refine hK _ _ ⟨fun _ => hS0, ?_⟩
    refine wpT_one 5 (by kernel_rfl) (wpOp_go rfl rfl fun K hK => ?_)
    go_simp
    refine hK _ _ ⟨fun _ => ca hS0 _, ?_⟩
    have hS0 : (w5.alloc (.cells #[.string s0, .string s1] 9)).cell? ⟨w.heap.size + 1, 0, none⟩ = some (.slice q.A1 t.nf q.k1) := ca hS0 _
    (refine wpT_take 6 (v := ?_) rfl (by kernel_rfl) (by kernel_rfl) (by kernel_rfl) (by kernel_rfl) (fun _ _ _ h => h) rfl hS0 (fun w hS => ?_) ?_; rotate_left; focus (obtain j0 := hS; go_simp; rfl))
    refine wpT_done (by kernel_rfl) (NoPanic.normal ?_) _
    have hO0 : (w5.alloc (.cells #[.string s0, .string s1] 9)).ownsRow w5.heap.size 9 1 (.slice (some ⟨w5.heap.size, 0, none⟩) 2 2) 2 (strL (rwK t n 0)) := by
      have h := World.ownsRow_lit (base := w5.heap.size) (e := 9) (size := 1) w5 #[.string s0, .string s1] 2 (Nat.le_refl _) (by simp [maxLen]) (by simp)
      have e : strL (rwK t n 0) = [.string s0, .string s1] := by rw [HH.out.2.2.2.2.2.1, HH.out.2.2.2.2.2.2]; rfl
      rw [e]
      simpa using h
    have hT6 := hT5.al (.cells #[.string s0, .string s1] 9)
    have hB6 := hB5.alloc hB5.size (.cells #[.string s0, .string s1] 9)
    have hz5 := hT5.lt
    have hz6 : w5.heap.size < (w5.alloc (.cells #[.string s0, .string s1] 9)).heap.size := by simp
    have x1 : (w5.alloc (.cells #[.string s0, .string s1] 9)).cell? ⟨w.heap.size + 1, 1, none⟩ = some (.slice (some a2) m q.k2) := by
      have := hT6.cell 1
      rw [HH.out.2.2.2.1, ← HH.out.1]
      exact this
    clear hTd hT5 hb5 hBd hT1 hA1 hB1 hS0 HS1 x0 hK
    go_wp2
    obtain ⟨W6, hW6⟩ : ∃ W6, w5.alloc (.cells #[.string s0, .string s1] 9) = W6 := ⟨_, rfl⟩
    rw [hW6] at hO0 hT6 hB6 x1 hz6 ⊢
    obtain ⟨B5, hB5e⟩ : ∃ B5, w5.heap.size = B5 := ⟨_, rfl⟩
    rw [hB5e] at hO0 hz6 hz5 ⊢
    have hBB : w.heap.size ≤ B5 := by rw [← hB5e]; exact hB5.size
    have H6 := Lib.hid hB6
    clear hW6 hB5e hB5 hT6 x1 hB6
    go_loopw [9, 28] (fun v i wr => ∃ r : Nat, r ≤ m ∧ i = .int .i64 (r : Int) ∧ wr.ownsRow B5 9 1 v (r + 2) (strL (rwK t n r)) ∧ Below B5 W6 wr) (fun _ i _ => m - (intOf i).toNat)
    case atStart => exact ⟨0, Nat.zero_le _, rfl, hO0, Below.refl _ _⟩
    case round =>
      obtain ⟨r, hr, rfl, hO, hBr6⟩ := hrel
      have hBr : Below w.heap.size w wr := H6.out.trans (hBr6.mono hBB)
      have hzr := hBr6.size
      by_cases hlt : r < m
      · obtain ⟨A', k', y0, hy, hyn⟩ := HH.out.2.2.1 r hlt
        have y0 : wr.cell? (a2.add r) = some (.slice A' (t.ln r) k') := (hBr.cell (by rw [add_block]; exact HH.out.2.1)).trans y0
        have hq0 : (0 : Int) ≤ (r : Int) := by omega
        have hq1 : (r : Int) < (m : Int) := by omega
        have DR' := Lib.hid (DR.out wr r hlt hBr A' k' (hy.to hBr hBr.size))
        obtain ⟨sr, hsr⟩ : ∃ sr, sr = str (d01 (t.ip r) (t.ln r)) := ⟨_, rfl⟩
        rw [← hsr] at DR'
        have HE : Hid (strL (rwK t n (r + 1)) = strL (rwK t n r) ++ [.string sr]) := Lib.hid (by rw [rwK_succ, strL_app, hsr]; rfl)
        have HB := Lib.hid hBr6
        clear hy hsr hBr hBr6
        go_wp2_with (first
          | (go_at_call 13; (with_reducible refine DR'.out.mono ?_); rintro e w6 ⟨rfl, hb6⟩; have hO6 := own_by hO (grown_below hb6) (Or.inl rfl); have hB6 := HB.out.trans (hb6.mono (Nat.le_of_lt (by omega))); have hz7 := hb6.size)
          | (at_builtin; refine wpList_append_own _ rfl _ _ 45 rfl B5 9 i0 (.string ByteArray.empty) 1 16 Tryd.underlying45 hi0 hzz0 hs0' hy0 rfl (by decide) _ _ _ rfl (hO6.alloc _) ⟨w6.heap.size, 0, none⟩ 1 1 [.string sr] rfl (by simp) (cell_one_new _ _ _) (by simp [Value.oneCell']) (by simp only [maxLen]; omega) (by omega) (by simp; omega) ?_; intro v' w8 hown' hgrow _))
        go_roundw
        case rel => exact ⟨r + 1, by omega, by go_num, by rw [HE.out]; exact hown', app_below hB6 (by omega) (Nat.le_refl _) hO6 hgrow⟩
        case measure => simp [intOf]; omega
      · obtain ⟨r', hre⟩ : ∃ r', r' = r := ⟨_, rfl⟩
        subst hre
        have hrn : ¬ (r' : Int) < (m : Int) := by omega
        have hrm : r' = m := by omega
        obtain ⟨g, k, rfl, _, _, hk5, _⟩ := own_there hO
        have hS : StrsAt wr wr.heap.size (some ⟨g, 0, none⟩) (m + 2) (lnA (rwK t n m)) := by
          rw [← hrm]
          obtain ⟨A, k', e, hS, _⟩ := own_strs hO (rwK_len _ _ _).symm
          injection e with e1 e2 e3
          rw [e1]
          exact hS
        have DJ' := Lib.hid (DJ.out wr g k (by omega) hS)
        rw [← hrm] at DJ'
        have HB := Lib.hid hBr
        clear hO hS hrm hr hlt hBr hBr6
        go_wp2_with (go_at_call 14; (with_reducible refine DJ'.out.mono ?_); rintro e w9 ⟨rfl, hb9⟩)
        go_ret2
        exact ⟨by rw [HR.out, ← HH.out.2.2.2.2.1, HK.out]; rfl, Below.step HB.out HB.out.size hb9⟩
  · have HR : Hid (c.wrW t b = []) := Lib.hid (by unfold Cr.wrW; rw [if_neg hk])
    obtain ⟨x, hx⟩ : ∃ x, x = c.wck t b := ⟨_, rfl⟩
    rw [← hx] at DC ⊢
    have e1 : (x != 0) = true := by rw [hx]; simpa [bne] using hk
    clear hW h hk hk3 hx hb
    go_enter Tryd.func7, Tryd.ntmps7
    go_wp2_with (go_at_call 9; (with_reducible refine DC.out.mono ?_); rintro e w1 ⟨rfl, hb1⟩; obtain ⟨hB1, hA1, hT1, hz1⟩ := ct_k hb1)
    go_ret2
    exact ⟨by rw [HR.out]; rfl, hB1⟩
end

end Go.Proofs.YtbppdifghkkooaaDoor
