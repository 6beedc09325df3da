/- The reference of layer 11: Digits, Text, Write. -/
import Derived.Test.YtbppdifghkkooaaDoorWitRef
import Derived.Test.YtbppdifghkkooaaDoorWitWr
import Derived.Test.YtbppdifghkkooaaDoorAsciiRef
import Derived.Test.YtbppdifghkkooaaDoorHeadTail
namespace Go.Proofs.YtbppdifghkkooaaDoor
open Go Go.RowKit
set_option linter.unusedVariables false
set_option linter.unusedSimpArgs false

/-! ### the text, frame by frame -/
theorem jt_snoc (c : UInt8) (y : List UInt8) : ∀ L : List (List UInt8), Lib.joinTail [c] (L ++ [y]) = Lib.joinTail [c] L ++ c :: y
  | [] => by simp [Lib.joinTail]
  | p :: L => by
    have e : ∀ M : List (List UInt8), Lib.joinTail [c] (p :: M) = c :: (p ++ Lib.joinTail [c] M) := fun M => by simp [Lib.joinTail]
    rw [List.cons_append, e, e, jt_snoc c y L, List.cons_append, List.append_assoc]
theorem join_snoc (x : List UInt8) (L : List (List UInt8)) (y : List UInt8) : Lib.join ((x :: L) ++ [y]) [10] = Lib.join (x :: L) [10] ++ 10 :: y := by
  rw [List.cons_append, Lib.join_cons, Lib.join_cons, jt_snoc, List.append_assoc]
/-- the text up to some frame -/
def t11 (t : Tr) (b : Int) (r : Nat) : List UInt8 := [49, 10, 98] ++ (Lib.join (rwK t b r) [10] ++ [10])
theorem t11_0 (t : Tr) (b : Int) : ((([49, 10, 98] ++ dgs b) ++ [10]) ++ d01 t.fi t.nf) ++ [10] = t11 t b 0 := by
  have e : rwK t b 0 = [dgs b, d01 t.fi t.nf] := rfl
  unfold t11
  rw [e, Lib.join_cons]
  simp [Lib.joinTail]
theorem t11_succ (t : Tr) (b : Int) (r : Nat) : t11 t b r ++ (d01 (t.ip r) (t.ln r) ++ [10]) = t11 t b (r + 1) := by
  unfold t11
  rw [rwK_succ, show rwK t b r = dgs b :: (d01 t.fi t.nf :: (List.range r).map fun j => d01 (t.ip j) (t.ln j)) from rfl, join_snoc]
  simp [List.append_assoc]
theorem t11_all (t : Tr) (b : Int) : t11 t b t.ni ++ [46, 10] = wtx t b := by
  have e : Lib.join (rwK t b t.ni) [10] = mdl t b := rfl
  unfold t11 wtx
  rw [e]
  simp [List.append_assoc]
theorem t11_len {t : Tr} {b : Int} (hs : TSm t) (hn : t.ni ≤ 100) (h0 : 0 ≤ b) (h1 : b ≤ 9999) {r : Nat} (hr : r ≤ t.ni) : (t11 t b r).length ≤ 200000 := by
  have e : Lib.join (rwK t b r) [10] = mdl (t.cut r) b := rfl
  have := mdl_le (t := t.cut r) (b := b) (m := 1000) (n := 100) hs.nf (fun j hj => hs.ln j (Nat.lt_of_lt_of_le hj hr)) (Nat.le_trans hr hn) h0 h1
  unfold t11
  rw [e]
  simp only [List.length_append, List.length_cons, List.length_nil]
  omega

set_option maxRecDepth 100000 in
set_option maxHeartbeats 4000000 in
theorem rDig11_any (A : Option Addr) (n k : Nat) (f : Nat → Bool) (w : World) (h : BlsAt w w.heap.size A n f) (hn : n ≤ 1000) :
    Calls Tryd.prog 27 #[.slice A n k] w fun e w' => e = .returned (.string (str (d01 f n))) ∧ Below w.heap.size w w' := by
  have HL := Lib.hid h
  clear h
  go_enter Tryd.func27, Tryd.ntmps27
  go_wp2
  go_loopw [3, 4] (fun s i wr => ∃ q : Nat, q ≤ n ∧ i = .int .i64 q ∧ s = .string (str (d01 f q)) ∧ Below w.heap.size w wr) (fun _ i _ => n - (intOf i).toNat)
  case atStart => exact ⟨0, Nat.zero_le _, rfl, rfl, Below.refl _ _⟩
  case round =>
    obtain ⟨q, hq, rfl, rfl, hBr⟩ := hrel
    have hlen := d01_len f q
    by_cases hlt : q < n
    · obtain ⟨a, rfl, hab, hcs⟩ := (HL.out.keep hBr) (by omega)
      have y0 := hcs q hlt
      have hq0 : (0 : Int) ≤ (q : Int) := by omega
      have hq1 : (q : Int) < (n : Int) := by omega
      have hs := d01_succ f q
      clear hcs
      cases hv : f q
      · rw [hv] at y0 hs
        have HX := Lib.hid (show d01 f (q + 1) = d01 f q ++ [48] from hs)
        have k1 : ∀ W, (Op.stringOp .add (str (d01 f q)) ⟨#[48]⟩).run Tryd.prog W = .ok (.string (str (d01 f q ++ [48]))) W := fun W => str_add (l := d01 f q) (m := [48]) (by rw [hlen]; show q + 1 ≤ 10000000; omega) W
        clear hs hv hlen
        go_wp2
        go_roundw
        case rel => exact ⟨q + 1, by omega, by go_num, by rw [HX.out], hBr⟩
        case measure => simp [intOf]; omega
      · rw [hv] at y0 hs
        have HX := Lib.hid (show d01 f (q + 1) = d01 f q ++ [49] from hs)
        have k1 : ∀ W, (Op.stringOp .add (str (d01 f q)) ⟨#[49]⟩).run Tryd.prog W = .ok (.string (str (d01 f q ++ [49]))) W := fun W => str_add (l := d01 f q) (m := [49]) (by rw [hlen]; show q + 1 ≤ 10000000; omega) W
        clear hs hv hlen
        go_wp2
        go_roundw
        case rel => exact ⟨q + 1, by omega, by go_num, by rw [HX.out], hBr⟩
        case measure => simp [intOf]; omega
    · obtain ⟨q3, hqe⟩ : ∃ q3, q3 = q := ⟨_, rfl⟩
      subst hqe
      have hqn : ¬ (q3 : Int) < (n : Int) := by omega
      have HE := Lib.hid (show d01 f q3 = d01 f n by rw [show q3 = n by omega])
      clear hq hlt hlen
      go_wp2
      go_ret
      exact ⟨by rw [HE.out]; rfl, hBr⟩

section
variable {c : Cr} {p : Pl} {t : Tr} {q : Tp}

set_option maxRecDepth 100000 in
set_option maxHeartbeats 8000000 in
theorem rText11_any (b : Int) (h0 : 0 ≤ b) (h1 : b ≤ 9999) (w : World) (ht : TMem w w.heap.size t q) (hts : TSm t) (hni : t.ni ≤ 100) :
    Calls Tryd.prog 15 #[tv t q, .int .i64 b] w fun e w' => e = .returned (.string (str (wtx t b))) ∧ Below w.heap.size w w' := by
  obtain ⟨A1, kk1, A2, kk2⟩ := q
  have hdl := dgs_len h0 h1
  have hnf := hts.nf
  have HT := Lib.hid (And.intro ht hts)
  have HLen := Lib.hid (fun r (hr : r ≤ t.ni) => t11_len (b := b) hts hni h0 h1 hr)
  have k1 : ∀ W, (Op.stringOp .add ⟨#[49, 10, 98]⟩ (str (dgs b))).run Tryd.prog W = .ok (.string (str ([49, 10, 98] ++ dgs b))) W := fun W => str_add (l := [49, 10, 98]) (m := dgs b) (by simp only [List.length_cons, List.length_nil]; omega) W
  have k2 : ∀ W, (Op.stringOp .add (str ([49, 10, 98] ++ dgs b)) ⟨#[10]⟩).run Tryd.prog W = .ok (.string (str (([49, 10, 98] ++ dgs b) ++ [10]))) W := fun W => str_add (l := [49, 10, 98] ++ dgs b) (m := [10]) (by simp only [List.length_append, List.length_cons, List.length_nil]; omega) W
  have k3 : ∀ W, (Op.stringOp .add (str (([49, 10, 98] ++ dgs b) ++ [10])) (str (d01 t.fi t.nf))).run Tryd.prog W = .ok (.string (str ((([49, 10, 98] ++ dgs b) ++ [10]) ++ d01 t.fi t.nf))) W := fun W => str_add (l := ([49, 10, 98] ++ dgs b) ++ [10]) (m := d01 t.fi t.nf) (by simp only [List.length_append, List.length_cons, List.length_nil, d01_len]; omega) W
  have k4 : ∀ W, (Op.stringOp .add (str ((([49, 10, 98] ++ dgs b) ++ [10]) ++ d01 t.fi t.nf)) ⟨#[10]⟩).run Tryd.prog W = .ok (.string (str (t11 t b 0))) W := fun W => by
    rw [← t11_0]
    exact str_add (l := (([49, 10, 98] ++ dgs b) ++ [10]) ++ d01 t.fi t.nf) (m := [10]) (by simp only [List.length_append, List.length_cons, List.length_nil, d01_len]; omega) W
  have DD : Hid (∀ W, Calls Tryd.prog 26 #[.int .i64 b] W fun e w' => e = .returned (.string (str (dgs b))) ∧ Below W.heap.size W w') := Lib.hid fun W => dgs_any h0 h1 W
  have DF : Hid (∀ W, Below w.heap.size w W → Calls Tryd.prog 27 #[.slice A1 t.nf kk1] W fun e w' => e = .returned (.string (str (d01 t.fi t.nf))) ∧ Below W.heap.size W w') := Lib.hid fun W hb => rDig11_any A1 t.nf kk1 t.fi W (ht.fi.to hb hb.size) hnf
  have HE := Lib.hid (t11_all t b)
  obtain ⟨S1, hS1⟩ : ∃ S, S = str (dgs b) := ⟨_, rfl⟩
  obtain ⟨S2, hS2⟩ : ∃ S, S = str ([49, 10, 98] ++ dgs b) := ⟨_, rfl⟩
  obtain ⟨S3, hS3⟩ : ∃ S, S = str (([49, 10, 98] ++ dgs b) ++ [10]) := ⟨_, rfl⟩
  obtain ⟨S4, hS4⟩ : ∃ S, S = str (d01 t.fi t.nf) := ⟨_, rfl⟩
  obtain ⟨S5, hS5⟩ : ∃ S, S = str ((([49, 10, 98] ++ dgs b) ++ [10]) ++ d01 t.fi t.nf) := ⟨_, rfl⟩
  obtain ⟨S6, hS6⟩ : ∃ S, S = str (t11 t b 0) := ⟨_, rfl⟩
  have HS6 := Lib.hid hS6
  rw [← hS1] at DD
  rw [← hS4] at DF
  rw [← hS1, ← hS2] at k1
  rw [← hS2, ← hS3] at k2
  rw [← hS3, ← hS4, ← hS5] at k3
  rw [← hS5, ← hS6] at k4
  have hB0 : Below w.heap.size w (w.alloc (.cells (tcs t ⟨A1, kk1, A2, kk2⟩) 30)) := (Below.refl _ _).alloc (Nat.le_refl _) _
  have hX0 : Has (w.alloc (.cells (tcs t ⟨A1, kk1, A2, kk2⟩) 30)) w.heap.size 30 (tcs t ⟨A1, kk1, A2, kk2⟩) := Has.new _ _ _
  have H0 := Lib.hid (And.intro hB0 hX0)
  clear hS1 hS2 hS3 hS4 hS5 hS6 hdl hnf ht hts hB0 hX0
  go_enter Tryd.func15, Tryd.ntmps15
  go_wp2
  have hS0 : (fun w' : World => w'.cell? ⟨w.heap.size, 0, none⟩ = some (.slice A1 t.nf kk1) ∧ w'.cell? ⟨w.heap.size, 1, none⟩ = some (.slice A2 t.ni kk2)) (w.alloc (.cells (tcs t ⟨A1, kk1, A2, kk2⟩) 30)).drew := ⟨H0.out.2.cell 0, H0.out.2.cell 1⟩
  refine wp_slots (fun f => Sz f 34 ∧ Slot f 1 (.int .i64 b) ∧ Slot f 2 (.pointer (some ⟨w.heap.size, 0, none⟩))) ⟨⟨rfl, rfl⟩, ⟨rfl⟩, ⟨rfl⟩⟩ fun a0 ha0 hR => ?_
  obtain ⟨hZ, hs1, hs2⟩ := hR
  have HA := Lib.hid ha0
  clear ha0
  have hBd : Below w.heap.size w (w.alloc (.cells (tcs t ⟨A1, kk1, A2, kk2⟩) 30)).drew := below_dn H0.out.1 1
  refine wp_region_T (fun w' : World => w'.cell? ⟨w.heap.size, 0, none⟩ = some (.slice A1 t.nf kk1) ∧ w'.cell? ⟨w.heap.size, 1, none⟩ = some (.slice A2 t.ni kk2)) 10 (by kernel_rfl) ?_
  refine WT.h ?_
  (refine wt_move 0 1 rfl rfl (by kernel_rfl) (by kernel_rfl) (by kernel_rfl) (by kernel_rfl) (fun _ _ _ h => h) rfl hS0 (by (repeat (first | (refine slot_hit (N := 34) ?_ (by rfl); (repeat (refine sz_put ?_)); assumption; done) | (apply slot_miss; focus rfl))); all_goals assumption) rfl ?_); (refine wt_take1 4 2 (v := ?_) rfl rfl (by kernel_rfl) (by kernel_rfl) (by kernel_rfl) (by kernel_rfl) (fun _ _ _ h => h) rfl hS0 (by (repeat (first | (refine slot_hit (N := 34) ?_ (by rfl); (repeat (refine sz_put ?_)); assumption; done) | (apply slot_miss; focus rfl))); all_goals assumption) (fun ev hk hv0 w hS => ?_) ?_; rotate_left; focus (obtain ⟨j0, j1⟩ := hS; go_simp; rfl)); (refine wt_take1 5 11 (v := ?_) rfl rfl (by kernel_rfl) (by kernel_rfl) (by kernel_rfl) (by kernel_rfl) (fun _ _ _ h => h) rfl hS0 (by (repeat (first | (refine slot_hit (N := 34) ?_ (by rfl); (repeat (refine sz_put ?_)); assumption; done) | (apply slot_miss; focus rfl))); all_goals assumption) (fun ev hk hv0 w hS => ?_) ?_; rotate_left; focus (obtain ⟨j0, j1⟩ := hS; go_simp; rfl))
  refine wt_call1 1 7 (by kernel_rfl) rfl rfl rfl (by (repeat (first | (refine slot_hit (N := 34) ?_ (by rfl); (repeat (refine sz_put ?_)); assumption; done) | (apply slot_miss; focus rfl))); all_goals assumption) (f := ?_) (args := ?_) (fun ev hk hkf hv0 => ?_) ?_; rotate_left 2; focus (go_simp; first | rfl | (constructor <;> rfl))
  (with_reducible refine (DD.out _).mono ?_)
  rintro e w1 ⟨rfl, hb1⟩
  have hB1 := Below.step hBd hBd.size hb1
  have hX1 : Has w1 w.heap.size 30 (tcs t ⟨A1, kk1, A2, kk2⟩) := (show Has (w.alloc (.cells (tcs t ⟨A1, kk1, A2, kk2⟩) 30)).drew _ _ _ from H0.out.2).keep hb1 (by simp)
  have hS0 : (fun w' : World => w'.cell? ⟨w.heap.size, 0, none⟩ = some (.slice A1 t.nf kk1) ∧ w'.cell? ⟨w.heap.size, 1, none⟩ = some (.slice A2 t.ni kk2)) w1 := ⟨hX1.cell 0, hX1.cell 1⟩
  refine ⟨_, rfl, fun _ => hS0, ?_⟩
  (refine wt_take1 2 8 (v := ?_) rfl rfl (by kernel_rfl) (by kernel_rfl) (by kernel_rfl) (by kernel_rfl) (fun _ _ _ h => h) rfl hS0 (by (repeat (first | (refine slot_hit (N := 34) ?_ (by rfl); (repeat (refine sz_put ?_)); assumption; done) | (apply slot_miss; focus rfl))); all_goals assumption) (fun ev hk hv0 w hS => ?_) ?_; rotate_left; focus (go_simp; first | exact k1 _ | (rw [k1]; done) | (simp only [k1]; done) | rfl))
  (refine wt_take1 3 9 (v := ?_) rfl rfl (by kernel_rfl) (by kernel_rfl) (by kernel_rfl) (by kernel_rfl) (fun _ _ _ h => h) rfl hS0 (by (repeat (first | (refine slot_hit (N := 34) ?_ (by rfl); (repeat (refine sz_put ?_)); assumption; done) | (apply slot_miss; focus rfl))); all_goals assumption) (fun ev hk hv0 w hS => ?_) ?_; rotate_left; focus (go_simp; first | exact k2 _ | (rw [k2]; done) | (simp only [k2]; done) | rfl))
  refine wt_call1 6 12 (by kernel_rfl) rfl rfl rfl (by (repeat (first | (refine slot_hit (N := 34) ?_ (by rfl); (repeat (refine sz_put ?_)); assumption; done) | (apply slot_miss; focus rfl))); all_goals assumption) (f := ?_) (args := ?_) (fun ev hk hkf hv0 => ?_) ?_; rotate_left 2; focus (go_simp; first | rfl | (constructor <;> rfl))
  (with_reducible refine (DF.out w1 hB1).mono ?_)
  rintro e w2 ⟨rfl, hb2⟩
  have hB2 := Below.step hB1 hB1.size hb2
  have hX2 := hX1.keep hb2 hX1.lt
  have hS0 : (fun w' : World => w'.cell? ⟨w.heap.size, 0, none⟩ = some (.slice A1 t.nf kk1) ∧ w'.cell? ⟨w.heap.size, 1, none⟩ = some (.slice A2 t.ni kk2)) w2 := ⟨hX2.cell 0, hX2.cell 1⟩
  refine ⟨_, rfl, fun _ => hS0, ?_⟩
  (refine wt_take2 7 10 13 (v := ?_) rfl rfl (by kernel_rfl) (by kernel_rfl) (by kernel_rfl) (by kernel_rfl) (fun _ _ _ h => h) rfl hS0 (by (repeat (first | (refine slot_hit (N := 34) ?_ (by rfl); (repeat (refine sz_put ?_)); assumption; done) | (apply slot_miss; focus rfl))); all_goals assumption) (by (repeat (first | (refine slot_hit (N := 34) ?_ (by rfl); (repeat (refine sz_put ?_)); assumption; done) | (apply slot_miss; focus rfl))); all_goals assumption) (fun ev hk hv0 hv1 w hS => ?_) ?_; rotate_left; focus (go_simp; first | exact k3 _ | (rw [k3]; done) | (simp only [k3]; done) | rfl))
  (refine wt_take1 8 14 (v := ?_) rfl rfl (by kernel_rfl) (by kernel_rfl) (by kernel_rfl) (by kernel_rfl) (fun _ _ _ h => h) rfl hS0 (by (repeat (first | (refine slot_hit (N := 34) ?_ (by rfl); (repeat (refine sz_put ?_)); assumption; done) | (apply slot_miss; focus rfl))); all_goals assumption) (fun ev hk hv0 w hS => ?_) ?_; rotate_left; focus (go_simp; first | exact k4 _ | (rw [k4]; done) | (simp only [k4]; done) | rfl))
  (refine wt_assign 9 15 rfl rfl (by kernel_rfl) (by kernel_rfl) (by kernel_rfl) (by kernel_rfl) (fun _ _ _ h => h) rfl hS0 (by (repeat (first | (refine slot_hit (N := 34) ?_ (by rfl); (repeat (refine sz_put ?_)); assumption; done) | (apply slot_miss; focus rfl))); all_goals assumption) rfl ?_)
  refine wt_done (by kernel_rfl) (NoPanic.normal ?_) _
  have ha := HA.out
  subst ha
  clear hZ hs1 hs2 hS0 k1 k2 k3 k4
  have HX2 := Lib.hid (And.intro hB2 hX2)
  clear hB2 hX2 hB1 hX1 hBd hb1 hb2
  go_wp2
  go_loopw [5, 6] (fun s i wr => ∃ r : Nat, r ≤ t.ni ∧ i = .int .i64 r ∧ s = .string (str (t11 t b r)) ∧ Below w.heap.size w wr ∧ Has wr w.heap.size 30 (tcs t ⟨A1, kk1, A2, kk2⟩)) (fun _ i _ => t.ni - (intOf i).toNat)
  case atStart => exact ⟨0, Nat.zero_le _, rfl, by rw [HS6.out], HX2.out⟩
  case round =>
    obtain ⟨r, hr, rfl, rfl, hBr, hXr⟩ := hrel
    have hlen := HLen.out r hr
    have x0 := hXr.cell 0
    have x1 := hXr.cell 1
    by_cases hlt : r < t.ni
    · have hip := HT.out.1.ip
      dsimp only at hip
      obtain ⟨a2, hA, hab, hcs⟩ := (hip.keep hBr) (by omega)
      subst hA
      obtain ⟨A', k', y0, hu, hun⟩ := hcs r hlt
      have hln := HT.out.2.ln r hlt
      have hr0 : (0 : Int) ≤ (r : Int) := by omega
      have hr1 : (r : Int) < (t.ni : Int) := by omega
      have DR := Lib.hid (rDig11_any A' (t.ln r) k' (t.ip r) wr (hu.more hBr.size) hln)
      have k1 : ∀ W, (Op.stringOp .add (str (d01 (t.ip r) (t.ln r))) ⟨#[10]⟩).run Tryd.prog W = .ok (.string (str (d01 (t.ip r) (t.ln r) ++ [10]))) W := fun W => str_add (l := d01 (t.ip r) (t.ln r)) (m := [10]) (by rw [d01_len]; show t.ln r + 1 ≤ 10000000; omega) W
      have k2 : ∀ W, (Op.stringOp .add (str (t11 t b r)) (str (d01 (t.ip r) (t.ln r) ++ [10]))).run Tryd.prog W = .ok (.string (str (t11 t b (r + 1)))) W := fun W => by
        rw [← t11_succ]
        exact str_add (l := t11 t b r) (m := d01 (t.ip r) (t.ln r) ++ [10]) (by simp only [List.length_append, List.length_cons, List.length_nil, d01_len]; omega) W
      clear hcs hu hun hln hlen hip hab
      go_wp2_with (go_at_call 27; (with_reducible refine DR.out.mono ?_); rintro e w3 ⟨rfl, hb3⟩)
      go_roundw
      case rel => exact ⟨r + 1, by omega, by go_num, rfl, Below.step hBr hBr.size hb3, hXr.keep hb3 hXr.lt⟩
      case measure => simp [intOf]; omega
    · obtain ⟨r3, hre⟩ : ∃ r3, r3 = r := ⟨_, rfl⟩
      subst hre
      have hrn : ¬ (r3 : Int) < (t.ni : Int) := by omega
      have er : r3 = t.ni := by omega
      have k1 : ∀ W, (Op.stringOp .add (str (t11 t b r3)) ⟨#[46, 10]⟩).run Tryd.prog W = .ok (.string (str (wtx t b))) W := fun W => by
        rw [← HE.out, er]
        rw [er] at hlen
        exact str_add (l := t11 t b t.ni) (m := [46, 10]) (by simp only [List.length_cons, List.length_nil]; omega) W
      clear hr hlt hlen er
      go_wp2
      go_ret
      exact ⟨rfl, hBr⟩

set_option maxRecDepth 100000 in
set_option maxHeartbeats 4000000 in
theorem rWrite11_any (b : Int) (hb : I64 b) (w : World) (h : RArg w w.heap.size c p t q) :
    Calls Tryd.prog 8 #[cv c p, tv t q, .int .i64 b] w fun e w' => e = .returned (.tuple #[.string (str (c.wrW t b)), .int .i64 (c.wck t b)]) ∧ Below w.heap.size w w' := by
  have DC : Hid (∀ W, Below w.heap.size w W → Calls Tryd.prog 10 #[cv c p, tv t q, .int .i64 b] W fun e w' => e = .returned (.int .i64 (c.wck t b)) ∧ Below W.heap.size W w') := Lib.hid fun W hb' => rCheck11_any b hb W (h.to hb' hb'.size)
  have hB0 := ct_b w c p t q
  by_cases hk : c.wck t b = 0
  · obtain ⟨h1, h2, h3, h4⟩ := Cr.wck_ok hk
    obtain ⟨k1, k2, k3, k4, k5, k6⟩ := Cr.tck_ok h1
    have hnb := Cr.chk_nb k1
    have HR : Hid (c.wrW t b = wtx t b) := Lib.hid (by unfold Cr.wrW; rw [if_pos hk])
    have DT : Hid (∀ W, Below w.heap.size w W → Calls Tryd.prog 15 #[tv t q, .int .i64 b] W fun e w' => e = .returned (.string (str (wtx t b))) ∧ Below W.heap.size W w') := Lib.hid fun W hb' => rText11_any b h2 (by omega) W (h.ht.to hb' hb'.size) h.hts k3
    rw [hk] at DC ⊢
    rw [HR.out]
    obtain ⟨S1, hS1⟩ : ∃ S, S = str (wtx t b) := ⟨_, rfl⟩
    rw [← hS1] at DT ⊢
    clear hS1 HR hk h1 h2 h3 h4 k1 k2 k3 k4 k5 k6 hnb h hb
    go_enter Tryd.func8, Tryd.ntmps8
    go_wp2_with (first
      | (go_at_call 10; (with_reducible refine (DC.out _ hB0).mono ?_); rintro e w1 ⟨rfl, hb1⟩; have hX1 := Bx.first hb1; obtain ⟨x0, x1, x2, x3, x4, x5, x6, z0, z1⟩ := hX1.cells)
      | (go_at_call 15; (with_reducible refine (DT.out w1 hX1.b).mono ?_); rintro e w2 ⟨rfl, hb2⟩; have hX2 := hX1.call hb2))
    go_ret2
    exact ⟨rfl, hX2.b⟩
  · have HR : Hid (c.wrW t b = []) := Lib.hid (by unfold Cr.wrW; rw [if_neg hk])
    rw [HR.out]
    obtain ⟨z, hz⟩ : ∃ z, z = c.wck t b := ⟨_, rfl⟩
    rw [← hz] at DC ⊢ hk
    have e0 : (z != 0) = true := by simpa using hk
    clear hz hk HR h hb
    go_enter Tryd.func8, Tryd.ntmps8
    go_wp2_with (first
      | (go_at_call 10; (with_reducible refine (DC.out _ hB0).mono ?_); rintro e w1 ⟨rfl, hb1⟩; have hX1 := Bx.first hb1; obtain ⟨x0, x1, x2, x3, x4, x5, x6, z0, z1⟩ := hX1.cells)
      | (go_at_call 10; (with_reducible refine (DC.out w1 hX1.b).mono ?_); rintro e w2 ⟨rfl, hb2⟩; have hX2 := hX1.call hb2))
    go_ret2
    exact ⟨rfl, hX2.b⟩
end

end Go.Proofs.YtbppdifghkkooaaDoor
