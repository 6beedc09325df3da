/- What stands in a text behind its first word: digits, blanks and line feeds alone, no two gaps side by side; how many lines. -/
import Derived.Test.YtmholdmcmbbdgaaDoorAsciiMath
import Derived.Test.YtmholdmcmbbdgaaDoorAsciiKit
namespace Go.Proofs.YtmholdmcmbbdgaaDoor
open Go.RowKit
set_option linter.unusedVariables false
set_option linter.unusedSimpArgs false

/-- a blank or a line feed -/
def gapB (c : UInt8) : Bool := c == 32 || c == 10
/-- digits and gaps; g: behind a gap, or at the beginning -/
def wfL : Bool → List UInt8 → Bool
  | _, [] => true
  | g, c :: l => if gapB c then !g && wfL true l else decide (48 ≤ c.toNat ∧ c.toNat ≤ 57) && wfL false l
/-- behind a gap, at the end -/
def fin : Bool → List UInt8 → Bool
  | g, [] => g
  | _, c :: l => fin (gapB c) l
theorem wfL_app : ∀ (l m : List UInt8) (g : Bool), wfL g (l ++ m) = (wfL g l && wfL (fin g l) m)
  | [], m, g => by simp [wfL, fin]
  | c :: l, m, g => by
    rw [List.cons_append, wfL, wfL, fin]
    cases h : gapB c
    · simp only [Bool.false_eq_true, if_false, wfL_app l m false, Bool.and_assoc]
    · simp only [if_true, wfL_app l m true, Bool.and_assoc]
theorem fin_app : ∀ (l m : List UInt8) (g : Bool), fin g (l ++ m) = fin (fin g l) m
  | [], m, g => rfl
  | c :: l, m, g => by rw [List.cons_append, fin, fin, fin_app l m]
/-- how many line feeds -/
def lfs (l : List UInt8) : Nat := l.count 10
theorem lfs_app (l m : List UInt8) : lfs (l ++ m) = lfs l + lfs m := List.count_append
theorem dig_not {c : UInt8} (h : 48 ≤ c.toNat ∧ c.toNat ≤ 57) : gapB c = false ∧ (c == 10) = false := by
  have h1 : c ≠ 32 := fun e => by subst e; exact absurd h (by decide)
  have h2 : c ≠ 10 := fun e => by subst e; exact absurd h (by decide)
  unfold gapB
  simp [h1, h2]
theorem wf_digs : ∀ (l : List UInt8) (g : Bool), (∀ c ∈ l, 48 ≤ c.toNat ∧ c.toNat ≤ 57) → l ≠ [] → wfL g l = true ∧ fin g l = false ∧ lfs l = 0
  | [], _, _, h => absurd rfl h
  | c :: l, g, hl, _ => by
    have hc := hl c (by simp)
    obtain ⟨d1, d2⟩ := dig_not hc
    have hx : lfs (c :: l) = lfs l := by unfold lfs; rw [List.count_cons, d2]; simp
    by_cases hn : l = []
    · subst hn
      refine ⟨?_, ?_, by rw [hx]; rfl⟩
      · rw [wfL, d1]; simp [wfL, hc]
      · rw [fin, d1]; rfl
    · obtain ⟨a, b, d⟩ := wf_digs l false (fun c hc => hl c (by simp [hc])) hn
      refine ⟨?_, ?_, by rw [hx, d]⟩
      · rw [wfL, d1, a]; simp [hc]
      · rw [fin, d1, b]
theorem dgs_wf {x : Int} (h : 0 ≤ x) (g : Bool) : wfL g (dgs x) = true ∧ fin g (dgs x) = false ∧ lfs (dgs x) = 0 := by
  have hp := dgs_pos h
  rw [dgs_nat x h] at hp ⊢
  exact wf_digs _ g (decDigits_dig _) (fun e => by rw [e] at hp; simp at hp)
theorem par_wf {f : Nat → Int} : ∀ {n : Nat}, (∀ j, j < n + 1 → 0 ≤ f j) → wfL true (par f (n + 1)) = true ∧ fin true (par f (n + 1)) = false ∧ lfs (par f (n + 1)) = 0
  | 0, h => by
    have := dgs_wf (h 0 (by omega)) true
    have e : par f (0 + 1) = dgs (f 0) := by simp [par]
    rw [e]; exact this
  | n + 1, h => by
    obtain ⟨a, b, d⟩ := par_wf (n := n) fun j hj => h j (by omega)
    obtain ⟨a', b', d'⟩ := dgs_wf (h (n + 1) (by omega)) true
    have e : par f (n + 1 + 1) = par f (n + 1) ++ ([32] ++ dgs (f (n + 1))) := by rw [par_succ, if_neg (by omega), List.append_assoc]
    have e32 : ∀ l, wfL false ([32] ++ l) = wfL true l := fun l => by simp [wfL, gapB]
    have f32 : ∀ l, fin false ([32] ++ l) = fin true l := fun l => by simp [fin, gapB]
    rw [e, wfL_app, fin_app, lfs_app, a, b, d, e32, f32, lfs_app, a', b', d']
    exact ⟨rfl, rfl, rfl⟩
theorem lin_wf {f : Nat → Int} {n : Nat} (hn : 1 ≤ n) (h : ∀ j, j < n → 0 ≤ f j) : wfL true (lin f n) = true ∧ fin true (lin f n) = true ∧ lfs (lin f n) = 1 := by
  obtain ⟨m, rfl⟩ : ∃ m, n = m + 1 := ⟨n - 1, by omega⟩
  obtain ⟨a, b, d⟩ := par_wf (n := m) h
  rw [lin, wfL_app, fin_app, lfs_app, a, b, d]
  exact ⟨rfl, rfl, rfl⟩
/-- lines, one after the other -/
theorem flt_wf {L : Nat → List UInt8} : ∀ {n : Nat}, (∀ j, j < n → wfL true (L j) = true ∧ fin true (L j) = true ∧ lfs (L j) = 1) → wfL true (flt L n) = true ∧ fin true (flt L n) = true ∧ lfs (flt L n) = n
  | 0, _ => ⟨rfl, rfl, rfl⟩
  | n + 1, h => by
    obtain ⟨a, b, d⟩ := flt_wf (n := n) fun j hj => h j (by omega)
    obtain ⟨a', b', d'⟩ := h n (by omega)
    rw [flt, wfL_app, fin_app, lfs_app, a, b, d, a', b', d']
    exact ⟨rfl, rfl, rfl⟩
/-- by index -/
theorem wf_at : ∀ (l : List UInt8) (g : Bool), wfL g l = true → ∀ j, j < l.length → (gapB (l.getD j 0) = false → 48 ≤ (l.getD j 0).toNat ∧ (l.getD j 0).toNat ≤ 57) ∧ (gapB (l.getD j 0) = true → (j = 0 → g = false) ∧ (0 < j → gapB (l.getD (j - 1) 0) = false))
  | [], _, _, j, hj => absurd hj (Nat.not_lt_zero _)
  | c :: l, g, h, j, hj => by
    rw [wfL] at h
    cases hc : gapB c
    · rw [hc] at h
      simp only [Bool.false_eq_true, if_false, Bool.and_eq_true, decide_eq_true_eq] at h
      cases j with
      | zero =>
        show (gapB c = false → _) ∧ (gapB c = true → _)
        rw [hc]
        exact ⟨fun _ => h.1, (fun e => by cases e)⟩
      | succ j =>
        have ih := wf_at l false h.2 j (by simpa using hj)
        have e1 : (c :: l).getD (j + 1) 0 = l.getD j 0 := by simp
        rw [e1]
        refine ⟨ih.1, fun hg => ⟨fun e => by omega, fun _ => ?_⟩⟩
        cases j with
        | zero => exact hc
        | succ j =>
          have e2 : (c :: l).getD (j + 1 + 1 - 1) 0 = l.getD (j + 1 - 1) 0 := by simp
          rw [e2]
          exact (ih.2 hg).2 (by omega)
    · rw [hc] at h
      simp only [if_true, Bool.and_eq_true, Bool.not_eq_true'] at h
      cases j with
      | zero =>
        show (gapB c = false → _) ∧ (gapB c = true → _)
        rw [hc]
        exact ⟨(fun e => by cases e), fun _ => ⟨fun _ => h.1, (fun e => by omega)⟩⟩
      | succ j =>
        have ih := wf_at l true h.2 j (by simpa using hj)
        have e1 : (c :: l).getD (j + 1) 0 = l.getD j 0 := by simp
        rw [e1]
        refine ⟨ih.1, fun hg => ⟨fun e => by omega, fun _ => ?_⟩⟩
        cases j with
        | zero => have := (ih.2 hg).1 rfl; cases this
        | succ j =>
          have e2 : (c :: l).getD (j + 1 + 1 - 1) 0 = l.getD (j + 1 - 1) 0 := by simp
          rw [e2]
          exact (ih.2 hg).2 (by omega)
theorem fin_last : ∀ (l : List UInt8) (g : Bool), l ≠ [] → fin g l = gapB (l.getD (l.length - 1) 0)
  | [], _, h => absurd rfl h
  | [c], g, _ => rfl
  | c :: d :: l, g, _ => by
    rw [fin, fin_last (d :: l) _ (by simp)]
    simp

end Go.Proofs.YtmholdmcmbbdgaaDoor

namespace Go.Proofs.YtmholdmcmbbdgaaDoor
open Go.RowKit
set_option linter.unusedVariables false
set_option linter.unusedSimpArgs false

theorem par_ge {f : Nat → Int} : ∀ {n : Nat}, (∀ j, j < n → 0 ≤ f j) → 2 * n ≤ (par f n).length + 1
  | 0, _ => by simp
  | n + 1, h => by
    have h1 := par_ge (n := n) fun j hj => h j (by omega)
    have h2 := dgs_pos (h n (by omega))
    rw [par_succ, List.length_append, List.length_append]
    by_cases hn : n = 0
    · subst hn; rw [if_pos rfl]; simp [par] at h1 ⊢; omega
    · rw [if_neg hn]; simp; omega
namespace Rw
/-- what stands behind the first word -/
def bdy (r : Rw) : List UInt8 := lin r.hd 7 ++ ech r.ip r.ni ++ lts r.ll r.la r.lb r.nl ++ ech r.bd r.nb ++ ech r.cn r.nc ++ gts r.gl r.ga r.gb r.na
theorem txt_bdy (r : Rw) : r.txt = [97, 97, 103, 32] ++ r.bdy := by
  unfold txt bdy
  simp only [List.append_assoc]
end Rw
theorem bdy_wf {r : Rw} (hr : r.chk = 0) : wfL true r.bdy = true ∧ fin true r.bdy = true ∧ (lfs r.bdy : Int) = r.lns ∧ 14 ≤ r.bdy.length ∧ r.bdy.length ≤ 50000 := by
  have hb := Bd.of hr
  obtain ⟨a1, b1, d1⟩ := lin_wf (f := r.hd) (n := 7) (by omega) (fun j hj => (hd_bd hb j hj).1)
  obtain ⟨a2, b2, d2⟩ := flt_wf (L := fun j => lin (one (r.ip j)) 1) (n := r.ni) (fun j hj => lin_wf (by omega) (fun _ _ => (hb.ip j hj).1))
  obtain ⟨a3, b3, d3⟩ := flt_wf (L := fun j => lin (tri (r.ll j) (r.la j) (lt3 (r.ll j) (r.lb j))) (ltn (r.lb j))) (n := r.nl) (fun j hj => lin_wf (by have := ltn_le (r.lb j); omega) (fun q _ => tri_nn (hb.ll j hj).1 (hb.la j hj).1 (lt3_nn (hb.ll j hj).1) q))
  obtain ⟨a4, b4, d4⟩ := flt_wf (L := fun j => lin (one (r.bd j)) 1) (n := r.nb) (fun j hj => lin_wf (by omega) (fun _ _ => (hb.bd j hj).1))
  obtain ⟨a5, b5, d5⟩ := flt_wf (L := fun j => lin (one (r.cn j)) 1) (n := r.nc) (fun j hj => lin_wf (by omega) (fun _ _ => (hb.cn j hj).1))
  obtain ⟨a6, b6, d6⟩ := flt_wf (L := fun j => lin (tri (r.gl j) (r.ga j) (r.gb j)) 3) (n := r.na) (fun j hj => lin_wf (by omega) (fun q _ => tri_nn (hb.gl j hj).1 (hb.ga j hj).1 (hb.gb j hj).1 q))
  have hl := par_ge (f := r.hd) (n := 7) (fun j hj => (hd_bd hb j hj).1)
  have hu := (Rw.t_len hb).2.2.2.2.2 r.na (Nat.le_refl _)
  rw [Rw.t6_txt, Rw.txt_bdy, List.length_append] at hu
  have hlen : 14 ≤ (lin r.hd 7).length := by rw [lin, List.length_append]; simp; omega
  refine ⟨?_, ?_, ?_, ?_, by omega⟩
  · unfold Rw.bdy
    rw [ech_flt, ech_flt, ech_flt, lts_flt, gts_flt]
    simp only [wfL_app, fin_app, a1, b1, a2, b2, a3, b3, a4, b4, a5, b5, a6, Bool.and_self]
  · unfold Rw.bdy
    rw [ech_flt, ech_flt, ech_flt, lts_flt, gts_flt]
    simp only [fin_app, b1, b2, b3, b4, b5, b6]
  · unfold Rw.bdy
    rw [ech_flt, ech_flt, ech_flt, lts_flt, gts_flt]
    simp only [lfs_app, d1, d2, d3, d4, d5, d6]
    unfold Rw.lns
    omega
  · unfold Rw.bdy
    simp only [List.length_append]
    omega

/-- reading a string's byte -/
theorem str_idx {T : TypeId} (hT : Tryd.prog.underlying T = some .string) (l : List UInt8) {x : Int} {j : Nat} (hx : x = (j : Int)) (hj : j < l.length) (W : World) :
    (Instr.index T (.string (str l)) (.int .i64 x)).run Tryd.prog W = .ok (.int .u8 ((l.getD j 0).toNat : Int)) W := by
  subst hx
  rw [run_index_string W T (str l) .i64 (j : Int) hT, dif_pos (by rw [str_size]; omega)]
  have e : (str l)[(j : Int).toNat]'(by rw [str_size]; omega) = l.getD j 0 := by
    rw [List.getD_eq_getElem?_getD, List.getElem?_eq_getElem hj]
    show (str l).data[(j : Int).toNat]'_ = _
    simp [str]
  rw [e]
theorem str_len {T u : TypeId} (hT : Tryd.prog.underlying T = some .string) (l : List UInt8) (W : World) : (Builtin.len_ #[T] u #[.string (str l)]).run Tryd.prog W = .ok (.int .i64 (l.length : Int)) W := by
  rw [run_len_string W T u (str l) hT, str_size, goInt]
theorem str_ex (l : List UInt8) (a b : Nat) : (str l).extract a b = str ((l.drop a).take (b - a)) := by
  unfold str
  ext1
  simp [ByteArray.extract, ByteArray.copySlice, List.extract_toArray]
theorem str_to {T : TypeId} (hT : Tryd.prog.underlying T = some .string) (l : List UInt8) {x : Int} {j : Nat} (hx : x = (j : Int)) (hj : j ≤ l.length) (W : World) :
    (Instr.slice T (.string (str l)) none (some (.int .i64 x)) none).run Tryd.prog W = .ok (.string (str (l.take j))) W := by
  subst hx
  rw [run_slice_string_to_if W T (str l) .i64 (j : Int) hT, if_pos (by rw [str_size]; omega), str_ex, Int.toNat_natCast, List.drop_zero, Nat.sub_zero]
theorem str_from {T : TypeId} (hT : Tryd.prog.underlying T = some .string) (l : List UInt8) {x : Int} {j : Nat} (hx : x = (j : Int)) (hj : j ≤ l.length) (W : World) :
    (Instr.slice T (.string (str l)) (some (.int .i64 x)) none none).run Tryd.prog W = .ok (.string (str (l.drop j))) W := by
  subst hx
  rw [run_slice_string_from_if W T (str l) .i64 (j : Int) hT, if_pos (by rw [str_size]; omega), str_size, str_ex, Int.toNat_natCast, List.take_of_length_le (by simp)]
theorem lfs_take {l : List UInt8} {q : Nat} (hq : q < l.length) : lfs (l.take (q + 1)) = lfs (l.take q) + if l.getD q 0 = 10 then 1 else 0 := by
  rw [List.take_add_one, List.getElem?_eq_getElem hq, lfs_app, List.getD_eq_getElem?_getD, List.getElem?_eq_getElem hq]
  simp [lfs, List.count_cons]

/-- a text ends with a line feed -/
def EndsTen (l : List UInt8) : Prop := ∃ u, l = u ++ [10]
theorem lin_ten (f : Nat → Int) (n : Nat) : EndsTen (lin f n) := ⟨par f n, rfl⟩
theorem flt_ten {L : Nat → List UInt8} {l : List UInt8} (hl : EndsTen l) (h : ∀ j, EndsTen (L j)) : ∀ n, EndsTen (l ++ flt L n)
  | 0 => by simpa [flt] using hl
  | n + 1 => by
    obtain ⟨u, hu⟩ := h n
    exact ⟨l ++ flt L n ++ u, by rw [flt, hu]; simp [List.append_assoc]⟩
theorem bdy_ten {r : Rw} (hr : r.chk = 0) : EndsTen r.bdy := by
  unfold Rw.bdy
  rw [ech_flt, ech_flt, ech_flt, lts_flt, gts_flt]
  exact flt_ten (flt_ten (flt_ten (flt_ten (flt_ten (lin_ten _ _) (fun j => lin_ten _ _) _) (fun j => lin_ten _ _) _) (fun j => lin_ten _ _) _) (fun j => lin_ten _ _) _) (fun j => lin_ten _ _) _

/-- what a text's bytes are, as numbers: X by index, K how many line feeds behind the first word are ahead of an index -/
structure LnOk (S : ByteArray) (n : Nat) (X : Nat → Int) (K : Nat → Nat) (N : Int) : Prop where
  idx : ∀ (q : Nat) (x : Int), x = (q : Int) → q < n → ∀ W : World, (Instr.index 9 (.string S) (.int .i64 x)).run Tryd.prog W = .ok (.int .u8 (X q)) W
  len : ∀ W : World, (Builtin.len_ #[9] 3 #[.string S]).run Tryd.prog W = .ok (.int .i64 (n : Int)) W
  beg : ∀ W : World, (Instr.slice 9 (.string S) none (some (.int .i64 4)) none).run Tryd.prog W = .ok (.string ⟨#[97, 97, 103, 32]⟩) W
  n18 : 18 ≤ n
  nup : n ≤ 60000
  byt : ∀ q, 4 ≤ q → q < n → (X q = 32 ∨ X q = 10) ∧ 4 < q ∧ 48 ≤ X (q - 1) ∧ X (q - 1) ≤ 57 ∨ 48 ≤ X q ∧ X q ≤ 57
  lst : X (n - 1) = 10
  k4 : K 4 = 0
  ks : ∀ q, 4 ≤ q → q < n → K (q + 1) = K q + if X q = 10 then 1 else 0
  kle : ∀ q, q ≤ n → K q ≤ n
  kn : (K n : Int) = N
theorem gap_num {c : UInt8} (h : gapB c = true) : (c.toNat : Int) = 32 ∨ (c.toNat : Int) = 10 := by
  unfold gapB at h
  simp only [Bool.or_eq_true, beq_iff_eq] at h
  rcases h with h | h
  · left; subst h; rfl
  · right; subst h; rfl
theorem ten_num (c : UInt8) : (c.toNat : Int) = 10 ↔ c = 10 := by
  constructor
  · intro h
    have h : c.toNat = 10 := by omega
    exact UInt8.toNat_inj.1 h
  · intro h; subst h; rfl
set_option maxHeartbeats 1000000 in
theorem ln_ok {r : Rw} (hr : r.chk = 0) : ∃ n X K, LnOk (str r.txt) n X K r.lns := by
  obtain ⟨h1, h2, h3, h4, h5⟩ := bdy_wf hr
  have hS : Tryd.prog.underlying 9 = some .string := Tryd.underlying9
  have hlen : r.txt.length = 4 + r.bdy.length := by rw [Rw.txt_bdy, List.length_append]; rfl
  have hat : ∀ q, 4 ≤ q → r.txt.getD q 0 = r.bdy.getD (q - 4) 0 := fun q hq => by
    rw [Rw.txt_bdy, List.getD_eq_getElem?_getD, List.getD_eq_getElem?_getD, List.getElem?_append_right (by simpa using hq)]
    rfl
  refine ⟨r.txt.length, fun q => ((r.txt.getD q 0).toNat : Int), fun q => lfs (r.bdy.take (q - 4)), ⟨fun q x hx hq W => str_idx hS r.txt hx hq W, fun W => str_len hS r.txt W, fun W => ?_, by omega, by omega, fun q h4q hq => ?_, ?_, by simp [lfs], fun q h4q hq => ?_, fun q hq => ?_, ?_⟩⟩
  · have h := str_to hS r.txt (x := 4) (j := 4) rfl (by omega) W
    have e : r.txt.take 4 = [97, 97, 103, 32] := by rw [Rw.txt_bdy]; rfl
    rw [e] at h
    exact h
  · have hw := wf_at r.bdy true h1 (q - 4) (by omega)
    show (((r.txt.getD q 0).toNat : Int) = 32 ∨ ((r.txt.getD q 0).toNat : Int) = 10) ∧ 4 < q ∧ 48 ≤ ((r.txt.getD (q - 1) 0).toNat : Int) ∧ ((r.txt.getD (q - 1) 0).toNat : Int) ≤ 57 ∨ 48 ≤ ((r.txt.getD q 0).toNat : Int) ∧ ((r.txt.getD q 0).toNat : Int) ≤ 57
    rw [hat q h4q]
    cases hg : gapB (r.bdy.getD (q - 4) 0)
    · right
      have := hw.1 hg
      omega
    · left
      have hh := hw.2 hg
      have h4' : 4 < q := by
        rcases Nat.lt_or_ge 4 q with h | h
        · exact h
        · have := hh.1 (by omega); cases this
      have hp := hh.2 (by omega)
      have hpw := (wf_at r.bdy true h1 (q - 4 - 1) (by omega)).1 hp
      rw [hat (q - 1) (by omega), show q - 1 - 4 = q - 4 - 1 by omega]
      exact ⟨gap_num hg, h4', by omega, by omega⟩
  · show ((r.txt.getD (r.txt.length - 1) 0).toNat : Int) = 10
    rw [hat _ (by omega), hlen]
    rw [show 4 + r.bdy.length - 1 - 4 = r.bdy.length - 1 by omega]
    obtain ⟨u, hu⟩ : ∃ u, r.bdy = u ++ [10] := bdy_ten hr
    rw [hu, List.getD_eq_getElem?_getD, List.length_append, List.length_singleton, Nat.add_sub_cancel, List.getElem?_append_right (Nat.le_refl _), Nat.sub_self]
    rfl
  · show lfs (r.bdy.take (q + 1 - 4)) = lfs (r.bdy.take (q - 4)) + if ((r.txt.getD q 0).toNat : Int) = 10 then 1 else 0
    rw [show q + 1 - 4 = q - 4 + 1 by omega, lfs_take (by omega), hat q h4q]
    have e : (if r.bdy.getD (q - 4) 0 = 10 then 1 else 0) = (if ((r.bdy.getD (q - 4) 0).toNat : Int) = 10 then 1 else (0 : Nat)) := by
      by_cases hx : r.bdy.getD (q - 4) 0 = 10
      · rw [if_pos hx, if_pos ((ten_num _).2 hx)]
      · rw [if_neg hx, if_neg (fun h => hx ((ten_num _).1 h))]
    rw [e]
  · show lfs (r.bdy.take (q - 4)) ≤ r.txt.length
    have h1 : lfs (r.bdy.take (q - 4)) ≤ (r.bdy.take (q - 4)).length := List.count_le_length
    have h2 := List.length_take_le (q - 4) r.bdy
    omega
  · show (lfs (r.bdy.take (r.txt.length - 4)) : Int) = r.lns
    rw [hlen, show 4 + r.bdy.length - 4 = r.bdy.length by omega, List.take_length, h3]

end Go.Proofs.YtmholdmcmbbdgaaDoor
