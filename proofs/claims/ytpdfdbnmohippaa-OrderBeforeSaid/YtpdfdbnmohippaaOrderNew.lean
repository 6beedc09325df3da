/- The new variables of the package order: slices.Repeat of one number, newVars, renamed, renamedAll. -/
import Derived.Test.YtpdfdbnmohippaaOrderProg9
import Derived.Test.YtpdfdbnmohippaaOrderRef8
import Derived.Test.YtpdfdbnmohippaaShelf
import Derived.Laws.CopyRow
import Derived.Lib.SlBuf
namespace Go.Proofs.Ytpdfdbnmohippaa
open Go.RowKit
set_option linter.unusedVariables false
set_option linter.unusedSimpArgs false

/-- a row that is copied onto itself -/
theorem rep_copy {w : World} {g n q m : Nat} (hR : w.rowIs g 3 n (fun j => .int .i64 (if j < q then -1 else 0))) (hm : m = Nat.min q (n - q)) (hqn : q ≤ n) (ty : TypeId) (dc sc : Nat) :
    ∃ W', (Builtin.copy_ #[24, 24] ty #[.slice (some ⟨g, q, none⟩) (n - q) dc, .slice (some ⟨g, 0, none⟩) q sc]).run Try.prog w = .ok (.int .i64 (m : Int)) W' ∧
      W'.rowIs g 3 n (fun j => .int .i64 (if j < q + m then -1 else 0)) ∧ w.grownBy W' (some g) := by
  have hmq : m ≤ q := by rw [hm]; exact Nat.min_le_left _ _
  have hmn : m ≤ n - q := by rw [hm]; exact Nat.min_le_right _ _
  have hadd : ∀ j, (⟨g, 0, none⟩ : Addr).add j = ⟨g, j, none⟩ := fun j => by unfold Addr.add; split <;> simp_all
  obtain ⟨c, hb, hs, hc⟩ := id hR
  have hsz : (Try.prog.info? 3).map (·.size) = some 1 := by kernel_rfl
  have h := run_copy_row (P := Try.prog) w 24 24 ty 3 g q (n - q) dc ⟨g, 0, none⟩ q sc c 3 (List.replicate m (.int .i64 (-1))) Try.underlying24 hsz hb (by rw [List.length_replicate]; exact hm)
    (fun j v hv => by
      rw [List.getElem?_replicate] at hv
      split at hv
      · next hj =>
        cases hv
        rw [hadd, hR.cell (show j < n by omega), if_pos (by omega)]
      · cases hv) (by rw [List.length_replicate]; omega) (fun v hv => by rw [(List.mem_replicate.1 hv).2]; rfl)
  rw [List.length_replicate] at h
  refine ⟨_, h, ⟨_, setRow_heap w g c _ 3 _ hb, ?_, fun i hi => ?_⟩, ⟨rfl, rfl, rfl, by simp [World.setRow], fun j _ hj => setRow_other w g j _ (by simpa using hj)⟩⟩
  · simp; omega
  · have hci : c[i]? = some (.int .i64 (if i < q then -1 else 0)) := hc i hi
    show _ = some (Value.int .i64 (if i < q + m then -1 else 0))
    rw [← Array.getElem?_toList] at hci
    rw [List.getElem?_toArray]
    rcases Nat.lt_or_ge i q with h1 | h1
    · rw [List.append_assoc, List.getElem?_append_left (by simp; omega), List.getElem?_take_of_lt h1, hci, if_pos h1, if_pos (by omega)]
    · rcases Nat.lt_or_ge i (q + m) with h2 | h2
      · rw [List.append_assoc, List.getElem?_append_right (by simp; omega), List.getElem?_append_left (by simp; omega), List.getElem?_replicate, if_pos (by simp; omega), if_pos h2]
      · rw [List.getElem?_append_right (by simp; omega), List.getElem?_drop]
        have e : q + m + (i - (List.take q c.toList ++ List.replicate m (Value.int .i64 (-1))).length) = i := by simp; omega
        rw [e, hci, if_neg (by omega), if_neg (by omega)]

/-- the first number of a row -/
theorem rep_first {w : World} {g b n : Nat} (hR : w.rowIs g 3 n (fun _ => .int .i64 0)) (hn : 1 ≤ n) (hx : w.cell? ⟨b, 0, none⟩ = some (.int .i64 (-1))) (ty : TypeId) (dc sc : Nat) :
    ∃ W', (Builtin.copy_ #[24, 24] ty #[.slice (some ⟨g, 0, none⟩) n dc, .slice (some ⟨b, 0, none⟩) 1 sc]).run Try.prog w = .ok (.int .i64 1) W' ∧
      W'.rowIs g 3 n (fun j => .int .i64 (if j < 1 then -1 else 0)) ∧ w.grownBy W' (some g) := by
  have hadd : ∀ j, (⟨b, 0, none⟩ : Addr).add j = ⟨b, j, none⟩ := fun j => by unfold Addr.add; split <;> simp_all
  obtain ⟨c, hb, hs, hc⟩ := id hR
  have hsz : (Try.prog.info? 3).map (·.size) = some 1 := by kernel_rfl
  have h := run_copy_row (P := Try.prog) w 24 24 ty 3 g 0 n dc ⟨b, 0, none⟩ 1 sc c 3 [.int .i64 (-1)] Try.underlying24 hsz hb (by show 1 = Nat.min 1 n; exact (Nat.min_eq_left hn).symm)
    (fun j v hv => by
      cases j with
      | zero => cases hv; rw [hadd]; exact hx
      | succ j => cases hv) (by show 0 + 1 ≤ c.size; omega) (fun v hv => by rw [List.mem_singleton.1 hv]; rfl)
  refine ⟨_, h, ⟨_, setRow_heap w g c _ 3 _ hb, ?_, fun i hi => ?_⟩, ⟨rfl, rfl, rfl, by simp [World.setRow], fun j _ hj => setRow_other w g j _ (by simpa using hj)⟩⟩
  · simp; omega
  · have hci : c[i]? = some (.int .i64 0) := hc i hi
    show _ = some (Value.int .i64 (if i < 1 then -1 else 0))
    rw [← Array.getElem?_toList] at hci
    rw [List.getElem?_toArray]
    cases i with
    | zero => rfl
    | succ i =>
      rw [if_neg (by omega)]
      simpa [Nat.add_comm] using hci

set_option maxRecDepth 100000 in
set_option maxHeartbeats 4000000 in
theorem repeat_any (b n : Nat) (w : World) (hn0 : 1 ≤ n) (hn : n ≤ 1001) (hx : w.cell? ⟨b, 0, none⟩ = some (.int .i64 (-1))) :
    Calls Try.prog 70 #[.slice (some ⟨b, 0, none⟩) 1 1, .int .i64 (n : Int)] w fun e w' => ∃ g, e = .returned (.slice (some ⟨g, 0, none⟩) n n) ∧ w.heap.size ≤ g ∧ w'.rowIs g 3 n (fun _ => .int .i64 (-1)) ∧ Below w.heap.size w w' := by
  have hmk : ∀ w : World, (Instr.makeSlice 24 (.int .i64 (n : Int)) (.int .i64 (n : Int))).run Try.prog w = .ok (.slice (some ⟨w.heap.size, 0, none⟩) n n) (w.alloc (.cells (madeCells #[.int .i64 0] n) 3)) := fun w =>
    run_make_row' 24 3 (.int .i64 0) 8 Try.underlying24 info_int rfl .i64 .i64 n (by omega) (by omega) w
  have hM : Hid (∀ W, Calls Try.prog 97 #[.int .u64 1, .int .u64 (n : Int)] W fun e w' => e = .returned (.tuple #[.int .u64 0, .int .u64 (n : Int)]) ∧ W = w') := fun W => by
    have h := Try.bits_Mul 1 n (by omega) (by omega) W
    rw [Nat.one_mul, Nat.div_eq_of_lt (by omega), Nat.mod_eq_of_lt (by omega)] at h
    exact h.mono fun e w' hh => ⟨hh.1, hh.2.symm⟩
  have n0 : ¬ (n : Int) < 0 := by omega
  have n1 : (1 : Int) ≤ (n : Int) := by omega
  have n2 : (n : Int) ≤ 1001 := by omega
  have hR0 : (w.alloc (.cells (madeCells #[.int .i64 0] n) 3)).rowIs w.heap.size 3 n (fun _ => .int .i64 0) := World.rowIs_made _ _ _ _
  obtain ⟨W1, hk1, hR1, hg1⟩ := rep_first hR0 hn0 ((World.cell?_alloc_lt w _ _ (cell_lt hx)).trans hx) 3 n 1
  have hB1 : Below w.heap.size w W1 := ((Below.refl _ _).alloc (Nat.le_refl _) _).grown hg1 (by simp) (fun k hk => by cases hk; omega)
  go_enter Try.func70, Try.ntmps70
  go_wp2_with (go_at_call 97; (with_reducible refine (hM.out _).mono ?_); rintro e w1 ⟨rfl, rfl⟩)
  go_loopw [8] (fun i wr => ∃ q : Nat, 1 ≤ q ∧ q ≤ n ∧ i = .int .i64 q ∧ wr.rowIs w.heap.size 3 n (fun j => .int .i64 (if j < q then -1 else 0)) ∧ Below w.heap.size w wr) (fun i _ => n - (intOf i).toNat)
  case atStart => exact ⟨1, by omega, hn0, rfl, hR1, hB1⟩
  case round =>
    clear hR0 hk1 hR1 hg1 hB1
    obtain ⟨q, hq1, hq, rfl, hR, hBr⟩ := hrel
    by_cases hlt : q < n
    · have i0 : (0 : Int) ≤ (q : Int) := by omega
      have i1 : (q : Int) < (n : Int) := by omega
      have i2 : (q : Int) ≤ (n : Int) := by omega
      have hnq : ¬ n = q := by omega
      obtain ⟨m, hm⟩ : ∃ m, m = Nat.min q (n - q) := ⟨_, rfl⟩
      obtain ⟨W2, hk2, hR2, hg2⟩ := rep_copy (w := wr.drew) hR.drew hm hq 3 (n - q) n
      have hm1 : m ≤ n - q := by rw [hm]; exact Nat.min_le_right _ _
      have hm2 : 1 ≤ m := by rw [hm]; exact Nat.le_min.2 ⟨hq1, by omega⟩
      have hB2 : Below w.heap.size w W2 := (below_dn hBr 1).grown hg2 hBr.size (fun k hk => by cases hk; omega)
      have hw3 : IntKind.i64.wrap ((q : Int) + m) = (q : Int) + m := IntWalk.i64_in _ (by omega)
      clear hm
      go_wp2
      have hS0 : (fun _ : World => True) wr.drew := trivial
      refine wp_region_T (fun _ : World => True) 10 (by kernel_rfl) ?_
      (refine wpT_take 0 (v := ?_) rfl (by kernel_rfl) (by kernel_rfl) (by kernel_rfl) (by kernel_rfl) (fun _ _ _ h => h) rfl hS0 (fun w hS => ?_) ?_; rotate_left; focus (go_simp; rfl)); (refine wpT_take 1 (v := ?_) rfl (by kernel_rfl) (by kernel_rfl) (by kernel_rfl) (by kernel_rfl) (fun _ _ _ h => h) rfl hS0 (fun w hS => ?_) ?_; rotate_left; focus (go_simp; rfl)); (refine wpT_take 2 (v := ?_) rfl (by kernel_rfl) (by kernel_rfl) (by kernel_rfl) (by kernel_rfl) (fun _ _ _ h => h) rfl hS0 (fun w hS => ?_) ?_; rotate_left; focus (go_simp; rfl)); (refine wpT_take 3 (v := ?_) rfl (by kernel_rfl) (by kernel_rfl) (by kernel_rfl) (by kernel_rfl) (fun _ _ _ h => h) rfl hS0 (fun w hS => ?_) ?_; rotate_left; focus (go_simp; rfl)); (refine wpT_take 4 (v := ?_) rfl (by kernel_rfl) (by kernel_rfl) (by kernel_rfl) (by kernel_rfl) (fun _ _ _ h => h) rfl hS0 (fun w hS => ?_) ?_; rotate_left; focus (go_simp; rfl)); (refine wpT_take 5 (v := ?_) rfl (by kernel_rfl) (by kernel_rfl) (by kernel_rfl) (by kernel_rfl) (fun _ _ _ h => h) rfl hS0 (fun w hS => ?_) ?_; rotate_left; focus (go_simp; rfl)); (refine wpT_take 6 (v := ?_) rfl (by kernel_rfl) (by kernel_rfl) (by kernel_rfl) (by kernel_rfl) (fun _ _ _ h => h) rfl hS0 (fun w hS => ?_) ?_; rotate_left; focus (go_simp; rfl))
      refine wpT_one 7 (by kernel_rfl) (wpOp_go rfl rfl fun K hK => ?_)
      go_simp
      refine hK _ _ ⟨fun _ => trivial, ?_⟩
      refine wpT_one 8 (by kernel_rfl) (wpOp_go rfl rfl fun K hK => ?_)
      go_simp
      refine hK _ _ ⟨fun _ => trivial, ?_⟩
      refine wpT_one 9 (by kernel_rfl) (wpOp_go rfl rfl fun K hK => ?_)
      go_simp
      refine hK _ _ ⟨fun _ => trivial, ?_⟩
      refine wpT_done (by kernel_rfl) (NoPanic.normal ?_) _
      go_wp2
      go_roundw
      case rel => exact ⟨q + m, by omega, by omega, by go_num, hR2, hB2⟩
      case measure => simp [intOf]; omega
    · obtain rfl : q = n := by omega
      have i1 : ¬ (q : Int) < (q : Int) := by omega
      clear hlt hq
      go_wp2
      go_ret
      refine ⟨_, rfl, Nat.le_refl _, hR.congr (fun j hj => by rw [if_pos hj]), hBr⟩

/-- a literal by its new variable -/
theorem renamed_any (A : Option Addr) (n k : Nat) (f : Nat → Int) (x : Int) (B : Nat) (w : World) (hA0 : IntsAt w B A n f) (h0 : 0 ≤ x) (h1 : x ≤ 2001) (h2 : x / 2 < n) (hb : 0 ≤ f (x / 2).toNat ∧ f (x / 2).toNat ≤ 1000) :
    Calls Try.prog 39 #[.int .i64 x, .slice A n k] w fun e w' => e = .returned (.int .i64 (2 * f (x / 2).toNat + x % 2)) ∧ w = w' := by
  obtain ⟨a, hA, hab, hcs⟩ := hA0 (by omega)
  subst hA
  have y0 := hcs (x / 2).toNat (by omega)
  have m1 : 0 ≤ x / 2 := by omega
  obtain ⟨u, hu⟩ : ∃ u, f (x / 2).toNat = u := ⟨_, rfl⟩
  rw [hu] at y0 hb ⊢
  have hmk : Li.mk u (Li.od x) = 2 * u + x % 2 := by
    unfold Li.mk Li.od
    by_cases hx : x % 2 = 1
    · simp [hx]
    · simp [hx]; omega
  clear hcs hu
  go_enter Try.func39, Try.ntmps39
  go_wp2_with (first
    | (go_at_call 74; (with_reducible refine (var_yes x _ (Li.isL_mk h0 h1)).mono ?_); rintro e w1 ⟨rfl, rfl⟩)
    | (go_at_call 75; (with_reducible refine (lit_yes u (Li.od x) _ (Li.isV_mk hb.1 hb.2)).mono ?_); rintro e w2 ⟨rfl, rfl⟩))
  go_ret
  exact ⟨rfl, rfl⟩


/-- a list of literals by their new variables -/
def reN (f x : Nat → Int) : Nat → Int := fun j => 2 * f (x j / 2).toNat + x j % 2
set_option maxRecDepth 100000 in
set_option maxHeartbeats 4000000 in
theorem renamedAll_any (A U : Option Addr) (n k N kU : Nat) (x f : Nat → Int) (B : Nat) (w : World) (hB : B ≤ w.heap.size) (hA0 : IntsAt w B A n x) (hU0 : IntsAt w B U N f) (hn : n ≤ 1000) (hx : ∀ j, j < n → 0 ≤ x j ∧ x j ≤ 2001 ∧ x j / 2 < N ∧ 0 ≤ f (x j / 2).toNat ∧ f (x j / 2).toNat ≤ 1000) :
    Calls Try.prog 38 #[.slice A n k, .slice U N kU] w fun e w' => ∃ v, e = .returned v ∧ w'.ownsRow w.heap.size 3 1 v n (intL (reN f x) n) ∧ Below w.heap.size w w' := by
  obtain ⟨i0, hi0, hzz0, hs0, hy0⟩ := info_parts info_int
  have HX := Lib.hid hx
  clear hx
  go_enter Try.func38, Try.ntmps38
  go_wp2
  go_loopw [5, 10] (fun u i wr => ∃ q : Nat, ∃ v, q ≤ n ∧ i = .int .i64 q ∧ v = u ∧ wr.ownsRow w.heap.size 3 1 v q (intL (reN f x) q) ∧ Below w.heap.size w wr) (fun _ i _ => n - (intOf i).toNat)
  case atStart => exact ⟨0, _, Nat.zero_le _, rfl, rfl, World.ownsRow_nil _ _ _ _, Below.refl _ _⟩
  case round =>
    obtain ⟨q, u0, hq, rfl, rfl, hown, hBr⟩ := hrel
    by_cases hlt : q < n
    · obtain ⟨a, rfl, hab, hcs⟩ := (hA0.keep (hBr.mono hB)) (by omega)
      have y0 := hcs q hlt
      obtain ⟨e1, e2, e3, e4⟩ := HX.out q hlt
      have hi1 : (0 : Int) ≤ (q : Int) := by omega
      have hi2 : (q : Int) < (n : Int) := by omega
      have D : Hid (Calls Try.prog 39 #[.int .i64 (x q), .slice U N kU] wr fun e w' => e = .returned (.int .i64 (reN f x q)) ∧ wr = w') := renamed_any U N kU f (x q) B wr (hU0.keep (hBr.mono hB)) e1 e2 e3 e4
      obtain ⟨z, hz⟩ : ∃ z, reN f x q = z := ⟨_, rfl⟩
      rw [hz] at D
      have HZ := Lib.hid hz
      clear hcs e1 e2 e3 e4 hz
      go_wp2_with (first
        | (go_at_call 39; (with_reducible refine D.out.mono ?_); rintro e w1 ⟨rfl, rfl⟩)
        | (at_builtin
           (refine append_more rfl (.tmp 14) (.tmp 18) _ rfl w.heap.size 3 i0 _ 1 8 Try.underlying24 hi0 hzz0 hs0 hy0 rfl (by decide) u0 q (intL (reN f x) q) rfl (hown.alloc _) (some ⟨wr.heap.size, 0, none⟩) 1 1 [.int .i64 z] rfl rfl (Or.inr ⟨_, rfl, World.news_of_block (cs := #[.int .i64 z]) (t := 3) (fr := (0, 0)) (Has.new' _ _ rfl)⟩) (by simp [Value.oneCell']) (by simp only [maxLen]; omega) (by omega) (by have := hBr.size; simp; omega) ?_)
           intro v' w2 ho2 hg2
           have hB2 := app_below hBr hBr.size (Nat.le_refl _) hown hg2))
      go_roundw
      case rel => exact ⟨q + 1, _, by omega, by go_num, rfl, by
        show w2.ownsRow w.heap.size 3 1 _ (q + 1) (intL (reN f x) q ++ [.int .i64 (reN f x q)])
        rw [HZ.out]; exact ho2, hB2⟩
      case measure => simp [intOf]; omega
    · obtain rfl : q = n := by omega
      clear hlt hq
      go_wp2
      go_ret
      exact ⟨_, rfl, hown, hBr⟩


theorem grow_blk {wr w8 : World} {o : Obj} {b base size n : Nat} {e : TypeId} {v : Value} {xs : List Value} (hgrow : (wr.alloc o).grownBy w8 v.ownBlock) (hown : wr.ownsRow base e size v n xs) (hl : b < wr.heap.size) (hb : b < base) : w8.heap[b]? = wr.heap[b]? :=
  (hgrow.block b (by simp; omega) (fun e => by have := own_block hown _ e.symm; omega)).trans (Below.heap_alloc _ _ _ hl)

namespace Rw
theorem oL_bd {r : Rw} (hnum : r.num = true) (k : Nat) (hk : k < r.ni + r.nl + r.ord.length) : 2 ≤ r.oL.getD k 0 ∧ r.oL.getD k 0 ≤ 2 * r.m + 1 := by
  rcases Nat.lt_or_ge k r.ni with h1 | h1
  · rw [oL_i r h1]; exact num_i hnum h1
  · rcases Nat.lt_or_ge k (r.ni + r.nl) with h2 | h2
    · have e := oL_l r (k := k - r.ni) (by omega)
      rw [show r.ni + (k - r.ni) = k by omega] at e
      rw [e]; exact num_l hnum (by omega)
    · have e := oL_g r (k := k - r.ni - r.nl) (by omega)
      rw [show r.ni + r.nl + (k - r.ni - r.nl) = k by omega] at e
      rw [e]; exact (num_g hnum (ord_at (by omega))).1
theorem oL_il (r : Rw) : il r.oL = intL r.ip r.ni ++ intL r.ll r.nl ++ intL (fun j => r.gl (r.ord.getD j 0)) r.ord.length := by
  have e : r.ord.map r.gl = lst (fun j => r.gl (r.ord.getD j 0)) r.ord.length := by
    apply List.ext_getElem?
    intro j
    rcases Nat.lt_or_ge j r.ord.length with h | h
    · rw [lst_at _ _ _ h, List.getElem?_map, List.getElem?_eq_getElem h, List.getD_eq_getElem?_getD, List.getElem?_eq_getElem h]; rfl
    · rw [List.getElem?_eq_none (by simpa using h), List.getElem?_eq_none (by rw [lst_len]; exact h)]
  unfold oL
  rw [e, il_app, il_app, ← il_lst, ← il_lst, ← il_lst]
end Rw

set_option maxRecDepth 100000 in
set_option maxHeartbeats 8000000 in
theorem newVars_any (r : Rw) (p : Rp) (w : World) (mn : Nat) (U : Option Addr) (kU : Nat) (hmn : r.m = mn) (hs : RSm r) (hm : RMem w w.heap.size r p) (hN : RNils r p) (h1 : r.m ≤ 1000) (hnum : r.num = true) (hU : IntsAt w w.heap.size U r.ord.length (fun j => (nL r.ord).getD j 0)) :
    Calls Try.prog 37 #[rv r p, .slice U r.ord.length kU] w (NumsIs r mn w) := by
  have g0 := hs.ni
  have g1 := hs.nl
  have g2 := hs.na
  have hmn1 : mn ≤ 1000 := by omega
  have h0 : 0 ≤ r.m := by omega
  have hol : r.ord.length ≤ r.na := Rw.ord_len
  have hw1 : IntKind.i64.wrap (r.m + 1) = r.m + 1 := IntWalk.i64_in _ (by omega)
  obtain ⟨i0, hi0, hzz0, hs0, hy0⟩ := info_parts info_int
  have hoo : Hid (∀ k, k < r.ni + r.nl + r.ord.length → 2 ≤ r.oL.getD k 0 ∧ r.oL.getD k 0 ≤ 2 * r.m + 1) := fun k hk => Rw.oL_bd hnum k hk
  have HM := Lib.hid hmn
  have hB0 : Below w.heap.size w ((w.alloc (.cells (rcL r p) 32)).alloc (.cells #[.int .i64 (-1)] 3)) := by go_grown
  have hH0 : Has ((w.alloc (.cells (rcL r p) 32)).alloc (.cells #[.int .i64 (-1)] 3)) w.heap.size 32 (rc r p) := (Has.new _ _ _).al _
  have hx0 : ((w.alloc (.cells (rcL r p) 32)).alloc (.cells #[.int .i64 (-1)] 3)).cell? ⟨w.heap.size + 1, 0, none⟩ = some (.int .i64 (-1)) := (Has.new' _ _ (by simp)).cell 0
  have RP : Hid (Calls Try.prog 70 #[.slice (some ⟨w.heap.size + 1, 0, none⟩) 1 1, .int .i64 (r.m + 1)] ((w.alloc (.cells (rcL r p) 32)).alloc (.cells #[.int .i64 (-1)] 3)) fun e w' => ∃ g, e = .returned (.slice (some ⟨g, 0, none⟩) (mn + 1) (mn + 1)) ∧ ((w.alloc (.cells (rcL r p) 32)).alloc (.cells #[.int .i64 (-1)] 3)).heap.size ≤ g ∧ w'.rowIs g 3 (mn + 1) (fun _ => .int .i64 (-1)) ∧ Below ((w.alloc (.cells (rcL r p) 32)).alloc (.cells #[.int .i64 (-1)] 3)).heap.size ((w.alloc (.cells (rcL r p) 32)).alloc (.cells #[.int .i64 (-1)] 3)) w') := by
    have h := repeat_any (w.heap.size + 1) (mn + 1) _ (by omega) (by omega) hx0
    have e : ((mn + 1 : Nat) : Int) = r.m + 1 := by omega
    rw [e] at h
    exact h
  have HB0 := Lib.hid (And.intro hB0 hH0)
  clear hmn hnum hx0 hB0 hH0
  go_enter Try.func37, Try.ntmps37
  go_wp2_with (go_at_call 70; (with_reducible refine RP.out.mono ?_); rintro e w1 ⟨g, rfl, hg1, hR1, hb1⟩; have hB1 : Below w.heap.size w w1 := Below.step HB0.out.1 HB0.out.1.size hb1; have hH1 := HB0.out.2.keep hb1 HB0.out.2.lt; have z1 := hR1.cell (i := 0) (by omega); have z2 := hR1.frozen 0; have z3 : (0 : Int) < ((mn + 1 : Nat) : Int) := (by omega))
  have hgw : w.heap.size + 2 ≤ g := by simp at hg1; omega
  have hR2 : (w1.setCell ⟨g, 0, none⟩ (.int .i64 0)).rowIs g 3 (mn + 1) (fun v => .int .i64 (r.nwk 0 (v : Int))) := (hR1.set 0 _).congr (fun j hj => by
    show _ = Value.int .i64 (if (j : Int) = 0 then 0 else -1)
    by_cases e : j = 0
    · rw [if_pos e, if_pos (by omega)]
    · rw [if_neg e, if_neg (by omega)])
  obtain ⟨V, hV⟩ : ∃ V, (w1.setCell ⟨g, 0, none⟩ (.int .i64 0)).drew = V := ⟨_, rfl⟩
  have hRV : V.rowIs g 3 (mn + 1) (fun v => .int .i64 (r.nwk 0 (v : Int))) := hV ▸ hR2.drew
  have hSd : Has V w.heap.size 32 (rc r p) := hV ▸ (show Has (w1.setCell ⟨g, 0, none⟩ (.int .i64 0)).drew w.heap.size 32 (rc r p) from hH1.far (by simp; omega) _)
  have hBV : Below w.heap.size w V := hV ▸ below_dn (hB1.setCell (by simp; omega) _) 1
  have hgV := hRV.lt
  have hS0 := boxR hSd
  clear hR1 hR2 z1 z2 hb1 hB1 hH1 RP
  refine wp_region_T' hV (BoxR r p w.heap.size) 8 (by kernel_rfl) ?_
  (refine wpT_take 0 (v := ?_) rfl (by kernel_rfl) (by kernel_rfl) (by kernel_rfl) (by kernel_rfl) (fun _ _ _ h => h) rfl hS0 (fun w hS => ?_) ?_; rotate_left; focus (obtain ⟨j1, j2, j3⟩ := hS; go_simp; rfl)); (refine wpT_take 1 (v := ?_) rfl (by kernel_rfl) (by kernel_rfl) (by kernel_rfl) (by kernel_rfl) (fun _ _ _ h => h) rfl hS0 (fun w hS => ?_) ?_; rotate_left; focus (obtain ⟨j1, j2, j3⟩ := hS; go_simp; rfl)); (refine wpT_take 2 (v := ?_) rfl (by kernel_rfl) (by kernel_rfl) (by kernel_rfl) (by kernel_rfl) (fun _ _ _ h => h) rfl hS0 (fun w hS => ?_) ?_; rotate_left; focus (obtain ⟨j1, j2, j3⟩ := hS; go_simp; rfl)); (refine wpT_take 3 (v := ?_) rfl (by kernel_rfl) (by kernel_rfl) (by kernel_rfl) (by kernel_rfl) (fun _ _ _ h => h) rfl hS0 (fun w hS => ?_) ?_; rotate_left; focus (obtain ⟨j1, j2, j3⟩ := hS; go_simp; rfl))
  refine wpT_one 4 (by kernel_rfl) (wpOp_go rfl rfl fun K hK => ?_)
  go_simp
  go_at_call 72
  (with_reducible refine (litsOf_any p.A2 r.nl p.k2 r.ll r.la r.lb w.heap.size V (by omega) hBV.size (hm.la.keep hBV)).mono ?_)
  rintro e w2 ⟨B2, c2, rfl, hi2, hn2, hb2⟩
  have hB2 : Below w.heap.size w w2 := Below.step hBV hBV.size hb2
  have hA2 : Has w2 w.heap.size 32 (rc r p) := hSd.keep hb2 hSd.lt
  refine hK _ _ ⟨fun _ => boxR hA2, ?_⟩
  refine wpT_one 5 (by kernel_rfl) (wpOp_go rfl rfl fun K hK => ?_)
  go_simp
  have hb3 : Below w2.heap.size w2 (w2.alloc (.cells #[.slice p.A1 r.ni p.k1, .slice B2 r.nl c2] 24)) := (Below.refl _ _).alloc (Nat.le_refl _) _
  refine hK _ _ ⟨fun _ => boxR (hA2.al _), ?_⟩
  refine wpT_one 6 (by kernel_rfl) (wpOp_go rfl rfl fun K hK => ?_)
  go_simp
  go_at_call 71
  (with_reducible refine (concat2 w2.heap.size (w2.alloc (.cells #[.slice p.A1 r.ni p.k1, .slice B2 r.nl c2] 24)) (Has.new _ _ _) ((hm.ip.keep (Below.step hB2 hB2.size hb3)).more (Below.step hB2 hB2.size hb3).size) ((hi2.keep hb3).more hb3.size) hN.ip hn2 (by omega)).mono ?_)
  rintro e w4 ⟨v4, rfl, ho4, hb4⟩
  have hB4 : Below w.heap.size w w4 := Below.step hB2 hB2.size (Below.step hb3 hb3.size hb4)
  have hA4 : Has w4 w.heap.size 32 (rc r p) := (hA2.al _).keep hb4 (hA2.al _).lt
  have hR4 : w4.rowIs g 3 (mn + 1) (fun v => .int .i64 (r.nwk 0 (v : Int))) := hRV.of_block (((Below.step hb2 hb2.size (Below.step hb3 hb3.size hb4))).block g hgV)
  refine hK _ _ ⟨fun _ => boxR hA4, ?_⟩
  refine wpT_one 7 (by kernel_rfl) (wpOp_go rfl rfl fun K hK => ?_)
  go_simp
  refine hK _ _ ⟨fun _ => boxR hA4, ?_⟩
  refine wpT_done (by kernel_rfl) (NoPanic.normal ?_) _
  obtain ⟨bs, hbs⟩ : ∃ bs, (w2.alloc (.cells #[.slice p.A1 r.ni p.k1, .slice B2 r.nl c2] 24)).heap.size = bs := ⟨_, rfl⟩
  have hgb : g < bs := by have := hb2.size; rw [← hbs]; simp; omega
  have hbw : w.heap.size < bs := by omega
  have hbs4 : bs ≤ w4.heap.size := by rw [← hbs]; exact hb4.size
  rw [hbs] at ho4
  have HU := Lib.hid hU
  clear hV hb2 hb3 hb4 hi2 hn2 hbs hS0 hSd hRV hgV hBV hA2 hB2 hU
  go_wp2
  go_loopw [6, 27] (fun u i wr => ∃ q : Nat, ∃ v, q ≤ r.ord.length ∧ i = .int .i64 q ∧ v = u ∧ wr.ownsRow bs 3 1 v (r.ni + r.nl + q) (intL r.ip r.ni ++ intL r.ll r.nl ++ intL (fun j => r.gl (r.ord.getD j 0)) q) ∧ Has wr w.heap.size 32 (rc r p) ∧ wr.rowIs g 3 (mn + 1) (fun v => .int .i64 (r.nwk 0 (v : Int))) ∧ Below w.heap.size w wr ∧ bs ≤ wr.heap.size) (fun _ i _ => r.ord.length - (intOf i).toNat)
  case atStart => exact ⟨0, v4, Nat.zero_le _, rfl, rfl, by simpa [intL] using ho4, hA4, hR4, hB4, hbs4⟩
  case round =>
    clear hA4 hR4 hB4 hbs4 ho4
    obtain ⟨q, u0, hq, rfl, rfl, hown, hH, hR, hBr, hsz⟩ := hrel
    obtain ⟨x0, x1, x2, x3, x4, x5⟩ := hH.rbox
    by_cases hlt : q < r.ord.length
    · obtain ⟨n, hn⟩ : ∃ n, Hid (n = r.ord.getD q 0) := ⟨_, Lib.hid rfl⟩
      have hna : n < r.na := by rw [hn.out]; exact Rw.ord_at hlt
      obtain ⟨u, hUu, hub, huc⟩ := (HU.out.keep hBr) (by omega)
      have v0 : wr.cell? (u.add q) = some (.int .i64 (n : Int)) := by
        rw [huc q hlt, hn.out]
        simp [nL, List.getD_eq_getElem?_getD, List.getElem?_eq_getElem hlt]
      obtain ⟨a, hA, hab, hcs⟩ := (hm.an.keep hBr) (by omega)
      obtain ⟨y0, y1, y2⟩ := hcs n hna
      have i1 : (0 : Int) ≤ (q : Int) := by omega
      have i2 : (q : Int) < (r.ord.length : Int) := by omega
      have i3 : (0 : Int) ≤ (n : Int) := by omega
      have i4 : (n : Int) < (r.na : Int) := by omega
      obtain ⟨z, hz⟩ : ∃ z, r.gl n = z := ⟨_, rfl⟩
      rw [hz] at y0
      have HZ := Lib.hid (show r.gl (r.ord.getD q 0) = z by rw [← hn.out]; exact hz)
      rw [hA] at x3
      subst hUu
      clear hcs huc hA hz
      go_wp2_with (at_builtin; (refine append_more rfl (.tmp 31) (.tmp 38) _ rfl bs 3 i0 _ 1 8 Try.underlying24 hi0 hzz0 hs0 hy0 rfl (by decide) u0 (r.ni + r.nl + q) (intL r.ip r.ni ++ intL r.ll r.nl ++ intL (fun j => r.gl (r.ord.getD j 0)) q) rfl (hown.alloc _) (some ⟨wr.heap.size, 0, none⟩) 1 1 [.int .i64 z] rfl rfl (Or.inr ⟨_, rfl, World.news_of_block (cs := #[.int .i64 z]) (t := 3) (fr := (0, 0)) (Has.new' _ _ rfl)⟩) (by simp [Value.oneCell']) (by simp only [maxLen]; omega) (by omega) (by simp; omega) ?_); intro v' w5 ho5 hg5; have hB5 := app_below hBr hBr.size (by omega) hown hg5; have hH5 := app_has hH hown hg5 (by omega); have hR5 := hR.of_block (grow_blk hg5 hown hR.lt hgb); have hs5 := hg5.size)
      go_roundw
      case rel => exact ⟨q + 1, v', by omega, by go_num, rfl, by
        show w5.ownsRow bs 3 1 _ (r.ni + r.nl + q + 1) (intL r.ip r.ni ++ intL r.ll r.nl ++ (intL (fun j => r.gl (r.ord.getD j 0)) q ++ [.int .i64 (r.gl (r.ord.getD q 0))]))
        rw [HZ.out, ← List.append_assoc]; exact ho5, hH5, hR5, hB5, by simp at hs5; omega⟩
      case measure => simp [intOf]; omega
    · have hqe : Hid (q = r.ord.length) := by show q = _; omega
      have hown2 : wr.ownsRow bs 3 1 u0 r.oL.length (il r.oL) := by
        rw [Rw.oL_il, Rw.oL_len, ← hqe.out]; exact hown
      obtain ⟨A6, k6, rfl, hi6, hg6⟩ := own_list hown2
      rw [Rw.oL_len] at hi6
      have e6 : r.oL.length = r.ni + r.nl + r.ord.length := Rw.oL_len r
      have HE6 := Lib.hid e6
      have i2 : ¬ (q : Int) < (r.ord.length : Int) := by have := hqe.out; omega
      obtain ⟨M, hM⟩ : ∃ M, r.oL.length = M := ⟨_, rfl⟩
      have hMl : M ≤ 4000 := by omega
      have HMM := Lib.hid hM
      rw [e6] at hM
      rw [hM] at hi6
      have HME := Lib.hid hM
      have hi6' := Lib.hid hi6
      have hb6 : ∀ a, A6 = some a → bs ≤ a.block := fun a e => hg6 a.block (by rw [e]; rfl)
      have hHr := Lib.hid hH
      rw [HMM.out]
      clear hlt hq hown hown2 hg6 e6 hM hi6 x0 x1 x2 x3 x4 x5 hH HMM
      go_wp2
      go_loopw [43] (fun i wt => ∃ t : Nat, t ≤ M ∧ i = .int .i64 t ∧ wt.rowIs g 3 (mn + 1) (fun v => .int .i64 (r.nwk t (v : Int))) ∧ IntsAt wt wr.heap.size A6 M (fun j => r.oL.getD j 0) ∧ Below w.heap.size w wt) (fun i _ => M - (intOf i).toNat)
      case atStart => exact ⟨0, Nat.zero_le _, rfl, hR, hi6'.out, hBr⟩
      case round =>
        clear hR hBr
        obtain ⟨t, ht, rfl, hR2, hI2, hB2⟩ := hrel
        by_cases htl : t < M
        · obtain ⟨u, hUu, hub, huc⟩ := hI2 (by omega)
          have v00 := huc t htl
          obtain ⟨e1, e2⟩ := hoo.out t (by have := HME.out; omega)
          obtain ⟨x, hx⟩ : ∃ x, r.oL.getD t 0 = x := ⟨_, rfl⟩
          have hst : Hid (∀ j : Nat, (if j = (x / 2).toNat then Value.int .i64 (1 + (t : Int)) else .int .i64 (r.nwk t (j : Int))) = .int .i64 (r.nwk (t + 1) (j : Int))) := fun j => by
            rw [Int.add_comm]
            exact r.nwk_step t x hx (by rw [← hx]; omega) j
          have v0 : wr.cell? (u.add t) = some (.int .i64 x) := v00.trans (by show some (Value.int .i64 (r.oL.getD t 0)) = _; rw [hx])
          clear v00
          rw [hx] at e1 e2
          have hm1 := HM.out
          have m1 : 0 ≤ x / 2 := by omega
          have m2 : x / 2 < (mn : Int) + 1 := by omega
          have m3 : x / 2 < ((mn + 1 : Nat) : Int) := by omega
          have hn1 : (x / 2).toNat < mn + 1 := by omega
          have z1 := hR2.cell hn1
          have z2 := hR2.frozen (x / 2).toNat
          have i1 : (0 : Int) ≤ (t : Int) := by omega
          have i2 : (t : Int) < (M : Int) := by omega
          have hI3 := setB (b := g) (j := (x / 2).toNat) hI2 (fun a e => by have := hb6 a e; omega)
          have CV : Hid (∀ W, Calls Try.prog 73 #[.int .i64 x] W fun e w' => e = .returned (.int .i64 (x / 2)) ∧ W = w') := fun W => varOf_any (by omega) (by omega) W
          subst hUu
          clear huc hx hm1 e1 e2
          go_wp2_with (go_at_call 73; (with_reducible refine (CV.out _).mono ?_); rintro e w7 ⟨rfl, rfl⟩)
          go_roundw
          case rel => exact ⟨t + 1, by omega, by go_num, (hR2.set _ _).congr (fun j hj => hst.out j), hI3 _, hB2.setCell (by simp; omega) _⟩
          case measure => simp [intOf]; omega
        · have hte : Hid (t = M) := by show t = _; omega
          have i2 : ¬ (t : Int) < (M : Int) := by omega
          clear htl ht
          go_wp2
          go_ret
          exact ⟨g, rfl, by unfold Rw.nw; rw [HE6.out, HME.out, ← hte.out]; exact hR2, by omega, hB2⟩

end Go.Proofs.Ytpdfdbnmohippaa
