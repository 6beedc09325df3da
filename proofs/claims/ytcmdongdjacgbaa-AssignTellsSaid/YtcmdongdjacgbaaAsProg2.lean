/- The contracts of assign.Check, place, checkWith, New, Value, Level. -/
import Derived.Test.YtcmdongdjacgbaaAsProg
namespace Go.Proofs.Ytcmdongdjacgbaa
open Go Go.RowKit Go.Lib Go.Sort
set_option linter.unusedVariables false
set_option linter.unusedSimpArgs false

theorem bx_cell {w W : World} {cs : Array Value} {ty : TypeId} (hb : Below (w.alloc (.cells cs ty)).heap.size (w.alloc (.cells cs ty)) W) (i : Nat) : W.cell? ⟨w.heap.size, i, none⟩ = cs[i]? := ((Has.new w ty cs).keep hb (Has.new w ty cs).lt).cell i
theorem bx_on (w : World) (o : Obj) : Below w.heap.size w (w.alloc o) := (Below.refl _ _).alloc (Nat.le_refl _) _
theorem bx_bn {w : World} {o : Obj} {W : World} (hb : Below (w.alloc o).heap.size (w.alloc o) W) : Below w.heap.size w W := bn (bx_on w o) hb

set_option maxRecDepth 100000 in
set_option maxHeartbeats 4000000 in
theorem aCheck_any (v : Int) (A : Option Addr) (t : List Int) (k : Nat) (B : Option Addr) (s : List Int) (q : Nat) (w : World) (h : Ia w w.heap.size A t k) (hl : t.length ≤ 100000) (hr : ∀ x ∈ t, I64 x) (h' : Ia w w.heap.size B s q) (hl' : s.length ≤ 100000) :
    Calls Try.prog 18 #[asv v A t.length k B s.length q] w fun e w' => e = .returned (.int .i64 (aE v t s)) ∧ Below w.heap.size w w' := by
  by_cases hv : v < 0 ∨ 4000 < v
  · have ev : (!decide (v < 0 ∨ 4000 < v)) = false := by simp [hv]
    rw [aE_no (fun h => h.1 hv)]
    clear h hl hr h' hl'
    go_enter Try.func18, Try.ntmps18
    go_wp2_with (first | (go_at_call 20; (with_reducible refine (isCount14_any v _).mono ?_); rintro e w1 ⟨rfl, hw1⟩; obtain rfl := hw1.symm; rw [ev]))
    go_ret
    exact ⟨rfl, bx_on _ _⟩
  · have ev : (!decide (v < 0 ∨ 4000 < v)) = true := by simp [hv]
    have D1 := fun (W : World) (hb : Below w.heap.size w W) => isTrail_any v (by omega) A t k W (h.on hb) hl hr
    have D2 := fun (W : World) (hb : Below w.heap.size w W) => areStarts_any B s q t.length W (h'.on hb) hl'
    by_cases hT : OkT v t
    · rw [show decide (OkT v t) = true from decide_eq_true hT] at D1
      have hE : aE v t s = if OkS t.length s then 0 else 8 := by
        by_cases hS : OkS t.length s
        · rw [if_pos hS]; exact aE_yes ⟨hv, hT, hS⟩
        · rw [if_neg hS]; exact aE_no fun h => hS h.2.2
      by_cases hS : OkS t.length s
      · rw [show decide (OkS t.length s) = true from decide_eq_true hS] at D2
        rw [hE, if_pos hS]
        obtain ⟨n, hn⟩ : ∃ n, n = t.length := ⟨_, rfl⟩
        obtain ⟨m, hm⟩ : ∃ m, m = s.length := ⟨_, rfl⟩
        rw [← hn] at D1 D2 ⊢
        rw [← hm] at D2 ⊢
        clear h hl hr h' hl' hT hS hE hn hm hv
        go_enter Try.func18, Try.ntmps18
        go_wp2_with (first
          | (go_at_call 20; (with_reducible refine (isCount14_any v _).mono ?_); rintro e w1 ⟨rfl, hw1⟩; obtain rfl := hw1.symm; rw [ev])
          | (go_at_call 32; (with_reducible refine (D1 _ (bx_on _ _)).mono ?_); rintro e w2 ⟨rfl, hb2⟩
             have c0 := bx_cell hb2 0
             have c1 := bx_cell hb2 1
             have c2 := bx_cell hb2 2
             have HB2 := Lib.hid (bx_bn hb2)
             clear hb2)
          | (go_at_call 33; (with_reducible refine (D2 _ HB2.out).mono ?_); rintro e w3 ⟨rfl, rfl⟩))
        go_ret
        exact ⟨rfl, HB2.out⟩
      · rw [show decide (OkS t.length s) = false from decide_eq_false hS] at D2
        rw [hE, if_neg hS]
        obtain ⟨n, hn⟩ : ∃ n, n = t.length := ⟨_, rfl⟩
        obtain ⟨m, hm⟩ : ∃ m, m = s.length := ⟨_, rfl⟩
        rw [← hn] at D1 D2 ⊢
        rw [← hm] at D2 ⊢
        clear h hl hr h' hl' hT hS hE hn hm hv
        go_enter Try.func18, Try.ntmps18
        go_wp2_with (first
          | (go_at_call 20; (with_reducible refine (isCount14_any v _).mono ?_); rintro e w1 ⟨rfl, hw1⟩; obtain rfl := hw1.symm; rw [ev])
          | (go_at_call 32; (with_reducible refine (D1 _ (bx_on _ _)).mono ?_); rintro e w2 ⟨rfl, hb2⟩
             have c0 := bx_cell hb2 0
             have c1 := bx_cell hb2 1
             have c2 := bx_cell hb2 2
             have HB2 := Lib.hid (bx_bn hb2)
             clear hb2)
          | (go_at_call 33; (with_reducible refine (D2 _ HB2.out).mono ?_); rintro e w3 ⟨rfl, rfl⟩))
        go_ret
        exact ⟨rfl, HB2.out⟩
    · rw [show decide (OkT v t) = false from decide_eq_false hT] at D1
      rw [aE_no (fun h => hT h.2.1)]
      obtain ⟨n, hn⟩ : ∃ n, n = t.length := ⟨_, rfl⟩
      obtain ⟨m, hm⟩ : ∃ m, m = s.length := ⟨_, rfl⟩
      rw [← hn] at D1 ⊢
      rw [← hm]
      clear h hl hr h' hl' hT hn hm hv D2
      go_enter Try.func18, Try.ntmps18
      go_wp2_with (first
        | (go_at_call 20; (with_reducible refine (isCount14_any v _).mono ?_); rintro e w1 ⟨rfl, hw1⟩; obtain rfl := hw1.symm; rw [ev])
        | (go_at_call 32; (with_reducible refine (D1 _ (bx_on _ _)).mono ?_); rintro e w2 ⟨rfl, hb2⟩
           have HB2 := Lib.hid (bx_bn hb2)
           clear hb2))
      go_ret
      exact ⟨rfl, HB2.out⟩

theorem td2 {x : Int} (h : 2 ≤ x) : x.tdiv 2 = x / 2 := Int.tdiv_eq_ediv_of_nonneg (by omega)
theorem place_clo (x : Int) (hx : 2 ≤ x ∧ x ≤ 10001) (c : Nat) : Clo 37 c (.int .i64 x) (fun y => 2 ≤ y ∧ y ≤ 10001) (fun y => decide (y / 2 = x / 2)) := by
  intro W y hy hc
  show Calls Try.prog 37 #[.int .i64 y, .pointer (some ⟨c, 0, none⟩)] W fun e w' => e = .returned (.bool (decide (y / 2 = x / 2))) ∧ ∃ q, w' = W.drewN q
  obtain ⟨x1, x2⟩ := hx
  obtain ⟨y1, y2⟩ := hy
  have hqx := td2 x1
  have hqy := td2 y1
  by_cases he : y / 2 = x / 2
  · have e1 : (y / 2 == x / 2) = true := by simpa using he
    rw [show decide (y / 2 = x / 2) = true by simpa using he]
    clear he
    go_enter Try.func37, Try.ntmps37
    go_wp2
    go_ret
    exact ⟨rfl, 0, rfl⟩
  · have e1 : (y / 2 == x / 2) = false := by simpa using he
    rw [show decide (y / 2 = x / 2) = false by simpa using he]
    clear he
    go_enter Try.func37, Try.ntmps37
    go_wp2
    go_ret
    exact ⟨rfl, 0, rfl⟩

set_option maxRecDepth 100000 in
theorem place_any (v : Int) (hv : v ≤ 4000) (A : Option Addr) (t : List Int) (k : Nat) (x : Int) (w : World) (h : Ia w w.heap.size A t k) (hl : t.length ≤ 100000) (ho : OkT v t) (hx : isL v x = true) :
    Calls Try.prog 26 #[.slice A t.length k, .int .i64 x] w fun e w' => e = .returned (.int .i64 (plc t x)) ∧ Below w.heap.size w w' := by
  have eg : ∀ args w, (callFunc 37 args).run Try.prog w = .ok (.enter 37 args) w := enters_of Try.func37 (by kernel_rfl) rfl
  have hcell : (w.alloc (.cells #[.int .i64 x] 3)).cell? ⟨w.heap.size, 0, none⟩ = some (.int .i64 x) := by simp
  have D0 := indexF_any (place_clo x (by have := isL_iff.1 hx; omega) w.heap.size) eg A t k (w.alloc (.cells #[.int .i64 x] 3)) (h.on (bx_on _ _)) hl (fun y hy => by have := isL_iff.1 (ho.1 y hy); omega) hcell
  have D : Calls Try.prog 36 #[.slice A t.length k, .func (.func 37) #[] #[.pointer (some ⟨w.heap.size, 0, none⟩)]] (w.alloc (.cells #[.int .i64 x] 3)) fun e w' => e = .returned (.int .i64 (plc t x)) ∧ Below w.heap.size w w' := by
    refine D0.mono ?_
    rintro e w' ⟨i, rfl, hi, d, rfl⟩
    refine ⟨?_, below_dn (bx_on _ _) _⟩
    rw [show i = plc t x from plc_is ho (by
      have hx2 := (isL_iff.1 hx).1
      have ht2 : ∀ y ∈ t, 2 ≤ y := fun y hy => (isL_iff.1 (ho.1 y hy)).1
      rcases hi with ⟨rfl, hno⟩ | ⟨j, hj, rfl, hp⟩
      · exact Or.inl ⟨rfl, vin_no.2 fun y hy => by
          have := hno y hy
          simpa using this⟩
      · refine Or.inr ⟨j, hj, rfl, ?_⟩
        simpa using hp)]
  obtain ⟨n, hn⟩ : ∃ n, n = t.length := ⟨_, rfl⟩
  rw [← hn] at D ⊢
  obtain ⟨p, hp⟩ : ∃ p, p = plc t x := ⟨_, rfl⟩
  rw [← hp] at D ⊢
  clear D0 hcell h hl ho hx hn hp
  have hmf : ∀ (fn : Fn) (first cap : Array Value) (w : World), (Instr.makeFunc fn first cap).run Try.prog w = .ok (.func fn first cap) w := fun _ _ _ _ => rfl
  go_enter Try.func26, Try.ntmps26
  go_wp2_with (first | (go_at_call 36; (with_reducible refine D.mono ?_); rintro e w2 ⟨rfl, hb2⟩))
  go_ret
  exact ⟨rfl, hb2⟩

set_option maxRecDepth 100000 in
set_option maxHeartbeats 2000000 in
theorem checkWith_any (v : Int) (A : Option Addr) (t : List Int) (k : Nat) (B : Option Addr) (s : List Int) (q : Nat) (x : Int) (w : World) (h : Ia w w.heap.size A t k) (hl : t.length ≤ 100000) (hr : ∀ x ∈ t, I64 x) (h' : Ia w w.heap.size B s q) (hl' : s.length ≤ 100000) (hx : I64 x) :
    Calls Try.prog 25 #[asv v A t.length k B s.length q, .int .i64 x] w fun e w' => e = .returned (.int .i64 (wE v t s x)) ∧ Below w.heap.size w w' := by
  have D1 := aCheck_any v A t k B s q (w.alloc (.cells #[.int .i64 v, .slice A t.length k, .slice B s.length q] 24)) (h.on (bx_on _ _)) hl hr (h'.on (bx_on _ _)) hl'
  have D2 := fun W => isLit14_any v x hx W
  obtain ⟨n, hn⟩ : ∃ n, n = t.length := ⟨_, rfl⟩
  obtain ⟨m, hm⟩ : ∃ m, m = s.length := ⟨_, rfl⟩
  by_cases hO : OkA v t s
  · have e0 : wE v t s x = if isL v x = true then 0 else 2 := by unfold wE; rw [if_pos hO]
    rw [aE_yes hO] at D1
    rw [e0]
    rw [← hn, ← hm] at D1 ⊢
    clear h hl hr h' hl' hx hn hm e0 hO
    cases eL : isL v x with
    | true =>
      rw [eL] at D2
      rw [if_pos rfl]
      clear eL
      go_enter Try.func25, Try.ntmps25
      go_wp2_with (first
        | (go_at_call 18; (with_reducible refine D1.mono ?_); rintro e w2 ⟨rfl, hb2⟩
           have c0 := bx_cell hb2 0
           have HB2 := Lib.hid (bx_bn hb2)
           clear hb2)
        | (go_at_call 35; (with_reducible refine (D2 _).mono ?_); rintro e w1 ⟨rfl, hw1⟩; obtain rfl := hw1.symm))
      go_ret
      exact ⟨rfl, HB2.out⟩
    | false =>
      rw [eL] at D2
      rw [if_neg (by decide)]
      clear eL
      go_enter Try.func25, Try.ntmps25
      go_wp2_with (first
        | (go_at_call 18; (with_reducible refine D1.mono ?_); rintro e w2 ⟨rfl, hb2⟩
           have c0 := bx_cell hb2 0
           have HB2 := Lib.hid (bx_bn hb2)
           clear hb2)
        | (go_at_call 35; (with_reducible refine (D2 _).mono ?_); rintro e w1 ⟨rfl, hw1⟩; obtain rfl := hw1.symm))
      go_ret
      exact ⟨rfl, HB2.out⟩
  · have e0 : wE v t s x = 8 := by unfold wE; rw [if_neg hO]
    rw [aE_no hO] at D1
    rw [e0]
    rw [← hn, ← hm] at D1 ⊢
    clear h hl hr h' hl' hx hn hm e0 hO D2
    go_enter Try.func25, Try.ntmps25
    go_wp2_with (first
      | (go_at_call 18; (with_reducible refine D1.mono ?_); rintro e w2 ⟨rfl, hb2⟩
         have HB2 := Lib.hid (bx_bn hb2)
         clear hb2))
    go_ret
    exact ⟨rfl, HB2.out⟩

set_option maxRecDepth 100000 in
set_option maxHeartbeats 2000000 in
theorem value14_any (v : Int) (A : Option Addr) (t : List Int) (k : Nat) (B : Option Addr) (s : List Int) (q : Nat) (x : Int) (w : World) (h : Ia w w.heap.size A t k) (hl : t.length ≤ 100000) (hr : ∀ x ∈ t, I64 x) (h' : Ia w w.heap.size B s q) (hl' : s.length ≤ 100000) (hx : I64 x) :
    Calls Try.prog 12 #[asv v A t.length k B s.length q, .int .i64 x] w fun e w' => e = .returned (.tuple #[.int .u8 (vV v t s x), .int .i64 (wE v t s x)]) ∧ Below w.heap.size w w' := by
  have D1 := checkWith_any v A t k B s q x (w.alloc (.cells #[.int .i64 v, .slice A t.length k, .slice B s.length q] 24)) (h.on (bx_on _ _)) hl hr (h'.on (bx_on _ _)) hl' hx
  by_cases hE : wE v t s x = 0
  · obtain ⟨hO, hL⟩ := wE_0.1 hE
    have D2 := fun (W : World) (hb : Below w.heap.size w W) => place_any v (by have := hO.1; omega) A t k x W (h.on hb) hl hO.2.1 hL
    have e0 : vV v t s x = isv t x := by unfold vV; rw [if_pos hE]
    rw [hE] at D1 ⊢
    rw [e0]
    have HH := Lib.hid (And.intro h (And.intro hO hL))
    obtain ⟨n, hn⟩ : ∃ n, n = t.length := ⟨_, rfl⟩
    obtain ⟨m, hm⟩ : ∃ m, m = s.length := ⟨_, rfl⟩
    cases hin : vin t x with
    | false =>
      rw [plc_no hO.2.1 hin] at D2
      rw [isv_none.2 hin]
      rw [← hn] at D1 D2 ⊢
      rw [← hm] at D1 ⊢
      clear h hl hr h' hl' hx hn hm e0 hE hO hL hin
      go_enter Try.func12, Try.ntmps12
      go_wp2_with (first
        | (go_at_call 25; (with_reducible refine D1.mono ?_); rintro e w2 ⟨rfl, hb2⟩
           have c1 := bx_cell hb2 1
           have HB2 := Lib.hid (bx_bn hb2)
           clear hb2)
        | (go_at_call 26; (with_reducible refine (D2 _ HB2.out).mono ?_); rintro e w3 ⟨rfl, hb3⟩
           have HB3 := Lib.hid (bn HB2.out hb3)
           clear hb3))
      go_ret2
      exact ⟨rfl, HB3.out⟩
    | true =>
      obtain ⟨y, hy, ey⟩ := vin_iff.1 hin
      obtain ⟨j, hj, hjy⟩ := mem_getD hy
      rw [plc_at hO.2.1 hj (by rw [hjy]; exact ey)] at D2
      obtain ⟨b, o, rfl, hb0, hcs⟩ := h.cells (by omega)
      have z0 := hcs j hj
      rw [hjy] at z0
      have HZ := Lib.hid fun (W : World) (hb : Below w.heap.size w W) => ((hb.cell (cell_lt z0)).trans z0 : W.cell? ⟨b, o + j, none⟩ = some (.int .i64 y))
      have j0 : (0 : Int) ≤ (j : Int) := by omega
      have hjn : (j : Int) < (n : Int) := by omega
      by_cases e : y = x
      · have e2 : isv t x = 1 := by unfold isv; rw [if_pos (e ▸ hy)]
        have e1 : (y == x) = true := by simpa using e
        rw [e2]
        rw [← hn] at D1 D2 ⊢
        rw [← hm] at D1 ⊢
        clear h hl hr h' hl' hx hn hm e0 hE hO hL hin hy ey hj hjy hcs z0 e e2
        go_enter Try.func12, Try.ntmps12
        go_wp2_with (first
          | (go_at_call 25; (with_reducible refine D1.mono ?_); rintro e w2 ⟨rfl, hb2⟩
             have HC := Lib.hid hb2
             have c1 := bx_cell hb2 1
             have HB2 := Lib.hid (bx_bn hb2)
             clear hb2)
          | (go_at_call 26; (with_reducible refine (D2 _ HB2.out).mono ?_); rintro e w3 ⟨rfl, hb3⟩
             have c3 := bx_cell (bn HC.out hb3) 1
             have HB3 := Lib.hid (bn HB2.out hb3)
             have z3 := HZ.out _ HB3.out
             clear hb3))
        go_ret2
        exact ⟨rfl, HB3.out⟩
      · have e2 : isv t x = 0 := by
          unfold isv
          rw [if_neg (fun hm => e (hO.2.1.eq hy hm ey)), if_pos (by rw [← ng_of ey.symm (fun h => e h.symm)]; exact hy)]
        have e1 : (y == x) = false := by simpa using e
        rw [e2]
        rw [← hn] at D1 D2 ⊢
        rw [← hm] at D1 ⊢
        clear h hl hr h' hl' hx hn hm e0 hE hO hL hin hy ey hj hjy hcs z0 e e2
        go_enter Try.func12, Try.ntmps12
        go_wp2_with (first
          | (go_at_call 25; (with_reducible refine D1.mono ?_); rintro e w2 ⟨rfl, hb2⟩
             have HC := Lib.hid hb2
             have c1 := bx_cell hb2 1
             have HB2 := Lib.hid (bx_bn hb2)
             clear hb2)
          | (go_at_call 26; (with_reducible refine (D2 _ HB2.out).mono ?_); rintro e w3 ⟨rfl, hb3⟩
             have c3 := bx_cell (bn HC.out hb3) 1
             have HB3 := Lib.hid (bn HB2.out hb3)
             have z3 := HZ.out _ HB3.out
             clear hb3))
        go_ret2
        exact ⟨rfl, HB3.out⟩
  · have e0 : vV v t s x = 0 := by unfold vV; rw [if_neg hE]
    have e2 : (wE v t s x != 0) = true := by simpa using hE
    rw [e0]
    obtain ⟨n, hn⟩ : ∃ n, n = t.length := ⟨_, rfl⟩
    obtain ⟨m, hm⟩ : ∃ m, m = s.length := ⟨_, rfl⟩
    obtain ⟨u, hu⟩ : ∃ u, u = wE v t s x := ⟨_, rfl⟩
    rw [← hn, ← hm, ← hu] at D1
    rw [← hn, ← hm, ← hu]
    rw [← hu] at e2
    clear h hl hr h' hl' hx hn hm e0 hE hu
    go_enter Try.func12, Try.ntmps12
    go_wp2_with (first
      | (go_at_call 25; (with_reducible refine D1.mono ?_); rintro e w2 ⟨rfl, hb2⟩
         have HB2 := Lib.hid (bx_bn hb2)
         clear hb2))
    go_ret2
    exact ⟨rfl, HB2.out⟩

set_option maxRecDepth 100000 in
theorem bsearchN_any (A : Option Addr) (l : List Int) (k : Nat) (x : Int) (w : World) (h : Ia w w.heap.size A l k) (hl : l.length ≤ 100000) (hs : l.Pairwise (· < ·)) :
    Calls Try.prog 29 #[.slice A l.length k, .int .i64 x] w fun e w' => e = .returned (.tuple #[.int .i64 (atL l (x - 1) : Nat), .bool (l.contains x)]) ∧ ∃ d, w' = w.drewN d := by
  have ec : atL l (x - 1) = l.countP (· < x) := by
    unfold atL
    refine List.countP_congr fun y _ => ?_
    simp only [decide_eq_true_eq]; omega
  rw [ec]
  rcases Nat.eq_zero_or_pos l.length with h0 | h0
  · have e : l = [] := List.eq_nil_of_length_eq_zero h0
    subst e
    go_enter Try.func29, Try.ntmps29
    go_wp2
    go_loopw [7, 8] (fun i j wr => i = .int .i64 0 ∧ j = .int .i64 0 ∧ ∃ d, wr = w.drewN d) (fun _ _ _ => 0)
    case atStart => exact ⟨rfl, rfl, 0, rfl⟩
    case round =>
      obtain ⟨rfl, rfl, d, rfl⟩ := hrel
      go_wp2
      go_ret2
      exact ⟨rfl, _, rfl⟩
  · obtain ⟨b, o, rfl, hb, hc⟩ := h.cells h0
    refine (Try.slices_BinarySearch_int b o l.length k l x w (Nat.le_refl _) (by omega) hc (by rw [List.take_length]; exact hs.imp fun h => Int.le_of_lt h)).mono fun e w' h => ⟨?_, h.2⟩
    rw [h.1, List.take_length]

set_option maxRecDepth 100000 in
set_option maxHeartbeats 2000000 in
theorem level14_any (v : Int) (A : Option Addr) (t : List Int) (k : Nat) (B : Option Addr) (s : List Int) (q : Nat) (x : Int) (w : World) (h : Ia w w.heap.size A t k) (hl : t.length ≤ 100000) (hr : ∀ x ∈ t, I64 x) (h' : Ia w w.heap.size B s q) (hl' : s.length ≤ 100000) (hx : I64 x) :
    Calls Try.prog 14 #[asv v A t.length k B s.length q, .int .i64 x] w fun e w' => e = .returned (.tuple #[.int .i64 (lV v t s x), .int .i64 (lE v t s x)]) ∧ Below w.heap.size w w' := by
  have D1 := checkWith_any v A t k B s q x (w.alloc (.cells #[.int .i64 v, .slice A t.length k, .slice B s.length q] 24)) (h.on (bx_on _ _)) hl hr (h'.on (bx_on _ _)) hl' hx
  by_cases hE : wE v t s x = 0
  · obtain ⟨hO, hL⟩ := wE_0.1 hE
    have D2 := fun (W : World) (hb : Below w.heap.size w W) => place_any v (by have := hO.1; omega) A t k x W (h.on hb) hl hO.2.1 hL
    rw [hE] at D1
    obtain ⟨n, hn⟩ : ∃ n, n = t.length := ⟨_, rfl⟩
    obtain ⟨m, hm⟩ : ∃ m, m = s.length := ⟨_, rfl⟩
    cases hin : vin t x with
    | false =>
      have e0 : lE v t s x = 6 := by unfold lE; rw [if_pos hO, if_pos hL, hin]; rfl
      have e1 : lV v t s x = 0 := by unfold lV; rw [e0]; rfl
      rw [plc_no hO.2.1 hin] at D2
      rw [e0, e1]
      rw [← hn] at D1 D2 ⊢
      rw [← hm] at D1 ⊢
      clear h hl hr h' hl' hx hn hm e0 e1 hE hO hL hin
      go_enter Try.func14, Try.ntmps14
      go_wp2_with (first
        | (go_at_call 25; (with_reducible refine D1.mono ?_); rintro e w2 ⟨rfl, hb2⟩
           have c1 := bx_cell hb2 1
           have HB2 := Lib.hid (bx_bn hb2)
           clear hb2)
        | (go_at_call 26; (with_reducible refine (D2 _ HB2.out).mono ?_); rintro e w3 ⟨rfl, hb3⟩
           have HB3 := Lib.hid (bn HB2.out hb3)
           clear hb3))
      go_ret2
      exact ⟨rfl, HB3.out⟩
    | true =>
      obtain ⟨y, hy, ey⟩ := vin_iff.1 hin
      obtain ⟨j, hj, hjy⟩ := mem_getD hy
      have e0 : lE v t s x = 0 := lE_0.2 ⟨hO, hL, hin⟩
      have e1 : lV v t s x = (atL s (j : Int) : Nat) := by unfold lV; rw [if_pos e0, plc_at hO.2.1 hj (by rw [hjy]; exact ey)]
      rw [plc_at hO.2.1 hj (by rw [hjy]; exact ey)] at D2
      have D3 := fun (W : World) (hb : Below w.heap.size w W) => bsearchN_any B s q ((j : Int) + 1) W (h'.on hb) hl' hO.2.2.2
      rw [show (j : Int) + 1 - 1 = (j : Int) by omega] at D3
      have j0 : j < n := by omega
      have j2 : n ≤ 100000 := by omega
      have j1 : (0 : Int) ≤ (j : Int) := by omega
      rw [e0, e1]
      obtain ⟨a, ha⟩ : ∃ a, a = atL s (j : Int) := ⟨_, rfl⟩
      obtain ⟨c, hc⟩ : ∃ c, c = s.contains ((j : Int) + 1) := ⟨_, rfl⟩
      rw [← ha, ← hc] at D3
      rw [← ha]
      rw [← hn] at D1 D2 ⊢
      rw [← hm] at D1 D3 ⊢
      clear h hl hr h' hl' hx hn hm e0 e1 hE hO hL hin hy ey hj hjy ha hc
      go_enter Try.func14, Try.ntmps14
      go_wp2_with (first
        | (go_at_call 25; (with_reducible refine D1.mono ?_); rintro e w2 ⟨rfl, hb2⟩
           have HC := Lib.hid hb2
           have c1 := bx_cell hb2 1
           have HB2 := Lib.hid (bx_bn hb2)
           clear hb2)
        | (go_at_call 26; (with_reducible refine (D2 _ HB2.out).mono ?_); rintro e w3 ⟨rfl, hb3⟩
           have c3 := bx_cell (bn HC.out hb3) 2
           have HB3 := Lib.hid (bn HB2.out hb3)
           clear hb3)
        | (go_at_call 29; (with_reducible refine (D3 _ HB3.out).mono ?_); rintro e w4 ⟨rfl, d, rfl⟩))
      go_ret2
      exact ⟨rfl, below_dn HB3.out _⟩
  · have e0 := lE_w hE
    have e1 : lV v t s x = 0 := by unfold lV; rw [if_neg (by rw [e0]; exact hE)]
    have e2 : (wE v t s x != 0) = true := by simpa using hE
    rw [e0, e1]
    obtain ⟨n, hn⟩ : ∃ n, n = t.length := ⟨_, rfl⟩
    obtain ⟨m, hm⟩ : ∃ m, m = s.length := ⟨_, rfl⟩
    obtain ⟨u, hu⟩ : ∃ u, u = wE v t s x := ⟨_, rfl⟩
    rw [← hn, ← hm, ← hu] at D1
    rw [← hn, ← hm, ← hu]
    rw [← hu] at e2
    clear h hl hr h' hl' hx hn hm e0 e1 hE hu
    go_enter Try.func14, Try.ntmps14
    go_wp2_with (first
      | (go_at_call 25; (with_reducible refine D1.mono ?_); rintro e w2 ⟨rfl, hb2⟩
         have HB2 := Lib.hid (bx_bn hb2)
         clear hb2))
    go_ret2
    exact ⟨rfl, HB2.out⟩

end Go.Proofs.Ytcmdongdjacgbaa
