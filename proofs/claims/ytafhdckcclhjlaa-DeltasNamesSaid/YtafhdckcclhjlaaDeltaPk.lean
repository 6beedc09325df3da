/- The contracts of deltas.checkVars, litOf, Pack and the reference's Asked, Right, Pack; right of the laws. -/
import Derived.Test.YtafhdckcclhjlaaDeltaRd
namespace Go.Proofs.Ytafhdckcclhjlaa
open Go.RowKit
set_option linter.unusedVariables false
set_option linter.unusedSimpArgs false

set_option maxHeartbeats 1000000 in
theorem dVars_any {v n : Int} (hv : I64 v) (hn : I64 n) (w : World) : Calls Try.prog 25 #[.int .i64 v, .int .i64 n] w fun e w' => e = .returned (.int .i64 (asd v n)) ∧ w = w' := by
  unfold I64 at hv hn
  rcases asd_ways v n with ⟨h, r⟩ | ⟨h1, h2, h3, h4, r⟩ | ⟨h1, h2, h3, h4, r⟩ <;> rw [r] <;> clear r
  · by_cases k1 : v < 1
    · clear h
      go_enter Try.func25, Try.ntmps25
      go_wp2
      go_ret
      exact ⟨rfl, rfl⟩
    · by_cases k2 : 1000 < v
      · clear h
        go_enter Try.func25, Try.ntmps25
        go_wp2
        go_ret
        exact ⟨rfl, rfl⟩
      · have k3 : n < 0 := by omega
        clear h
        go_enter Try.func25, Try.ntmps25
        go_wp2
        go_ret
        exact ⟨rfl, rfl⟩
  · have k1 : ¬ v < 1 := by omega
    have k2 : ¬ 1000 < v := by omega
    have k3 : ¬ n < 0 := by omega
    have k4 : 1000 - v + 1 < n := by omega
    go_enter Try.func25, Try.ntmps25
    go_wp2
    go_ret
    exact ⟨rfl, rfl⟩
  · have k1 : ¬ v < 1 := by omega
    have k2 : ¬ 1000 < v := by omega
    have k3 : ¬ n < 0 := by omega
    have k4 : ¬ 1000 - v + 1 < n := by omega
    go_enter Try.func25, Try.ntmps25
    go_wp2
    go_ret
    exact ⟨rfl, rfl⟩
set_option maxHeartbeats 1000000 in
theorem rAsked9_any {v n : Int} (hv : I64 v) (hn : I64 n) (w : World) : Calls Try.prog 22 #[.int .i64 v, .int .i64 n] w fun e w' => e = .returned (.int .i64 (asd v n)) ∧ w = w' := by
  unfold I64 at hv hn
  rcases asd_ways v n with ⟨h, r⟩ | ⟨h1, h2, h3, h4, r⟩ | ⟨h1, h2, h3, h4, r⟩ <;> rw [r] <;> clear r
  · by_cases k1 : v < 1
    · clear h
      go_enter Try.func22, Try.ntmps22
      go_wp2
      go_ret
      exact ⟨rfl, rfl⟩
    · by_cases k2 : 1000 < v
      · clear h
        go_enter Try.func22, Try.ntmps22
        go_wp2
        go_ret
        exact ⟨rfl, rfl⟩
      · have k3 : n < 0 := by omega
        clear h
        go_enter Try.func22, Try.ntmps22
        go_wp2
        go_ret
        exact ⟨rfl, rfl⟩
  · have k1 : ¬ v < 1 := by omega
    have k2 : ¬ 1000 < v := by omega
    have k3 : ¬ n < 0 := by omega
    have k4 : 1001 - v < n := by omega
    go_enter Try.func22, Try.ntmps22
    go_wp2
    go_ret
    exact ⟨rfl, rfl⟩
  · have k1 : ¬ v < 1 := by omega
    have k2 : ¬ 1000 < v := by omega
    have k3 : ¬ n < 0 := by omega
    have k4 : ¬ 1001 - v < n := by omega
    go_enter Try.func22, Try.ntmps22
    go_wp2
    go_ret
    exact ⟨rfl, rfl⟩
set_option maxHeartbeats 1000000 in
theorem dLit_any {v : Int} (h0 : 0 ≤ v) (h1 : v ≤ 100000) (w : World) : Calls Try.prog 26 #[.int .i64 v] w fun e w' => e = .returned (.int .i64 (2 * v)) ∧ w = w' := by
  go_enter Try.func26, Try.ntmps26
  go_wp2
  go_ret
  exact ⟨rfl, rfl⟩
set_option maxHeartbeats 2000000 in
theorem rRight_any {v a b : Int} (h0 : 0 ≤ v) (h1 : v ≤ 100000) (ha : I64 a) (hb : I64 b) (w : World) : Calls Try.prog 31 #[.int .i64 v, .agg #[.int .i64 a, .int .i64 b]] w fun e w' => e = .returned (.bool (rgt v a b)) ∧ Below w.heap.size w w' := by
  unfold I64 at ha hb
  by_cases k1 : 0 ≤ b
  · by_cases k2 : b ≤ a
    · by_cases k3 : a < 2 * v
      · have HR := Lib.hid (show rgt v a b = true from rgt_iff.2 ⟨k1, k2, k3⟩)
        go_enter Try.func31, Try.ntmps31
        go_wp2
        go_ret
        exact ⟨by rw [HR.out]; rfl, by go_grown⟩
      · have HR := Lib.hid (show rgt v a b = false from decide_eq_false (by omega))
        go_enter Try.func31, Try.ntmps31
        go_wp2
        go_ret
        exact ⟨by rw [HR.out]; rfl, by go_grown⟩
    · have HR := Lib.hid (show rgt v a b = false from decide_eq_false (by omega))
      go_enter Try.func31, Try.ntmps31
      go_wp2
      go_ret
      exact ⟨by rw [HR.out]; rfl, by go_grown⟩
  · have HR := Lib.hid (show rgt v a b = false from decide_eq_false (by omega))
    go_enter Try.func31, Try.ntmps31
    go_wp2
    go_ret
    exact ⟨by rw [HR.out]; rfl, by go_grown⟩

/-- gates, as a call has them -/
structure Gts (w : World) (B : Nat) (A : Option Addr) (n k : Nat) (f g : Nat → Int) : Prop where
  h : PairsAt w B A n f g
  n : A = none → n = 0 ∧ k = 0
  f : ∀ j, I64 (f j)
  g : ∀ j, I64 (g j)
theorem Gts.keep {w w' : World} {B n k : Nat} {A : Option Addr} {f g : Nat → Int} (h : Gts w B A n k f g) (hb : Below B w w') : Gts w' B A n k f g := ⟨h.h.keep hb, h.n, h.f, h.g⟩
theorem Gts.more {w : World} {B B' n k : Nat} {A : Option Addr} {f g : Nat → Int} (h : Gts w B A n k f g) (hb : B ≤ B') : Gts w B' A n k f g := ⟨h.h.more hb, h.n, h.f, h.g⟩
theorem Gts.to {w W : World} {B n k : Nat} {A : Option Addr} {f g : Nat → Int} (h : Gts w B A n k f g) (hb : Below B w W) (hB : B ≤ W.heap.size) : Gts W W.heap.size A n k f g := (h.keep hb).more hB

set_option maxRecDepth 100000 in
set_option maxHeartbeats 4000000 in
theorem dPack_no {v : Int} (hv : I64 v) (A : Option Addr) (n k : Nat) (w : World) (hn : n ≤ 100000) (hE : asd v n ≠ 0) : Calls Try.prog 13 #[.int .i64 v, .slice A n k] w fun e w' => e = .returned (.tuple #[.slice none 0 0, .int .i64 (asd v n)]) ∧ w = w' := by
  have D := dVars_any hv (show I64 (n : Int) by unfold I64; omega) w
  obtain ⟨E, hEE⟩ : ∃ E, asd v n = E := ⟨_, rfl⟩
  rw [hEE] at D hE ⊢
  have hi : (E != 0) = true := by simpa using hE
  have D1 := Lib.hid D
  clear D hEE hE
  go_enter Try.func13, Try.ntmps13
  go_wp2_with (go_at_call 25; (with_reducible refine D1.out.mono ?_); rintro e w1 ⟨rfl, rfl⟩)
  go_ret2
  exact ⟨rfl, rfl⟩
set_option maxRecDepth 100000 in
set_option maxHeartbeats 4000000 in
theorem dPack_yes {v : Int} (A : Option Addr) (n k : Nat) (f g : Nat → Int) (w : World) (h : Gts w w.heap.size A n k f g) (hE : asd v n = 0) : Calls Try.prog 13 #[.int .i64 v, .slice A n k] w (ByErr (pkL v f g n) (pkE v f g n) w) := by
  have hw := asd_ways v n
  have hv0 : 1 ≤ v := by omega
  have hv1 : v ≤ 1000 := by omega
  have hn1 : v + n ≤ 1001 := by omega
  clear hw
  have D := dVars_any (v := v) (n := n) (by unfold I64; omega) (by unfold I64; omega) w
  rw [hE] at D
  have D1 := Lib.hid D
  have H := Lib.hid h
  have HE := Lib.hid hE
  clear D h hE
  go_enter Try.func13, Try.ntmps13
  go_wp2_with (go_at_call 25; (with_reducible refine D1.out.mono ?_); rintro e w1 ⟨rfl, rfl⟩)
  go_loopw [7, 20] (fun u i wr => ∃ q : Nat, q ≤ n ∧ i = .int .i64 (q : Int) ∧ Byo w.heap.size wr u (pk v f g q) ∧ Below w.heap.size w wr ∧ allR v f g q = true) (fun _ i _ => n - (intOf i).toNat)
  case atStart => exact ⟨0, Nat.zero_le _, rfl, Byo.nil _ _, Below.refl _ _, rfl⟩
  case round =>
    obtain ⟨q, hq, rfl, hT, hBr, hR⟩ := hrel
    have HR := Lib.hid hR
    clear hR
    by_cases hlt : q < n
    · have hq1 : (q : Int) < (n : Int) := by omega
      have hq0 : (0 : Int) ≤ (q : Int) := by omega
      obtain ⟨a, rfl, hab, hc⟩ := (H.out.h.keep hBr) (by omega)
      obtain ⟨c0, c1⟩ := hc q hlt
      obtain ⟨x, hx⟩ : ∃ x, f q = x := ⟨_, rfl⟩
      obtain ⟨y, hy⟩ : ∃ y, g q = y := ⟨_, rfl⟩
      have hxb := H.out.f q
      have hyb := H.out.g q
      unfold I64 at hxb hyb
      rw [hx] at c0 hxb
      rw [hy] at c1 hyb
      have HXY := Lib.hid (And.intro hx hy)
      have L := Lib.hid (fun W => dLit_any (v := v + q) (by omega) (by omega) W)
      have hBs := hBr.size
      clear hc hx hy
      by_cases k : rgt (v + q) x y = true
      · obtain ⟨r1, r2, r3⟩ := rgt_iff.1 k
        have hR1 : allR v f g (q + 1) = true := by rw [allR, HR.out, HXY.out.1, HXY.out.2, k]; rfl
        have HR1 := Lib.hid hR1
        have hpl := Lib.hid (pk_len (f := f) (g := g) (by omega) (q := q) (by omega) HR.out)
        obtain ⟨N1, hN1⟩ : ∃ N1, (2 * (v + (q : Int)) - x).toNat = N1 := ⟨_, rfl⟩
        obtain ⟨N2, hN2⟩ : ∃ N2, (x - y).toNat = N2 := ⟨_, rfl⟩
        have i1 : (N1 : Int) = 2 * (v + (q : Int)) - x := by omega
        have i2 : (N2 : Int) = x - y := by omega
        have HPK := Lib.hid (show pk v f g (q + 1) = pk v f g q ++ bts N1 ++ bts N2 by rw [pk, HXY.out.1, HXY.out.2, hN1, hN2])
        have hbl := Lib.hid (bts_len (n := N1) (by omega))
        have A1 := dApp_any w.heap.size (pk v f g q) u7 N1 (wr.alloc (.cells #[.int .i64 x, .int .i64 y] 29)) (hT.alloc _) (by simp only [World.size_alloc]; omega) (by omega) (by have := hpl.out; omega)
        have A2 := fun v6 w6 (ho6 : Byo w.heap.size w6 v6 (pk v f g q ++ bts N1)) (hs : w.heap.size ≤ w6.heap.size) => dApp_any w.heap.size (pk v f g q ++ bts N1) v6 N2 w6 ho6 hs (by omega) (by have := hpl.out; have := hbl.out; rw [List.length_append]; omega)
        rw [i1] at A1
        rw [i2] at A2
        have B1 := Lib.hid A1
        have B2 := Lib.hid A2
        have HH := Lib.hid (Has.new wr 29 #[.int .i64 x, .int .i64 y])
        have HT0 := Lib.hid (show Byo w.heap.size (wr.alloc (.cells #[.int .i64 x, .int .i64 y] 29)) u7 (pk v f g q) from hT.alloc _)
        have HB0 : Hid (Below w.heap.size w (wr.alloc (.cells #[.int .i64 x, .int .i64 y] 29))) := Lib.hid (hBr.alloc hBs _)
        clear A1 A2 i1 i2 hN1 hN2 k hR1
        have g1 : ¬ y < 0 := by omega
        have g2 : ¬ x < y := by omega
        have g3 : ¬ 2 * (v + (q : Int)) ≤ x := by omega
        go_wp2_with (first
          | (go_at_call 26; (with_reducible refine (L.out _).mono ?_); rintro e w1 ⟨rfl, rfl⟩)
          | (go_at_call 24; (with_reducible refine B1.out.mono ?_); rintro e w6 ⟨v6, rfl, ho6, hg6, hb6⟩; have hH6 := hg6.has HH.out (HT0.out.ne HH.out (by decide)); have y0 := hH6.cell 0; have y1 := hH6.cell 1; have hB6 : Below w.heap.size w w6 := HB0.out.trans hb6; have hs6 := hB6.size)
          | (go_at_call 24; (with_reducible refine (B2.out v6 w6 ho6 hs6).mono ?_); rintro e w7 ⟨v7, rfl, ho7, hg7, hb7⟩))
        go_roundw
        case rel => exact ⟨q + 1, by omega, by go_num, by rw [HPK.out]; exact ho7, hB6.trans hb7, HR1.out⟩
        case measure => simp [intOf]; omega
      · have HP := Lib.hid (show pkE v f g n = 8 ∧ pkL v f g n = [] by
          have e1 : allR v f g n = false := allR_no (by rw [HXY.out.1, HXY.out.2]; simpa using k) n hlt
          have e2 : pkE v f g n = 8 := by unfold pkE; rw [HE.out, e1]; rfl
          exact ⟨e2, by unfold pkL; rw [e2]; rfl⟩)
        have k' : y < 0 ∨ x < y ∨ 2 * (v + q) ≤ x := by
          rcases Int.lt_or_le y 0 with h | h
          · exact Or.inl h
          · rcases Int.lt_or_le x y with h2 | h2
            · exact Or.inr (Or.inl h2)
            · rcases Int.lt_or_le x (2 * (v + q)) with h3 | h3
              · exact absurd (rgt_iff.2 ⟨h, h2, h3⟩) k
              · exact Or.inr (Or.inr h3)
        clear k
        have HB0 : Hid (Below w.heap.size w (wr.alloc (.cells #[.int .i64 x, .int .i64 y] 29))) := Lib.hid (hBr.alloc hBs _)
        rcases k' with g1 | g2 | g3
        · go_wp2_with (go_at_call 26; (with_reducible refine (L.out _).mono ?_); rintro e w1 ⟨rfl, rfl⟩)
          go_ret2
          rw [HP.out.1, HP.out.2]
          exact ByErr.no HB0.out
        · by_cases g1 : y < 0
          · go_wp2_with (go_at_call 26; (with_reducible refine (L.out _).mono ?_); rintro e w1 ⟨rfl, rfl⟩)
            go_ret2
            rw [HP.out.1, HP.out.2]
            exact ByErr.no HB0.out
          · go_wp2_with (go_at_call 26; (with_reducible refine (L.out _).mono ?_); rintro e w1 ⟨rfl, rfl⟩)
            go_ret2
            rw [HP.out.1, HP.out.2]
            exact ByErr.no HB0.out
        · by_cases g1 : y < 0
          · go_wp2_with (go_at_call 26; (with_reducible refine (L.out _).mono ?_); rintro e w1 ⟨rfl, rfl⟩)
            go_ret2
            rw [HP.out.1, HP.out.2]
            exact ByErr.no HB0.out
          · by_cases g2 : x < y
            · go_wp2_with (go_at_call 26; (with_reducible refine (L.out _).mono ?_); rintro e w1 ⟨rfl, rfl⟩)
              go_ret2
              rw [HP.out.1, HP.out.2]
              exact ByErr.no HB0.out
            · go_wp2_with (go_at_call 26; (with_reducible refine (L.out _).mono ?_); rintro e w1 ⟨rfl, rfl⟩)
              go_ret2
              rw [HP.out.1, HP.out.2]
              exact ByErr.no HB0.out
    · obtain rfl : q = n := by omega
      have hlt' : ¬ (q : Int) < (q : Int) := by omega
      have HP := Lib.hid (show pkE v f g q = 0 ∧ pkL v f g q = pk v f g q by
        have e2 : pkE v f g q = 0 := by unfold pkE; rw [HE.out, HR.out]; rfl
        exact ⟨e2, by unfold pkL; rw [e2]; rfl⟩)
      clear hlt
      go_wp2
      go_ret2
      rw [HP.out.1, HP.out.2]
      exact ByErr.yes hT hBr

theorem d_drew {B : Nat} {w w' : World} (h : Below B w w') : Below B w w'.drew := h.drew
theorem wrap_in {x : Int} (h0 : -9223372036854775808 ≤ x) (h1 : x ≤ 9223372036854775807) : IntKind.i64.wrap x = x := by
  simp [IntKind.wrap, IntKind.bits, IntKind.signed]; omega
theorem Byo.drew {B : Nat} {w : World} {v : Value} {l : List UInt8} (h : Byo B w v l) : Byo B w.drew v l := h
set_option maxRecDepth 100000 in
set_option maxHeartbeats 4000000 in
theorem rPack_no {v : Int} (hv : I64 v) (A : Option Addr) (n k : Nat) (w : World) (hn : n ≤ 100000) (hE : asd v n ≠ 0) : Calls Try.prog 20 #[.int .i64 v, .slice A n k] w fun e w' => e = .returned (.tuple #[.slice none 0 0, .int .i64 (asd v n)]) ∧ w = w' := by
  have D := rAsked9_any hv (show I64 (n : Int) by unfold I64; omega) w
  obtain ⟨E, hEE⟩ : ∃ E, asd v n = E := ⟨_, rfl⟩
  rw [hEE] at D hE ⊢
  have hi : (E != 0) = true := by simpa using hE
  have D1 := Lib.hid D
  clear D hEE hE
  go_enter Try.func20, Try.ntmps20
  go_wp2_with (go_at_call 22; (with_reducible refine D1.out.mono ?_); rintro e w1 ⟨rfl, rfl⟩)
  go_ret2
  exact ⟨rfl, rfl⟩
set_option maxRecDepth 100000 in
set_option maxHeartbeats 8000000 in
theorem rPack_yes {v : Int} (A : Option Addr) (n k : Nat) (f g : Nat → Int) (w : World) (h : Gts w w.heap.size A n k f g) (hE : asd v n = 0) : Calls Try.prog 20 #[.int .i64 v, .slice A n k] w (ByErr (pkL v f g n) (pkE v f g n) w) := by
  have hw := asd_ways v n
  have hv0 : 1 ≤ v := by omega
  have hv1 : v ≤ 1000 := by omega
  have hn1 : v + n ≤ 1001 := by omega
  clear hw
  have D := rAsked9_any (v := v) (n := n) (by unfold I64; omega) (by unfold I64; omega) w
  rw [hE] at D
  have D1 := Lib.hid D
  have H := Lib.hid h
  have HE := Lib.hid hE
  clear D h hE
  go_enter Try.func20, Try.ntmps20
  go_wp2_with (go_at_call 22; (with_reducible refine D1.out.mono ?_); rintro e w1 ⟨rfl, rfl⟩)
  go_loopw [6, 7] (fun u i wr => ∃ q : Nat, q ≤ n ∧ i = .int .i64 (q : Int) ∧ Byo w.heap.size wr u (pk v f g q) ∧ Below w.heap.size w wr ∧ allR v f g q = true) (fun _ i _ => n - (intOf i).toNat)
  case atStart => exact ⟨0, Nat.zero_le _, rfl, Byo.nil _ _, Below.refl _ _, rfl⟩
  case round =>
    obtain ⟨q, hq, rfl, hT, hBr, hR⟩ := hrel
    have HR := Lib.hid hR
    clear hR
    by_cases hlt : q < n
    · have hq1 : (q : Int) < (n : Int) := by omega
      have hq0 : (0 : Int) ≤ (q : Int) := by omega
      obtain ⟨a, rfl, hab, hc⟩ := (H.out.h.keep hBr) (by omega)
      obtain ⟨x, hx⟩ : ∃ x, f q = x := ⟨_, rfl⟩
      obtain ⟨y, hy⟩ : ∃ y, g q = y := ⟨_, rfl⟩
      have HC : Hid (∀ W, Below w.heap.size w W → W.cell? (a.add (q * 2)) = some (.int .i64 x) ∧ W.cell? ⟨(a.add (q * 2)).block, (a.add (q * 2)).off + 1, none⟩ = some (.int .i64 y)) := Lib.hid fun W hW => by
        obtain ⟨a', e, _, hc'⟩ := (H.out.h.keep hW) (by omega)
        cases e
        rw [← hx, ← hy]
        exact hc' q hlt
      obtain ⟨c0, c1⟩ := HC.out _ hBr
      have hxb := H.out.f q
      have hyb := H.out.g q
      have HXI := Lib.hid (And.intro hxb hyb)
      rw [hx, hy] at HXI
      unfold I64 at hxb hyb
      rw [hx] at hxb
      rw [hy] at hyb
      have HXY := Lib.hid (And.intro hx hy)
      have L := Lib.hid (rRight_any (v := v + q) (a := x) (b := y) (by omega) (by omega) HXI.out.1 HXI.out.2 wr)
      have hBs := hBr.size
      have HT0 := Lib.hid (And.intro hT hBr)
      clear hc hx hy hT
      by_cases k : rgt (v + q) x y = true
      · obtain ⟨r1, r2, r3⟩ := rgt_iff.1 k
        rw [k] at L
        have hR1 : allR v f g (q + 1) = true := by rw [allR, HR.out, HXY.out.1, HXY.out.2, k]; rfl
        have HR1 := Lib.hid hR1
        have hpl := Lib.hid (pk_len (f := f) (g := g) (by omega) (q := q) (by omega) HR.out)
        obtain ⟨N1, hN1⟩ : ∃ N1, (2 * (v + (q : Int)) - x).toNat = N1 := ⟨_, rfl⟩
        obtain ⟨N2, hN2⟩ : ∃ N2, (x - y).toNat = N2 := ⟨_, rfl⟩
        have i1 : (N1 : Int) = 2 * (v + (q : Int)) - x := by omega
        have i2 : (N2 : Int) = x - y := by omega
        have HPK := Lib.hid (show pk v f g (q + 1) = pk v f g q ++ bts N1 ++ bts N2 by rw [pk, HXY.out.1, HXY.out.2, hN1, hN2])
        have hbl := Lib.hid (bts_len (n := N1) (by omega))
        have hbl2 := Lib.hid (bts_len (n := N2) (by omega))
        have A1 := fun W => rBytes_any N1 W (by omega)
        have A2 := fun W => rBytes_any N2 W (by omega)
        rw [i1] at A1
        rw [i2] at A2
        have B1 := Lib.hid A1
        have B2 := Lib.hid A2
        clear A1 A2 i1 i2 hN1 hN2 k hR1
        go_wp2_with (first
          | (go_at_call 31; (with_reducible refine L.out.mono ?_); rintro e w1 ⟨rfl, hb1⟩; have hB1 : Below w.heap.size w w1 := Below.step HT0.out.2 HT0.out.2.size hb1; have ho1 : Byo w.heap.size w1 u6 (pk v f g q) := HT0.out.1.keep hb1; obtain ⟨c0, c1⟩ := HC.out _ hB1)
          | (go_at_call 28; (with_reducible refine (B1.out _).mono ?_); rintro e w2 ⟨v2, rfl, ho2, hb2⟩; have hB2 : Below w.heap.size w w2 := Below.step hB1 hB1.size hb2; have ho2' : Byo w.heap.size w2 u6 (pk v f g q) := ho1.keep hb2; obtain ⟨A2, k2, rfl, hy2⟩ := ho2.at)
          | (at_builtin; refine by_append rfl _ _ rfl w.heap.size _ (pk v f g q) rfl ho2' _ (bts N1).length k2 (bts N1) rfl rfl hy2.src (by have := hbl.out; have := hpl.out; omega) hB2.size ?_; intro v3 w3 ho3 hg3; have hB3 : Below w.heap.size w w3 := hB2.trans (hg3.below ho2' hB2.size)))
        have hS0 := HC.out _ (d_drew hB3)
        refine wp_region_T (fun W => W.cell? (a.add (q * 2)) = some (.int .i64 x) ∧ W.cell? ⟨(a.add (q * 2)).block, (a.add (q * 2)).off + 1, none⟩ = some (.int .i64 y)) 15 (by kernel_rfl) ?_
        (refine wpT_take 0 (v := ?_) rfl (by kernel_rfl) (by kernel_rfl) (by kernel_rfl) (by kernel_rfl) (fun _ _ _ h => h) rfl hS0 (fun w hS => ?_) ?_; rotate_left; focus (obtain ⟨j0, j1⟩ := hS; go_simp; rfl)); (refine wpT_take 1 (v := ?_) rfl (by kernel_rfl) (by kernel_rfl) (by kernel_rfl) (by kernel_rfl) (fun _ _ _ h => h) rfl hS0 (fun w hS => ?_) ?_; rotate_left; focus (obtain ⟨j0, j1⟩ := hS; go_simp; rfl)); (refine wpT_take 2 (v := ?_) rfl (by kernel_rfl) (by kernel_rfl) (by kernel_rfl) (by kernel_rfl) (fun _ _ _ h => h) rfl hS0 (fun w hS => ?_) ?_; rotate_left; focus (obtain ⟨j0, j1⟩ := hS; go_simp; rfl)); (refine wpT_take 3 (v := ?_) rfl (by kernel_rfl) (by kernel_rfl) (by kernel_rfl) (by kernel_rfl) (fun _ _ _ h => h) rfl hS0 (fun w hS => ?_) ?_; rotate_left; focus (obtain ⟨j0, j1⟩ := hS; go_simp; rfl)); (refine wpT_take 4 (v := ?_) rfl (by kernel_rfl) (by kernel_rfl) (by kernel_rfl) (by kernel_rfl) (fun _ _ _ h => h) rfl hS0 (fun w hS => ?_) ?_; rotate_left; focus (obtain ⟨j0, j1⟩ := hS; go_simp; rfl)); (refine wpT_take 5 (v := ?_) rfl (by kernel_rfl) (by kernel_rfl) (by kernel_rfl) (by kernel_rfl) (fun _ _ _ h => h) rfl hS0 (fun w hS => ?_) ?_; rotate_left; focus (obtain ⟨j0, j1⟩ := hS; go_simp; rfl)); (refine wpT_take 6 (v := ?_) rfl (by kernel_rfl) (by kernel_rfl) (by kernel_rfl) (by kernel_rfl) (fun _ _ _ h => h) rfl hS0 (fun w hS => ?_) ?_; rotate_left; focus (obtain ⟨j0, j1⟩ := hS; go_simp; rfl)); (refine wpT_take 7 (v := ?_) rfl (by kernel_rfl) (by kernel_rfl) (by kernel_rfl) (by kernel_rfl) (fun _ _ _ h => h) rfl hS0 (fun w hS => ?_) ?_; rotate_left; focus (obtain ⟨j0, j1⟩ := hS; go_simp; rfl)); (refine wpT_take 8 (v := ?_) rfl (by kernel_rfl) (by kernel_rfl) (by kernel_rfl) (by kernel_rfl) (fun _ _ _ h => h) rfl hS0 (fun w hS => ?_) ?_; rotate_left; focus (obtain ⟨j0, j1⟩ := hS; go_simp; rfl)); (refine wpT_take 9 (v := ?_) rfl (by kernel_rfl) (by kernel_rfl) (by kernel_rfl) (by kernel_rfl) (fun _ _ _ h => h) rfl hS0 (fun w hS => ?_) ?_; rotate_left; focus (obtain ⟨j0, j1⟩ := hS; go_simp; rfl)); (refine wpT_take 10 (v := ?_) rfl (by kernel_rfl) (by kernel_rfl) (by kernel_rfl) (by kernel_rfl) (fun _ _ _ h => h) rfl hS0 (fun w hS => ?_) ?_; rotate_left; focus (obtain ⟨j0, j1⟩ := hS; go_simp; rfl)); (refine wpT_take 11 (v := ?_) rfl (by kernel_rfl) (by kernel_rfl) (by kernel_rfl) (by kernel_rfl) (fun _ _ _ h => h) rfl hS0 (fun w hS => ?_) ?_; rotate_left; focus (obtain ⟨j0, j1⟩ := hS; go_simp; rfl))
        refine wpT_one 12 (by kernel_rfl) (wpOp_go rfl rfl fun K hK => ?_)
        go_simp
        go_at_call 28
        rw [wrap_in (x := x - y) (by omega) (by omega)]
        (with_reducible refine (B2.out _).mono ?_)
        rintro e w4 ⟨v4, rfl, ho4, hb4⟩
        have hB4 : Below w.heap.size w w4 := Below.step (d_drew hB3) (d_drew hB3).size hb4
        have ho4' : Byo w.heap.size w4 v3 (pk v f g q ++ bts N1) := ho3.drew.keep hb4
        obtain ⟨A4, k4, rfl, hy4⟩ := ho4.at
        refine hK _ _ ⟨fun _ => HC.out _ hB4, ?_⟩
        refine wpT_one 13 (by kernel_rfl) (wpOp_go rfl rfl fun K hK => ?_)
        refine by_append_o _ _ (by rfl) w.heap.size v3 (pk v f g q ++ bts N1) (by rfl) ho4' A4 (bts N2).length k4 (bts N2) (by rfl) rfl hy4.src (by have := hbl.out; have := hbl2.out; have := hpl.out; rw [List.length_append]; omega) hB4.size ?_
        intro v5 w5 ho5 hg5
        have hB5 : Below w.heap.size w w5 := hB4.trans (hg5.below ho4' hB4.size)
        refine hK _ _ ⟨fun _ => HC.out _ hB5, ?_⟩
        refine wpT_one 14 (by kernel_rfl) (wpOp_go rfl rfl fun K hK => ?_)
        go_simp
        refine hK _ _ ⟨fun _ => HC.out _ hB5, ?_⟩
        refine wpT_done (by kernel_rfl) (NoPanic.normal ?_) _
        go_wp2
        go_roundw
        case rel => exact ⟨q + 1, by omega, by go_num, by rw [HPK.out]; exact ho5, hB5, HR1.out⟩
        case measure => simp [intOf]; omega
      · have k2 : rgt (v + q) x y = false := by simpa using k
        rw [k2] at L
        have HP := Lib.hid (show pkE v f g n = 8 ∧ pkL v f g n = [] by
          have e1 : allR v f g n = false := allR_no (by rw [HXY.out.1, HXY.out.2]; exact k2) n hlt
          have e2 : pkE v f g n = 8 := by unfold pkE; rw [HE.out, e1]; rfl
          exact ⟨e2, by unfold pkL; rw [e2]; rfl⟩)
        clear k k2
        go_wp2_with (go_at_call 31; (with_reducible refine L.out.mono ?_); rintro e w1 ⟨rfl, hb1⟩)
        go_ret2
        rw [HP.out.1, HP.out.2]
        exact ByErr.no (Below.step HT0.out.2 HT0.out.2.size hb1)
    · obtain rfl : q = n := by omega
      have hlt' : ¬ (q : Int) < (q : Int) := by omega
      have HP := Lib.hid (show pkE v f g q = 0 ∧ pkL v f g q = pk v f g q by
        have e2 : pkE v f g q = 0 := by unfold pkE; rw [HE.out, HR.out]; rfl
        exact ⟨e2, by unfold pkL; rw [e2]; rfl⟩)
      clear hlt
      go_wp2
      go_ret2
      rw [HP.out.1, HP.out.2]
      exact ByErr.yes hT hBr

set_option maxRecDepth 100000 in
set_option maxHeartbeats 4000000 in
theorem right_any {v : Int} (A : Option Addr) (n k : Nat) (f g : Nat → Int) (w : World) (h : Gts w w.heap.size A n k f g) (h0 : 0 ≤ v) (h1 : v + n ≤ 100000) : Calls Try.prog 23 #[.int .i64 v, .slice A n k] w fun e w' => e = .returned (.bool (allR v f g n)) ∧ Below w.heap.size w w' := by
  have H := Lib.hid h
  clear h
  go_enter Try.func23, Try.ntmps23
  go_wp2
  go_loopw [5] (fun i wr => ∃ q : Nat, q ≤ n ∧ i = .int .i64 (q : Int) ∧ Below w.heap.size w wr ∧ allR v f g q = true) (fun i _ => n - (intOf i).toNat)
  case atStart => exact ⟨0, Nat.zero_le _, rfl, Below.refl _ _, rfl⟩
  case round =>
    obtain ⟨q, hq, rfl, hBr, hR⟩ := hrel
    have HR := Lib.hid hR
    clear hR
    by_cases hlt : q < n
    · have hq1 : (q : Int) < (n : Int) := by omega
      have hq0 : (0 : Int) ≤ (q : Int) := by omega
      obtain ⟨a, rfl, hab, hc⟩ := (H.out.h.keep hBr) (by omega)
      obtain ⟨c0, c1⟩ := hc q hlt
      obtain ⟨x, hx⟩ : ∃ x, f q = x := ⟨_, rfl⟩
      obtain ⟨y, hy⟩ : ∃ y, g q = y := ⟨_, rfl⟩
      have HXI := Lib.hid (And.intro (H.out.f q) (H.out.g q))
      rw [hx, hy] at HXI
      rw [hx] at c0
      rw [hy] at c1
      have L := rRight_any (v := v + q) (a := x) (b := y) (by omega) (by omega) HXI.out.1 HXI.out.2 wr
      have HXY := Lib.hid (And.intro hx hy)
      obtain ⟨b, hb⟩ : ∃ b, rgt (v + q) x y = b := ⟨_, rfl⟩
      rw [hb] at L
      have HB := Lib.hid hb
      have L1 := Lib.hid L
      clear hc hx hy hb L
      cases b
      · go_wp2_with (go_at_call 31; (with_reducible refine L1.out.mono ?_); rintro e w1 ⟨rfl, hb1⟩)
        go_ret
        have e1 : allR v f g n = false := allR_no (by rw [HXY.out.1, HXY.out.2]; exact HB.out) n hlt
        exact ⟨by rw [e1]; rfl, Below.step hBr hBr.size hb1⟩
      · go_wp2_with (go_at_call 31; (with_reducible refine L1.out.mono ?_); rintro e w1 ⟨rfl, hb1⟩)
        go_roundw
        case rel => exact ⟨q + 1, by omega, by go_num, Below.step hBr hBr.size hb1, by rw [allR, HR.out, HXY.out.1, HXY.out.2, HB.out]; rfl⟩
        case measure => simp [intOf]; omega
    · obtain rfl : q = n := by omega
      have hlt' : ¬ (q : Int) < (q : Int) := by omega
      clear hlt
      go_wp2
      go_ret
      exact ⟨by rw [HR.out]; rfl, hBr⟩

end Go.Proofs.Ytafhdckcclhjlaa
