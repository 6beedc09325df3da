/- The contracts of witness.Check, and of the reference's. -/
import Derived.Test.YtbppdifghkkooaaDoorWitMath
import Derived.Test.YtbppdifghkkooaaDoorTraceRef4
import Derived.Test.YtbppdifghkkooaaDoorTraceProps
namespace Go.Proofs.YtbppdifghkkooaaDoor
open Go Go.RowKit
set_option linter.unusedVariables false
set_option linter.unusedSimpArgs false

def Pl.sol (p : Pl) (a : Addr) (b : Nat) : Pl := ⟨p.A1, p.A2, some (a.add b), p.A4, p.k1, p.k2, p.k3 - b, p.k4⟩
theorem add_two (a : Addr) (m n : Nat) : (a.add m).add n = a.add (m + n) := by
  unfold Addr.add
  by_cases hm : m = 0
  · subst hm; simp
  · by_cases hn : n = 0
    · subst hn; simp [hm]
    · simp [hm, hn]; omega
theorem sol_arg {w : World} {B : Nat} {c : Cr} {p : Pl} {t : Tr} {q : Tp} (h : RArg w B c p t q) {a : Addr} (ha : p.A3 = some a) {b : Nat} (hb : b < c.nb) : RArg w B (c.sol b) (p.sol a b) t q := by
  refine ⟨⟨h.hm.la, h.hm.an, fun _ => ?_, h.hm.cn⟩, ⟨h.hs.i, h.hs.nl, h.hs.na, by show 1 ≤ 1000; omega, h.hs.nc, h.hs.nx, h.hs.rs, h.hs.ga, h.hs.gb, fun j => h.hs.bd (b + j), h.hs.cn⟩, h.ht, h.hts⟩
  obtain ⟨a', e, hl, hc⟩ := h.hm.bd (by omega)
  rw [ha] at e
  cases e
  refine ⟨_, rfl, by rw [add_block]; exact hl, fun j hj => ?_⟩
  have hj : j < 1 := hj
  rw [add_two]
  exact hc (b + j) (by omega)

section
variable {c : Cr} {p : Pl} {t : Tr} {q : Tp}

set_option maxRecDepth 100000 in
set_option maxHeartbeats 4000000 in
theorem wCheck_any (b : Int) (hb : I64 b) (w : World) (h : RArg w w.heap.size c p t q) (hk3 : c.nb ≤ p.k3 ∧ p.k3 ≤ maxLen) :
    Calls Tryd.prog 9 #[cv c p, tv t q, .int .i64 b] w fun e w' => e = .returned (.int .i64 (c.wck t b)) ∧ Below w.heap.size w w' := by
  have hnb := h.hs.nb
  have hW := h.to (ct_b w c p t q) (ct_z w c p t q)
  have DC := Lib.hid (check_any (ctW w c p t q) hW)
  by_cases hk : c.tck t = 0
  · rw [hk] at DC
    by_cases h0 : b < 0
    · have HR : Hid (c.wck t b = 2) := Lib.hid (by unfold Cr.wck; rw [if_neg (by omega), if_pos (Or.inl h0)])
      have e0 : decide (b < 0) = true := by simpa using h0
      clear hW h hk hk3 h0
      go_enter Tryd.func9, Tryd.ntmps9
      go_wp2_with (go_at_call 16; (with_reducible refine DC.out.mono ?_); rintro e w1 ⟨rfl, hb1⟩; obtain ⟨hB1, hA1, hT1, hz1⟩ := ct_k hb1; obtain ⟨x0, x1, x2, x3, x4⟩ := hA1.box)
      go_ret
      exact ⟨by rw [HR.out]; rfl, hB1⟩
    · have e0 : decide (b < 0) = false := by simpa using h0
      by_cases h1 : (c.nb : Int) ≤ b
      · have HR : Hid (c.wck t b = 2) := Lib.hid (by unfold Cr.wck; rw [if_neg (by omega), if_pos (Or.inr h1)])
        have e1 : decide ((c.nb : Int) ≤ b) = true := by simpa using h1
        clear hW h hk hk3 h0 h1
        go_enter Tryd.func9, Tryd.ntmps9
        go_wp2_with (go_at_call 16; (with_reducible refine DC.out.mono ?_); rintro e w1 ⟨rfl, hb1⟩; obtain ⟨hB1, hA1, hT1, hz1⟩ := ct_k hb1; obtain ⟨x0, x1, x2, x3, x4⟩ := hA1.box)
        go_ret
        exact ⟨by rw [HR.out]; rfl, hB1⟩
      · have e1 : decide ((c.nb : Int) ≤ b) = false := by simpa using h1
        obtain ⟨n, rfl⟩ : ∃ n : Nat, b = (n : Int) := ⟨b.toNat, by omega⟩
        have hn : n < c.nb := by omega
        obtain ⟨a, hA3, hab, _⟩ := h.hm.bd (by omega)
        obtain ⟨x, hx⟩ : ∃ x, x = c.wck t (n : Int) := ⟨_, rfl⟩
        have hx2 : (c.sol n).wte t = x := by rw [hx, Cr.sol_wte hk hn]; unfold Cr.wck; rw [if_neg (show ¬ c.tck t ≠ 0 by omega), if_neg (show ¬ ((n : Int) < 0 ∨ (c.nb : Int) ≤ n) by omega), Int.toNat_natCast]
        have DW : Hid (∀ W, Below w.heap.size w W → Calls Tryd.prog 17 #[.agg #[.int .i64 c.i, .slice p.A1 c.nl p.k1, .slice p.A2 c.na p.k2, .slice (some (a.add n)) 1 (p.k3 - n), .slice p.A4 c.nc p.k4], tv t q] W fun e w' => ∃ y, e = .returned (.tuple #[.int .i64 y, .int .i64 x]) ∧ Below W.heap.size W w') := Lib.hid fun W hb => by
          have := twitness_any (c := c.sol n) (p := p.sol a n) W (sol_arg (h.to hb hb.size) hA3 hn)
          rw [hx2] at this
          exact this.mono fun e w' ⟨he, hb'⟩ => ⟨_, he, hb'⟩
        have HX := Lib.hid (And.intro hx hA3)
        have hk4 : n + 1 ≤ p.k3 := by omega
        have hw1 : IntKind.i64.wrap ((n : Int) + 1) = (n : Int) + 1 := IntWalk.i64_in _ (by omega)
        have hn0 : (0 : Int) ≤ (n : Int) := by omega
        have hn1 : (n : Int) ≤ (n : Int) + 1 := by omega
        have hn2 : (n : Int) + 1 ≤ (p.k3 : Int) := by omega
        clear hW h hk hk3 h0 h1 hx hx2 hb hA3 hab
        go_enter Tryd.func9, Tryd.ntmps9
        go_wp2_with (first
          | (go_at_call 16; (with_reducible refine DC.out.mono ?_); rintro e w1 ⟨rfl, hb1⟩; obtain ⟨hB1, hA1, hT1, hz1⟩ := ct_k hb1; obtain ⟨x0, x1, x2, x3, x4⟩ := hA1.box; rw [HX.out.2] at x3; have xf := hA1.fz 3; have xz := hT1.tbox)
          | (go_at_call 17; (with_reducible refine (DW.out _ (hB1.setCell (Nat.le_refl _) _)).mono ?_); rintro e w2 ⟨y, rfl, hb2⟩))
        trace_state
        go_ret
        exact ⟨by rw [← HX.out.1]; rfl, Below.step (hB1.setCell (Nat.le_refl _) _) (hB1.setCell (Nat.le_refl _) _).size hb2⟩
  · have HR : Hid (c.wck t b = c.tck t) := Lib.hid (by unfold Cr.wck; rw [if_pos hk])
    obtain ⟨x, hx⟩ : ∃ x, x = c.tck t := ⟨_, rfl⟩
    rw [← hx] at DC HR
    have e1 : (x != 0) = true := by rw [hx]; simpa [bne] using hk
    clear hW h hk hk3 hx
    go_enter Tryd.func9, Tryd.ntmps9
    go_wp2_with (go_at_call 16; (with_reducible refine DC.out.mono ?_); rintro e w1 ⟨rfl, hb1⟩; obtain ⟨hB1, hA1, hT1, hz1⟩ := ct_k hb1)
    go_ret
    exact ⟨by rw [HR.out]; rfl, hB1⟩

end
end Go.Proofs.YtbppdifghkkooaaDoor
