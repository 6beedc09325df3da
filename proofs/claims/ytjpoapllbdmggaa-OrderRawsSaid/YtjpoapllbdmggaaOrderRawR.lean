/- The reference's Raw, by its check. -/
import Derived.Test.YtjpoapllbdmggaaOrderOf
namespace Go.Proofs.Ytjpoapllbdmggaa
open Go.RowKit
set_option linter.unusedVariables false
set_option linter.unusedSimpArgs false

/-- the empty raw circuit -/
def nulR : Rw := ⟨0, 0, 0, 0, 0, 0, fun _ => 0, fun _ => 0, fun _ => 0, fun _ => 0, fun _ => 0, fun _ => 0, fun _ => 0, fun _ => 0, fun _ => 0⟩
abbrev nulRp : Rp := ⟨none, none, none, none, none, 0, 0, 0, 0, 0⟩
theorem nulR_mem (w : World) : RMem w w.heap.size nulR nulRp := ⟨fun h => absurd h (Nat.not_lt_zero _), fun h => absurd h (Nat.not_lt_zero _), fun h => absurd h (Nat.not_lt_zero _), fun h => absurd h (Nat.not_lt_zero _), fun h => absurd h (Nat.not_lt_zero _)⟩
theorem nulR_sm : RSm nulR := by
  have z : I64 0 := by unfold I64; omega
  exact ⟨z, by decide, by decide, by decide, by decide, by decide, fun _ _ => z, fun _ _ => z, fun _ _ => z, fun _ _ => z, fun _ _ => z, fun _ _ => z, fun _ _ => z, fun _ _ => z, fun _ _ => z⟩
theorem raw_sm {c : Cr} (hs : Sm c) (h : (c.chk == 0) = true) : RSm c.raw := by
  have hb := Cr.chk_i h hs
  have g1 := hs.nl
  have g2 := hs.na
  have hz : c.sz = c.i + c.nl + c.na := rfl
  refine ⟨by show I64 c.sz; unfold I64; omega, by show c.i.toNat ≤ 2000; omega, hs.nl, hs.na, hs.nb, hs.nc, ?_, ?_, fun j _ => hs.nx j, fun j _ => hs.rs j, ?_, fun j _ => hs.ga j, fun j _ => hs.gb j, fun j _ => hs.bd j, fun j _ => hs.cn j⟩
  · intro j hj
    have hj' : j < c.i.toNat := hj
    show I64 (2 * (1 + (j : Int)))
    unfold I64; omega
  · intro j hj
    have hj' : j < c.nl := hj
    show I64 (2 * (1 + c.i + (j : Int)))
    unfold I64; omega
  · intro j hj
    have hj' : j < c.na := hj
    show I64 (2 * (1 + c.i + c.nl + (j : Int)))
    unfold I64; omega

set_option maxRecDepth 100000 in
set_option maxHeartbeats 1000000 in
theorem rRaw_no (c : Cr) (p : Pl) (w : World) (hm : Mem w w.heap.size c p) (hs : Sm c) (h : (c.chk == 0) = false) :
    Calls Try.prog 25 #[cv c p] w fun e w' => e = .returned (.tuple #[.agg #[.int .i64 0, .slice none 0 0, .slice none 0 0, .slice none 0 0, .slice none 0 0, .slice none 0 0], .int .i64 c.chk]) ∧ Below w.heap.size w w' := by
  have h' : (c.chk != 0) = true := by simp [bne, h]
  go_enter Try.func25, Try.ntmps25
  go_wp2_with (first
    | (go_at_call 29; (with_reducible refine (rCheck_any c p ((w.alloc _).alloc _) (hm.to (by go_grown) (by go_size)) hs).mono ?_); rintro e w1 ⟨rfl, hb1⟩; have hz1 : w.heap.size + 1 < w1.heap.size := (by have := hb1.size; (try simp at this); omega); have hz0 : w.heap.size < w1.heap.size := (by omega); have hB1 : Below w.heap.size w w1 := Below.step (by go_grown) (by go_size) hb1; have hA1 : Has w1 w.heap.size 26 (cc c p) := ((Has.new _ _ _).al _).keep hb1 (by go_size); have hZ1 : Has w1 (w.heap.size + 1) 32 zr := (Has.new' _ _ (by simp)).keep hb1 (by simp); obtain ⟨x0, x1, x2, x3, x4⟩ := hA1.box)
    | (go_at_call 29; (with_reducible refine (rCheck_any c p w1 (hm.to hB1 (by omega)) hs).mono ?_); rintro e w2 ⟨rfl, hb2⟩; have hB2 := Below.step hB1 (by omega) hb2; have hZ2 := hZ1.keep hb2 hz1; obtain ⟨⟨z0, z1, z2, z3, z4, z5⟩, z0', z1', z2', z3', z4', z5'⟩ := hZ2.zr6))
  refine bodyPost_ret (v := .tuple #[.agg zr, .int .i64 c.chk]) (by simp [results, Try.results25, go_sem, z0, z1, z2, z3, z4, z5, zr]) rfl ⟨rfl, ?_⟩
  exact below_set6 hB2 (by omega) _ _ _ _ _ _

set_option maxRecDepth 100000 in
set_option maxHeartbeats 1000000 in
theorem rRaw_yes (c : Cr) (p : Pl) (w : World) (hm : Mem w w.heap.size c p) (hs : Sm c) (hN : Nils c p) (h : (c.chk == 0) = true) :
    Calls Try.prog 25 #[cv c p] w (RawIs c.raw w) := by
  have h' : (c.chk != 0) = false := by simp [bne, h]
  have hk := Lib.hid (show c.chk = 0 by simpa using h)
  go_enter Try.func25, Try.ntmps25
  go_wp2_with (first
    | (go_at_call 29; (with_reducible refine (rCheck_any c p ((w.alloc _).alloc _) (hm.to (by go_grown) (by go_size)) hs).mono ?_); rintro e w1 ⟨rfl, hb1⟩; have hz1 : w.heap.size + 1 < w1.heap.size := (by have := hb1.size; (try simp at this); omega); have hz0 : w.heap.size < w1.heap.size := (by omega); have hB1 : Below w.heap.size w w1 := Below.step (by go_grown) (by go_size) hb1; have hA1 : Has w1 w.heap.size 26 (cc c p) := ((Has.new _ _ _).al _).keep hb1 (by go_size); have hZ1 : Has w1 (w.heap.size + 1) 32 zr := (Has.new' _ _ (by simp)).keep hb1 (by simp); obtain ⟨x0, x1, x2, x3, x4⟩ := hA1.box)
    | (go_at_call 52; (with_reducible refine (oOf_any c p w1 (hm.to hB1 (by omega)) hs hN hk.out).mono ?_); rintro e w2 ⟨⟨A1, A2, A3, A4, A5, k1, k2, k3, k4, k5⟩, rfl, hr2, hn2, hf2, hb2⟩; have hB2 := Below.step hB1 (by omega) hb2; have hZ2 := hZ1.keep hb2 hz1; obtain ⟨⟨z0, z1, z2, z3, z4, z5⟩, z0', z1', z2', z3', z4', z5'⟩ := hZ2.zr6))
  refine bodyPost_ret (v := .tuple #[rv c.raw ⟨A1, A2, A3, A4, A5, k1, k2, k3, k4, k5⟩, .int .i64 0]) (by simp [results, Try.results25, go_sem, z0, z1, z2, z3, z4, z5]) rfl ⟨_, rfl, ?_, hn2, below_set6 hB2 (by omega) _ _ _ _ _ _⟩
  exact RMem.set6 hr2 (hf2 _ hz1) _ _ _ _ _ _
end Go.Proofs.Ytjpoapllbdmggaa
