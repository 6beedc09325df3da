/- The reference of layer 7; the contracts of Raw, Lines and Text on both sides; the walk of the law on Text. -/
import Derived.Test.YtmholdmcmbbdgaaDoorAsciiRaw
import Derived.Test.YtmholdmcmbbdgaaDoorHeadTail
import Derived.Great.BuildSlice
import Derived.Test.YtmholdmcmbbdgaaDoorOrderOf
import Derived.Test.YtmholdmcmbbdgaaDoorGatesFrame
namespace Go.Proofs.YtmholdmcmbbdgaaDoor
open Go.RowKit
set_option linter.unusedVariables false
set_option linter.unusedSimpArgs false

/-- bytes as a string -/
def str (l : List UInt8) : ByteArray := ⟨l.toArray⟩
theorem str_size (l : List UInt8) : (str l).size = l.length := by simp [str, ByteArray.size]
theorem str_app (l m : List UInt8) : str l ++ str m = str (l ++ m) := by
  unfold str
  show (⟨l.toArray⟩ : ByteArray) ++ ⟨m.toArray⟩ = _
  ext1
  simp
theorem str_add {l m : List UInt8} (h : l.length + m.length ≤ 10000000) (w : World) : (Op.stringOp .add (str l) (str m)).run Tryd.prog w = .ok (.string (str (l ++ m))) w := by
  rw [run_string_add_sum w _ _ (by rw [str_size, str_size]; omega), str_app]

/-- a byte that has just been laid, as a string -/
theorem one_string (w : World) (x : Int) (c : UInt8) (hx : x = (c.toNat : Int)) : (convert 58 9 (.slice (some ⟨w.heap.size, 0, none⟩) 1 1)).run Tryd.prog (w.alloc (.cells #[.int .u8 x] 5)) = .ok (.string (str [c])) (w.alloc (.cells #[.int .u8 x] 5)) := by
  subst hx
  have h : Txt w.heap.size (w.alloc (.cells #[.int .u8 (c.toNat : Int)] 5)) (.slice (some ⟨w.heap.size, 0, none⟩) 1 1) [c] := World.ownsRow_lit (base := w.heap.size) (e := 5) (size := 1) w #[.int .u8 (c.toNat : Int)] 1 (Nat.le_refl _) (by decide) rfl
  exact txt_string h

set_option maxRecDepth 100000 in
set_option maxHeartbeats 4000000 in
theorem digits_any (u : Nat) (hu : u ≤ 9999) (w : World) : Calls Tryd.prog 55 #[.int .i64 (u : Int)] w fun e w' => e = .returned (.string (str (Lib.decDigits u))) ∧ Below w.heap.size w w' := by
  have hlen : (Lib.decDigits u).length ≤ 4 := by rw [Lib.decDigits_length]; exact nDigits_le u 3 (by omega)
  have HLN := Lib.hid hlen
  clear hlen
  go_enter Tryd.func55, Tryd.ntmps55
  go_wp2
  go_loopw [0, 3] (fun n s wr => ∃ m : Nat, ∃ l : List UInt8, n = .int .i64 (m : Int) ∧ s = .string (str l) ∧ m ≤ u ∧ Hid (Lib.decDigits u = Lib.decDigits m ++ l) ∧ Below w.heap.size w wr) (fun n _ _ => (intOf n).toNat)
  case atStart => exact ⟨u, [], rfl, rfl, Nat.le_refl _, Lib.hid (by simp), Below.refl _ _⟩
  case round =>
    obtain ⟨m, l, rfl, rfl, hm, hD, hBr⟩ := hrel
    have hll : l.length ≤ 4 := by have h1 := HLN.out; rw [hD.out, List.length_append] at h1; omega
    by_cases h9 : 9 < m
    · have h9i : (9 : Int) < (m : Int) := by omega
      obtain ⟨c, hc⟩ : ∃ c, c = UInt8.ofNat (48 + m % 10) := ⟨_, rfl⟩
      have hcn : (c.toNat : Int) = 48 + (m : Int) % 10 := by rw [hc, UInt8.toNat_ofNat']; omega
      have k1 := one_string wr (48 + (m : Int) % 10) c hcn.symm
      have k2 := fun W => str_add (l := [c]) (m := l) (by simp; omega) W
      have HN := Lib.hid (show Lib.decDigits m = Lib.decDigits (m / 10) ++ [c] by rw [Lib.decDigits, dif_neg (by omega), hc])
      have hw8 : IntKind.u8.wrap (48 + (m : Int) % 10) = 48 + (m : Int) % 10 := by rw [IntKind.wrap_u8]; omega
      clear hc hcn
      go_wp2
      go_roundw
      case rel => exact ⟨m / 10, [c] ++ l, by go_num, rfl, by omega, Lib.hid (by rw [hD.out, HN.out]; simp), hBr.alloc hBr.size _⟩
      case measure => simp [intOf]; omega
    · have h9i : ¬ (9 : Int) < (m : Int) := by omega
      obtain ⟨c, hc⟩ : ∃ c, c = UInt8.ofNat (48 + m) := ⟨_, rfl⟩
      have hcn : (c.toNat : Int) = 48 + (m : Int) := by rw [hc, UInt8.toNat_ofNat']; omega
      have k1 := one_string wr (48 + (m : Int)) c hcn.symm
      have k2 := fun W => str_add (l := [c]) (m := l) (by simp; omega) W
      have HN := Lib.hid (show Lib.decDigits m = [c] by rw [Lib.decDigits, dif_pos (by omega), hc])
      have hw8 : IntKind.u8.wrap (48 + (m : Int)) = 48 + (m : Int) := by rw [IntKind.wrap_u8]; omega
      clear hc hcn
      go_wp2
      go_ret
      exact ⟨by rw [hD.out, HN.out]; rfl, hBr.alloc hBr.size _⟩

theorem dgs_any {x : Int} (h0 : 0 ≤ x) (h1 : x ≤ 9999) (w : World) : Calls Tryd.prog 55 #[.int .i64 x] w fun e w' => e = .returned (.string (str (dgs x))) ∧ Below w.heap.size w w' := by
  have h := digits_any x.toNat (by omega) w
  rw [Int.toNat_of_nonneg h0] at h
  rw [dgs_nat x h0]
  exact h

set_option maxRecDepth 100000 in
set_option maxHeartbeats 4000000 in
theorem line_any (A : Option Addr) (N k : Nat) (f : Nat → Int) (w : World) (hL : IntsAt w w.heap.size A N f) (hf : ∀ j, j < N → 0 ≤ f j ∧ f j ≤ 9999) (hN : N ≤ 1000) :
    Calls Tryd.prog 42 #[.slice A N k] w fun e w' => e = .returned (.string (str (lin f N))) ∧ Below w.heap.size w w' := by
  have HF := Lib.hid hf
  have HLL := Lib.hid hL
  have HP := Lib.hid (fun q (hq : q ≤ N) => par_len (f := f) (n := q) fun j hj => hf j (by omega))
  clear hf hL
  go_enter Tryd.func42, Tryd.ntmps42
  go_wp2
  go_loopw [3, 4] (fun s i wr => ∃ q : Nat, q ≤ N ∧ i = .int .i64 q ∧ s = .string (str (par f q)) ∧ Below w.heap.size w wr) (fun _ i _ => N - (intOf i).toNat)
  case atStart => exact ⟨0, Nat.zero_le _, rfl, rfl, Below.refl _ _⟩
  case round =>
    obtain ⟨q, hq, rfl, rfl, hBr⟩ := hrel
    have hlen := HP.out q hq
    by_cases hlt : q < N
    · obtain ⟨a, rfl, hab, hcs⟩ := (HLL.out.keep hBr) (by omega)
      have y0 := hcs q hlt
      have hf0 := HF.out q hlt
      have hq0 : (0 : Int) ≤ (q : Int) := by omega
      have hq1 : (q : Int) < (N : Int) := by omega
      have hdl := dgs_len hf0.1 hf0.2
      clear hcs
      have D := Lib.hid (dgs_any hf0.1 hf0.2 wr)
      by_cases hz : q = 0
      · have hz1 : ¬ (0 : Int) < (q : Int) := by omega
        have HX := Lib.hid (show par f (q + 1) = par f q ++ dgs (f q) by rw [par_succ, if_pos hz]; simp)
        have k2 := fun W => str_add (l := par f q) (m := dgs (f q)) (by omega) W
        clear hz hlen hdl
        go_wp2_with (go_at_call 55; (with_reducible refine D.out.mono ?_); rintro e w1 ⟨rfl, hb1⟩)
        go_roundw
        case rel => exact ⟨q + 1, by omega, by go_num, by rw [HX.out], Below.step hBr hBr.size hb1⟩
        case measure => simp [intOf]; omega
      · have hz1 : (0 : Int) < (q : Int) := by omega
        have HX := Lib.hid (show par f (q + 1) = par f q ++ [32] ++ dgs (f q) by rw [par_succ, if_neg hz])
        have k1 : ∀ W, (Op.stringOp .add (str (par f q)) ⟨#[32]⟩).run Tryd.prog W = .ok (.string (str (par f q ++ [32]))) W := fun W => str_add (l := par f q) (m := [32]) (by simp only [List.length_cons, List.length_nil]; omega) W
        have k2 := fun W => str_add (l := par f q ++ [32]) (m := dgs (f q)) (by simp only [List.length_append, List.length_cons, List.length_nil]; omega) W
        clear hz hlen hdl
        go_wp2_with (go_at_call 55; (with_reducible refine D.out.mono ?_); rintro e w1 ⟨rfl, hb1⟩)
        go_roundw
        case rel => exact ⟨q + 1, by omega, by go_num, by rw [HX.out, List.append_assoc]; rfl, Below.step hBr hBr.size hb1⟩
        case measure => simp [intOf]; omega
    · obtain rfl : q = N := by omega
      have k1 : ∀ W, (Op.stringOp .add (str (par f q)) ⟨#[10]⟩).run Tryd.prog W = .ok (.string (str (par f q ++ [10]))) W := fun W => str_add (l := par f q) (m := [10]) (by simp only [List.length_cons, List.length_nil]; omega) W
      clear hq hlt hlen
      go_wp2
      go_ret
      exact ⟨rfl, hBr⟩

end Go.Proofs.YtmholdmcmbbdgaaDoor

namespace Go.Proofs.YtmholdmcmbbdgaaDoor
open Go.RowKit
set_option linter.unusedVariables false
set_option linter.unusedSimpArgs false

theorem ints_new {w : World} {cs : Array Value} {n : Nat} {f : Nat → Int} (hc : ∀ j, j < n → cs[j]? = some (.int .i64 (f j))) : IntsAt (w.alloc (.cells cs 3)) (w.alloc (.cells cs 3)).heap.size (some ⟨w.heap.size, 0, none⟩) n f := (Lst.new (B := 0) rfl hc) _ (Below.refl _ _) (Lib.OthersKept.refl _ _ _)
/-- a line whose list has just been laid -/
theorem line_new {n : Nat} {f : Nat → Int} {cs : Array Value} (hc : ∀ j, j < n → cs[j]? = some (.int .i64 (f j))) (hf : ∀ j, j < n → 0 ≤ f j ∧ f j ≤ 9999) (hn : n ≤ 1000) (w : World) : Calls Tryd.prog 42 #[.slice (some ⟨w.heap.size, 0, none⟩) n n] (w.alloc (.cells cs 3)) fun e w' => e = .returned (.string (str (lin f n))) ∧ Below w.heap.size w w' := by
  refine (line_any (some ⟨w.heap.size, 0, none⟩) n n f _ (ints_new hc) hf hn).mono fun e w' h => ⟨h.1, ?_⟩
  have hb : Below w.heap.size w (w.alloc (.cells cs 3)) := (Below.refl _ _).alloc (Nat.le_refl _) _
  exact hb.trans (h.2.mono hb.size)
theorem line_one {x : Int} (hx : 0 ≤ x ∧ x ≤ 9999) (w : World) : Calls Tryd.prog 42 #[.slice (some ⟨w.heap.size, 0, none⟩) 1 1] (w.alloc (.cells #[.int .i64 x] 3)) fun e w' => e = .returned (.string (str (lin (one x) 1))) ∧ Below w.heap.size w w' :=
  line_new (f := one x) (fun j hj => by obtain rfl : j = 0 := by omega
                                        rfl) (fun _ _ => hx) (by omega) w
theorem line_two {x y : Int} (hx : 0 ≤ x ∧ x ≤ 9999) (hy : 0 ≤ y ∧ y ≤ 9999) (w : World) : Calls Tryd.prog 42 #[.slice (some ⟨w.heap.size, 0, none⟩) 2 2] (w.alloc (.cells #[.int .i64 x, .int .i64 y] 3)) fun e w' => e = .returned (.string (str (lin (tri x y x) 2))) ∧ Below w.heap.size w w' :=
  line_new (f := tri x y x) (lst2 rfl) (fun j _ => tri_bd hx hy hx) (by omega) w
theorem line_tri {x y z : Int} (hx : 0 ≤ x ∧ x ≤ 9999) (hy : 0 ≤ y ∧ y ≤ 9999) (hz : 0 ≤ z ∧ z ≤ 9999) (w : World) : Calls Tryd.prog 42 #[.slice (some ⟨w.heap.size, 0, none⟩) 3 3] (w.alloc (.cells #[.int .i64 x, .int .i64 y, .int .i64 z] 3)) fun e w' => e = .returned (.string (str (lin (tri x y z) 3))) ∧ Below w.heap.size w w' :=
  line_new (f := tri x y z) (lst3 rfl) (fun j _ => tri_bd hx hy hz) (by omega) w
theorem line_hd {r : Rw} (h : Bd r) (w : World) : Calls Tryd.prog 42 #[.slice (some ⟨w.heap.size, 0, none⟩) 7 7] (w.alloc (.cells #[.int .i64 r.m, .int .i64 r.ni, .int .i64 r.nl, .int .i64 0, .int .i64 r.na, .int .i64 r.nb, .int .i64 r.nc] 3)) fun e w' => e = .returned (.string (str (lin r.hd 7))) ∧ Below w.heap.size w w' :=
  line_new (f := r.hd) (hd_cells r) (hd_bd h) (by omega) w
/-- a list of three numbers is laid -/
theorem build3 (x y z : Int) (w : World) : (Instr.buildSlice 22 3 #[(0, .int .i64 x), (1, .int .i64 y), (2, .int .i64 z)]).run Tryd.prog w = .ok (.slice (some ⟨w.heap.size, 0, none⟩) 3 3) (w.alloc (.cells #[.int .i64 x, .int .i64 y, .int .i64 z] 3)) := by
  obtain ⟨i0, hi0, hzz0, hs0, hy0⟩ := info_parts info_int
  exact run_buildSlice w 22 3 3 _ _ i0 _ Tryd.underlying22 hi0 hzz0 (by rw [hs0]; decide) (by rw [hs0]; decide) (by rw [hs0]; exact Great.fill_flat [.int .i64 x, .int .i64 y, .int .i64 z] _ (fun v hv => by simp at hv; rcases hv with rfl | rfl | rfl <;> rfl) (by simp))
theorem own_ints7 {w : World} {base : Nat} {e : TypeId} {v : Value} {n : Nat} {f : Nat → Int} (ho : w.ownsRow base e 1 v n (intL f n)) : ∃ A k, v = .slice A n k ∧ IntsAt w w.heap.size A n f ∧ (A = none → n = 0 ∧ k = 0) ∧ ∀ a, A = some a → base ≤ a.block := by
  rcases ho.2 with ⟨rfl, hn⟩ | ⟨q, cap, cur, rfl, hg, hh, r⟩
  · have hn0 : n = 0 := by
      have := intL_len f n
      rw [hn] at this
      simp at this
      omega
    subst hn0
    exact ⟨none, 0, rfl, fun h => absurd h (Nat.not_lt_zero _), fun _ => ⟨rfl, rfl⟩, (fun a h => by cases h)⟩
  · refine ⟨_, cap, rfl, fun hn => ⟨_, rfl, Has.lt (t := e) (cs := cur) hh, fun j hj => ?_⟩, (fun h => by cases h), (fun a h => by cases h; exact hg)⟩
    have e3 : (⟨q, 0, none⟩ : Addr).add j = ⟨q, j, none⟩ := by unfold Addr.add; split <;> simp_all
    rw [e3]
    exact (ho.cellAt _ (by omega)).trans (intL_at f n j hj)
namespace Rw
def u2 (r : Rw) (q : Nat) : List UInt8 := r.t1 ++ ech r.ip q
def u4 (r : Rw) (q : Nat) : List UInt8 := r.t3 r.nl ++ ech r.bd q
def u5 (r : Rw) (q : Nat) : List UInt8 := r.t4 ++ ech r.cn q
theorem u2_0 (r : Rw) : r.t1 = r.u2 0 := by simp [u2, ech]
theorem u4_0 (r : Rw) : r.t3 r.nl = r.u4 0 := by simp [u4, ech]
theorem u5_0 (r : Rw) : r.u4 r.nb = r.u5 0 := by simp [u5, u4, t4, ech]
theorem u2_n (r : Rw) : r.u2 r.ni = r.t3 0 := by simp [u2, t3, t2, lts]
theorem u5_n (r : Rw) : r.u5 r.nc = r.t6 0 := by simp [u5, t6, t5, gts]
theorem u2_s (r : Rw) (q : Nat) : r.u2 q ++ lin (one (r.ip q)) 1 = r.u2 (q + 1) := by simp [u2, ech, List.append_assoc]
theorem u4_s (r : Rw) (q : Nat) : r.u4 q ++ lin (one (r.bd q)) 1 = r.u4 (q + 1) := by simp [u4, ech, List.append_assoc]
theorem u5_s (r : Rw) (q : Nat) : r.u5 q ++ lin (one (r.cn q)) 1 = r.u5 (q + 1) := by simp [u5, ech, List.append_assoc]
theorem u_len {r : Rw} (h : Bd r) : (∀ q, q ≤ r.ni → (r.u2 q).length ≤ 7000) ∧ (∀ q, q ≤ r.nb → (r.u4 q).length ≤ 31000) ∧ ∀ q, q ≤ r.nc → (r.u5 q).length ≤ 32000 := by
  obtain ⟨l1, l2, l3, l4, l5, l6⟩ := t_len h
  have := h.n; have := h.nb; have := h.nc
  refine ⟨fun q hq => ?_, fun q hq => ?_, fun q hq => ?_⟩
  · have := ech_len (n := q) fun j hj => h.ip j (by omega)
    unfold u2; rw [List.length_append]; omega
  · have := ech_len (n := q) fun j hj => h.bd j (by omega)
    have := l3 r.nl (Nat.le_refl _)
    unfold u4; rw [List.length_append]; omega
  · have := ech_len (n := q) fun j hj => h.cn j (by omega)
    unfold u5; rw [List.length_append]; omega
end Rw
/-- a line more -/
theorem add_line {l m n : List UInt8} (h : l ++ m = n) (hl : l.length ≤ 100000) (hm : m.length ≤ 100000) (w : World) : (Op.stringOp .add (str l) (str m)).run Tryd.prog w = .ok (.string (str n)) w := by
  rw [← h]; exact str_add (by omega) w
theorem one_len {x : Int} (h : 0 ≤ x ∧ x ≤ 9999) : (lin (one x) 1).length ≤ 100000 := by
  have := lin_len (f := one x) (n := 1) fun _ _ => h
  omega
theorem tri_len {x y z : Int} {n : Nat} (hx : 0 ≤ x ∧ x ≤ 9999) (hy : 0 ≤ y ∧ y ≤ 9999) (hz : 0 ≤ z ∧ z ≤ 9999) (hn : n ≤ 3) : (lin (tri x y z) n).length ≤ 100000 := by
  have := lin_len (f := tri x y z) (n := n) fun j _ => tri_bd hx hy hz
  omega

set_option maxRecDepth 100000 in
set_option maxHeartbeats 16000000 in
theorem rWritten_any (r : Rw) (p : Rp) (w : World) (hk : r.chk = 0) (hm : RMem w w.heap.size r p) :
    Calls Tryd.prog 27 #[rv r p] w fun e w' => e = .returned (.string (str r.txt)) ∧ Below w.heap.size w w' := by
  have hbd := Bd.of hk
  have hn := hbd.n
  have hnb := hbd.nb
  have hnc := hbd.nc
  obtain ⟨l1, l2, l3, l4, l5, l6⟩ := Rw.t_len hbd
  obtain ⟨m2, m4, m5⟩ := Rw.u_len hbd
  obtain ⟨hB0, hH0⟩ := rbox_new w r p
  obtain ⟨i0, hi0, hzz0, hs0, hy0⟩ := info_parts info_int
  have HBD := Lib.hid hbd
  have L3 := Lib.hid l3
  have L6 := Lib.hid l6
  have M2 := Lib.hid m2
  have M4 := Lib.hid m4
  have M5 := Lib.hid m5
  have D0 := line_hd hbd (w.alloc (.cells (rcL r p) 27))
  simp only [World.size_alloc] at D0
  have D1 := Lib.hid D0
  clear D0
  have k1 : ∀ W, (Op.stringOp .add ⟨#[97, 97, 103, 32]⟩ (str (lin r.hd 7))).run Tryd.prog W = .ok (.string (str (r.u2 0))) W := add_line (l := [97, 97, 103, 32]) (m := lin r.hd 7) ((show _ = r.t1 from rfl).trans r.u2_0) (by decide) (by have := lin_len (hd_bd hbd); omega)
  obtain ⟨x0, x1, x2, x3, x4, x5⟩ := hH0.rbox
  clear hk hbd l1 l2 l3 l4 l5 l6 m2 m4 m5
  go_enter Tryd.func27, Tryd.ntmps27
  go_wp2_with (go_at_call 42; (with_reducible refine D1.out.mono ?_); rintro e w1 ⟨rfl, hb0⟩; have hb1 : Below (w.alloc (.cells (rcL r p) 27)).heap.size (w.alloc (.cells (rcL r p) 27)) w1 := (by simpa only [World.size_alloc] using hb0); have hB1 : Below w.heap.size w w1 := Below.step hB0 hB0.size hb1; have hH1 := hH0.keep hb1 hH0.lt; have hz1 := hH1.lt)
  have HB1 := Lib.hid hB1
  clear hb0 hb1 hB1 k1 x0 x1 x2 x3 x4 x5 D1
  go_loopw [3, 4] (fun s i wr => ∃ q : Nat, q ≤ r.ni ∧ i = .int .i64 q ∧ s = .string (str (r.u2 q)) ∧ Below w1.heap.size w1 wr) (fun _ i _ => r.ni - (intOf i).toNat)
  case atStart => exact ⟨0, Nat.zero_le _, rfl, rfl, Below.refl _ _⟩
  case round =>
    obtain ⟨q, hq, rfl, rfl, hBr⟩ := hrel
    have hsz := hBr.size
    obtain ⟨x0, x1, x2, x3, x4, x5⟩ := (hH1.keep hBr hz1).rbox
    by_cases hlt : q < r.ni
    · obtain ⟨a, hA, hab, hcs⟩ := (hm.ip.keep (HB1.out.trans (hBr.mono HB1.out.size))) (by omega)
      have y0 := hcs q hlt
      have hq0 : (0 : Int) ≤ (q : Int) := by omega
      have hq1 : (q : Int) < (r.ni : Int) := by omega
      have D := Lib.hid (line_one (HBD.out.ip q hlt) wr)
      have k1 := add_line (r.u2_s q) (by have := M2.out q hq; omega) (one_len (HBD.out.ip q hlt))
      rw [hA] at x1
      clear hcs hA
      go_wp2_with (go_at_call 42; (with_reducible refine D.out.mono ?_); rintro e w2 ⟨rfl, hb2⟩)
      go_roundw
      case rel => exact ⟨q + 1, by omega, by go_num, rfl, hBr.trans (hb2.mono hsz)⟩
      case measure => simp [intOf]; omega
    · have hqn1 : ¬ (q : Int) < (r.ni : Int) := by omega
      have e1 : r.u2 q = r.t3 0 := by rw [show q = r.ni by omega, Rw.u2_n]
      rw [e1]
      have HB2 := Lib.hid hBr
      clear e1 hq hlt hsz hBr
      go_wp2
      clear x0 x1 x2 x3 x4 x5
      go_loopw [3, 5] (fun s i wr => ∃ q : Nat, q ≤ r.nl ∧ i = .int .i64 q ∧ s = .string (str (r.t3 q)) ∧ Below w1.heap.size w1 wr) (fun _ i _ => r.nl - (intOf i).toNat)
      case atStart => exact ⟨0, Nat.zero_le _, rfl, rfl, HB2.out⟩
      case round =>
        clear hqn1
        obtain ⟨q, hq, rfl, rfl, hBr⟩ := hrel
        have hsz := hBr.size
        obtain ⟨x0, x1, x2, x3, x4, x5⟩ := (hH1.keep hBr hz1).rbox
        by_cases hlt : q < r.nl
        · obtain ⟨a, hA, hab, hcs⟩ := (hm.la.keep (HB1.out.trans (hBr.mono HB1.out.size))) (by omega)
          obtain ⟨y0, y1, y2⟩ := hcs q hlt
          have hq0 : (0 : Int) ≤ (q : Int) := by omega
          have hq1 : (q : Int) < (r.nl : Int) := by omega
          have hx := HBD.out.ll q hlt
          have hy := HBD.out.la q hlt
          have hT := r.t3_succ q
          obtain ⟨x, hxe⟩ : ∃ x, x = r.ll q := ⟨_, rfl⟩
          obtain ⟨y, hye⟩ : ∃ y, y = r.la q := ⟨_, rfl⟩
          obtain ⟨z, hze⟩ : ∃ z, z = r.lb q := ⟨_, rfl⟩
          rw [← hxe] at y0 hx hT
          rw [← hye] at y1 hy hT
          rw [← hze] at y2 hT
          rw [hA] at x2
          clear hcs hA hxe hye hze
          have HXx := Lib.hid hx
          have HYy := Lib.hid hy
          have hb4 : Below w1.heap.size w1 (wr.alloc (.cells #[.int .i64 x, .int .i64 y, .int .i64 z] 24)) := hBr.alloc hsz _
          have hs4 : w1.heap.size ≤ (wr.alloc (.cells #[.int .i64 x, .int .i64 y, .int .i64 z] 24)).heap.size := hb4.size
          have hb5 : Below w1.heap.size w1 ((wr.alloc (.cells #[.int .i64 x, .int .i64 y, .int .i64 z] 24)).alloc (.cells #[.int .i64 x, .int .i64 y] 3)) := hb4.alloc hs4 _
          have hown : ((wr.alloc (.cells #[.int .i64 x, .int .i64 y, .int .i64 z] 24)).alloc (.cells #[.int .i64 x, .int .i64 y] 3)).ownsRow (wr.heap.size + 1) 3 1 (.slice (some ⟨wr.heap.size + 1, 0, none⟩) 2 2) 2 [.int .i64 x, .int .i64 y] := by
            have h := World.ownsRow_lit (base := wr.heap.size + 1) (e := 3) (size := 1) (wr.alloc (.cells #[.int .i64 x, .int .i64 y, .int .i64 z] 24)) #[.int .i64 x, .int .i64 y] 2 (by simp) (by decide) rfl
            simpa only [World.size_alloc] using h
          have hD2 : Has ((wr.alloc (.cells #[.int .i64 x, .int .i64 y, .int .i64 z] 24)).alloc (.cells #[.int .i64 x, .int .i64 y] 3)) wr.heap.size 24 #[.int .i64 x, .int .i64 y, .int .i64 z] := (Has.new _ _ _).al _
          have HB5 := Lib.hid hb5
          have HD2 := Lib.hid hD2
          have HT := Lib.hid hT
          clear hx hy hT hb4 hb5 hs4 hD2
          by_cases h1 : z = 1
          · subst h1
            have HT2 : Hid (r.t3 q ++ lin (tri x y 1) 3 = r.t3 (q + 1)) := by
              have h := HT.out
              rw [show lt3 x 1 = 1 from rfl, show ltn 1 = 3 from rfl] at h
              exact h
            have k1 := add_line HT2.out (by have := L3.out q hq; omega) (tri_len HXx.out HYy.out ⟨by omega, by omega⟩ (by omega))
            go_wp2_with (first | (go_loud (at_builtin; refine wpList_append_own _ rfl _ _ 22 rfl (wr.heap.size + 1) 3 i0 (.int .i64 0) 1 8 Tryd.underlying22 hi0 hzz0 hs0 hy0 rfl (by decide) _ _ _ rfl (hown.alloc _) ⟨wr.heap.size + 1 + 1, 0, none⟩ 1 1 [.int .i64 1] rfl rfl (by (have := cell_one_new ((wr.alloc (.cells #[.int .i64 x, .int .i64 y, .int .i64 1] 24)).alloc (.cells #[.int .i64 x, .int .i64 y] 3)) (.int .i64 1) 3; simpa only [World.size_alloc] using this)) (by simp [Value.oneCell']) (by unfold maxLen; decide) (by decide) (by simp; try omega) ?_; intro v8 w8 ho8 hg8 _; have hb8 : Below w1.heap.size w1 w8 := app_below HB5.out HB5.out.size (by omega) hown hg8; have hD8 : Has w8 wr.heap.size 24 #[.int .i64 x, .int .i64 y, .int .i64 1] := app_has HD2.out hown hg8 (by omega); have z2 : w8.cell? ⟨wr.heap.size, 2, none⟩ = some (.int .i64 1) := hD8.cell 2; have ho9 : w8.ownsRow (wr.heap.size + 1) 3 1 v8 3 (intL (tri x y 1) 3) := ho8; obtain ⟨A9, k9, hv9, hI9, _, _⟩ := own_ints7 ho9; subst hv9; have D := Lib.hid (line_any A9 3 k9 (tri x y 1) w8 hI9 (fun j _ => tri_bd HXx.out HYy.out ⟨by omega, by omega⟩) (by omega)); have HB8 := Lib.hid hb8)) | (go_at_call 42; (with_reducible refine D.out.mono ?_); rintro e w9 ⟨rfl, hb9⟩))
            go_roundw
            case rel => exact ⟨q + 1, by omega, by go_num, rfl, HB8.out.trans (hb9.mono HB8.out.size)⟩
            case measure => simp [intOf]; omega
          · by_cases h2 : z = 2
            · subst h2
              have HT2 : Hid (r.t3 q ++ lin (tri x y x) 3 = r.t3 (q + 1)) := by
                have h := HT.out
                rw [show lt3 x 2 = x from rfl, show ltn 2 = 3 from rfl] at h
                exact h
              have k1 := add_line HT2.out (by have := L3.out q hq; omega) (tri_len HXx.out HYy.out HXx.out (by omega))
              go_wp2_with (first | (go_loud (at_builtin; refine wpList_append_own _ rfl _ _ 22 rfl (wr.heap.size + 1) 3 i0 (.int .i64 0) 1 8 Tryd.underlying22 hi0 hzz0 hs0 hy0 rfl (by decide) _ _ _ rfl (hown.alloc _) ⟨wr.heap.size + 1 + 1, 0, none⟩ 1 1 [.int .i64 x] rfl rfl (by (have := cell_one_new ((wr.alloc (.cells #[.int .i64 x, .int .i64 y, .int .i64 2] 24)).alloc (.cells #[.int .i64 x, .int .i64 y] 3)) (.int .i64 x) 3; simpa only [World.size_alloc] using this)) (by simp [Value.oneCell']) (by unfold maxLen; decide) (by decide) (by simp; try omega) ?_; intro v8 w8 ho8 hg8 _; have hb8 : Below w1.heap.size w1 w8 := app_below HB5.out HB5.out.size (by omega) hown hg8; have hD8 : Has w8 wr.heap.size 24 #[.int .i64 x, .int .i64 y, .int .i64 2] := app_has HD2.out hown hg8 (by omega); have z2 : w8.cell? ⟨wr.heap.size, 2, none⟩ = some (.int .i64 2) := hD8.cell 2; have ho9 : w8.ownsRow (wr.heap.size + 1) 3 1 v8 3 (intL (tri x y x) 3) := ho8; obtain ⟨A9, k9, hv9, hI9, _, _⟩ := own_ints7 ho9; subst hv9; have D := Lib.hid (line_any A9 3 k9 (tri x y x) w8 hI9 (fun j _ => tri_bd HXx.out HYy.out HXx.out) (by omega)); have HB8 := Lib.hid hb8)) | (go_at_call 42; (with_reducible refine D.out.mono ?_); rintro e w9 ⟨rfl, hb9⟩))
              go_roundw
              case rel => exact ⟨q + 1, by omega, by go_num, rfl, HB8.out.trans (hb9.mono HB8.out.size)⟩
              case measure => simp [intOf]; omega
            · have HT2 : Hid (r.t3 q ++ lin (tri x y x) 2 = r.t3 (q + 1)) := by
                have h := HT.out
                unfold lt3 ltn at h
                rw [if_neg h1, if_neg h1, if_neg h2] at h
                exact h
              have k1 := add_line HT2.out (by have := L3.out q hq; omega) (tri_len HXx.out HYy.out HXx.out (by omega))
              have D0 := line_two HXx.out HYy.out (wr.alloc (.cells #[.int .i64 x, .int .i64 y, .int .i64 z] 24))
              simp only [World.size_alloc] at D0
              have D := Lib.hid D0
              clear D0
              have HB4 : Hid (Below w1.heap.size w1 (wr.alloc (.cells #[.int .i64 x, .int .i64 y, .int .i64 z] 24))) := hBr.alloc hsz _
              have e1 : (z == 1) = false := by simpa using h1
              have e2 : (z == 2) = false := by simpa using h2
              clear h1 h2 hown
              go_wp2_with (go_at_call 42; (with_reducible refine D.out.mono ?_); rintro e w9 ⟨rfl, hb9⟩)
              go_roundw
              case rel => exact ⟨q + 1, by omega, by go_num, rfl, HB4.out.trans ((show Below (wr.heap.size + 1) _ _ from hb9).mono (by omega))⟩
              case measure => simp [intOf]; omega
        · have hqn2 : ¬ (q : Int) < (r.nl : Int) := by omega
          have e1 : r.t3 q = r.u4 0 := by rw [show q = r.nl by omega, Rw.u4_0]
          rw [e1]
          have HB3 := Lib.hid hBr
          clear e1 hq hlt hsz hBr
          go_wp2
          clear x0 x1 x2 x3 x4 x5
          go_loopw [3, 8] (fun s i wr => ∃ q : Nat, q ≤ r.nb ∧ i = .int .i64 q ∧ s = .string (str (r.u4 q)) ∧ Below w1.heap.size w1 wr) (fun _ i _ => r.nb - (intOf i).toNat)
          case atStart => exact ⟨0, Nat.zero_le _, rfl, rfl, HB3.out⟩
          case round =>
            clear hqn2
            obtain ⟨q, hq, rfl, rfl, hBr⟩ := hrel
            have hsz := hBr.size
            obtain ⟨x0, x1, x2, x3, x4, x5⟩ := (hH1.keep hBr hz1).rbox
            by_cases hlt : q < r.nb
            · obtain ⟨a, hA, hab, hcs⟩ := (hm.bd.keep (HB1.out.trans (hBr.mono HB1.out.size))) (by omega)
              have y0 := hcs q hlt
              have hq0 : (0 : Int) ≤ (q : Int) := by omega
              have hq1 : (q : Int) < (r.nb : Int) := by omega
              have D := Lib.hid (line_one (HBD.out.bd q hlt) wr)
              have k1 := add_line (r.u4_s q) (by have := M4.out q hq; omega) (one_len (HBD.out.bd q hlt))
              rw [hA] at x4
              clear hcs hA
              go_wp2_with (go_at_call 42; (with_reducible refine D.out.mono ?_); rintro e w2 ⟨rfl, hb2⟩)
              go_roundw
              case rel => exact ⟨q + 1, by omega, by go_num, rfl, hBr.trans (hb2.mono hsz)⟩
              case measure => simp [intOf]; omega
            · have hqn3 : ¬ (q : Int) < (r.nb : Int) := by omega
              have e1 : r.u4 q = r.u5 0 := by rw [show q = r.nb by omega, Rw.u5_0]
              rw [e1]
              have HB4 := Lib.hid hBr
              clear e1 hq hlt hsz hBr
              go_wp2
              clear x0 x1 x2 x3 x4 x5
              go_loopw [3, 9] (fun s i wr => ∃ q : Nat, q ≤ r.nc ∧ i = .int .i64 q ∧ s = .string (str (r.u5 q)) ∧ Below w1.heap.size w1 wr) (fun _ i _ => r.nc - (intOf i).toNat)
              case atStart => exact ⟨0, Nat.zero_le _, rfl, rfl, HB4.out⟩
              case round =>
                clear hqn3
                obtain ⟨q, hq, rfl, rfl, hBr⟩ := hrel
                have hsz := hBr.size
                obtain ⟨x0, x1, x2, x3, x4, x5⟩ := (hH1.keep hBr hz1).rbox
                by_cases hlt : q < r.nc
                · obtain ⟨a, hA, hab, hcs⟩ := (hm.cn.keep (HB1.out.trans (hBr.mono HB1.out.size))) (by omega)
                  have y0 := hcs q hlt
                  have hq0 : (0 : Int) ≤ (q : Int) := by omega
                  have hq1 : (q : Int) < (r.nc : Int) := by omega
                  have D := Lib.hid (line_one (HBD.out.cn q hlt) wr)
                  have k1 := add_line (r.u5_s q) (by have := M5.out q hq; omega) (one_len (HBD.out.cn q hlt))
                  rw [hA] at x5
                  clear hcs hA
                  go_wp2_with (go_at_call 42; (with_reducible refine D.out.mono ?_); rintro e w2 ⟨rfl, hb2⟩)
                  go_roundw
                  case rel => exact ⟨q + 1, by omega, by go_num, rfl, hBr.trans (hb2.mono hsz)⟩
                  case measure => simp [intOf]; omega
                · have hqn4 : ¬ (q : Int) < (r.nc : Int) := by omega
                  have e1 : r.u5 q = r.t6 0 := by rw [show q = r.nc by omega, Rw.u5_n]
                  rw [e1]
                  have HB5 := Lib.hid hBr
                  clear e1 hq hlt hsz hBr
                  go_wp2
                  clear x0 x1 x2 x3 x4 x5
                  go_loopw [3, 10] (fun s i wr => ∃ q : Nat, q ≤ r.na ∧ i = .int .i64 q ∧ s = .string (str (r.t6 q)) ∧ Below w1.heap.size w1 wr) (fun _ i _ => r.na - (intOf i).toNat)
                  case atStart => exact ⟨0, Nat.zero_le _, rfl, rfl, HB5.out⟩
                  case round =>
                    clear hqn4
                    obtain ⟨q, hq, rfl, rfl, hBr⟩ := hrel
                    have hsz := hBr.size
                    have hBox := (hH1.keep hBr hz1).rbox
                    obtain ⟨x0, x1, x2, x3, x4, x5⟩ := hBox
                    by_cases hlt : q < r.na
                    · obtain ⟨a, hA, hab, hcs⟩ := (hm.an.keep (HB1.out.trans (hBr.mono HB1.out.size))) (by omega)
                      obtain ⟨y0, y1, y2⟩ := hcs q hlt
                      have hq0 : (0 : Int) ≤ (q : Int) := by omega
                      have hq1 : (q : Int) < (r.na : Int) := by omega
                      have D : Hid (Calls Tryd.prog 42 #[.slice (some ⟨wr.heap.size, 0, none⟩) 3 3] (wr.alloc (.cells #[.int .i64 (r.gl q), .int .i64 (r.ga q), .int .i64 (r.gb q)] 3)).drew fun e w' => e = .returned (.string (str (lin (tri (r.gl q) (r.ga q) (r.gb q)) 3))) ∧ Below wr.drew.heap.size wr.drew w') := line_tri (HBD.out.gl q hlt) (HBD.out.ga q hlt) (HBD.out.gb q hlt) wr.drew
                      have k1 := add_line (r.t6_succ q) (by have := L6.out q hq; omega) (tri_len (HBD.out.gl q hlt) (HBD.out.ga q hlt) (HBD.out.gb q hlt) (by omega))
                      have k3 := build3 (r.gl q) (r.ga q) (r.gb q)
                      rw [hA] at x3
                      have hS0 : (fun w' : World => w'.cell? ⟨w.heap.size, 3, none⟩ = some (.slice (some a) r.na p.k3) ∧ w'.cell? (a.add (q * 3)) = some (.int .i64 (r.gl q)) ∧ w'.cell? ⟨(a.add (q * 3)).block, (a.add (q * 3)).off + 1, none⟩ = some (.int .i64 (r.ga q)) ∧ w'.cell? ⟨(a.add (q * 3)).block, (a.add (q * 3)).off + 2, none⟩ = some (.int .i64 (r.gb q))) wr.drew := ⟨x3, y0, y1, y2⟩
                      have HK : Hid (∀ W, Below wr.drew.heap.size wr.drew W → (fun w' : World => w'.cell? ⟨w.heap.size, 3, none⟩ = some (.slice (some a) r.na p.k3) ∧ w'.cell? (a.add (q * 3)) = some (.int .i64 (r.gl q)) ∧ w'.cell? ⟨(a.add (q * 3)).block, (a.add (q * 3)).off + 1, none⟩ = some (.int .i64 (r.ga q)) ∧ w'.cell? ⟨(a.add (q * 3)).block, (a.add (q * 3)).off + 2, none⟩ = some (.int .i64 (r.gb q))) W) := fun W hb => ⟨(hb.cell (cell_lt hS0.1)).trans hS0.1, (hb.cell (cell_lt hS0.2.1)).trans hS0.2.1, (hb.cell (cell_lt hS0.2.2.1)).trans hS0.2.2.1, (hb.cell (cell_lt hS0.2.2.2)).trans hS0.2.2.2⟩
                      have HS0 := Lib.hid hS0
                      clear hcs hA hS0
                      go_wp2
                      refine wp_slots (fun f => Sz f 144 ∧ Slot f 1 (.pointer (some ⟨w.heap.size, 0, none⟩)) ∧ Slot f 3 (.string (str (r.t6 q))) ∧ Slot f 10 (.int .i64 (q : Int))) ⟨⟨rfl, rfl⟩, ⟨rfl⟩, ⟨rfl⟩, ⟨rfl⟩⟩ fun a0 hA0 hR => ?_
                      obtain ⟨hZ, hs1, hs3, hs10⟩ := hR
                      have HA := Lib.hid hA0
                      clear hA0 x0 x1 x2 x3 x4 x5 y0 y1 y2
                      have hS0 := HS0.out
                      refine wp_region_T (fun w' : World => w'.cell? ⟨w.heap.size, 3, none⟩ = some (.slice (some a) r.na p.k3) ∧ w'.cell? (a.add (q * 3)) = some (.int .i64 (r.gl q)) ∧ w'.cell? ⟨(a.add (q * 3)).block, (a.add (q * 3)).off + 1, none⟩ = some (.int .i64 (r.ga q)) ∧ w'.cell? ⟨(a.add (q * 3)).block, (a.add (q * 3)).off + 2, none⟩ = some (.int .i64 (r.gb q))) 23 (by kernel_rfl) ?_
                      refine WT.h ?_
                      (refine wt_move 0 3 rfl rfl (by kernel_rfl) (by kernel_rfl) (by kernel_rfl) (by kernel_rfl) (fun _ _ _ h => h) rfl hS0 (by (repeat (first | (refine slot_hit (N := 144) ?_ (by rfl); (repeat (refine sz_put ?_)); assumption; done) | (apply slot_miss; focus rfl))); all_goals assumption) rfl ?_); (refine wt_take1 1 1 (v := ?_) rfl rfl (by kernel_rfl) (by kernel_rfl) (by kernel_rfl) (by kernel_rfl) (fun _ _ _ h => h) rfl hS0 (by (repeat (first | (refine slot_hit (N := 144) ?_ (by rfl); (repeat (refine sz_put ?_)); assumption; done) | (apply slot_miss; focus rfl))); all_goals assumption) (fun ev hk hv0 w hS => ?_) ?_; rotate_left; focus (obtain ⟨j3, j4, j5, j6⟩ := hS; go_simp; rfl)); (refine wt_take1 2 122 (v := ?_) rfl rfl (by kernel_rfl) (by kernel_rfl) (by kernel_rfl) (by kernel_rfl) (fun _ _ _ h => h) rfl hS0 (by (repeat (first | (refine slot_hit (N := 144) ?_ (by rfl); (repeat (refine sz_put ?_)); assumption; done) | (apply slot_miss; focus rfl))); all_goals assumption) (fun ev hk hv0 w hS => ?_) ?_; rotate_left; focus (obtain ⟨j3, j4, j5, j6⟩ := hS; go_simp; rfl)); (refine wt_move 3 10 rfl rfl (by kernel_rfl) (by kernel_rfl) (by kernel_rfl) (by kernel_rfl) (fun _ _ _ h => h) rfl hS0 (by (repeat (first | (refine slot_hit (N := 144) ?_ (by rfl); (repeat (refine sz_put ?_)); assumption; done) | (apply slot_miss; focus rfl))); all_goals assumption) rfl ?_); (refine wt_take2 4 123 124 (v := ?_) rfl rfl (by kernel_rfl) (by kernel_rfl) (by kernel_rfl) (by kernel_rfl) (fun _ _ _ h => h) rfl hS0 (by (repeat (first | (refine slot_hit (N := 144) ?_ (by rfl); (repeat (refine sz_put ?_)); assumption; done) | (apply slot_miss; focus rfl))); all_goals assumption) (by (repeat (first | (refine slot_hit (N := 144) ?_ (by rfl); (repeat (refine sz_put ?_)); assumption; done) | (apply slot_miss; focus rfl))); all_goals assumption) (fun ev hk hv0 hv1 w hS => ?_) ?_; rotate_left; focus (obtain ⟨j3, j4, j5, j6⟩ := hS; go_simp; rfl)); (refine wt_take1 5 125 (v := ?_) rfl rfl (by kernel_rfl) (by kernel_rfl) (by kernel_rfl) (by kernel_rfl) (fun _ _ _ h => h) rfl hS0 (by (repeat (first | (refine slot_hit (N := 144) ?_ (by rfl); (repeat (refine sz_put ?_)); assumption; done) | (apply slot_miss; focus rfl))); all_goals assumption) (fun ev hk hv0 w hS => ?_) ?_; rotate_left; focus (obtain ⟨j3, j4, j5, j6⟩ := hS; go_simp; rfl)); (refine wt_take1 6 126 (v := ?_) rfl rfl (by kernel_rfl) (by kernel_rfl) (by kernel_rfl) (by kernel_rfl) (fun _ _ _ h => h) rfl hS0 (by (repeat (first | (refine slot_hit (N := 144) ?_ (by rfl); (repeat (refine sz_put ?_)); assumption; done) | (apply slot_miss; focus rfl))); all_goals assumption) (fun ev hk hv0 w hS => ?_) ?_; rotate_left; focus (obtain ⟨j3, j4, j5, j6⟩ := hS; go_simp; rfl)); (refine wt_take1 7 1 (v := ?_) rfl rfl (by kernel_rfl) (by kernel_rfl) (by kernel_rfl) (by kernel_rfl) (fun _ _ _ h => h) rfl hS0 (by (repeat (first | (refine slot_hit (N := 144) ?_ (by rfl); (repeat (refine sz_put ?_)); assumption; done) | (apply slot_miss; focus rfl))); all_goals assumption) (fun ev hk hv0 w hS => ?_) ?_; rotate_left; focus (obtain ⟨j3, j4, j5, j6⟩ := hS; go_simp; rfl)); (refine wt_take1 8 128 (v := ?_) rfl rfl (by kernel_rfl) (by kernel_rfl) (by kernel_rfl) (by kernel_rfl) (fun _ _ _ h => h) rfl hS0 (by (repeat (first | (refine slot_hit (N := 144) ?_ (by rfl); (repeat (refine sz_put ?_)); assumption; done) | (apply slot_miss; focus rfl))); all_goals assumption) (fun ev hk hv0 w hS => ?_) ?_; rotate_left; focus (obtain ⟨j3, j4, j5, j6⟩ := hS; go_simp; rfl)); (refine wt_move 9 10 rfl rfl (by kernel_rfl) (by kernel_rfl) (by kernel_rfl) (by kernel_rfl) (fun _ _ _ h => h) rfl hS0 (by (repeat (first | (refine slot_hit (N := 144) ?_ (by rfl); (repeat (refine sz_put ?_)); assumption; done) | (apply slot_miss; focus rfl))); all_goals assumption) rfl ?_); (refine wt_take2 10 129 130 (v := ?_) rfl rfl (by kernel_rfl) (by kernel_rfl) (by kernel_rfl) (by kernel_rfl) (fun _ _ _ h => h) rfl hS0 (by (repeat (first | (refine slot_hit (N := 144) ?_ (by rfl); (repeat (refine sz_put ?_)); assumption; done) | (apply slot_miss; focus rfl))); all_goals assumption) (by (repeat (first | (refine slot_hit (N := 144) ?_ (by rfl); (repeat (refine sz_put ?_)); assumption; done) | (apply slot_miss; focus rfl))); all_goals assumption) (fun ev hk hv0 hv1 w hS => ?_) ?_; rotate_left; focus (obtain ⟨j3, j4, j5, j6⟩ := hS; go_simp; rfl)); (refine wt_take1 11 131 (v := ?_) rfl rfl (by kernel_rfl) (by kernel_rfl) (by kernel_rfl) (by kernel_rfl) (fun _ _ _ h => h) rfl hS0 (by (repeat (first | (refine slot_hit (N := 144) ?_ (by rfl); (repeat (refine sz_put ?_)); assumption; done) | (apply slot_miss; focus rfl))); all_goals assumption) (fun ev hk hv0 w hS => ?_) ?_; rotate_left; focus (obtain ⟨j3, j4, j5, j6⟩ := hS; go_simp; rfl)); (refine wt_take1 12 132 (v := ?_) rfl rfl (by kernel_rfl) (by kernel_rfl) (by kernel_rfl) (by kernel_rfl) (fun _ _ _ h => h) rfl hS0 (by (repeat (first | (refine slot_hit (N := 144) ?_ (by rfl); (repeat (refine sz_put ?_)); assumption; done) | (apply slot_miss; focus rfl))); all_goals assumption) (fun ev hk hv0 w hS => ?_) ?_; rotate_left; focus (obtain ⟨j3, j4, j5, j6⟩ := hS; go_simp; rfl)); (refine wt_take1 13 1 (v := ?_) rfl rfl (by kernel_rfl) (by kernel_rfl) (by kernel_rfl) (by kernel_rfl) (fun _ _ _ h => h) rfl hS0 (by (repeat (first | (refine slot_hit (N := 144) ?_ (by rfl); (repeat (refine sz_put ?_)); assumption; done) | (apply slot_miss; focus rfl))); all_goals assumption) (fun ev hk hv0 w hS => ?_) ?_; rotate_left; focus (obtain ⟨j3, j4, j5, j6⟩ := hS; go_simp; rfl)); (refine wt_take1 14 134 (v := ?_) rfl rfl (by kernel_rfl) (by kernel_rfl) (by kernel_rfl) (by kernel_rfl) (fun _ _ _ h => h) rfl hS0 (by (repeat (first | (refine slot_hit (N := 144) ?_ (by rfl); (repeat (refine sz_put ?_)); assumption; done) | (apply slot_miss; focus rfl))); all_goals assumption) (fun ev hk hv0 w hS => ?_) ?_; rotate_left; focus (obtain ⟨j3, j4, j5, j6⟩ := hS; go_simp; rfl)); (refine wt_move 15 10 rfl rfl (by kernel_rfl) (by kernel_rfl) (by kernel_rfl) (by kernel_rfl) (fun _ _ _ h => h) rfl hS0 (by (repeat (first | (refine slot_hit (N := 144) ?_ (by rfl); (repeat (refine sz_put ?_)); assumption; done) | (apply slot_miss; focus rfl))); all_goals assumption) rfl ?_); (refine wt_take2 16 135 136 (v := ?_) rfl rfl (by kernel_rfl) (by kernel_rfl) (by kernel_rfl) (by kernel_rfl) (fun _ _ _ h => h) rfl hS0 (by (repeat (first | (refine slot_hit (N := 144) ?_ (by rfl); (repeat (refine sz_put ?_)); assumption; done) | (apply slot_miss; focus rfl))); all_goals assumption) (by (repeat (first | (refine slot_hit (N := 144) ?_ (by rfl); (repeat (refine sz_put ?_)); assumption; done) | (apply slot_miss; focus rfl))); all_goals assumption) (fun ev hk hv0 hv1 w hS => ?_) ?_; rotate_left; focus (obtain ⟨j3, j4, j5, j6⟩ := hS; go_simp; rfl)); (refine wt_take1 17 137 (v := ?_) rfl rfl (by kernel_rfl) (by kernel_rfl) (by kernel_rfl) (by kernel_rfl) (fun _ _ _ h => h) rfl hS0 (by (repeat (first | (refine slot_hit (N := 144) ?_ (by rfl); (repeat (refine sz_put ?_)); assumption; done) | (apply slot_miss; focus rfl))); all_goals assumption) (fun ev hk hv0 w hS => ?_) ?_; rotate_left; focus (obtain ⟨j3, j4, j5, j6⟩ := hS; go_simp; rfl)); (refine wt_take1 18 138 (v := ?_) rfl rfl (by kernel_rfl) (by kernel_rfl) (by kernel_rfl) (by kernel_rfl) (fun _ _ _ h => h) rfl hS0 (by (repeat (first | (refine slot_hit (N := 144) ?_ (by rfl); (repeat (refine sz_put ?_)); assumption; done) | (apply slot_miss; focus rfl))); all_goals assumption) (fun ev hk hv0 w hS => ?_) ?_; rotate_left; focus (obtain ⟨j3, j4, j5, j6⟩ := hS; go_simp; rfl))
                      refine wt_val3 19 127 133 139 (by kernel_rfl) rfl rfl rfl (by (repeat (first | (refine slot_hit (N := 144) ?_ (by rfl); (repeat (refine sz_put ?_)); assumption; done) | (apply slot_miss; focus rfl))); all_goals assumption) (by (repeat (first | (refine slot_hit (N := 144) ?_ (by rfl); (repeat (refine sz_put ?_)); assumption; done) | (apply slot_miss; focus rfl))); all_goals assumption) (by (repeat (first | (refine slot_hit (N := 144) ?_ (by rfl); (repeat (refine sz_put ?_)); assumption; done) | (apply slot_miss; focus rfl))); all_goals assumption) (v := ?_) (w' := ?_) (fun ev hk hv0 hv1 hv2 => ?_) ?_; rotate_left 2; focus (go_simp; first | rfl | (constructor <;> rfl))
                      have hS0 := HK.out (wr.alloc (.cells #[.int .i64 (r.gl q), .int .i64 (r.ga q), .int .i64 (r.gb q)] 3)).drew ((Below.refl wr.drew.heap.size wr.drew).alloc (Nat.le_refl _) _)
                      refine ⟨fun _ => hS0, ?_⟩
                      refine wt_call1 20 140 (by kernel_rfl) rfl rfl rfl (by (repeat (first | (refine slot_hit (N := 144) ?_ (by rfl); (repeat (refine sz_put ?_)); assumption; done) | (apply slot_miss; focus rfl))); all_goals assumption) (f := ?_) (args := ?_) (fun ev hk hkf hv0 => ?_) ?_; rotate_left 2; focus (go_simp; first | rfl | (constructor <;> rfl))
                      (with_reducible refine D.out.mono ?_)
                      rintro e w5 ⟨rfl, hb5⟩
                      have hb5' : Below wr.heap.size wr w5 := ⟨hb5.os, hb5.tape, hb5.output, hb5.size, hb5.block⟩
                      have HB6 := Lib.hid (hBr.trans (hb5'.mono hsz))
                      have hS0 := HK.out w5 hb5
                      refine ⟨_, rfl, fun _ => hS0, ?_⟩
                      (refine wt_take2 21 121 141 (v := ?_) rfl rfl (by kernel_rfl) (by kernel_rfl) (by kernel_rfl) (by kernel_rfl) (fun _ _ _ h => h) rfl hS0 (by (repeat (first | (refine slot_hit (N := 144) ?_ (by rfl); (repeat (refine sz_put ?_)); assumption; done) | (apply slot_miss; focus rfl))); all_goals assumption) (by (repeat (first | (refine slot_hit (N := 144) ?_ (by rfl); (repeat (refine sz_put ?_)); assumption; done) | (apply slot_miss; focus rfl))); all_goals assumption) (fun ev hk hv0 hv1 w hS => ?_) ?_; rotate_left; focus (obtain ⟨j3, j4, j5, j6⟩ := hS; go_simp; rfl)); (refine wt_assign 22 142 rfl rfl (by kernel_rfl) (by kernel_rfl) (by kernel_rfl) (by kernel_rfl) (fun _ _ _ h => h) rfl hS0 (by (repeat (first | (refine slot_hit (N := 144) ?_ (by rfl); (repeat (refine sz_put ?_)); assumption; done) | (apply slot_miss; focus rfl))); all_goals assumption) rfl ?_)
                      refine wt_done (by kernel_rfl) (NoPanic.normal ?_) _
                      have ha := HA.out
                      subst ha
                      clear hS0 hb5 hb5' hZ hs1 hs3 hs10
                      go_wp2
                      go_roundw
                      case rel => exact ⟨q + 1, by omega, by go_num, rfl, HB6.out⟩
                      case measure => simp [intOf]; omega
                    · have e1 : r.t6 q = r.txt := by rw [show q = r.na by omega, Rw.t6_txt]
                      rw [e1]
                      have hqn5 : ¬ (q : Int) < (r.na : Int) := by omega
                      clear e1 hq hlt
                      go_wp2
                      go_ret
                      exact ⟨rfl, HB1.out.trans (hBr.mono HB1.out.size)⟩

end Go.Proofs.YtmholdmcmbbdgaaDoor

namespace Go.Proofs.YtmholdmcmbbdgaaDoor
open Go.RowKit
set_option linter.unusedVariables false
set_option linter.unusedSimpArgs false

set_option maxRecDepth 100000 in
set_option maxHeartbeats 2000000 in
theorem aRaw_no (r : Rw) (p : Rp) (w : World) (hk : ¬ r.chk = 0) (hs : RSm r) (hm : RMem w w.heap.size r p) (hN : RNils r p) :
    Calls Tryd.prog 9 #[rv r p] w fun e w' => e = .returned (.tuple #[.string ⟨#[]⟩, .int .i64 r.chk]) ∧ Below w.heap.size w w' := by
  have h' : (r.chk != 0) = true := by simpa using hk
  obtain ⟨hB0, hH0⟩ := rbox_new w r p
  have hm0 := hm.to hB0 hB0.size
  have K := Lib.hid (pCheck_any r p (w.alloc (.cells (rcL r p) 27)) hs hm0 hN)
  go_enter Tryd.func9, Tryd.ntmps9
  go_wp2_with (go_at_call 23; (with_reducible refine K.out.mono ?_); rintro e w1 ⟨rfl, hb1⟩)
  go_ret2
  exact ⟨rfl, Below.step hB0 hB0.size hb1⟩
theorem aRaw_any (r : Rw) (p : Rp) (w : World) (hs : RSm r) (hm : RMem w w.heap.size r p) (hN : RNils r p) (htab : Tab w.heap.size w) :
    Calls Tryd.prog 9 #[rv r p] w fun e w' => e = .returned (.tuple #[.string (str r.txtE), .int .i64 r.chk]) ∧ Below w.heap.size w w' := by
  unfold Rw.txtE
  by_cases hk : r.chk = 0
  · rw [if_pos hk, hk]
    exact aRaw_yes r p w hk hs hm hN htab
  · rw [if_neg hk]
    exact aRaw_no r p w hk hs hm hN

set_option maxRecDepth 100000 in
set_option maxHeartbeats 2000000 in
theorem aLines_any (r : Rw) (p : Rp) (w : World) (hs : RSm r) (hm : RMem w w.heap.size r p) (hN : RNils r p) :
    Calls Tryd.prog 10 #[rv r p] w fun e w' => e = .returned (.tuple #[.int .i64 r.lnsE, .int .i64 r.chk]) ∧ Below w.heap.size w w' := by
  obtain ⟨hB0, hH0⟩ := rbox_new w r p
  have hm0 := hm.to hB0 hB0.size
  have g0 := hs.ni
  have g1 := hs.nl
  have g2 := hs.na
  have g3 := hs.nb
  have g4 := hs.nc
  have hl : r.lnsE = if r.chk = 0 then 1 + (r.ni : Int) + r.nl + r.nb + r.nc + r.na else 0 := rfl
  have K := Lib.hid (pCheck_any r p (w.alloc (.cells (rcL r p) 27)) hs hm0 hN)
  by_cases hk : r.chk = 0
  · rw [if_pos hk] at hl
    rw [hl]
    have h' : (r.chk != 0) = false := by simp [hk]
    have HK := Lib.hid hk
    clear hl hk
    go_enter Tryd.func10, Tryd.ntmps10
    go_wp2_with (go_at_call 23; (with_reducible refine K.out.mono ?_); rintro e w1 ⟨rfl, hb1⟩; obtain ⟨x0, x1, x2, x3, x4, x5⟩ := (hH0.keep hb1 hH0.lt).rbox)
    go_ret2
    exact ⟨by rw [HK.out]; go_num, Below.step hB0 hB0.size hb1⟩
  · rw [if_neg hk] at hl
    rw [hl]
    have h' : (r.chk != 0) = true := by simpa using hk
    clear hl hk
    go_enter Tryd.func10, Tryd.ntmps10
    go_wp2_with (go_at_call 23; (with_reducible refine K.out.mono ?_); rintro e w1 ⟨rfl, hb1⟩)
    go_ret2
    exact ⟨rfl, Below.step hB0 hB0.size hb1⟩

set_option maxRecDepth 100000 in
set_option maxHeartbeats 2000000 in
theorem rCount_any (r : Rw) (p : Rp) (w : World) (hs : RSm r) :
    Calls Tryd.prog 28 #[rv r p] w fun e w' => e = .returned (.int .i64 r.lns) ∧ Below w.heap.size w w' := by
  obtain ⟨hB0, hH0⟩ := rbox_new w r p
  have g0 := hs.ni
  have g1 := hs.nl
  have g2 := hs.na
  have g3 := hs.nb
  have g4 := hs.nc
  have HL : Hid (r.lns = 1 + (r.ni : Int) + r.nl + r.na + r.nb + r.nc) := by
    show 1 + (r.ni : Int) + r.nl + r.nb + r.nc + r.na = _
    omega
  rw [HL.out]
  go_enter Tryd.func28, Tryd.ntmps28
  go_wp2
  go_ret
  exact ⟨by go_num, hB0⟩

set_option maxRecDepth 100000 in
set_option maxHeartbeats 4000000 in
theorem rRaw7_any (r : Rw) (p : Rp) (w : World) (hs : RSm r) (hm : RMem w w.heap.size r p) (hN : RNils r p) :
    Calls Tryd.prog 15 #[rv r p] w fun e w' => e = .returned (.tuple #[.string (str r.txtE), .int .i64 r.chk]) ∧ Below w.heap.size w w' := by
  obtain ⟨hB0, hH0⟩ := rbox_new w r p
  have hm0 := hm.to hB0 hB0.size
  have K : Hid (∀ W, Below (w.alloc (.cells (rcL r p) 27)).heap.size (w.alloc (.cells (rcL r p) 27)) W → Calls Tryd.prog 18 #[rv r p] W fun e w' => e = .returned (.int .i64 r.chk) ∧ Below W.heap.size W w') := fun W hb => oRCheck_any r p W hs (hm0.to hb hb.size) hN
  by_cases hk : r.chk = 0
  · have h' : (r.chk != 0) = false := by simp [hk]
    have V : Hid (∀ W, Below (w.alloc (.cells (rcL r p) 27)).heap.size (w.alloc (.cells (rcL r p) 27)) W → Calls Tryd.prog 27 #[rv r p] W fun e w' => e = .returned (.string (str r.txt)) ∧ Below W.heap.size W w') := fun W hb => rWritten_any r p W hk (hm0.to hb hb.size)
    have HE : Hid (r.txtE = r.txt) := by show (if r.chk = 0 then r.txt else []) = _; rw [if_pos hk]
    have HK := Lib.hid hk
    rw [HE.out, hk]
    clear hk
    go_enter Tryd.func15, Tryd.ntmps15
    go_wp2_with (go_at_call 18; (with_reducible refine (K.out _ (Below.refl _ _)).mono ?_); rintro e w1 ⟨rfl, hb1⟩; obtain ⟨x0, x1, x2, x3, x4, x5⟩ := (hH0.keep hb1 hH0.lt).rbox)
    go_wp2_with (go_at_call 27; (with_reducible refine (V.out _ hb1).mono ?_); rintro e w2 ⟨rfl, hb2⟩)
    go_ret2
    exact ⟨rfl, (Below.step hB0 hB0.size hb1).trans (hb2.mono (Below.step hB0 hB0.size hb1).size)⟩
  · have h' : (r.chk != 0) = true := by simpa using hk
    have HE : Hid (r.txtE = []) := by show (if r.chk = 0 then r.txt else []) = _; rw [if_neg hk]
    rw [HE.out]
    clear hk
    go_enter Tryd.func15, Tryd.ntmps15
    go_wp2_with (go_at_call 18; (with_reducible refine (K.out _ (Below.refl _ _)).mono ?_); rintro e w1 ⟨rfl, hb1⟩; obtain ⟨x0, x1, x2, x3, x4, x5⟩ := (hH0.keep hb1 hH0.lt).rbox)
    go_wp2_with (go_at_call 18; (with_reducible refine (K.out _ hb1).mono ?_); rintro e w2 ⟨rfl, hb2⟩)
    go_ret2
    exact ⟨rfl, (Below.step hB0 hB0.size hb1).trans (hb2.mono (Below.step hB0 hB0.size hb1).size)⟩

set_option maxRecDepth 100000 in
set_option maxHeartbeats 4000000 in
theorem rLines7_any (r : Rw) (p : Rp) (w : World) (hs : RSm r) (hm : RMem w w.heap.size r p) (hN : RNils r p) :
    Calls Tryd.prog 16 #[rv r p] w fun e w' => e = .returned (.tuple #[.int .i64 r.lnsE, .int .i64 r.chk]) ∧ Below w.heap.size w w' := by
  obtain ⟨hB0, hH0⟩ := rbox_new w r p
  have hm0 := hm.to hB0 hB0.size
  have K : Hid (∀ W, Below (w.alloc (.cells (rcL r p) 27)).heap.size (w.alloc (.cells (rcL r p) 27)) W → Calls Tryd.prog 18 #[rv r p] W fun e w' => e = .returned (.int .i64 r.chk) ∧ Below W.heap.size W w') := fun W hb => oRCheck_any r p W hs (hm0.to hb hb.size) hN
  by_cases hk : r.chk = 0
  · have h' : (r.chk != 0) = false := by simp [hk]
    have V : Hid (∀ W, Calls Tryd.prog 28 #[rv r p] W fun e w' => e = .returned (.int .i64 r.lns) ∧ Below W.heap.size W w') := fun W => rCount_any r p W hs
    have HE : Hid (r.lnsE = r.lns) := by show (if r.chk = 0 then r.lns else 0) = _; rw [if_pos hk]
    rw [HE.out, hk]
    clear hk
    go_enter Tryd.func16, Tryd.ntmps16
    go_wp2_with (go_at_call 18; (with_reducible refine (K.out _ (Below.refl _ _)).mono ?_); rintro e w1 ⟨rfl, hb1⟩; obtain ⟨x0, x1, x2, x3, x4, x5⟩ := (hH0.keep hb1 hH0.lt).rbox)
    go_wp2_with (go_at_call 28; (with_reducible refine (V.out _).mono ?_); rintro e w2 ⟨rfl, hb2⟩)
    go_ret2
    exact ⟨rfl, (Below.step hB0 hB0.size hb1).trans (hb2.mono (Below.step hB0 hB0.size hb1).size)⟩
  · have h' : (r.chk != 0) = true := by simpa using hk
    have HE : Hid (r.lnsE = 0) := by show (if r.chk = 0 then r.lns else 0) = _; rw [if_neg hk]
    rw [HE.out]
    clear hk
    go_enter Tryd.func16, Tryd.ntmps16
    go_wp2_with (go_at_call 18; (with_reducible refine (K.out _ (Below.refl _ _)).mono ?_); rintro e w1 ⟨rfl, hb1⟩; obtain ⟨x0, x1, x2, x3, x4, x5⟩ := (hH0.keep hb1 hH0.lt).rbox)
    go_wp2_with (go_at_call 18; (with_reducible refine (K.out _ hb1).mono ?_); rintro e w2 ⟨rfl, hb2⟩)
    go_ret2
    exact ⟨rfl, (Below.step hB0 hB0.size hb1).trans (hb2.mono (Below.step hB0 hB0.size hb1).size)⟩

end Go.Proofs.YtmholdmcmbbdgaaDoor

namespace Go.Proofs.YtmholdmcmbbdgaaDoor
open Go.RowKit
set_option linter.unusedVariables false
set_option linter.unusedSimpArgs false

/-- what Text returns -/
def Cr.tE (c : Cr) : List UInt8 := if c.chk = 0 then c.raw.txtE else []
def Cr.tK (c : Cr) : Int := if c.chk = 0 then c.raw.chk else c.chk
def TextIs (c : Cr) (w : World) (e : Ending) (w' : World) : Prop := e = .returned (.tuple #[.string (str c.tE), .int .i64 c.tK]) ∧ Below w.heap.size w w'
theorem tE_yes {c : Cr} (h : (c.chk == 0) = true) : c.tE = c.raw.txtE ∧ c.tK = c.raw.chk := by
  have h1 : c.chk = 0 := by simpa using h
  exact ⟨if_pos h1, if_pos h1⟩
theorem tE_no {c : Cr} (h : (c.chk == 0) = false) : c.tE = [] ∧ c.tK = c.chk := by
  have h1 : ¬ c.chk = 0 := by simpa using h
  exact ⟨if_neg h1, if_neg h1⟩

set_option maxRecDepth 100000 in
set_option maxHeartbeats 4000000 in
theorem aText_any (c : Cr) (p : Pl) (w : World) (hm : Mem w w.heap.size c p) (hs : Sm c) (hN : Nils c p) (htab : Tab w.heap.size w) :
    Calls Tryd.prog 11 #[cv c p] w (TextIs c w) := by
  have HT := Lib.hid htab
  clear htab
  cases h : (c.chk == 0)
  · have h' : (c.chk != 0) = true := by simp [bne, h]
    have HE := Lib.hid (tE_no h)
    unfold TextIs
    rw [HE.out.1, HE.out.2]
    go_enter Tryd.func11, Tryd.ntmps11
    go_wp2_with (go_at_call 20; refine (oRaw_no c p _ (hm.to (by go_grown) (by go_size)) hs h).mono ?_; rintro e w1 ⟨rfl, hb1⟩; have hB1 : Below w.heap.size w w1 := Below.step (by go_grown) (by go_size) hb1)
    go_ret2
    exact ⟨rfl, hB1.alloc hB1.size _⟩
  · have h' : (c.chk != 0) = false := by simp [bne, h]
    have HE := Lib.hid (tE_yes h)
    have HSM := Lib.hid (raw_sm hs h)
    unfold TextIs
    rw [HE.out.1, HE.out.2]
    go_enter Tryd.func11, Tryd.ntmps11
    go_wp2_with (first
      | (go_at_call 20; refine (oRaw_yes c p _ (hm.to (by go_grown) (by go_size)) hs hN h).mono ?_; rintro e w1 ⟨⟨A1, A2, A3, A4, A5, k1, k2, k3, k4, k5⟩, rfl, hr1, hn1, hb1⟩; have hB1 : Below w.heap.size w w1 := Below.step (by go_grown) (by go_size) hb1)
      | (go_at_call 9; refine (aRaw_any c.raw ⟨A1, A2, A3, A4, A5, k1, k2, k3, k4, k5⟩ _ HSM.out (hr1.to ((Below.refl _ _).alloc (Nat.le_refl _) _) (by simp)) hn1 (Tab.up (HT.out.on (hB1.alloc hB1.size _)) (hB1.alloc hB1.size _).size)).mono ?_; rintro e w2 ⟨rfl, hb2⟩; have hB2 := Below.step (hB1.alloc hB1.size _) (hB1.alloc hB1.size _).size hb2))
    go_ret2
    exact ⟨rfl, hB2⟩

end Go.Proofs.YtmholdmcmbbdgaaDoor

namespace Go.Proofs.YtmholdmcmbbdgaaDoor
open Go.RowKit
set_option linter.unusedVariables false
set_option linter.unusedSimpArgs false

end Go.Proofs.YtmholdmcmbbdgaaDoor
