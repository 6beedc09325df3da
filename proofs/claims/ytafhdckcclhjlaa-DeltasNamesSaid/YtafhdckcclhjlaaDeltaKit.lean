/- The contracts of the reference's Same, and of writes, reads, alive of the laws. -/
import Derived.Test.YtafhdckcclhjlaaDeltaUn3
namespace Go.Proofs.Ytafhdckcclhjlaa
open Go Go.RowKit
set_option linter.unusedVariables false
set_option linter.unusedSimpArgs false

set_option maxRecDepth 100000 in
set_option maxHeartbeats 2000000 in
theorem same9_yes (A A' : Option Addr) (n k k' : Nat) (f g : Nat → Int) (B B' : Nat) (w : World) (hn : n ≤ 100000) (hA : PairsAt w B A n f g) (hA' : PairsAt w B' A' n f g) :
    Calls Try.prog 15 #[.slice A n k, .slice A' n k'] w fun e w' => e = .returned (.bool true) ∧ Below w.heap.size w w' := by
  go_enter Try.func15, Try.ntmps15
  go_wp2
  go_loopw [5] (fun i wr => ∃ q : Nat, q ≤ n ∧ i = .int .i64 q ∧ ∃ d, wr = w.drewN d) (fun i _ => n - (intOf i).toNat)
  case atStart => exact ⟨0, Nat.zero_le _, rfl, 0, rfl⟩
  case round =>
    obtain ⟨q, hq, rfl, d, rfl⟩ := hrel
    by_cases hlt : q < n
    · obtain ⟨a, rfl, hb, hc⟩ := hA (by omega)
      obtain ⟨a', rfl, hb', hc'⟩ := hA' (by omega)
      obtain ⟨y0, y1⟩ := hc q hlt
      obtain ⟨y0', y1'⟩ := hc' q hlt
      clear hc hc'
      have hb1 : (0 : Int) ≤ (q : Int) := by omega
      have hb2 : (q : Int) < (n : Int) := by omega
      go_wp2
      go_quiet (fail)
      go_wp2
      go_roundw
      case rel => exact ⟨q + 1, by omega, by go_num, _, rfl⟩
      case measure => simp [intOf]; omega
    · obtain rfl : q = n := by omega
      clear hq hlt
      go_wp2
      go_ret
      exact ⟨rfl, below_dn (Below.refl _ _) _⟩

set_option maxRecDepth 100000 in
set_option maxHeartbeats 4000000 in
theorem writes_yes (n : Nat) (hn : n ≤ 2147483647) (A : Option Addr) (k : Nat) (w : World) (h : Bya w w.heap.size A (bts n) k) : Calls Try.prog 10 #[.int .i64 (n : Int), .slice A (bts n).length k] w fun e w' => e = .returned (.bool true) ∧ Below w.heap.size w w' := by
  have D := dWrite_yes n w hn
  have hr := rd_bts hn []
  rw [List.append_nil] at hr
  have R := fun W (hW : Below w.heap.size w W) => dRead_any A (bts n) k W (h.to hW hW.size) (by have := bts_len hn; omega)
  unfold rdV at R
  rw [hr.1, hr.2.1, hr.2.2] at R
  have HS := Lib.hid (fun W (hW : Below w.heap.size w W) => (h.to hW hW.size).str)
  have HS1 := Lib.hid (fun W A1 k1 (hy : Bya W W.heap.size A1 (bts n) k1) => hy.str)
  unfold ByErr at D
  obtain ⟨S, hS⟩ : ∃ S, bstr (bts n) = S := ⟨_, rfl⟩
  rw [hS] at HS HS1
  obtain ⟨l, hl⟩ : ∃ l, bts n = l := ⟨_, rfl⟩
  rw [hl] at D R HS HS1 ⊢
  obtain ⟨M, hM⟩ : ∃ M, l.length = M := ⟨_, rfl⟩
  rw [hM] at D R HS HS1 ⊢
  have D1 := Lib.hid D
  have R1 := Lib.hid R
  clear D R hr h hS hl hM
  go_enter Try.func10, Try.ntmps10
  go_wp2_with (first
    | (go_at_call 12; (with_reducible refine D1.out.mono ?_); rintro e w1 ⟨A1, k1, rfl, hy1, hb1, _⟩; have s1 := HS.out w1 hb1; have s2 := HS1.out w1 A1 k1 hy1)
    | (go_at_call 18; (with_reducible refine (R1.out w1 hb1).mono ?_); rintro e w2 ⟨rfl, rfl⟩))
  go_ret
  exact ⟨by simp, hb1⟩
set_option maxRecDepth 100000 in
set_option maxHeartbeats 4000000 in
theorem reads_yes (A : Option Addr) (l : List UInt8) (k : Nat) (x : Int) (w : World) (h : Bya w w.heap.size A l k) (hl : l.length ≤ 100000) (hE : rdE l = x) (hx : x ≠ 0) : Calls Try.prog 11 #[.int .i64 x, .slice A l.length k] w fun e w' => e = .returned (.bool true) ∧ w = w' := by
  have R := dRead_any A l k w h hl
  rw [rdV_no hE hx] at R
  have R1 := Lib.hid R
  clear R hE hx
  go_enter Try.func11, Try.ntmps11
  go_wp2_with (go_at_call 18; (with_reducible refine R1.out.mono ?_); rintro e w2 ⟨rfl, rfl⟩)
  go_ret
  exact ⟨by simp, rfl⟩

/-- bytes that a call has just laid -/
theorem Bya.lit (W : World) {l : List UInt8} {cs : Array Value} (hl : l.length ≤ 1000) (hcs : cs = (bC l).toArray) : Bya (W.alloc (.cells cs 5)) (W.alloc (.cells cs 5)).heap.size (some ⟨W.heap.size, 0, none⟩) l l.length := by
  subst hcs
  obtain ⟨A, k, e, hy⟩ := (Byo.lit (B := W.heap.size) (w := W) (l := l) (Nat.le_refl _) hl).at
  injection e with e1 e2 e3
  subst e1 e3
  exact hy
theorem below_lit (W : World) (o : Obj) {w' : World} (h : Below (W.alloc o).heap.size (W.alloc o) w') : Below W.heap.size W w' := ((Below.refl _ _).alloc (Nat.le_refl _) o).trans (h.mono (by simp))
theorem writes_lit {x : Int} {n m : Nat} {l : List UInt8} {cs : Array Value} (hx : x = n) (hn : n ≤ 2147483647) (hb : bts n = l) (hm : l.length = m) (hcs : cs = (bC l).toArray) (W : World) : Calls Try.prog 10 #[.int .i64 x, .slice (some ⟨W.heap.size, 0, none⟩) m m] (W.alloc (.cells cs 5)) fun e w' => e = .returned (.bool true) ∧ Below W.heap.size W w' := by
  subst hx hm hb
  exact (writes_yes n hn _ _ _ (Bya.lit W (by have := bts_len hn; omega) hcs)).mono fun e w' ⟨h1, h2⟩ => ⟨h1, below_lit W _ h2⟩
theorem reads_lit {x : Int} {m : Nat} {l : List UInt8} {cs : Array Value} (hx : rdE l = x) (h0 : x ≠ 0) (hm : l.length = m) (hl : m ≤ 1000) (hcs : cs = (bC l).toArray) (W : World) : Calls Try.prog 11 #[.int .i64 x, .slice (some ⟨W.heap.size, 0, none⟩) m m] (W.alloc (.cells cs 5)) fun e w' => e = .returned (.bool true) ∧ Below W.heap.size W w' := by
  subst hm
  exact (reads_yes _ l _ x _ (Bya.lit W hl hcs) (by omega) hx h0).mono fun e w' ⟨h1, h2⟩ => ⟨h1, h2 ▸ (Below.refl _ _).alloc (Nat.le_refl _) _⟩
theorem bts5 : bts 5 = [5] := by rw [bts_lo (by decide)]; rfl
theorem bts300 : bts 300 = [172, 2] := by rw [bts_hi (by decide), bts_lo (by decide)]; rfl
/-- one gate that a call has just laid -/
theorem Gts.lit (W : World) (x y : Int) (hx : I64 x) (hy : I64 y) : Gts (W.alloc (.cells #[.int .i64 x, .int .i64 y] 29)) (W.alloc (.cells #[.int .i64 x, .int .i64 y] 29)).heap.size (some ⟨W.heap.size, 0, none⟩) 1 1 (fun _ => x) (fun _ => y) :=
  ⟨fun _ => ⟨_, rfl, by simp, fun j hj => by
    obtain rfl : j = 0 := by omega
    have h := Has.new W 29 #[.int .i64 x, .int .i64 y]
    exact ⟨h.cell 0, h.cell 1⟩⟩, (fun h => by cases h), fun _ => hx, fun _ => hy⟩
theorem i64_small {x : Int} (h0 : -100000 ≤ x) (h1 : x ≤ 100000) : I64 x := by unfold I64; omega
theorem pk42 : pkE 4 (fun _ => 4) (fun _ => 2) 1 = 0 ∧ pkL 4 (fun _ => 4) (fun _ => 2) 1 = [4, 2] := by
  have e : pkE 4 (fun _ => 4) (fun _ => 2) 1 = 0 := by decide +kernel
  refine ⟨e, ?_⟩
  unfold pkL
  rw [if_pos e, pk, pk]
  show [] ++ bts 4 ++ bts 2 = _
  rw [bts_lo (by decide), bts_lo (by decide)]
  rfl
theorem dPack42 (W : World) : Calls Try.prog 13 #[.int .i64 4, .slice (some ⟨W.heap.size, 0, none⟩) 1 1] (W.alloc (.cells #[.int .i64 4, .int .i64 2] 29)) fun e w' => ∃ A k, e = .returned (.tuple #[.slice A 2 k, .int .i64 0]) ∧ Bya w' w'.heap.size A [4, 2] k ∧ Below W.heap.size W w' := by
  refine (dPack_yes (v := 4) (some ⟨W.heap.size, 0, none⟩) 1 1 _ _ _ (Gts.lit W 4 2 (i64_small (by decide) (by decide)) (i64_small (by decide) (by decide))) (by decide +kernel)).mono fun e w' => ?_
  rintro ⟨A, k, rfl, hy, hb, _⟩
  rw [pk42.1]
  rw [pk42.2] at hy ⊢
  exact ⟨A, k, rfl, hy, below_lit W _ hb⟩
/-- an Unpack that is an error -/
theorem dUnpack_lit {v n : Int} {N m : Nat} {l : List UInt8} {cs : Array Value} {x : Int} (hn : n = N) (hE : asd v N = 0) (hx : unE v N l = x) (h0 : x ≠ 0) (hm : l.length = m) (hl : m ≤ 1000) (hcs : cs = (bC l).toArray) (W : World) : Calls Try.prog 14 #[.int .i64 v, .int .i64 n, .slice (some ⟨W.heap.size, 0, none⟩) m m] (W.alloc (.cells cs 5)) fun e w' => ∃ A k, e = .returned (.tuple #[.slice A 0 k, .int .i64 0, .int .i64 x]) ∧ Below W.heap.size W w' := by
  subst hm hn
  refine (dUnpack_yes (v := v) (N := N) _ l _ _ (Bya.lit W hl hcs) (by omega) hE).mono fun e w' => ?_
  rintro ⟨A, k, rfl, hy, hb⟩
  have hne : unE v N l ≠ 0 := by rw [hx]; exact h0
  exact ⟨A, k, by rw [show unN v N l = 0 from if_neg hne, show unS v N l = 0 from if_neg hne, hx]; rfl, below_lit W _ hb⟩

set_option maxRecDepth 100000 in
set_option maxHeartbeats 4000000 in
theorem alive9_any (w : World) : Calls Try.prog 16 #[] w fun e w' => e = .returned (.bool true) ∧ Below w.heap.size w w' := by
  have C1 := Lib.hid (fun W => dPack42 W)
  have C2 := Lib.hid (fun W => dUnpack_lit (v := 4) (n := 1) (N := 1) (m := 2) (l := [0, 2]) (cs := #[.int .u8 0, .int .u8 2]) (x := 8) rfl (by decide +kernel) (by decide +kernel) (by decide) rfl (by decide) rfl W)
  have C3 := Lib.hid (fun W => writes_lit (x := 5) (n := 5) (m := 1) (l := [5]) (cs := #[.int .u8 5]) rfl (by decide) bts5 rfl rfl W)
  have C4 := Lib.hid (fun W => writes_lit (x := 300) (n := 300) (m := 2) (l := [172, 2]) (cs := #[.int .u8 172, .int .u8 2]) rfl (by decide) bts300 rfl rfl W)
  go_enter Try.func16, Try.ntmps16
  go_wp2_with (first
    | (go_at_call 13; (with_reducible refine (C1.out w).mono ?_); rintro e w1 ⟨A1, k1, rfl, hy1, hb1⟩)
    | (go_at_call 14; (with_reducible refine (C2.out w1).mono ?_); rintro e w2 ⟨A2, k2, rfl, hb2⟩)
    | (go_at_call 10; (with_reducible refine (C3.out w2).mono ?_); rintro e w3 ⟨rfl, hb3⟩)
    | (go_at_call 10; (with_reducible refine (C4.out w3).mono ?_); rintro e w4 ⟨rfl, hb4⟩; have hB14 : Below w1.heap.size w1 w4 := hb2.trans ((hb3.mono hb2.size).trans (hb4.mono (Nat.le_trans hb2.size hb3.size))); have s4 : (convert 25 9 (.slice A1 2 k1)).run Try.prog w4 = .ok (.string ⟨#[4, 2]⟩) w4 := (hy1.to hB14 hB14.size).str; have hB4 : Below w.heap.size w w4 := Below.step hb1 hb1.size hB14))
  go_ret
  exact ⟨by simp [bstr], hB4⟩

end Go.Proofs.Ytafhdckcclhjlaa
