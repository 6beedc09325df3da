/- The contracts of deltas.sizeOf, sumOf, Read, appendNumber, Write and the reference's Read, Bytes, Write. -/
import Derived.Test.YtafhdckcclhjlaaDeltaMem
namespace Go.Proofs.Ytafhdckcclhjlaa
open Go.RowKit
set_option linter.unusedVariables false
set_option linter.unusedSimpArgs false

theorem u8_ofNat {n : Nat} (h : n < 256) : ((UInt8.ofNat n).toNat : Int) = (n : Int) := by rw [ofNat_lo h]
set_option maxRecDepth 100000 in
set_option maxHeartbeats 4000000 in
theorem dApp_any (B : Nat) (l : List UInt8) (v : Value) (n : Nat) (w : World) (ht : Byo B w v l) (hB : B ≤ w.heap.size) (hn : n ≤ 2147483647) (hl : l.length ≤ 100000) :
    Calls Try.prog 24 #[v, .int .i64 (n : Int)] w fun e w' => ∃ v', e = .returned v' ∧ Byo B w' v' (l ++ bts n) ∧ Grw w v w' v' ∧ Below B w w' := by
  have HL := Lib.hid (bts_len hn)
  have HT := Lib.hid ht
  have ht0 : Byo B w v (l ++ []) := by simpa using ht
  clear ht
  go_enter Try.func24, Try.ntmps24
  go_wp2
  go_loopw [0, 1] (fun u i wr => ∃ m : Nat, ∃ l' : List UInt8, i = .int .i64 (m : Int) ∧ m ≤ n ∧ Hid (bts n = l' ++ bts m) ∧ Byo B wr u (l ++ l') ∧ Grw w v wr u) (fun _ i _ => (intOf i).toNat)
  case atStart => exact ⟨n, [], rfl, Nat.le_refl _, Lib.hid rfl, ht0, Grw.refl _ _⟩
  case round =>
    clear ht0
    obtain ⟨m, l', rfl, hm, hD, hT, hG⟩ := hrel
    have hBr := (hG.below HT.out hB).size
    have hll : l'.length ≤ 5 := by have h1 := HL.out; rw [hD.out, List.length_append] at h1; omega
    have HLL := Lib.hid hll
    clear hll
    by_cases h9 : m < 128
    · have h9i : ¬ (128 : Int) ≤ (m : Int) := by omega
      obtain ⟨c, hc⟩ : ∃ c, c = UInt8.ofNat m := ⟨_, rfl⟩
      have hcn : (c.toNat : Int) = (m : Int) := by rw [hc]; exact u8_ofNat (by omega)
      have HN := Lib.hid (show bts m = [c] by rw [bts_lo h9, hc])
      have hw8 : IntKind.u8.wrap (m : Int) = (c.toNat : Int) := by rw [IntKind.wrap_u8]; omega
      have HS := Lib.hid (src_one wr c)
      clear hc hcn
      go_wp2_with (at_builtin; refine by_append rfl _ _ rfl B _ (l ++ l') rfl (hT.alloc _) _ 1 1 [c] rfl rfl HS.out (by have := HLL.out; simp only [List.length_append, List.length_cons, List.length_nil]; omega) (by simp only [World.size_alloc]; omega) ?_; intro v1 w1 ho1 hg1)
      go_ret
      have hG1 := (hG.alloc (.cells #[.int .u8 (c.toNat : Int)] 5)).trans hg1
      exact ⟨v1, rfl, by rw [hD.out, HN.out, ← List.append_assoc]; exact ho1, hG1, hG1.below HT.out hB⟩
    · have h9i : (128 : Int) ≤ (m : Int) := by omega
      obtain ⟨c, hc⟩ : ∃ c, c = UInt8.ofNat (128 + m % 128) := ⟨_, rfl⟩
      have hcn : (c.toNat : Int) = 128 + (m : Int) % 128 := by rw [hc, u8_ofNat (by omega)]; omega
      have HN := Lib.hid (show bts m = [c] ++ bts (m / 128) by rw [bts_hi h9, hc]; rfl)
      have hw8 : IntKind.u8.wrap (128 + (m : Int) % 128) = (c.toNat : Int) := by rw [IntKind.wrap_u8]; omega
      have HS := Lib.hid (src_one wr c)
      clear hc hcn
      go_wp2_with (at_builtin; refine by_append rfl _ _ rfl B _ (l ++ l') rfl (hT.alloc _) _ 1 1 [c] rfl rfl HS.out (by have := HLL.out; simp only [List.length_append, List.length_cons, List.length_nil]; omega) (by simp only [World.size_alloc]; omega) ?_; intro v1 w1 ho1 hg1)
      go_roundw
      case rel => exact ⟨m / 128, l' ++ [c], by go_num, by omega, Lib.hid (by rw [hD.out, HN.out]; simp), by rw [← List.append_assoc]; exact ho1, (hG.alloc (.cells #[.int .u8 (c.toNat : Int)] 5)).trans hg1⟩
      case measure => simp [intOf]; omega

set_option maxRecDepth 100000 in
set_option maxHeartbeats 4000000 in
theorem dWrite_yes (n : Nat) (w : World) (hn : n ≤ 2147483647) : Calls Try.prog 12 #[.int .i64 (n : Int)] w (ByErr (bts n) 0 w) := by
  have D := Lib.hid (dApp_any w.heap.size [] (.slice none 0 0) n w (Byo.nil _ _) (Nat.le_refl _) hn (by simp))
  have h1 : ¬ (n : Int) < 0 := by omega
  have h2 : ¬ (2147483647 : Int) < (n : Int) := by omega
  go_enter Try.func12, Try.ntmps12
  go_wp2_with (go_at_call 24; (with_reducible refine D.out.mono ?_); rintro e w1 ⟨v1, rfl, ho1, hg1, hb1⟩)
  go_ret2
  rw [List.nil_append] at ho1
  obtain ⟨A, k, rfl, hy⟩ := ho1.at
  exact ⟨A, k, rfl, hy, hb1, ho1.blk⟩
set_option maxHeartbeats 1000000 in
theorem dWrite_no (n : Int) (w : World) (hn : n < 0 ∨ 2147483647 < n) : Calls Try.prog 12 #[.int .i64 n] w fun e w' => e = .returned (.tuple #[.slice none 0 0, .int .i64 2]) ∧ w = w' := by
  rcases Int.lt_or_le n 0 with h | h
  · clear hn
    go_enter Try.func12, Try.ntmps12
    go_wp2
    go_ret2
    exact ⟨rfl, rfl⟩
  · have h1 : ¬ n < 0 := by omega
    have h2 : 2147483647 < n := by omega
    clear hn h
    go_enter Try.func12, Try.ntmps12
    go_wp2
    go_ret2
    exact ⟨rfl, rfl⟩

set_option maxRecDepth 100000 in
set_option maxHeartbeats 4000000 in
theorem rBytes_any : ∀ (n : Nat) (w : World), n ≤ 2147483647 → Calls Try.prog 28 #[.int .i64 (n : Int)] w (ByIs w.heap.size (bts n) w) := by
  intro n
  induction n using Nat.strongRecOn with
  | _ n ih =>
    intro w hn
    by_cases h9 : n < 128
    · have h9i : (n : Int) < 128 := by omega
      obtain ⟨c, hc⟩ : ∃ c, c = UInt8.ofNat n := ⟨_, rfl⟩
      have hcn : (c.toNat : Int) = (n : Int) := by rw [hc]; exact u8_ofNat (by omega)
      have HN := Lib.hid (show bts n = [c] by rw [bts_lo h9, hc])
      have hw8 : IntKind.u8.wrap (n : Int) = (c.toNat : Int) := by rw [IntKind.wrap_u8]; omega
      have HO := Lib.hid (Byo.lit (B := w.heap.size) (w := w) (l := [c]) (Nat.le_refl _) (by simp))
      clear hc hcn ih
      go_enter Try.func28, Try.ntmps28
      go_wp2
      go_ret
      exact ⟨_, rfl, by rw [HN.out]; exact HO.out, by go_grown⟩
    · have h9i : ¬ (n : Int) < 128 := by omega
      obtain ⟨c, hc⟩ : ∃ c, c = UInt8.ofNat (128 + n % 128) := ⟨_, rfl⟩
      have hcn : (c.toNat : Int) = 128 + (n : Int) % 128 := by rw [hc, u8_ofNat (by omega)]; omega
      have HN := Lib.hid (show bts n = [c] ++ bts (n / 128) by rw [bts_hi h9, hc]; rfl)
      have hw8 : IntKind.u8.wrap (128 + (n : Int) % 128) = (c.toNat : Int) := by rw [IntKind.wrap_u8]; omega
      have HO := Lib.hid (Byo.lit (B := w.heap.size) (w := w) (l := [c]) (Nat.le_refl _) (by simp))
      have HB : Hid (Below w.heap.size w (w.alloc (.cells #[.int .u8 (c.toNat : Int)] 5))) := Lib.hid (by go_grown)
      have D0 := ih (n / 128) (by omega) (w.alloc (.cells #[.int .u8 (c.toNat : Int)] 5)) (by omega)
      rw [show ((n / 128 : Nat) : Int) = (n : Int) / 128 by omega] at D0
      have D := Lib.hid D0
      have HBL := Lib.hid (bts_len (n := n / 128) (by omega))
      clear hc hcn ih D0
      go_enter Try.func28, Try.ntmps28
      go_wp2_with (first
        | (go_at_call 28; refine D.out.mono ?_; rintro e w1 ⟨v1, rfl, ho1, hb1⟩; obtain ⟨A1, k1, rfl, hy1⟩ := ho1.at; have hO1 : Byo w.heap.size w1 _ [c] := HO.out.keep hb1; have hsz1 := hb1.size)
        | (at_builtin; refine by_append rfl _ _ rfl w.heap.size _ [c] rfl hO1 _ (bts (n / 128)).length k1 (bts (n / 128)) rfl rfl hy1.src (by have := HBL.out; simp only [List.length_cons, List.length_nil]; omega) (by simp at hsz1; omega) ?_; intro v2 w2 ho2 hg2))
      go_ret
      have hB1 : Below w.heap.size w w1 := Below.step HB.out HB.out.size hb1
      exact ⟨v2, rfl, by rw [HN.out]; exact ho2, hB1.trans (hg2.below hO1 hB1.size)⟩
theorem rWrite_yes (n : Nat) (w : World) (hn : n ≤ 2147483647) : Calls Try.prog 17 #[.int .i64 (n : Int)] w (ByErr (bts n) 0 w) := by
  have D := Lib.hid (rBytes_any n w hn)
  have h1 : ¬ (n : Int) < 0 := by omega
  have h2 : ¬ (2147483647 : Int) < (n : Int) := by omega
  go_enter Try.func17, Try.ntmps17
  go_wp2_with (go_at_call 28; (with_reducible refine D.out.mono ?_); rintro e w1 ⟨v1, rfl, ho1, hb1⟩)
  go_ret2
  obtain ⟨A, k, rfl, hy⟩ := ho1.at
  exact ⟨A, k, rfl, hy, hb1, ho1.blk⟩
set_option maxHeartbeats 1000000 in
theorem rWrite_no (n : Int) (w : World) (hn : n < 0 ∨ 2147483647 < n) : Calls Try.prog 17 #[.int .i64 n] w fun e w' => e = .returned (.tuple #[.slice none 0 0, .int .i64 2]) ∧ w = w' := by
  rcases Int.lt_or_le n 0 with h | h
  · clear hn
    go_enter Try.func17, Try.ntmps17
    go_wp2
    go_ret2
    exact ⟨rfl, rfl⟩
  · have h1 : ¬ n < 0 := by omega
    have h2 : 2147483647 < n := by omega
    clear hn h
    go_enter Try.func17, Try.ntmps17
    go_wp2
    go_ret2
    exact ⟨rfl, rfl⟩

end Go.Proofs.Ytafhdckcclhjlaa
