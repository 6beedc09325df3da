/- The package reader: so many lines of a kind. -/
import Derived.Test.YtkpjpokeonppbaaGreatDoorReadPa
import Derived.Test.YtkpjpokeonppbaaGreatDoorOrderRaw
import Derived.Laws.CopyOwn
namespace Go.Proofs.YtkpjpokeonppbaaGreatDoor
open Go Go.RowKit
set_option linter.unusedVariables false
set_option linter.unusedSimpArgs false

theorem grown_env {B b : Nat} {w w' : World} (hE : Env B w) (hB : B ≤ w.heap.size) (hb : B ≤ b) (hg : w.grownBy w' (some b)) : Env B w' :=
  hE.on ((Below.refl B w).grown hg hB (fun k hk => by cases hk; exact hb))
theorem Tx.step {w w' : World} {b : Nat} {A : Option Addr} {k : Nat} {L : List (List UInt8)} {i : Nat} {f : Nat × Int} (h : Tx w b A k L i f) (hb : Below w.heap.size w w') : Tx w' b A k L i f :=
  ⟨h.h.keep hb h.h.lt, h.s.to hb hb.size, h.a⟩
theorem Tx.al {w : World} {b : Nat} {A : Option Addr} {k : Nat} {L : List (List UInt8)} {i : Nat} {f : Nat × Int} (h : Tx w b A k L i f) (o : Obj) : Tx (w.alloc o) b A k L i f := h.step ((Below.refl _ _).alloc (Nat.le_refl _) _)
/-- an append to a row of the call's own, where the text lies apart -/
theorem Tx.app {w w' : World} {b : Nat} {A : Option Addr} {k : Nat} {L : List (List UInt8)} {i : Nat} {f : Nat × Int} (h : Tx w b A k L i f) {r : Option Nat} (hg : w.grownBy w' r) {base : Nat} (hr : ∀ g, r = some g → base ≤ g) (hb : b < base) (hA : ∀ a, A = some a → a.block < base) : Tx w' b A k L i f :=
  ⟨(hg.block b h.h.lt (fun e => by have := hr b e.symm; omega)).trans h.h, h.s.by hg fun _ a ha e => by have := hr _ e.symm; have := hA a ha; omega, h.a⟩
theorem flF_flt {f : Nat × Int} {i m c : Nat} (hm : m < c) : flF f (i + m + 1) 12 = flt6 f i m c := by
  unfold flF flt6
  by_cases h : f = (0, 0)
  · rw [if_pos h, if_pos h, if_pos hm]
  · rw [if_neg h, if_neg h]
theorem flt_end {f : Nat × Int} {i c : Nat} : flt6 f i c c = f := by
  unfold flt6
  by_cases h : f = (0, 0)
  · rw [if_pos h, if_neg (Nat.lt_irrefl c), h]
  · rw [if_neg h]
theorem flt_ne {f : Nat × Int} {i m c : Nat} (hm : m < c) : flt6 f i m c ≠ (0, 0) := by
  unfold flt6
  by_cases h : f = (0, 0)
  · rw [if_pos h, if_pos hm]; intro e; have := congrArg Prod.fst e; simp at this
  · rw [if_neg h]; exact h
theorem flt_or {f : Nat × Int} (hf : f = (0, 0) ∨ 0 < f.1) (i m c : Nat) : flt6 f i m c = (0, 0) ∨ 0 < (flt6 f i m c).1 := by
  unfold flt6
  by_cases h : f = (0, 0)
  · rw [if_pos h]
    split
    · right; show 0 < i + m + 1; omega
    · left; rfl
  · rw [if_neg h]
    rcases hf with h1 | h1
    · exact absurd h1 h
    · exact Or.inr h1
theorem own_far {w w' : World} {base size n b : Nat} {e : TypeId} {v : Value} {xs : List Value} (h : w.ownsRow base e size v n xs) (hg : w.grownBy w' (some b)) (hb : b < base) : w'.ownsRow base e size v n xs := by
  refine ⟨h.1, ?_⟩
  rcases h.2 with h0 | ⟨g, cap, cur, hv, hgb, hh, r⟩
  · exact Or.inl h0
  · refine Or.inr ⟨g, cap, cur, hv, hgb, ?_, r⟩
    rw [hg.block g ((World.ownsRow.lt h g (by rw [hv]; rfl)).2) (fun e => by injection e; omega)]
    exact hh
theorem grown_app {w w2 w8 : World} {b : Nat} {r : Option Nat} (h : w.grownBy w2 (some b)) (hg : w2.grownBy w8 r) (hr : ∀ g, r = some g → w.heap.size ≤ g) : w.grownBy w8 (some b) :=
  ⟨hg.os.trans h.os, hg.tape.trans h.tape, hg.output.trans h.output, Nat.le_trans h.size hg.size, fun i hi hne => (hg.block i (Nat.lt_of_lt_of_le hi h.size) (fun e => by have := hr i e.symm; omega)).trans (h.block i hi hne)⟩
theorem grown_al6 (w : World) (o : Obj) (b : Nat) : w.grownBy (w.alloc o) (some b) := grown_of ((Below.refl _ _).alloc (Nat.le_refl _) _)
/-- so many lines read: R: what the list holds where there is no fault -/
structure EachIs (w : World) (b : Nat) (A : Option Addr) (k : Nat) (L : List (List UInt8)) (i : Nat) (f : Nat × Int) (c m : Nat) (R : World → Value → Prop) (e : Ending) (w' : World) : Prop where
  ex : ∃ v i', e = .returned v ∧ (∃ A' n' k', v = .slice A' n' k') ∧ i' ≤ i + c ∧ Tx w' b A k L i' (flt6 f i m c) ∧ (flt6 f i m c = (0, 0) → i' = i + c ∧ R w' v)
  g : w.grownBy w' (some b)
theorem Tx.re {w : World} {b : Nat} {A : Option Addr} {k : Nat} {L : List (List UInt8)} {i i' : Nat} {f f' : Nat × Int} (h : Tx w b A k L i f) (hi : i = i') (hf : f = f') : Tx w b A k L i' f' := by subst hi hf; exact h
theorem EachIs.bad {w w' : World} {b : Nat} {A : Option Addr} {k : Nat} {L : List (List UInt8)} {i : Nat} {f : Nat × Int} {c m j : Nat} {R : World → Value → Prop} (hm : m = j) (hj : j < c) (hT : Tx w' b A k L (i + j + 1) (flF f (i + j + 1) 12)) (hg : w.grownBy w' (some b)) : EachIs w b A k L i f c m R (.returned (.slice none 0 0)) w' :=
  ⟨⟨_, i + j + 1, rfl, ⟨_, _, _, rfl⟩, by omega, hT.re rfl (by rw [hm]; exact flF_flt hj), fun h => absurd h (by rw [hm]; exact flt_ne hj)⟩, hg⟩
theorem EachIs.good {w w' : World} {b : Nat} {A : Option Addr} {k : Nat} {L : List (List UInt8)} {i : Nat} {f : Nat × Int} {c m : Nat} {R : World → Value → Prop} {v : Value} (hm : m = c) (hv : ∃ A' n' k', v = .slice A' n' k') (hT : Tx w' b A k L (i + c) f) (hR : R w' v) (hg : w.grownBy w' (some b)) : EachIs w b A k L i f c m R (.returned v) w' :=
  ⟨⟨_, i + c, rfl, hv, Nat.le_refl _, hT.re rfl (by rw [hm]; exact flt_end.symm), fun _ => ⟨rfl, hR⟩⟩, hg⟩
theorem gL_some {l : List UInt8} {z : Nat} (h : gL l = some z) : z = nm l 0 := ((gL_nm h).1).symm

set_option maxRecDepth 100000 in
set_option maxHeartbeats 8000000 in
theorem eachL_any (c : Nat) (x : Int) (hx : x = c) (hc : c ≤ 1000) {B b : Nat} {A : Option Addr} {k : Nat} {L : List (List UInt8)} {i : Nat} {f : Nat × Int} (w : World) (hT : Tx w b A k L i f) (hf : f = (0, 0) ∨ 0 < f.1) (hi : i ≤ 20000) (hL : L.length ≤ 100001) (hLn : ∀ j, (lnA L j).length ≤ 100000) (hE : Env B w) (hB : B ≤ b) (hA : ∀ a, A = some a → a.block < w.heap.size) :
    Calls Tryz.prog 51 #[.pointer (some ⟨b, 0, none⟩), .int .i64 x, .func (.func 52) #[] #[]] w
      (EachIs w b A k L i f c (hld (fun j => (gL (lnA L (i + j))).isSome) c) (fun w' v => w'.ownsRow w.heap.size 3 1 v c (intL (fun t => (nm (lnA L (i + t)) 0 : Int)) c))) := by
  obtain ⟨i0, hi0, hzz0, hs0, hy0⟩ := info_parts info_int
  subst hx
  have hbl := hT.h.lt
  have HT0 := Lib.hid hT
  have HE := Lib.hid hE
  have HF := Lib.hid hf
  have HLn := Lib.hid hLn
  have HA := Lib.hid hA
  clear hT hE hf hLn hA
  go_enter Tryz.func51, Tryz.ntmps51
  go_wp2
  go_loopw [7, 13] (fun u q wr => ∃ j : Nat, j ≤ c ∧ q = .int .i64 j ∧ Hid (Tx wr b A k L (i + j) f) ∧ Hid (∀ t, t < j → (gL (lnA L (i + t))).isSome = true) ∧ wr.ownsRow w.heap.size 3 1 u j (intL (fun t => (nm (lnA L (i + t)) 0 : Int)) j) ∧ Hid (w.grownBy wr (some b)) ∧ w.heap.size ≤ wr.heap.size) (fun _ q _ => c - (intOf q).toNat)
  case atStart => exact ⟨0, Nat.zero_le _, rfl, HT0, Lib.hid (fun t ht => absurd ht (Nat.not_lt_zero _)), World.ownsRow_nil _ _ _ _, Lib.hid (grown_of (Below.refl _ _)), Nat.le_refl _⟩
  case round =>
    obtain ⟨j, hj, rfl, hTx, hok, hO, hG, hsz⟩ := hrel
    by_cases hlt : j < c
    · have hq0 : (0 : Int) ≤ (j : Int) := by omega
      have hq1 : (j : Int) < (c : Int) := by omega
      have DN := Lib.hid (next_is hTx.out (by omega) hL)
      obtain ⟨l, hl⟩ : ∃ l, l = lnA L (i + j) := ⟨_, rfl⟩
      have HLL := Lib.hid hl
      have hll := HLn.out (i + j)
      rw [← hl] at hll
      have DL : Hid (∀ W, wr.grownBy W (some b) → Calls Tryz.prog 52 #[.string (str l)] W fun e w' => e = .returned (.tuple #[.int .i64 (((gL l).getD 0 : Nat) : Int), .bool (gL l).isSome]) ∧ Below W.heap.size W w') := Lib.hid fun W hW => by
        have hg := grown_trans hG.out hW
        exact literalOf_any l hll B W (grown_env HE.out (by omega) hB hg) (by have := hg.size; omega)
      clear hl
      cases hgl : gL l with
      | none =>
        rw [hgl] at DL
        have HGL := Lib.hid hgl
        clear hgl
        go_wp2_with (first
          | (go_at_call 81; (with_reducible refine DN.out.mono ?_); rintro e w1 hN; have he := hN.e; rw [← HLL.out] at he; subst he; have hN1 := Lib.hid hN; clear hN)
          | (go_at_call 52; (with_reducible refine (DL.out _ hN1.out.g).mono ?_); rintro e w2 ⟨rfl, hb2⟩; have hT2 := Lib.hid (hN1.out.t.step hb2))
          | (go_at_call 83; (with_reducible refine (fail_any hT2.out HF.out 12).mono ?_); rintro e w3 ⟨rfl, hT3, hg3⟩))
        go_ret
        exact EachIs.bad (hld_at hlt hok.out (by rw [← HLL.out, HGL.out]; rfl)) hlt hT3 (grown_trans (grown_trans (grown_trans hG.out hN1.out.g) (grown_of hb2)) hg3)
      | some z =>
        have hz : z = nm l 0 := gL_some hgl
        rw [hgl] at DL
        have HGL := Lib.hid hgl
        have HZ := Lib.hid hz
        clear hgl hz
        go_wp2_with (first
          | (go_at_call 81; (with_reducible refine DN.out.mono ?_); rintro e w1 hN; have he := hN.e; rw [← HLL.out] at he; subst he; have hN1 := Lib.hid hN; clear hN)
          | (go_at_call 52; (with_reducible refine (DL.out _ hN1.out.g).mono ?_); rintro e w2 ⟨rfl, hb2⟩; have hT2 := Lib.hid (hN1.out.t.step hb2); have hO2 := app_next (own_far hO hN1.out.g hbl) hb2; have hG2 := Lib.hid (grown_trans (grown_trans hG.out hN1.out.g) (grown_of hb2)); have hs2 := hG2.out.size)
          | (at_builtin; refine wpList_append_own _ rfl _ _ 23 rfl w.heap.size 3 i0 _ 1 8 Tryz.underlying23 hi0 hzz0 hs0 hy0 rfl (by decide) _ _ _ rfl (hO2.alloc _) ⟨w2.heap.size, 0, none⟩ 1 1 [.int .i64 (z : Int)] rfl rfl (cell_one_new _ _ _) (by simp [Value.oneCell']) (by simp only [maxLen]; omega) (by omega) (by simp; omega) ?_; intro v' w8 hown' hgrow _))
        have hr8 : ∀ g, _ = some g → w.heap.size ≤ g := own_block hO2
        go_roundw
        case rel => exact ⟨j + 1, by omega, by go_num, Lib.hid (((hT2.out.al _).app hgrow hr8 hbl HA.out).re (by omega) rfl), Lib.hid (fun t ht => by
          rcases Nat.lt_succ_iff_lt_or_eq.1 ht with h' | h'
          · exact hok.out t h'
          · subst h'; rw [← HLL.out, HGL.out]; rfl), by rw [intL, ← HLL.out, ← HZ.out]; exact hown', Lib.hid (grown_app (grown_trans hG2.out (grown_al6 _ _ _)) hgrow hr8), by have := hgrow.size; simp at this; omega⟩
        case measure => simp [intOf]; omega
    · obtain ⟨j', hje⟩ : ∃ j', j' = j := ⟨_, rfl⟩
      subst hje
      have hqn : ¬ (j' : Int) < (c : Int) := by omega
      have hjc : j' = c := by omega
      have HC := Lib.hid hjc
      obtain ⟨A9, k9, rfl⟩ := own_sl hO
      have HO := Lib.hid hO
      clear hjc hlt hj hO
      go_wp2
      go_ret
      refine EachIs.good (hld_end fun t ht => hok.out t (by rw [HC.out]; exact ht)) ⟨_, _, _, rfl⟩ (hTx.out.re (by rw [HC.out]) rfl) ?_ hG.out
      have h := HO.out
      have e := HC.out
      subst e
      exact h

set_option maxRecDepth 100000 in
set_option maxHeartbeats 8000000 in
theorem eachT_any (c : Nat) (x : Int) (hx : x = c) (hc : c ≤ 1000) {B b : Nat} {A : Option Addr} {k : Nat} {L : List (List UInt8)} {i : Nat} {f : Nat × Int} (w : World) (hT : Tx w b A k L i f) (hf : f = (0, 0) ∨ 0 < f.1) (hi : i ≤ 20000) (hL : L.length ≤ 100001) (hLn : ∀ j, (lnA L j).length ≤ 100000) (hE : Env B w) (hB : B ≤ b) (hA : ∀ a, A = some a → a.block < w.heap.size) :
    Calls Tryz.prog 53 #[.pointer (some ⟨b, 0, none⟩), .int .i64 x, .func (.func 54) #[] #[]] w
      (EachIs w b A k L i f c (hld (fun j => (gT (lnA L (i + j))).isSome) c) (fun w' v => w'.ownsRow w.heap.size 32 3 v c (tripL (fun t => (nm (lnA L (i + t)) 0 : Int)) (fun t => (nm (lnA L (i + t)) 1 : Int)) (fun t => (rs3 (lnA L (i + t)) : Int)) c))) := by
  obtain ⟨i0, hi0, hzz0, hs0, hy0⟩ := info_parts info_def
  subst hx
  have hbl := hT.h.lt
  have HT0 := Lib.hid hT
  have HE := Lib.hid hE
  have HF := Lib.hid hf
  have HLn := Lib.hid hLn
  have HA := Lib.hid hA
  clear hT hE hf hLn hA
  go_enter Tryz.func53, Tryz.ntmps53
  go_wp2
  go_loopw [7, 13] (fun u q wr => ∃ j : Nat, j ≤ c ∧ q = .int .i64 j ∧ Hid (Tx wr b A k L (i + j) f) ∧ Hid (∀ t, t < j → (gT (lnA L (i + t))).isSome = true) ∧ wr.ownsRow w.heap.size 32 3 u j (tripL (fun t => (nm (lnA L (i + t)) 0 : Int)) (fun t => (nm (lnA L (i + t)) 1 : Int)) (fun t => (rs3 (lnA L (i + t)) : Int)) j) ∧ Hid (w.grownBy wr (some b)) ∧ w.heap.size ≤ wr.heap.size) (fun _ q _ => c - (intOf q).toNat)
  case atStart => exact ⟨0, Nat.zero_le _, rfl, HT0, Lib.hid (fun t ht => absurd ht (Nat.not_lt_zero _)), World.ownsRow_nil _ _ _ _, Lib.hid (grown_of (Below.refl _ _)), Nat.le_refl _⟩
  case round =>
    obtain ⟨j, hj, rfl, hTx, hok, hO, hG, hsz⟩ := hrel
    by_cases hlt : j < c
    · have hq0 : (0 : Int) ≤ (j : Int) := by omega
      have hq1 : (j : Int) < (c : Int) := by omega
      have DN := Lib.hid (next_is hTx.out (by omega) hL)
      obtain ⟨l, hl⟩ : ∃ l, l = lnA L (i + j) := ⟨_, rfl⟩
      have HLL := Lib.hid hl
      have hll := HLn.out (i + j)
      rw [← hl] at hll
      have DL : Hid (∀ W, wr.grownBy W (some b) → Calls Tryz.prog 54 #[.string (str l)] W fun e w' => TriIs (gT l) W e w') := Lib.hid fun W hW => by
        have hg := grown_trans hG.out hW
        exact latchOf_any l hll B W (grown_env HE.out (by omega) hB hg) (by have := hg.size; omega)
      clear hl
      cases hgl : gT l with
      | none =>
        rw [hgl] at DL
        have HGL := Lib.hid hgl
        clear hgl
        go_wp2_with (first
          | (go_at_call 81; (with_reducible refine DN.out.mono ?_); rintro e w1 hN; have he := hN.e; rw [← HLL.out] at he; subst he; have hN1 := Lib.hid hN; clear hN)
          | (go_at_call 54; (with_reducible refine (DL.out _ hN1.out.g).mono ?_); rintro e w2 ⟨rfl, hb2⟩; dsimp only [Option.getD_some, Option.getD_none, Option.isSome_some, Option.isSome_none]; have hT2 := Lib.hid (hN1.out.t.step hb2))
          | (go_at_call 83; (with_reducible refine (fail_any (hT2.out.al _) HF.out 12).mono ?_); rintro e w3 ⟨rfl, hT3, hg3⟩))
        go_ret
        exact EachIs.bad (hld_at hlt hok.out (by rw [← HLL.out, HGL.out]; rfl)) hlt hT3 (grown_trans (grown_trans (grown_trans hG.out hN1.out.g) (grown_trans (grown_of hb2) (grown_al6 _ _ _))) hg3)
      | some z =>
        obtain ⟨z0, z1, z2⟩ := z
        have hz : z0 = nm l 0 ∧ z1 = nm l 1 ∧ z2 = rs3 l := by have := gT_nm hgl; omega
        rw [hgl] at DL
        have HGL := Lib.hid hgl
        have HZ := Lib.hid hz
        clear hgl hz
        go_wp2_with (first
          | (go_at_call 81; (with_reducible refine DN.out.mono ?_); rintro e w1 hN; have he := hN.e; rw [← HLL.out] at he; subst he; have hN1 := Lib.hid hN; clear hN)
          | (go_at_call 54; (with_reducible refine (DL.out _ hN1.out.g).mono ?_); rintro e w2 ⟨rfl, hb2⟩; dsimp only [Option.getD_some, Option.getD_none, Option.isSome_some, Option.isSome_none]; have hT2 := Lib.hid (hN1.out.t.step hb2); have hO2 := app_next (own_far hO hN1.out.g hbl) hb2; have hG2 := Lib.hid (grown_trans (grown_trans hG.out hN1.out.g) (grown_of hb2)); have hs2 := hG2.out.size)
          | (at_builtin; refine wpList_append_own _ rfl _ _ 24 rfl w.heap.size 32 i0 _ 3 24 Tryz.underlying24 hi0 hzz0 hs0 hy0 rfl (by decide) _ _ _ rfl ((hO2.alloc (.cells #[.int .i64 (z0 : Int), .int .i64 (z1 : Int), .int .i64 (z2 : Int)] 32)).alloc _) ⟨w2.heap.size + 1, 0, none⟩ 1 1 [.int .i64 (z0 : Int), .int .i64 (z1 : Int), .int .i64 (z2 : Int)] rfl rfl (World.news_of_block (cs := #[.int .i64 (z0 : Int), .int .i64 (z1 : Int), .int .i64 (z2 : Int)]) (t := 32) (fr := (0, 0)) (Has.new' _ _ (by simp))) (by simp [Value.oneCell']) (by simp only [maxLen]; omega) (by omega) (by simp; omega) ?_; intro v' w8 hown' hgrow _))
        have hr8 : ∀ g, _ = some g → w.heap.size ≤ g := own_block hO2
        go_roundw
        case rel => exact ⟨j + 1, by omega, by go_num, Lib.hid ((((hT2.out.al (.cells #[.int .i64 (z0 : Int), .int .i64 (z1 : Int), .int .i64 (z2 : Int)] 32)).al _).app hgrow hr8 hbl HA.out).re (by omega) rfl), Lib.hid (fun t ht => by
          rcases Nat.lt_succ_iff_lt_or_eq.1 ht with h' | h'
          · exact hok.out t h'
          · subst h'; rw [← HLL.out, HGL.out]; rfl), by rw [tripL, ← HLL.out, ← HZ.out.1, ← HZ.out.2.1, ← HZ.out.2.2]; exact hown', Lib.hid (grown_app (grown_trans (grown_trans hG2.out (grown_al6 _ (.cells #[.int .i64 (z0 : Int), .int .i64 (z1 : Int), .int .i64 (z2 : Int)] 32) _)) (grown_al6 _ _ _)) hgrow hr8), by have := hgrow.size; simp at this; omega⟩
        case measure => simp [intOf]; omega
    · obtain ⟨j', hje⟩ : ∃ j', j' = j := ⟨_, rfl⟩
      subst hje
      have hqn : ¬ (j' : Int) < (c : Int) := by omega
      have hjc : j' = c := by omega
      have HC := Lib.hid hjc
      obtain ⟨A9, k9, rfl⟩ := own_sl hO
      have HO := Lib.hid hO
      clear hjc hlt hj hO
      go_wp2
      go_ret
      refine EachIs.good (hld_end fun t ht => hok.out t (by rw [HC.out]; exact ht)) ⟨_, _, _, rfl⟩ (hTx.out.re (by rw [HC.out]) rfl) ?_ hG.out
      have h := HO.out
      have e := HC.out
      subst e
      exact h

set_option maxRecDepth 100000 in
set_option maxHeartbeats 8000000 in
theorem eachG_any (c : Nat) (x : Int) (hx : x = c) (hc : c ≤ 1000) {B b : Nat} {A : Option Addr} {k : Nat} {L : List (List UInt8)} {i : Nat} {f : Nat × Int} (w : World) (hT : Tx w b A k L i f) (hf : f = (0, 0) ∨ 0 < f.1) (hi : i ≤ 20000) (hL : L.length ≤ 100001) (hLn : ∀ j, (lnA L j).length ≤ 100000) (hE : Env B w) (hB : B ≤ b) (hA : ∀ a, A = some a → a.block < w.heap.size) :
    Calls Tryz.prog 53 #[.pointer (some ⟨b, 0, none⟩), .int .i64 x, .func (.func 55) #[] #[]] w
      (EachIs w b A k L i f c (hld (fun j => (gG (lnA L (i + j))).isSome) c) (fun w' v => w'.ownsRow w.heap.size 32 3 v c (tripL (fun t => (nm (lnA L (i + t)) 0 : Int)) (fun t => (nm (lnA L (i + t)) 1 : Int)) (fun t => (nm (lnA L (i + t)) 2 : Int)) c))) := by
  obtain ⟨i0, hi0, hzz0, hs0, hy0⟩ := info_parts info_def
  subst hx
  have hbl := hT.h.lt
  have HT0 := Lib.hid hT
  have HE := Lib.hid hE
  have HF := Lib.hid hf
  have HLn := Lib.hid hLn
  have HA := Lib.hid hA
  clear hT hE hf hLn hA
  go_enter Tryz.func53, Tryz.ntmps53
  go_wp2
  go_loopw [7, 13] (fun u q wr => ∃ j : Nat, j ≤ c ∧ q = .int .i64 j ∧ Hid (Tx wr b A k L (i + j) f) ∧ Hid (∀ t, t < j → (gG (lnA L (i + t))).isSome = true) ∧ wr.ownsRow w.heap.size 32 3 u j (tripL (fun t => (nm (lnA L (i + t)) 0 : Int)) (fun t => (nm (lnA L (i + t)) 1 : Int)) (fun t => (nm (lnA L (i + t)) 2 : Int)) j) ∧ Hid (w.grownBy wr (some b)) ∧ w.heap.size ≤ wr.heap.size) (fun _ q _ => c - (intOf q).toNat)
  case atStart => exact ⟨0, Nat.zero_le _, rfl, HT0, Lib.hid (fun t ht => absurd ht (Nat.not_lt_zero _)), World.ownsRow_nil _ _ _ _, Lib.hid (grown_of (Below.refl _ _)), Nat.le_refl _⟩
  case round =>
    obtain ⟨j, hj, rfl, hTx, hok, hO, hG, hsz⟩ := hrel
    by_cases hlt : j < c
    · have hq0 : (0 : Int) ≤ (j : Int) := by omega
      have hq1 : (j : Int) < (c : Int) := by omega
      have DN := Lib.hid (next_is hTx.out (by omega) hL)
      obtain ⟨l, hl⟩ : ∃ l, l = lnA L (i + j) := ⟨_, rfl⟩
      have HLL := Lib.hid hl
      have hll := HLn.out (i + j)
      rw [← hl] at hll
      have DL : Hid (∀ W, wr.grownBy W (some b) → Calls Tryz.prog 55 #[.string (str l)] W fun e w' => TriIs (gG l) W e w') := Lib.hid fun W hW => by
        have hg := grown_trans hG.out hW
        exact gateOf_any l hll B W (grown_env HE.out (by omega) hB hg) (by have := hg.size; omega)
      clear hl
      cases hgl : gG l with
      | none =>
        rw [hgl] at DL
        have HGL := Lib.hid hgl
        clear hgl
        go_wp2_with (first
          | (go_at_call 81; (with_reducible refine DN.out.mono ?_); rintro e w1 hN; have he := hN.e; rw [← HLL.out] at he; subst he; have hN1 := Lib.hid hN; clear hN)
          | (go_at_call 55; (with_reducible refine (DL.out _ hN1.out.g).mono ?_); rintro e w2 ⟨rfl, hb2⟩; dsimp only [Option.getD_some, Option.getD_none, Option.isSome_some, Option.isSome_none]; have hT2 := Lib.hid (hN1.out.t.step hb2))
          | (go_at_call 83; (with_reducible refine (fail_any (hT2.out.al _) HF.out 12).mono ?_); rintro e w3 ⟨rfl, hT3, hg3⟩))
        go_ret
        exact EachIs.bad (hld_at hlt hok.out (by rw [← HLL.out, HGL.out]; rfl)) hlt hT3 (grown_trans (grown_trans (grown_trans hG.out hN1.out.g) (grown_trans (grown_of hb2) (grown_al6 _ _ _))) hg3)
      | some z =>
        obtain ⟨z0, z1, z2⟩ := z
        have hz : z0 = nm l 0 ∧ z1 = nm l 1 ∧ z2 = nm l 2 := by have := gG_nm hgl; omega
        rw [hgl] at DL
        have HGL := Lib.hid hgl
        have HZ := Lib.hid hz
        clear hgl hz
        go_wp2_with (first
          | (go_at_call 81; (with_reducible refine DN.out.mono ?_); rintro e w1 hN; have he := hN.e; rw [← HLL.out] at he; subst he; have hN1 := Lib.hid hN; clear hN)
          | (go_at_call 55; (with_reducible refine (DL.out _ hN1.out.g).mono ?_); rintro e w2 ⟨rfl, hb2⟩; dsimp only [Option.getD_some, Option.getD_none, Option.isSome_some, Option.isSome_none]; have hT2 := Lib.hid (hN1.out.t.step hb2); have hO2 := app_next (own_far hO hN1.out.g hbl) hb2; have hG2 := Lib.hid (grown_trans (grown_trans hG.out hN1.out.g) (grown_of hb2)); have hs2 := hG2.out.size)
          | (at_builtin; refine wpList_append_own _ rfl _ _ 24 rfl w.heap.size 32 i0 _ 3 24 Tryz.underlying24 hi0 hzz0 hs0 hy0 rfl (by decide) _ _ _ rfl ((hO2.alloc (.cells #[.int .i64 (z0 : Int), .int .i64 (z1 : Int), .int .i64 (z2 : Int)] 32)).alloc _) ⟨w2.heap.size + 1, 0, none⟩ 1 1 [.int .i64 (z0 : Int), .int .i64 (z1 : Int), .int .i64 (z2 : Int)] rfl rfl (World.news_of_block (cs := #[.int .i64 (z0 : Int), .int .i64 (z1 : Int), .int .i64 (z2 : Int)]) (t := 32) (fr := (0, 0)) (Has.new' _ _ (by simp))) (by simp [Value.oneCell']) (by simp only [maxLen]; omega) (by omega) (by simp; omega) ?_; intro v' w8 hown' hgrow _))
        have hr8 : ∀ g, _ = some g → w.heap.size ≤ g := own_block hO2
        go_roundw
        case rel => exact ⟨j + 1, by omega, by go_num, Lib.hid ((((hT2.out.al (.cells #[.int .i64 (z0 : Int), .int .i64 (z1 : Int), .int .i64 (z2 : Int)] 32)).al _).app hgrow hr8 hbl HA.out).re (by omega) rfl), Lib.hid (fun t ht => by
          rcases Nat.lt_succ_iff_lt_or_eq.1 ht with h' | h'
          · exact hok.out t h'
          · subst h'; rw [← HLL.out, HGL.out]; rfl), by rw [tripL, ← HLL.out, ← HZ.out.1, ← HZ.out.2.1, ← HZ.out.2.2]; exact hown', Lib.hid (grown_app (grown_trans (grown_trans hG2.out (grown_al6 _ (.cells #[.int .i64 (z0 : Int), .int .i64 (z1 : Int), .int .i64 (z2 : Int)] 32) _)) (grown_al6 _ _ _)) hgrow hr8), by have := hgrow.size; simp at this; omega⟩
        case measure => simp [intOf]; omega
    · obtain ⟨j', hje⟩ : ∃ j', j' = j := ⟨_, rfl⟩
      subst hje
      have hqn : ¬ (j' : Int) < (c : Int) := by omega
      have hjc : j' = c := by omega
      have HC := Lib.hid hjc
      obtain ⟨A9, k9, rfl⟩ := own_sl hO
      have HO := Lib.hid hO
      clear hjc hlt hj hO
      go_wp2
      go_ret
      refine EachIs.good (hld_end fun t ht => hok.out t (by rw [HC.out]; exact ht)) ⟨_, _, _, rfl⟩ (hTx.out.re (by rw [HC.out]) rfl) ?_ hG.out
      have h := HO.out
      have e := HC.out
      subst e
      exact h

end Go.Proofs.YtkpjpokeonppbaaGreatDoor

namespace Go.Proofs.YtkpjpokeonppbaaGreatDoor
open Go Go.RowKit
set_option linter.unusedVariables false
set_option linter.unusedSimpArgs false

/-- a line behind the gates that is as told and does not end the text -/
def okY (s : List UInt8) : Bool := okZ s && !decide (s = [99])
theorem gdZ_is (L : List (List UInt8)) (a : Nat) : gdZ L a = hld (fun j => okY (lnA L (a + j))) (L.length - a) := rfl
theorem talN_end {L : List (List UInt8)} {i j : Nat} (h : ∀ t, t < j → okY (lnA L (i + t)) = true) (hj : L.length ≤ i + j) : talN L i = 0 := by
  have e : gdZ L i = L.length - i := by rw [gdZ_is]; exact hld_end fun t ht => h t (by omega)
  unfold talN
  rw [e, if_neg (by omega)]
theorem talN_c {L : List (List UInt8)} {i j : Nat} (h : ∀ t, t < j → okY (lnA L (i + t)) = true) (hj : i + j < L.length) (hc : lnA L (i + j) = [99]) : talN L i = 0 := by
  have e : gdZ L i = j := by rw [gdZ_is]; exact hld_at (by omega) (fun t ht => h t ht) (by rw [hc]; rfl)
  unfold talN
  rw [e, if_pos (by omega), if_pos hc]
theorem talN_bad {L : List (List UInt8)} {i j : Nat} (h : ∀ t, t < j → okY (lnA L (i + t)) = true) (hj : i + j < L.length) (hc : okZ (lnA L (i + j)) = false) : talN L i = i + j + 1 := by
  have e : gdZ L i = j := by
    rw [gdZ_is]
    refine hld_at (by omega) (fun t ht => h t ht) ?_
    unfold okY; rw [hc]; rfl
  unfold talN
  rw [e, if_pos (by omega), if_neg fun h9 => by rw [h9] at hc; exact absurd hc (by decide)]
theorem fltZ_no {L : List (List UInt8)} {f : Nat × Int} {i : Nat} (h : talN L i = 0) : fltZ L f i = f := by
  unfold fltZ
  rw [h]
  by_cases e : f = (0, 0)
  · rw [if_pos e, if_neg (Nat.lt_irrefl 0), e]
  · rw [if_neg e]
theorem fltZ_bad {L : List (List UInt8)} {f : Nat × Int} {i j : Nat} (h : talN L i = i + j + 1) : flF f (i + j + 1) 38 = fltZ L f i := by
  unfold fltZ flF
  rw [h, if_pos (show 0 < i + j + 1 by omega)]
/-- the letters with which such a line begins -/
theorem let_yes {x : UInt8} (h : x = 105 ∨ x = 108 ∨ x = 111 ∨ x = 98 ∨ x = 99) : decide (0 ≤ Lib.indexByte [105, 108, 111, 98, 99] x) = true := by
  rcases h with rfl | rfl | rfl | rfl | rfl <;> decide
theorem let_no {x : UInt8} (h : ¬ (x = 105 ∨ x = 108 ∨ x = 111 ∨ x = 98 ∨ x = 99)) : decide (0 ≤ Lib.indexByte [105, 108, 111, 98, 99] x) = false := by
  have h1 : ((105 : UInt8) == x) = false := by simp; intro e; exact h (Or.inl e.symm)
  have h2 : ((108 : UInt8) == x) = false := by simp; intro e; exact h (Or.inr (Or.inl e.symm))
  have h3 : ((111 : UInt8) == x) = false := by simp; intro e; exact h (Or.inr (Or.inr (Or.inl e.symm)))
  have h4 : ((98 : UInt8) == x) = false := by simp; intro e; exact h (Or.inr (Or.inr (Or.inr (Or.inl e.symm))))
  have h5 : ((99 : UInt8) == x) = false := by simp; intro e; exact h (Or.inr (Or.inr (Or.inr (Or.inr e.symm))))
  unfold Lib.indexByte Lib.indexByte Lib.indexByte Lib.indexByte Lib.indexByte Lib.indexByte
  simp [h1, h2, h3, h4, h5]
/-- behind the lines -/
structure BehIs (w : World) (b : Nat) (A : Option Addr) (k : Nat) (L : List (List UInt8)) (i : Nat) (f : Nat × Int) (e : Ending) (w' : World) : Prop where
  e : e = .returned (.tuple #[])
  t : ∃ i', Tx w' b A k L i' (fltZ L f i)
  g : w.grownBy w' (some b)
def posOf (w : World) (b : Nat) : Nat := (intOf ((w.cell? ⟨b, 1, none⟩).getD (.int .i64 0))).toNat
theorem posOf_tx {w : World} {b : Nat} {A : Option Addr} {k : Nat} {L : List (List UInt8)} {i : Nat} {f : Nat × Int} (h : Tx w b A k L i f) : posOf w b = i := by
  have := h.h.cell 1
  unfold posOf
  rw [this]
  rfl

set_option maxRecDepth 100000 in
set_option maxHeartbeats 8000000 in
theorem behind_any {b : Nat} {A : Option Addr} {k : Nat} {L : List (List UInt8)} {i : Nat} {f : Nat × Int} (w : World) (hT : Tx w b A k L i f) (hf : f = (0, 0) ∨ 0 < f.1) (hi : i ≤ 20000) (hL : L.length ≤ 60000) (hLn : ∀ j, (lnA L j).length ≤ 100000) :
    Calls Tryz.prog 56 #[.pointer (some ⟨b, 0, none⟩)] w (BehIs w b A k L i f) := by
  have HT0 := Lib.hid hT
  have HF := Lib.hid hf
  clear hT hf hLn
  go_enter Tryz.func56, Tryz.ntmps56
  go_wp2
  go_loopw [] (fun wr => ∃ j : Nat, (0 < j → i + j ≤ L.length) ∧ Hid (Tx wr b A k L (i + j) f) ∧ Hid (∀ t, t < j → okY (lnA L (i + t)) = true) ∧ Hid (w.grownBy wr (some b))) (fun wr => i + L.length + 1 - posOf wr b)
  case atStart => exact ⟨0, fun h => absurd h (Nat.lt_irrefl _), HT0, Lib.hid (fun t ht => absurd ht (Nat.not_lt_zero _)), Lib.hid (grown_of (Below.refl _ _))⟩
  case round =>
    obtain ⟨j, hj, hTx, hok, hG⟩ := hrel
    have DN := Lib.hid (next_is hTx.out (by omega) (by omega))
    obtain ⟨l, hl⟩ : ∃ l, l = lnA L (i + j) := ⟨_, rfl⟩
    have HLL := Lib.hid hl
    by_cases hlt : i + j < L.length
    · have HD : Hid (decide (i + j < L.length) = true) := Lib.hid (decide_eq_true hlt)
      by_cases hc : l = [99]
      · have e1 : ((str l).toList == [99]) = true := by rw [str_list, hc]; rfl
        have HR : Hid (talN L i = 0) := Lib.hid (talN_c hok.out hlt (by rw [← hl, hc]))
        clear hl hc hlt hj
        go_wp2_with (first
          | (go_at_call 81; (with_reducible refine DN.out.mono ?_); rintro e w1 hN; have he := hN.e; rw [← HLL.out, HD.out] at he; subst he; have hN1 := Lib.hid hN; clear hN))
        exact bodyPost_end (results_none rfl _ _ _) rfl ⟨rfl, ⟨_, hN1.out.t.re rfl (fltZ_no HR.out).symm⟩, grown_trans hG.out hN1.out.g⟩
      · have e1 : ((str l).toList == [99]) = false := by rw [str_list]; simpa using hc
        cases hx : l with
        | nil =>
          have e2 : ((str ([] : List UInt8)).toList == ([] : List UInt8)) = true := by rw [str_list]; rfl
          have e3 : (str ([] : List UInt8)).toList = [] := by rw [str_list]
          have HR : Hid (talN L i = i + j + 1) := Lib.hid (talN_bad hok.out hlt (by rw [← hl, hx]; rfl))
          subst hx
          clear hl hc hlt hj
          go_wp2_with (first
            | (go_at_call 81; (with_reducible refine DN.out.mono ?_); rintro e w1 hN; have he := hN.e; rw [← HLL.out, HD.out] at he; subst he; have hN1 := Lib.hid hN; clear hN)
            | (go_at_call 83; (with_reducible refine (fail_any hN1.out.t HF.out 38).mono ?_); rintro e w3 ⟨rfl, hT3, hg3⟩))
          exact bodyPost_end (results_none rfl _ _ _) rfl ⟨rfl, ⟨_, hT3.re rfl (fltZ_bad HR.out)⟩, grown_trans (grown_trans hG.out hN1.out.g) hg3⟩
        | cons x m =>
          have e2 : ((str l).toList == ([] : List UInt8)) = false := by rw [str_list, hx]; rfl
          have k1 : ∀ W : World, (Instr.slice 9 (.string (str l)) none (some (.int .i64 1)) none).run Tryz.prog W = .ok (.string (str (l.take 1))) W := fun W => str_to Tryz.underlying9 l (j := 1) rfl (by rw [hx]; simp) W
          have ht : l.take 1 = [x] := by rw [hx]; rfl
          rw [ht] at k1
          obtain ⟨cb, hcb⟩ : ∃ cb, cb = decide (0 ≤ Lib.indexByte [105, 108, 111, 98, 99] x) := ⟨_, rfl⟩
          have DC : Hid (∀ W, Calls Tryz.prog 85 #[.string ⟨#[105, 108, 111, 98, 99]⟩, .string (str [x])] W fun e w' => e = .returned (.bool cb) ∧ w' = W) := Lib.hid fun W => by
            rw [hcb]
            exact Tryz.strings_Contains_one ⟨#[105, 108, 111, 98, 99]⟩ x W
          by_cases hy : x = 105 ∨ x = 108 ∨ x = 111 ∨ x = 98 ∨ x = 99
          · rw [let_yes hy] at hcb
            subst hcb
            have HO : Hid (okY (lnA L (i + j)) = true) := Lib.hid (by
              rw [← hl]
              unfold okY
              rw [hx]
              rw [hx] at hc
              have : okZ (x :: m) = true := decide_eq_true hy
              rw [this, decide_eq_false hc]; rfl)
            have HP := Lib.hid (posOf_tx hTx.out)
            clear hl hc hx ht hy
            go_wp2_with (first
              | (go_at_call 81; (with_reducible refine DN.out.mono ?_); rintro e w1 hN; have he := hN.e; rw [← HLL.out, HD.out] at he; subst he; have hN1 := Lib.hid hN; clear hN)
              | (go_at_call 85; (with_reducible refine (DC.out _).mono ?_); rintro e w2 ⟨rfl, rfl⟩))
            have hp1 := posOf_tx hN1.out.t
            have hp0 := HP.out
            go_roundw
            case rel => exact ⟨j + 1, fun _ => by omega, Lib.hid (hN1.out.t.re (by omega) rfl), Lib.hid (fun t ht => by
              rcases Nat.lt_succ_iff_lt_or_eq.1 ht with h' | h'
              · exact hok.out t h'
              · subst h'; exact HO.out), Lib.hid (grown_trans hG.out hN1.out.g)⟩
            case measure => omega
          · rw [let_no hy] at hcb
            subst hcb
            have HR : Hid (talN L i = i + j + 1) := Lib.hid (talN_bad hok.out hlt (by rw [← hl, hx]; exact decide_eq_false hy))
            clear hl hc hx ht hy hlt hj
            go_wp2_with (first
              | (go_at_call 81; (with_reducible refine DN.out.mono ?_); rintro e w1 hN; have he := hN.e; rw [← HLL.out, HD.out] at he; subst he; have hN1 := Lib.hid hN; clear hN)
              | (go_at_call 85; (with_reducible refine (DC.out _).mono ?_); rintro e w2 ⟨rfl, rfl⟩)
              | (go_at_call 83; (with_reducible refine (fail_any hN1.out.t HF.out 38).mono ?_); rintro e w3 ⟨rfl, hT3, hg3⟩))
            exact bodyPost_end (results_none rfl _ _ _) rfl ⟨rfl, ⟨_, hT3.re rfl (fltZ_bad HR.out)⟩, grown_trans (grown_trans hG.out hN1.out.g) hg3⟩
    · have HD : Hid (decide (i + j < L.length) = false) := Lib.hid (decide_eq_false hlt)
      have HR : Hid (talN L i = 0) := Lib.hid (talN_end hok.out (by omega))
      clear hl hlt hj
      go_wp2_with (first
        | (go_at_call 81; (with_reducible refine DN.out.mono ?_); rintro e w1 hN; have he := hN.e; rw [← HLL.out, HD.out] at he; subst he; have hN1 := Lib.hid hN; clear hN))
      exact bodyPost_end (results_none rfl _ _ _) rfl ⟨rfl, ⟨_, hN1.out.t.re rfl (fltZ_no HR.out).symm⟩, grown_trans hG.out hN1.out.g⟩

end Go.Proofs.YtkpjpokeonppbaaGreatDoor

namespace Go.Proofs.YtkpjpokeonppbaaGreatDoor
open Go Go.RowKit
set_option linter.unusedVariables false
set_option linter.unusedSimpArgs false

set_option maxRecDepth 100000 in
set_option maxHeartbeats 4000000 in
theorem max_any (g o n k : Nat) (f : Nat → Int) (w : World) (h0 : 0 < n) (hn : n ≤ 1000) (hcs : ∀ j, j < n → w.cell? ⟨g, o + j, none⟩ = some (.int .i64 (f j))) :
    Calls Tryz.prog 107 #[.slice (some ⟨g, o, none⟩) n k] w fun e w' => ∃ x, e = .returned (.int .i64 x) ∧ (∀ j, j < n → f j ≤ x) ∧ (∃ j, j < n ∧ f j = x) ∧ w = w' := by
  have y0 : w.cell? ⟨g, o, none⟩ = some (.int .i64 (f 0)) := hcs 0 h0
  have HC := Lib.hid hcs
  have e1 : ¬ (n : Int) < 1 := by omega
  have hnn : (0 : Int) < (n : Int) := by omega
  clear hcs
  go_enter Tryz.func107, Tryz.ntmps107
  go_wp2
  go_loopw [3, 4] (fun x i wr => ∃ q : Nat, ∃ y : Int, 1 ≤ q ∧ q ≤ n ∧ i = .int .i64 q ∧ x = .int .i64 y ∧ Hid ((∀ j, j < q → f j ≤ y) ∧ ∃ j, j < q ∧ f j = y) ∧ wr = w) (fun _ i _ => n - (intOf i).toNat)
  case atStart =>
    refine ⟨1, f 0, Nat.le_refl _, by omega, rfl, rfl, Lib.hid ⟨fun j hj => ?_, 0, by omega, rfl⟩, rfl⟩
    obtain rfl : j = 0 := by omega
    exact Int.le_refl _
  case round =>
    obtain ⟨q, y, hq1, hq, rfl, rfl, hY, rfl⟩ := hrel
    by_cases hlt : q < n
    · have y1 := HC.out q hlt
      have hi0 : (0 : Int) ≤ (q : Int) := by omega
      have hi1 : (q : Int) < (n : Int) := by omega
      go_wp2
      go_roundw
      case rel =>
        refine ⟨q + 1, max y (f q), by omega, by omega, by go_num, rfl, Lib.hid ⟨fun j hj => ?_, ?_⟩, by trivial⟩
        · rcases Nat.lt_succ_iff_lt_or_eq.1 hj with h' | h'
          · have := hY.out.1 j h'; omega
          · subst h'; omega
        · obtain ⟨j, h1, h2⟩ := hY.out.2
          rcases Int.le_total y (f q) with h3 | h3
          · exact ⟨q, by omega, by omega⟩
          · exact ⟨j, by omega, by omega⟩
      case measure => simp [intOf]; omega
    · obtain ⟨q', hqe⟩ : ∃ q', q' = q := ⟨_, rfl⟩
      subst hqe
      have hqn : ¬ (q' : Int) < (n : Int) := by omega
      have hE : Hid (q' = n) := Lib.hid (by omega)
      clear hq hlt hq1
      go_wp2
      go_ret
      refine ⟨y, rfl, ?_, ?_, rfl⟩
      · intro j hj; exact hY.out.1 j (by rw [hE.out]; exact hj)
      · obtain ⟨j, h1, h2⟩ := hY.out.2
        exact ⟨j, by rw [← hE.out]; exact h1, h2⟩

/-- the first line -/
def hdr1 (s : List UInt8) : Int × List Nat := if s.take 4 = [97, 97, 103, 32] then match lnn 5 9 (s.drop 4) with
      | none => (12, [])
      | some n => if ((List.range 7).all fun i => Nat.ble (n.getD i 0) 1000) = true then (if 0 < n.getD 7 0 ∨ 0 < n.getD 8 0 then (47, []) else (0, n)) else (16, [])
    else (12, [])
theorem hdr_one (L : List (List UInt8)) : hdr L = hdr1 (lnA L 0) := by
  cases L with
  | nil => rfl
  | cons s L => rfl
/-- the counts as a value -/
abbrev ctV (n : Ct) : Value := .agg #[.int .i64 (n.m : Int), .int .i64 (n.i : Int), .int .i64 (n.l : Int), .int .i64 (n.o : Int), .int .i64 (n.a : Int), .int .i64 (n.b : Int), .int .i64 (n.c : Int)]
abbrev ctC (n : Ct) : Array Value := #[.int .i64 (n.m : Int), .int .i64 (n.i : Int), .int .i64 (n.l : Int), .int .i64 (n.o : Int), .int .i64 (n.a : Int), .int .i64 (n.b : Int), .int .i64 (n.c : Int)]
def z9 : List Value := List.replicate 9 (.int .i64 0)
theorem splice_nine (f : Nat → Int) {m j : Nat} (hm : m ≤ 9) (hj : j < 9) : (splice z9 0 (intL f m)).toArray[j]? = some (.int .i64 (if j < m then f j else 0)) := by
  have hl := intL_len f m
  rw [List.getElem?_toArray]
  unfold splice
  rw [List.take_zero, List.nil_append]
  by_cases h : j < m
  · rw [if_pos h, List.getElem?_append_left (by omega), intL_at f m j h]
  · rw [if_neg h, List.getElem?_append_right (by omega), List.getElem?_drop]
    unfold z9
    rw [List.getElem?_replicate, if_pos (by omega)]

theorem copy_src {w1 : World} {g n : Nat} {o : Obj} {f : Nat → Int} (hc : ∀ j, j < n + 1 → w1.cell? ⟨g, j, none⟩ = some (.int .i64 (f j))) : ∀ j v, (intL f (n + 1))[j]? = some v → (w1.alloc o).cell? ((⟨g, 0, none⟩ : Addr).add j) = some v := fun j v hv => by
  have hj : j < n + 1 := by
    have := (List.getElem?_eq_some_iff.1 hv).1
    rw [intL_len] at this; omega
  rw [intL_at f (n + 1) j hj] at hv
  cases hv
  have e : (⟨g, 0, none⟩ : Addr).add j = ⟨g, j, none⟩ := by unfold Addr.add; split <;> simp_all
  rw [e]
  exact ca (hc j hj) o
theorem sets7 {w w1 : World} (h : Below w.heap.size w w1) (u0 u1 u2 u3 u4 u5 u6 : Value) : Below w.heap.size w (((((((w1.setCell ⟨w.heap.size, 0, none⟩ u0).setCell ⟨w.heap.size, 1, none⟩ u1).setCell ⟨w.heap.size, 2, none⟩ u2).setCell ⟨w.heap.size, 3, none⟩ u3).setCell ⟨w.heap.size, 4, none⟩ u4).setCell ⟨w.heap.size, 5, none⟩ u5).setCell ⟨w.heap.size, 6, none⟩ u6) :=
  ((((((h.setCell (Nat.le_refl _) _).setCell (Nat.le_refl _) _).setCell (Nat.le_refl _) _).setCell (Nat.le_refl _) _).setCell (Nat.le_refl _) _).setCell (Nat.le_refl _) _).setCell (Nat.le_refl _) _
theorem cnt_ret {w1 : World} {r : Nat} {cs : Array Value} (h : Has w1 r 96 cs) (n : Ct) (x : Int) (t : Array Value) (ht : t[2]? = some (.pointer (some ⟨r, 0, none⟩))) (h3 : t[3]? = some (.int .i64 x)) (hc : cs.size = 7 := by rfl) :
    (results Tryz.f82 t).run Tryz.prog (((((((w1.setCell ⟨r, 0, none⟩ (.int .i64 (n.m : Int))).setCell ⟨r, 1, none⟩ (.int .i64 (n.i : Int))).setCell ⟨r, 2, none⟩ (.int .i64 (n.l : Int))).setCell ⟨r, 3, none⟩ (.int .i64 (n.o : Int))).setCell ⟨r, 4, none⟩ (.int .i64 (n.a : Int))).setCell ⟨r, 5, none⟩ (.int .i64 (n.b : Int))).setCell ⟨r, 6, none⟩ (.int .i64 (n.c : Int))) = .ok (.tuple #[ctV n, .int .i64 x]) (((((((w1.setCell ⟨r, 0, none⟩ (.int .i64 (n.m : Int))).setCell ⟨r, 1, none⟩ (.int .i64 (n.i : Int))).setCell ⟨r, 2, none⟩ (.int .i64 (n.l : Int))).setCell ⟨r, 3, none⟩ (.int .i64 (n.o : Int))).setCell ⟨r, 4, none⟩ (.int .i64 (n.a : Int))).setCell ⟨r, 5, none⟩ (.int .i64 (n.b : Int))).setCell ⟨r, 6, none⟩ (.int .i64 (n.c : Int))) := by
  have hH := ((((((h.set 0 (.int .i64 (n.m : Int))).set 1 (.int .i64 (n.i : Int))).set 2 (.int .i64 (n.l : Int))).set 3 (.int .i64 (n.o : Int))).set 4 (.int .i64 (n.a : Int))).set 5 (.int .i64 (n.b : Int))).set 6 (.int .i64 (n.c : Int))
  have d0 := hH.cell 0
  have d1 := hH.cell 1
  have d2 := hH.cell 2
  have d3 := hH.cell 3
  have d4 := hH.cell 4
  have d5 := hH.cell 5
  have d6 := hH.cell 6
  simp [hc] at d0 d1 d2 d3 d4 d5 d6
  simp [results, Tryz.results82, go_sem, ht, h3, d0, d1, d2, d3, d4, d5, d6]

theorem nine_cells {w2 : World} {b m : Nat} {f : Nat → Int} (hm : m ≤ 9) (hh : w2.heap[b]? = some (.cells (splice z9 0 (intL f m)).toArray 143 (0, 0))) : ∀ j, j < 9 → w2.cell? ⟨b, 0 + j, none⟩ = some (.int .i64 (if j < m then f j else 0)) := fun j hj => by
  have := (show Has w2 b 143 _ from hh).cell (0 + j)
  rw [this, Nat.zero_add]
  exact splice_nine f hm hj

theorem nine_xs {w2 : World} {b m : Nat} {f : Nat → Int} {xs : List Nat} (hm : m ≤ 9) (hh : w2.heap[b]? = some (.cells (splice z9 0 (intL f m)).toArray 143 (0, 0))) (h : ∀ j, some (Value.int .i64 (if j < m then f j else 0)) = some (.int .i64 ((xs.getD j 0 : Nat) : Int))) : ∀ j, j < 9 → w2.cell? ⟨b, j, none⟩ = some (.int .i64 ((xs.getD j 0 : Nat) : Int)) := fun j hj => by
  have := (nine_cells hm hh j hj).trans (h j)
  rwa [Nat.zero_add] at this
theorem nine_m {w2 : World} {b : Nat} {xs : List Nat} (h : ∀ j, j < 9 → w2.cell? ⟨b, j, none⟩ = some (.int .i64 ((xs.getD j 0 : Nat) : Int))) (o n : Nat) (ho : o + n ≤ 9) : ∀ j, j < n → w2.cell? ⟨b, o + j, none⟩ = some (.int .i64 ((fun j => ((xs.getD (o + j) 0 : Nat) : Int)) j)) := fun j hj => h (o + j) (by omega)
theorem test_lo {xs : List Nat} {m : Int} (h1 : ∀ j, j < 7 → ((xs.getD (0 + j) 0 : Nat) : Int) ≤ m) (h2 : ∃ j, j < 7 ∧ ((xs.getD (0 + j) 0 : Nat) : Int) = m) (h : ∀ j, j < 7 → xs.getD j 0 ≤ 1000) : decide (1000 < m) = false := decide_eq_false (by
  obtain ⟨j, hj, e⟩ := h2
  have := h j hj
  rw [Nat.zero_add] at e
  omega)
theorem test_hi {xs : List Nat} {m : Int} (h1 : ∀ j, j < 7 → ((xs.getD (0 + j) 0 : Nat) : Int) ≤ m) (h : ¬ ∀ j, j < 7 → xs.getD j 0 ≤ 1000) : decide (1000 < m) = true := decide_eq_true (Classical.byContradiction fun hn => h fun j hj => by
  have := h1 j hj
  rw [Nat.zero_add] at this
  omega)
theorem test_pos {xs : List Nat} {m : Int} (h1 : ∀ j, j < 2 → ((xs.getD (7 + j) 0 : Nat) : Int) ≤ m) (h : 0 < xs.getD 7 0 ∨ 0 < xs.getD 8 0) : decide (0 < m) = true := decide_eq_true (by
  have a0 : ((xs.getD 7 0 : Nat) : Int) ≤ m := h1 0 (by omega)
  have a1 : ((xs.getD 8 0 : Nat) : Int) ≤ m := h1 1 (by omega)
  omega)
theorem test_zero {xs : List Nat} {m : Int} (h2 : ∃ j, j < 2 ∧ ((xs.getD (7 + j) 0 : Nat) : Int) = m) (h : ¬ (0 < xs.getD 7 0 ∨ 0 < xs.getD 8 0)) : decide (0 < m) = false := decide_eq_false (by
  obtain ⟨j, hj, e⟩ := h2
  rcases (show j = 0 ∨ j = 1 by omega) with rfl | rfl
  · have e : ((xs.getD 7 0 : Nat) : Int) = m := e
    omega
  · have e : ((xs.getD 8 0 : Nat) : Int) = m := e
    omega)

set_option maxRecDepth 100000 in
set_option maxHeartbeats 8000000 in
theorem countsOf_any (l : List UInt8) (hl : l.length ≤ 100000) (B : Nat) (w : World) (hE : Env B w) (hB : B ≤ w.heap.size) :
    Calls Tryz.prog 82 #[.string (str l)] w fun e w' => e = .returned (.tuple #[ctV (ctO (hdr1 l).2), .int .i64 (hdr1 l).1]) ∧ Below w.heap.size w w' := by
  have hb0 : Below w.heap.size w (w.alloc (.cells #[.int .i64 0, .int .i64 0, .int .i64 0, .int .i64 0, .int .i64 0, .int .i64 0, .int .i64 0] 96)) := (Below.refl _ _).alloc (Nat.le_refl _) _
  have hH0 : Has (w.alloc (.cells #[.int .i64 0, .int .i64 0, .int .i64 0, .int .i64 0, .int .i64 0, .int .i64 0, .int .i64 0] 96)) w.heap.size 96 #[.int .i64 0, .int .i64 0, .int .i64 0, .int .i64 0, .int .i64 0, .int .i64 0, .int .i64 0] := Has.new _ _ _
  have HH := Lib.hid (And.intro hb0 hH0)
  have hdat : (str l).data.toList = l := by simp [str]
  have C := fun W : World => Tryz.strings_CutPrefix (str l) ⟨#[97, 97, 103, 32]⟩ W
  by_cases hp : l.take 4 = [97, 97, 103, 32]
  · have hpf : Lib.hasPrefix l [97, 97, 103, 32] = true := List.isPrefixOf_iff_prefix.2 ⟨l.drop 4, by rw [← hp]; exact List.take_append_drop 4 l⟩
    have htr : Lib.trimPrefix l [97, 97, 103, 32] = l.drop 4 := by unfold Lib.trimPrefix; rw [hpf]; rfl
    have hC : Hid (∀ W, Calls Tryz.prog 106 #[.string (str l), .string ⟨#[97, 97, 103, 32]⟩] W fun e w' => e = .returned (.tuple #[.string (str (l.drop 4)), .bool true]) ∧ w' = W) := Lib.hid fun W => by
      have := C W
      rw [hdat] at this
      rw [show (⟨#[97, 97, 103, 32]⟩ : ByteArray).data.toList = [97, 97, 103, 32] from rfl, htr, hpf] at this
      exact this
    have D := Lib.hid (numbersOf_any (l.drop 4) 5 9 5 9 rfl rfl (by rw [List.length_drop]; omega) B (w.alloc (.cells #[.int .i64 0, .int .i64 0, .int .i64 0, .int .i64 0, .int .i64 0, .int .i64 0, .int .i64 0] 96)) (hE.next hB hb0) (Nat.le_trans hB hb0.size))
    cases hx : lnn 5 9 (l.drop 4) with
    | none =>
      have HX := Lib.hid hx
      have HR : Hid (hdr1 l = (12, [])) := Lib.hid (by unfold hdr1; rw [if_pos hp, hx])
      clear C hp hpf htr hdat hE hB hb0 hH0 hx
      go_enter Tryz.func82, Tryz.ntmps82
      go_wp2_with (first
        | (go_at_call 106; (with_reducible refine (hC.out _).mono ?_); rintro e w1 ⟨rfl, rfl⟩)
        | (go_at_call 84; (with_reducible refine D.out.mono ?_); rintro e w1 ⟨v, ⟨A, m, k, rfl⟩, he, hb1, _⟩; rw [HX.out] at he; (have he : e = .returned (.tuple #[.slice A m k, .bool false]) := he); subst he; have hH1 := HH.out.2.keep hb1 HH.out.2.lt; have c0 := hH1.cell 0; have c1 := hH1.cell 1; have c2 := hH1.cell 2; have c3 := hH1.cell 3; have c4 := hH1.cell 4; have c5 := hH1.cell 5; have c6 := hH1.cell 6; have f0 := hH1.fz 0; have f1 := hH1.fz 1; have f2 := hH1.fz 2; have f3 := hH1.fz 3; have f4 := hH1.fz 4; have f5 := hH1.fz 5; have f6 := hH1.fz 6))
      refine bodyPost_ret (v := .tuple #[ctV ⟨0, 0, 0, 0, 0, 0, 0⟩, .int .i64 12]) ?_ rfl ⟨by rw [HR.out]; rfl, ?_⟩
      · exact cnt_ret hH1 ⟨0, 0, 0, 0, 0, 0, 0⟩ 12 _ rfl rfl
      · exact sets7 (Below.step HH.out.1 HH.out.1.size hb1) _ _ _ _ _ _ _
    | some xs =>
      have hlen := lnn_len hx
      have hnm := lnn_nm hx
      have HX := Lib.hid hx
      have hR : hdr1 l = if ((List.range 7).all fun i => Nat.ble (xs.getD i 0) 1000) = true then (if 0 < xs.getD 7 0 ∨ 0 < xs.getD 8 0 then (47, []) else (0, xs)) else (16, []) := by unfold hdr1; rw [if_pos hp, hx]
      obtain ⟨n, hn⟩ : ∃ n, xs.length = n + 1 := ⟨xs.length - 1, by omega⟩
      have HL := Lib.hid hn
      have HN := Lib.hid hnm
      have HRR := Lib.hid hR
      have HF9 : Hid (∀ j, some (Value.int .i64 (if j < n + 1 then ((nm (l.drop 4) j : Nat) : Int) else 0)) = some (.int .i64 ((xs.getD j 0 : Nat) : Int))) := Lib.hid fun j => by
        by_cases h : j < n + 1
        · rw [if_pos h, hnm j]
        · rw [if_neg h, List.getD_eq_getElem?_getD, List.getElem?_eq_none (by omega)]; rfl
      have hn9 : n + 1 ≤ 9 := by omega
      have HFT : Hid ((intL (fun j => (nm (l.drop 4) j : Int)) (n + 1)).length = Nat.min (n + 1) 9 ∧ 0 + (intL (fun j => (nm (l.drop 4) j : Int)) (n + 1)).length ≤ z9.length) := Lib.hid (by
        rw [intL_len, Nat.mul_one]
        refine ⟨(Nat.min_eq_left hn9).symm, ?_⟩
        show 0 + (n + 1) ≤ 9
        omega)
      obtain ⟨u0, hu0⟩ : ∃ u, u = ((xs.getD 0 0 : Nat) : Int) := ⟨_, rfl⟩
      obtain ⟨u1, hu1⟩ : ∃ u, u = ((xs.getD 1 0 : Nat) : Int) := ⟨_, rfl⟩
      obtain ⟨u2, hu2⟩ : ∃ u, u = ((xs.getD 2 0 : Nat) : Int) := ⟨_, rfl⟩
      obtain ⟨u3, hu3⟩ : ∃ u, u = ((xs.getD 3 0 : Nat) : Int) := ⟨_, rfl⟩
      obtain ⟨u4, hu4⟩ : ∃ u, u = ((xs.getD 4 0 : Nat) : Int) := ⟨_, rfl⟩
      obtain ⟨u5, hu5⟩ : ∃ u, u = ((xs.getD 5 0 : Nat) : Int) := ⟨_, rfl⟩
      obtain ⟨u6, hu6⟩ : ∃ u, u = ((xs.getD 6 0 : Nat) : Int) := ⟨_, rfl⟩
      have HU := Lib.hid (And.intro hu0 (And.intro hu1 (And.intro hu2 (And.intro hu3 (And.intro hu4 (And.intro hu5 hu6))))))
      clear hu0 hu1 hu2 hu3 hu4 hu5 hu6
      by_cases hA : ∀ j, j < 7 → xs.getD j 0 ≤ 1000
      · have hall : ((List.range 7).all fun i => Nat.ble (xs.getD i 0) 1000) = true := List.all_eq_true.2 fun i hi => by rw [Nat.ble_eq]; exact hA i (List.mem_range.1 hi)
        by_cases hK : 0 < xs.getD 7 0 ∨ 0 < xs.getD 8 0
        · have HR : Hid (hdr1 l = (47, [])) := Lib.hid (by rw [HRR.out, if_pos hall, if_pos hK])
          have HAA := Lib.hid (And.intro hA hK)
          clear C hp hpf htr hdat hE hB hb0 hH0 hx hR hnm hlen hn hA hK hall
          go_enter Tryz.func82, Tryz.ntmps82
          go_wp2_with (first
            | (go_at_call 106; (with_reducible refine (hC.out _).mono ?_); rintro e w1 ⟨rfl, rfl⟩)
            | (go_at_call 84; (with_reducible refine D.out.mono ?_); rintro e w1 ⟨v, hv, he, hb1, ho⟩; rw [HX.out] at he; (have he : e = .returned (.tuple #[v, .bool true]) := he); subst he; have ho := ho _ HX.out; rw [HL.out] at ho; obtain ⟨g, k, rfl, hg, hgl, hc⟩ := nums_cells ho; have HC := Lib.hid hc; have hH1 := Lib.hid (HH.out.2.keep hb1 HH.out.2.lt); have hZ : (w1.alloc (.cells #[.int .i64 0, .int .i64 0, .int .i64 0, .int .i64 0, .int .i64 0, .int .i64 0, .int .i64 0, .int .i64 0, .int .i64 0] 143)).heap[w1.heap.size]? = some (.cells z9.toArray 143 (0, 0)) := Has.new w1 143 _; have hcp : ∀ j v, (intL (fun j => (nm (l.drop 4) j : Int)) (n + 1))[j]? = some v → (w1.alloc (.cells #[.int .i64 0, .int .i64 0, .int .i64 0, .int .i64 0, .int .i64 0, .int .i64 0, .int .i64 0, .int .i64 0, .int .i64 0] 143)).cell? ((⟨g, 0, none⟩ : Addr).add j) = some v := (copy_src hc); have HZ := Lib.hid (And.intro hZ hcp); clear hc hv ho hZ hcp)
            | ((with_reducible refine wpList_copy_splice rfl (.tmp 26) (.tmp 27) _ _ rfl 3 Tryz.underlying23 (by kernel_rfl) (some ⟨w1.heap.size, 0, none⟩) (some ⟨g, 0, none⟩) 9 9 (n + 1) k rfl rfl w1.heap.size 0 z9 143 HZ.out.1 (intL (fun j => (nm (l.drop 4) j : Int)) (n + 1)) HFT.out.1 (fun _ => ⟨rfl, _, rfl, HZ.out.2⟩) HFT.out.2 (intL_one _ _) w1.heap.size w1 ((Below.refl _ _).alloc (Nat.le_refl _) _) (Nat.le_refl _) ?_); intro w2 hh hb2; have h9 := Lib.hid (nine_xs (m := n + 1) (f := fun j => ((nm (l.drop 4) j : Nat) : Int)) hn9 hh.out HF9.out); have M0 := Lib.hid (nine_m h9.out 0 7 (by omega)); have M7 := Lib.hid (nine_m h9.out 7 2 (by omega)); have hH2 := hH1.out.keep hb2 hH1.out.lt; have c0 := hH2.cell 0; have c1 := hH2.cell 1; have c2 := hH2.cell 2; have c3 := hH2.cell 3; have c4 := hH2.cell 4; have c5 := hH2.cell 5; have c6 := hH2.cell 6; have f0 := hH2.fz 0; have f1 := hH2.fz 1; have f2 := hH2.fz 2; have f3 := hH2.fz 3; have f4 := hH2.fz 4; have f5 := hH2.fz 5; have f6 := hH2.fz 6; have y0 : w2.cell? ⟨w1.heap.size, 0, none⟩ = some (.int .i64 u0) := (h9.out 0 (by omega)).trans (congrArg (fun z => some (Value.int .i64 z)) HU.out.1.symm); have y1 : w2.cell? ⟨w1.heap.size, 1, none⟩ = some (.int .i64 u1) := (h9.out 1 (by omega)).trans (congrArg (fun z => some (Value.int .i64 z)) HU.out.2.1.symm); have y2 : w2.cell? ⟨w1.heap.size, 2, none⟩ = some (.int .i64 u2) := (h9.out 2 (by omega)).trans (congrArg (fun z => some (Value.int .i64 z)) HU.out.2.2.1.symm); have y3 : w2.cell? ⟨w1.heap.size, 3, none⟩ = some (.int .i64 u3) := (h9.out 3 (by omega)).trans (congrArg (fun z => some (Value.int .i64 z)) HU.out.2.2.2.1.symm); have y4 : w2.cell? ⟨w1.heap.size, 4, none⟩ = some (.int .i64 u4) := (h9.out 4 (by omega)).trans (congrArg (fun z => some (Value.int .i64 z)) HU.out.2.2.2.2.1.symm); have y5 : w2.cell? ⟨w1.heap.size, 5, none⟩ = some (.int .i64 u5) := (h9.out 5 (by omega)).trans (congrArg (fun z => some (Value.int .i64 z)) HU.out.2.2.2.2.2.1.symm); have y6 : w2.cell? ⟨w1.heap.size, 6, none⟩ = some (.int .i64 u6) := (h9.out 6 (by omega)).trans (congrArg (fun z => some (Value.int .i64 z)) HU.out.2.2.2.2.2.2.symm))
            | (go_at_call 107; (with_reducible refine (max_any w1.heap.size 0 7 9 (fun j => ((xs.getD (0 + j) 0 : Nat) : Int)) w2 (by omega) (by omega) M0.out).mono ?_); rintro e w3 ⟨m0, rfl, hy1, hy2, rfl⟩; have g0 := (test_lo hy1 hy2 HAA.out.1); clear hy1 hy2)
            | (go_at_call 107; (with_reducible refine (max_any w1.heap.size 7 2 2 (fun j => ((xs.getD (7 + j) 0 : Nat) : Int)) w2 (by omega) (by omega) M7.out).mono ?_); rintro e w4 ⟨m7, rfl, hy1, hy2, rfl⟩; have g7 := (test_pos hy1 HAA.out.2); clear hy1 hy2))
          refine bodyPost_ret (v := .tuple #[ctV ⟨0, 0, 0, 0, 0, 0, 0⟩, .int .i64 47]) ?_ rfl ⟨by rw [HR.out]; rfl, ?_⟩
          · exact cnt_ret hH2 ⟨0, 0, 0, 0, 0, 0, 0⟩ 47 _ rfl rfl
          · exact sets7 ((Below.step HH.out.1 HH.out.1.size hb1).trans (hb2.mono (Below.step HH.out.1 HH.out.1.size hb1).size)) _ _ _ _ _ _ _

        · have HR : Hid (hdr1 l = (0, xs)) := Lib.hid (by rw [HRR.out, if_pos hall, if_neg hK])
          have HAA := Lib.hid (And.intro hA hK)
          clear C hp hpf htr hdat hE hB hb0 hH0 hx hR hnm hlen hn hA hK hall
          go_enter Tryz.func82, Tryz.ntmps82
          go_wp2_with (first
            | (go_at_call 106; (with_reducible refine (hC.out _).mono ?_); rintro e w1 ⟨rfl, rfl⟩)
            | (go_at_call 84; (with_reducible refine D.out.mono ?_); rintro e w1 ⟨v, hv, he, hb1, ho⟩; rw [HX.out] at he; (have he : e = .returned (.tuple #[v, .bool true]) := he); subst he; have ho := ho _ HX.out; rw [HL.out] at ho; obtain ⟨g, k, rfl, hg, hgl, hc⟩ := nums_cells ho; have HC := Lib.hid hc; have hH1 := Lib.hid (HH.out.2.keep hb1 HH.out.2.lt); have hZ : (w1.alloc (.cells #[.int .i64 0, .int .i64 0, .int .i64 0, .int .i64 0, .int .i64 0, .int .i64 0, .int .i64 0, .int .i64 0, .int .i64 0] 143)).heap[w1.heap.size]? = some (.cells z9.toArray 143 (0, 0)) := Has.new w1 143 _; have hcp : ∀ j v, (intL (fun j => (nm (l.drop 4) j : Int)) (n + 1))[j]? = some v → (w1.alloc (.cells #[.int .i64 0, .int .i64 0, .int .i64 0, .int .i64 0, .int .i64 0, .int .i64 0, .int .i64 0, .int .i64 0, .int .i64 0] 143)).cell? ((⟨g, 0, none⟩ : Addr).add j) = some v := (copy_src hc); have HZ := Lib.hid (And.intro hZ hcp); clear hc hv ho hZ hcp)
            | ((with_reducible refine wpList_copy_splice rfl (.tmp 26) (.tmp 27) _ _ rfl 3 Tryz.underlying23 (by kernel_rfl) (some ⟨w1.heap.size, 0, none⟩) (some ⟨g, 0, none⟩) 9 9 (n + 1) k rfl rfl w1.heap.size 0 z9 143 HZ.out.1 (intL (fun j => (nm (l.drop 4) j : Int)) (n + 1)) HFT.out.1 (fun _ => ⟨rfl, _, rfl, HZ.out.2⟩) HFT.out.2 (intL_one _ _) w1.heap.size w1 ((Below.refl _ _).alloc (Nat.le_refl _) _) (Nat.le_refl _) ?_); intro w2 hh hb2; have h9 := Lib.hid (nine_xs (m := n + 1) (f := fun j => ((nm (l.drop 4) j : Nat) : Int)) hn9 hh.out HF9.out); have M0 := Lib.hid (nine_m h9.out 0 7 (by omega)); have M7 := Lib.hid (nine_m h9.out 7 2 (by omega)); have hH2 := hH1.out.keep hb2 hH1.out.lt; have c0 := hH2.cell 0; have c1 := hH2.cell 1; have c2 := hH2.cell 2; have c3 := hH2.cell 3; have c4 := hH2.cell 4; have c5 := hH2.cell 5; have c6 := hH2.cell 6; have f0 := hH2.fz 0; have f1 := hH2.fz 1; have f2 := hH2.fz 2; have f3 := hH2.fz 3; have f4 := hH2.fz 4; have f5 := hH2.fz 5; have f6 := hH2.fz 6; have y0 : w2.cell? ⟨w1.heap.size, 0, none⟩ = some (.int .i64 u0) := (h9.out 0 (by omega)).trans (congrArg (fun z => some (Value.int .i64 z)) HU.out.1.symm); have y1 : w2.cell? ⟨w1.heap.size, 1, none⟩ = some (.int .i64 u1) := (h9.out 1 (by omega)).trans (congrArg (fun z => some (Value.int .i64 z)) HU.out.2.1.symm); have y2 : w2.cell? ⟨w1.heap.size, 2, none⟩ = some (.int .i64 u2) := (h9.out 2 (by omega)).trans (congrArg (fun z => some (Value.int .i64 z)) HU.out.2.2.1.symm); have y3 : w2.cell? ⟨w1.heap.size, 3, none⟩ = some (.int .i64 u3) := (h9.out 3 (by omega)).trans (congrArg (fun z => some (Value.int .i64 z)) HU.out.2.2.2.1.symm); have y4 : w2.cell? ⟨w1.heap.size, 4, none⟩ = some (.int .i64 u4) := (h9.out 4 (by omega)).trans (congrArg (fun z => some (Value.int .i64 z)) HU.out.2.2.2.2.1.symm); have y5 : w2.cell? ⟨w1.heap.size, 5, none⟩ = some (.int .i64 u5) := (h9.out 5 (by omega)).trans (congrArg (fun z => some (Value.int .i64 z)) HU.out.2.2.2.2.2.1.symm); have y6 : w2.cell? ⟨w1.heap.size, 6, none⟩ = some (.int .i64 u6) := (h9.out 6 (by omega)).trans (congrArg (fun z => some (Value.int .i64 z)) HU.out.2.2.2.2.2.2.symm))
            | (go_at_call 107; (with_reducible refine (max_any w1.heap.size 0 7 9 (fun j => ((xs.getD (0 + j) 0 : Nat) : Int)) w2 (by omega) (by omega) M0.out).mono ?_); rintro e w3 ⟨m0, rfl, hy1, hy2, rfl⟩; have g0 := (test_lo hy1 hy2 HAA.out.1); clear hy1 hy2)
            | (go_at_call 107; (with_reducible refine (max_any w1.heap.size 7 2 2 (fun j => ((xs.getD (7 + j) 0 : Nat) : Int)) w2 (by omega) (by omega) M7.out).mono ?_); rintro e w4 ⟨m7, rfl, hy1, hy2, rfl⟩; have g7 := (test_zero hy2 HAA.out.2); clear hy1 hy2))
          refine bodyPost_ret (v := .tuple #[ctV (ctO xs), .int .i64 0]) ?_ rfl ⟨by rw [HR.out], ?_⟩
          · obtain ⟨q0, q1, q2, q3, q4, q5, q6⟩ := HU.out
            subst q0 q1 q2 q3 q4 q5 q6
            exact cnt_ret hH2 (ctO xs) 0 _ rfl rfl
          · exact sets7 ((Below.step HH.out.1 HH.out.1.size hb1).trans (hb2.mono (Below.step HH.out.1 HH.out.1.size hb1).size)) _ _ _ _ _ _ _

      · have hall : ¬ ((List.range 7).all fun i => Nat.ble (xs.getD i 0) 1000) = true := fun h => hA fun j hj => by have := List.all_eq_true.1 h j (List.mem_range.2 hj); rwa [Nat.ble_eq] at this
        have HR : Hid (hdr1 l = (16, [])) := Lib.hid (by rw [HRR.out, if_neg hall])
        have HAA := Lib.hid hA
        clear C hp hpf htr hdat hE hB hb0 hH0 hx hR hnm hlen hn hA hall
        go_enter Tryz.func82, Tryz.ntmps82
        go_wp2_with (first
          | (go_at_call 106; (with_reducible refine (hC.out _).mono ?_); rintro e w1 ⟨rfl, rfl⟩)
          | (go_at_call 84; (with_reducible refine D.out.mono ?_); rintro e w1 ⟨v, hv, he, hb1, ho⟩; rw [HX.out] at he; (have he : e = .returned (.tuple #[v, .bool true]) := he); subst he; have ho := ho _ HX.out; rw [HL.out] at ho; obtain ⟨g, k, rfl, hg, hgl, hc⟩ := nums_cells ho; have HC := Lib.hid hc; have hH1 := Lib.hid (HH.out.2.keep hb1 HH.out.2.lt); have hZ : (w1.alloc (.cells #[.int .i64 0, .int .i64 0, .int .i64 0, .int .i64 0, .int .i64 0, .int .i64 0, .int .i64 0, .int .i64 0, .int .i64 0] 143)).heap[w1.heap.size]? = some (.cells z9.toArray 143 (0, 0)) := Has.new w1 143 _; have hcp : ∀ j v, (intL (fun j => (nm (l.drop 4) j : Int)) (n + 1))[j]? = some v → (w1.alloc (.cells #[.int .i64 0, .int .i64 0, .int .i64 0, .int .i64 0, .int .i64 0, .int .i64 0, .int .i64 0, .int .i64 0, .int .i64 0] 143)).cell? ((⟨g, 0, none⟩ : Addr).add j) = some v := (copy_src hc); have HZ := Lib.hid (And.intro hZ hcp); clear hc hv ho hZ hcp)
          | ((with_reducible refine wpList_copy_splice rfl (.tmp 26) (.tmp 27) _ _ rfl 3 Tryz.underlying23 (by kernel_rfl) (some ⟨w1.heap.size, 0, none⟩) (some ⟨g, 0, none⟩) 9 9 (n + 1) k rfl rfl w1.heap.size 0 z9 143 HZ.out.1 (intL (fun j => (nm (l.drop 4) j : Int)) (n + 1)) HFT.out.1 (fun _ => ⟨rfl, _, rfl, HZ.out.2⟩) HFT.out.2 (intL_one _ _) w1.heap.size w1 ((Below.refl _ _).alloc (Nat.le_refl _) _) (Nat.le_refl _) ?_); intro w2 hh hb2; have h9 := Lib.hid (nine_xs (m := n + 1) (f := fun j => ((nm (l.drop 4) j : Nat) : Int)) hn9 hh.out HF9.out); have M0 := Lib.hid (nine_m h9.out 0 7 (by omega)); have M7 := Lib.hid (nine_m h9.out 7 2 (by omega)); have hH2 := hH1.out.keep hb2 hH1.out.lt; have c0 := hH2.cell 0; have c1 := hH2.cell 1; have c2 := hH2.cell 2; have c3 := hH2.cell 3; have c4 := hH2.cell 4; have c5 := hH2.cell 5; have c6 := hH2.cell 6; have f0 := hH2.fz 0; have f1 := hH2.fz 1; have f2 := hH2.fz 2; have f3 := hH2.fz 3; have f4 := hH2.fz 4; have f5 := hH2.fz 5; have f6 := hH2.fz 6; have y0 : w2.cell? ⟨w1.heap.size, 0, none⟩ = some (.int .i64 u0) := (h9.out 0 (by omega)).trans (congrArg (fun z => some (Value.int .i64 z)) HU.out.1.symm); have y1 : w2.cell? ⟨w1.heap.size, 1, none⟩ = some (.int .i64 u1) := (h9.out 1 (by omega)).trans (congrArg (fun z => some (Value.int .i64 z)) HU.out.2.1.symm); have y2 : w2.cell? ⟨w1.heap.size, 2, none⟩ = some (.int .i64 u2) := (h9.out 2 (by omega)).trans (congrArg (fun z => some (Value.int .i64 z)) HU.out.2.2.1.symm); have y3 : w2.cell? ⟨w1.heap.size, 3, none⟩ = some (.int .i64 u3) := (h9.out 3 (by omega)).trans (congrArg (fun z => some (Value.int .i64 z)) HU.out.2.2.2.1.symm); have y4 : w2.cell? ⟨w1.heap.size, 4, none⟩ = some (.int .i64 u4) := (h9.out 4 (by omega)).trans (congrArg (fun z => some (Value.int .i64 z)) HU.out.2.2.2.2.1.symm); have y5 : w2.cell? ⟨w1.heap.size, 5, none⟩ = some (.int .i64 u5) := (h9.out 5 (by omega)).trans (congrArg (fun z => some (Value.int .i64 z)) HU.out.2.2.2.2.2.1.symm); have y6 : w2.cell? ⟨w1.heap.size, 6, none⟩ = some (.int .i64 u6) := (h9.out 6 (by omega)).trans (congrArg (fun z => some (Value.int .i64 z)) HU.out.2.2.2.2.2.2.symm))
          | (go_at_call 107; (with_reducible refine (max_any w1.heap.size 0 7 9 (fun j => ((xs.getD (0 + j) 0 : Nat) : Int)) w2 (by omega) (by omega) M0.out).mono ?_); rintro e w3 ⟨m0, rfl, hy1, hy2, rfl⟩; have g0 := (test_hi hy1 HAA.out); clear hy1 hy2))
        refine bodyPost_ret (v := .tuple #[ctV ⟨0, 0, 0, 0, 0, 0, 0⟩, .int .i64 16]) ?_ rfl ⟨by rw [HR.out]; rfl, ?_⟩
        · exact cnt_ret hH2 ⟨0, 0, 0, 0, 0, 0, 0⟩ 16 _ rfl rfl
        · exact sets7 ((Below.step HH.out.1 HH.out.1.size hb1).trans (hb2.mono (Below.step HH.out.1 HH.out.1.size hb1).size)) _ _ _ _ _ _ _

  · have hpf : Lib.hasPrefix l [97, 97, 103, 32] = false := by
      cases h : Lib.hasPrefix l [97, 97, 103, 32] with
      | false => rfl
      | true =>
        obtain ⟨t, ht⟩ := List.isPrefixOf_iff_prefix.1 h
        exact absurd (by rw [← ht]; rfl) hp
    have htr : Lib.trimPrefix l [97, 97, 103, 32] = l := by unfold Lib.trimPrefix; rw [hpf]; rfl
    have hC : Hid (∀ W, Calls Tryz.prog 106 #[.string (str l), .string ⟨#[97, 97, 103, 32]⟩] W fun e w' => e = .returned (.tuple #[.string (str l), .bool false]) ∧ w' = W) := Lib.hid fun W => by
      have := C W
      rw [hdat] at this
      rw [show (⟨#[97, 97, 103, 32]⟩ : ByteArray).data.toList = [97, 97, 103, 32] from rfl, htr, hpf] at this
      exact this
    have D := Lib.hid (numbersOf_any l 5 9 5 9 rfl rfl hl B (w.alloc (.cells #[.int .i64 0, .int .i64 0, .int .i64 0, .int .i64 0, .int .i64 0, .int .i64 0, .int .i64 0] 96)) (hE.next hB hb0) (Nat.le_trans hB hb0.size))
    have HR : Hid (hdr1 l = (12, [])) := Lib.hid (if_neg hp)
    clear C hp hpf htr hdat hE hB hb0 hH0
    go_enter Tryz.func82, Tryz.ntmps82
    go_wp2_with (first
      | (go_at_call 106; (with_reducible refine (hC.out _).mono ?_); rintro e w1 ⟨rfl, rfl⟩)
      | (go_at_call 84; (with_reducible refine D.out.mono ?_); rintro e w1 ⟨v, ⟨A, m, k, rfl⟩, he, hb1, _⟩; obtain ⟨bb, hbb⟩ : ∃ bb, bb = (lnn 5 9 l).isSome := ⟨_, rfl⟩; rw [← hbb] at he; subst he; clear hbb; have hH1 := HH.out.2.keep hb1 HH.out.2.lt; have c0 := hH1.cell 0; have c1 := hH1.cell 1; have c2 := hH1.cell 2; have c3 := hH1.cell 3; have c4 := hH1.cell 4; have c5 := hH1.cell 5; have c6 := hH1.cell 6; have f0 := hH1.fz 0; have f1 := hH1.fz 1; have f2 := hH1.fz 2; have f3 := hH1.fz 3; have f4 := hH1.fz 4; have f5 := hH1.fz 5; have f6 := hH1.fz 6))
    refine bodyPost_ret (v := .tuple #[ctV ⟨0, 0, 0, 0, 0, 0, 0⟩, .int .i64 12]) ?_ rfl ⟨by rw [HR.out]; rfl, ?_⟩
    · exact cnt_ret hH1 ⟨0, 0, 0, 0, 0, 0, 0⟩ 12 _ rfl rfl
    · exact sets7 (Below.step HH.out.1 HH.out.1.size hb1) _ _ _ _ _ _ _

end Go.Proofs.YtkpjpokeonppbaaGreatDoor

namespace Go.Proofs.YtkpjpokeonppbaaGreatDoor
open Go Go.RowKit
set_option linter.unusedVariables false
set_option linter.unusedSimpArgs false

/-- the fault of the first line -/
def fstF (L : List (List UInt8)) : Nat × Int := if (hdr L).1 = 0 then (0, 0) else (1, (hdr L).1)

theorem sets7_has {W : World} {r : Nat} (h : Has W r 96 #[.int .i64 0, .int .i64 0, .int .i64 0, .int .i64 0, .int .i64 0, .int .i64 0, .int .i64 0]) (y0 y1 y2 y3 y4 y5 y6 : Int) : Has (((((((W.setCell ⟨r, 0, none⟩ (.int .i64 y0)).setCell ⟨r, 1, none⟩ (.int .i64 y1)).setCell ⟨r, 2, none⟩ (.int .i64 y2)).setCell ⟨r, 3, none⟩ (.int .i64 y3)).setCell ⟨r, 4, none⟩ (.int .i64 y4)).setCell ⟨r, 5, none⟩ (.int .i64 y5)).setCell ⟨r, 6, none⟩ (.int .i64 y6)) r 96 #[.int .i64 y0, .int .i64 y1, .int .i64 y2, .int .i64 y3, .int .i64 y4, .int .i64 y5, .int .i64 y6] := by
  have := ((((((h.set 0 (.int .i64 y0)).set 1 (.int .i64 y1)).set 2 (.int .i64 y2)).set 3 (.int .i64 y3)).set 4 (.int .i64 y4)).set 5 (.int .i64 y5)).set 6 (.int .i64 y6)
  exact this
theorem sets7_grown (W : World) (r : Nat) (y0 y1 y2 y3 y4 y5 y6 : Int) : W.grownBy (((((((W.setCell ⟨r, 0, none⟩ (.int .i64 y0)).setCell ⟨r, 1, none⟩ (.int .i64 y1)).setCell ⟨r, 2, none⟩ (.int .i64 y2)).setCell ⟨r, 3, none⟩ (.int .i64 y3)).setCell ⟨r, 4, none⟩ (.int .i64 y4)).setCell ⟨r, 5, none⟩ (.int .i64 y5)).setCell ⟨r, 6, none⟩ (.int .i64 y6)) (some r) :=
  grown_trans (grown_trans (grown_trans (grown_trans (grown_trans (grown_trans (grown_put W r 0 _) (grown_put _ r 1 _)) (grown_put _ r 2 _)) (grown_put _ r 3 _)) (grown_put _ r 4 _)) (grown_put _ r 5 _)) (grown_put _ r 6 _)
theorem fst_ret {W : World} {r : Nat} (h : Has W r 96 #[.int .i64 0, .int .i64 0, .int .i64 0, .int .i64 0, .int .i64 0, .int .i64 0, .int .i64 0]) (y0 y1 y2 y3 y4 y5 y6 : Int) (t : Array Value) (ht : t[2]? = some (.pointer (some ⟨r, 0, none⟩))) :
    (results Tryz.f49 t).run Tryz.prog (((((((W.setCell ⟨r, 0, none⟩ (.int .i64 y0)).setCell ⟨r, 1, none⟩ (.int .i64 y1)).setCell ⟨r, 2, none⟩ (.int .i64 y2)).setCell ⟨r, 3, none⟩ (.int .i64 y3)).setCell ⟨r, 4, none⟩ (.int .i64 y4)).setCell ⟨r, 5, none⟩ (.int .i64 y5)).setCell ⟨r, 6, none⟩ (.int .i64 y6)) = .ok (.agg #[.int .i64 y0, .int .i64 y1, .int .i64 y2, .int .i64 y3, .int .i64 y4, .int .i64 y5, .int .i64 y6]) (((((((W.setCell ⟨r, 0, none⟩ (.int .i64 y0)).setCell ⟨r, 1, none⟩ (.int .i64 y1)).setCell ⟨r, 2, none⟩ (.int .i64 y2)).setCell ⟨r, 3, none⟩ (.int .i64 y3)).setCell ⟨r, 4, none⟩ (.int .i64 y4)).setCell ⟨r, 5, none⟩ (.int .i64 y5)).setCell ⟨r, 6, none⟩ (.int .i64 y6)) := by
  have hH := sets7_has h y0 y1 y2 y3 y4 y5 y6
  have d0 := hH.cell 0
  have d1 := hH.cell 1
  have d2 := hH.cell 2
  have d3 := hH.cell 3
  have d4 := hH.cell 4
  have d5 := hH.cell 5
  have d6 := hH.cell 6
  simp at d0 d1 d2 d3 d4 d5 d6
  simp [results, Tryz.results49, go_sem, ht, d0, d1, d2, d3, d4, d5, d6]

set_option maxRecDepth 100000 in
set_option maxHeartbeats 8000000 in
theorem first_any {B b : Nat} {A : Option Addr} {k : Nat} {L : List (List UInt8)} (w : World) (hT : Tx w b A k L 0 (0, 0)) (hL : L.length ≤ 100001) (hLn : ∀ j, (lnA L j).length ≤ 100000) (hE : Env B w) (hB : B ≤ b) (hA : ∀ a, A = some a → a.block < w.heap.size) :
    Calls Tryz.prog 49 #[.pointer (some ⟨b, 0, none⟩)] w fun e w' => e = .returned (ctV (ctO (hdr L).2)) ∧ Tx w' b A k L 1 (fstF L) ∧ w.grownBy w' (some b) := by
  have hbl := hT.h.lt
  have hg0 := grown_al6 w (.cells #[.int .i64 0, .int .i64 0, .int .i64 0, .int .i64 0, .int .i64 0, .int .i64 0, .int .i64 0] 96) b
  have hH0 : Has (w.alloc (.cells #[.int .i64 0, .int .i64 0, .int .i64 0, .int .i64 0, .int .i64 0, .int .i64 0, .int .i64 0] 96)) w.heap.size 96 #[.int .i64 0, .int .i64 0, .int .i64 0, .int .i64 0, .int .i64 0, .int .i64 0, .int .i64 0] := Has.new _ _ _
  have DN := Lib.hid (next_is (hT.al (.cells #[.int .i64 0, .int .i64 0, .int .i64 0, .int .i64 0, .int .i64 0, .int .i64 0, .int .i64 0] 96)) (by omega) hL)
  obtain ⟨l, hl⟩ : ∃ l, l = lnA L 0 := ⟨_, rfl⟩
  have hll := hLn 0
  have hh := hdr_one L
  rw [← hl] at hll hh
  have DC : Hid (∀ W, w.grownBy W (some b) → Calls Tryz.prog 82 #[.string (str l)] W fun e w' => e = .returned (.tuple #[ctV (ctO (hdr1 l).2), .int .i64 (hdr1 l).1]) ∧ Below W.heap.size W w') := Lib.hid fun W hW => countsOf_any l hll B W (grown_env hE (by omega) hB hW) (by have := hW.size; omega)
  have HLL := Lib.hid hl
  obtain ⟨x, hx⟩ : ∃ x, x = (hdr1 l).1 := ⟨_, rfl⟩
  obtain ⟨n, hn⟩ : ∃ n, n = ctO (hdr1 l).2 := ⟨_, rfl⟩
  rw [← hx, ← hn] at DC
  have HF : Hid (fstF L = if x = 0 then (0, 0) else (1, x)) := Lib.hid (by unfold fstF; rw [hh, ← hx])
  have HN : Hid (ctO (hdr L).2 = n) := Lib.hid (by rw [hh, ← hn])
  have HA := Lib.hid hA
  have HG0 := Lib.hid (And.intro hg0 hH0)
  obtain ⟨y0, hy0⟩ : ∃ y, y = ((n.m : Nat) : Int) := ⟨_, rfl⟩
  obtain ⟨y1, hy1⟩ : ∃ y, y = ((n.i : Nat) : Int) := ⟨_, rfl⟩
  obtain ⟨y2, hy2⟩ : ∃ y, y = ((n.l : Nat) : Int) := ⟨_, rfl⟩
  obtain ⟨y3, hy3⟩ : ∃ y, y = ((n.o : Nat) : Int) := ⟨_, rfl⟩
  obtain ⟨y4, hy4⟩ : ∃ y, y = ((n.a : Nat) : Int) := ⟨_, rfl⟩
  obtain ⟨y5, hy5⟩ : ∃ y, y = ((n.b : Nat) : Int) := ⟨_, rfl⟩
  obtain ⟨y6, hy6⟩ : ∃ y, y = ((n.c : Nat) : Int) := ⟨_, rfl⟩
  have hV : ctV n = .agg #[.int .i64 y0, .int .i64 y1, .int .i64 y2, .int .i64 y3, .int .i64 y4, .int .i64 y5, .int .i64 y6] := by rw [hy0, hy1, hy2, hy3, hy4, hy5, hy6]
  rw [hV] at DC
  have HV := Lib.hid hV
  clear hV hy0 hy1 hy2 hy3 hy4 hy5 hy6 hl hx hn hh hT hLn hE hg0 hH0 hA
  by_cases h0 : x = 0
  · subst h0
    go_enter Tryz.func49, Tryz.ntmps49
    go_upto_region 3 with (first
      | (go_at_call 81; (with_reducible refine DN.out.mono ?_); rintro e w1 hN; have he := hN.e; rw [← HLL.out] at he; subst he; have hN1 := Lib.hid hN; clear hN)
      | (go_at_call 82; (with_reducible refine (DC.out _ (grown_trans HG0.out.1 hN1.out.g)).mono ?_); rintro e w2 ⟨rfl, hb2⟩; have hT2 := Lib.hid (hN1.out.t.step hb2); have hH2 := Lib.hid ((HG0.out.2.keepg hN1.out.g (by intro e; injection e; omega)).keep hb2 (HG0.out.2.keepg hN1.out.g (by intro e; injection e; omega)).lt); have hG2 := Lib.hid (grown_trans (grown_trans HG0.out.1 hN1.out.g) (grown_of hb2)); have hs2 := hG2.out.size; have hrl := hH2.out.lt; have hb3 := Lib.hid ((Below.refl w2.heap.size w2).alloc (Nat.le_refl _) (.cells #[.int .i64 y0, .int .i64 y1, .int .i64 y2, .int .i64 y3, .int .i64 y4, .int .i64 y5, .int .i64 y6] 96)); have hH3 := Lib.hid (hH2.out.keep hb3.out hrl); have hX3 : Hid (Has (w2.alloc (.cells #[.int .i64 y0, .int .i64 y1, .int .i64 y2, .int .i64 y3, .int .i64 y4, .int .i64 y5, .int .i64 y6] 96)) w2.heap.size 96 #[.int .i64 y0, .int .i64 y1, .int .i64 y2, .int .i64 y3, .int .i64 y4, .int .i64 y5, .int .i64 y6]) := Lib.hid (Has.new w2 96 _)))
    have hT3 := Lib.hid (hT2.out.step hb3.out)
    have hG3 := Lib.hid (grown_trans hG2.out (grown_of hb3.out))
    obtain ⟨g, hg⟩ : ∃ g, g = w2.heap.size := ⟨_, rfl⟩
    have hbg : b < g := by omega
    obtain ⟨W3, hW3⟩ : ∃ W3, W3 = w2.alloc (.cells #[.int .i64 y0, .int .i64 y1, .int .i64 y2, .int .i64 y3, .int .i64 y4, .int .i64 y5, .int .i64 y6] 96) := ⟨_, rfl⟩
    rw [← hW3] at hT3 hG3 hH3 hX3 ⊢
    rw [← hg] at hX3 ⊢
    clear hW3 hg hb3 hT2 hG2 hH2
    have c0 := (hH3.out).cell 0
    have c1 := (hH3.out).cell 1
    have c2 := (hH3.out).cell 2
    have c3 := (hH3.out).cell 3
    have c4 := (hH3.out).cell 4
    have c5 := (hH3.out).cell 5
    have c6 := (hH3.out).cell 6
    have f0 := (hH3.out).fz 0
    have f1 := (hH3.out).fz 1
    have f2 := (hH3.out).fz 2
    have f3 := (hH3.out).fz 3
    have f4 := (hH3.out).fz 4
    have f5 := (hH3.out).fz 5
    have f6 := (hH3.out).fz 6
    have d0 := (hX3.out).cell 0
    have d1 := (hX3.out).cell 1
    have d2 := (hX3.out).cell 2
    have d3 := (hX3.out).cell 3
    have d4 := (hX3.out).cell 4
    have d5 := (hX3.out).cell 5
    have d6 := (hX3.out).cell 6
    go_wp2
    refine bodyPost_ret (v := ctV n) (by rw [HV.out]; exact fst_ret hH3.out y0 y1 y2 y3 y4 y5 y6 _ rfl) rfl ⟨by rw [HN.out], ?_, ?_⟩
    · exact (hT3.out.app (sets7_grown _ w.heap.size y0 y1 y2 y3 y4 y5 y6) (fun g e => by injection e; omega) hbl HA.out).re rfl (by rw [HF.out]; simp)
    · exact grown_app hG3.out (sets7_grown _ w.heap.size y0 y1 y2 y3 y4 y5 y6) (fun g e => by injection e; omega)
  · have hne : (x == 0) = false := by simpa using h0
    have HX : Hid (fstF L = flF (0, 0) (0 + 1) x) := Lib.hid (by rw [HF.out, if_neg h0]; unfold flF; rw [if_pos rfl])
    clear h0
    go_enter Tryz.func49, Tryz.ntmps49
    go_upto_region 3 with (first
      | (go_at_call 81; (with_reducible refine DN.out.mono ?_); rintro e w1 hN; have he := hN.e; rw [← HLL.out] at he; subst he; have hN1 := Lib.hid hN; clear hN)
      | (go_at_call 82; (with_reducible refine (DC.out _ (grown_trans HG0.out.1 hN1.out.g)).mono ?_); rintro e w2 ⟨rfl, hb2⟩; have hT2 := Lib.hid (hN1.out.t.step hb2); have hH2 := Lib.hid ((HG0.out.2.keepg hN1.out.g (by intro e; injection e; omega)).keep hb2 (HG0.out.2.keepg hN1.out.g (by intro e; injection e; omega)).lt); have hG2 := Lib.hid (grown_trans (grown_trans HG0.out.1 hN1.out.g) (grown_of hb2)); have hs2 := hG2.out.size; have hrl := hH2.out.lt; have hb3 := Lib.hid ((Below.refl w2.heap.size w2).alloc (Nat.le_refl _) (.cells #[.int .i64 y0, .int .i64 y1, .int .i64 y2, .int .i64 y3, .int .i64 y4, .int .i64 y5, .int .i64 y6] 96)); have hH3 := Lib.hid (hH2.out.keep hb3.out hrl); have hX3 : Hid (Has (w2.alloc (.cells #[.int .i64 y0, .int .i64 y1, .int .i64 y2, .int .i64 y3, .int .i64 y4, .int .i64 y5, .int .i64 y6] 96)) w2.heap.size 96 #[.int .i64 y0, .int .i64 y1, .int .i64 y2, .int .i64 y3, .int .i64 y4, .int .i64 y5, .int .i64 y6]) := Lib.hid (Has.new w2 96 _)))
    have hT3 := Lib.hid (hT2.out.step hb3.out)
    have hG3 := Lib.hid (grown_trans hG2.out (grown_of hb3.out))
    obtain ⟨g, hg⟩ : ∃ g, g = w2.heap.size := ⟨_, rfl⟩
    have hbg : b < g := by omega
    obtain ⟨W3, hW3⟩ : ∃ W3, W3 = w2.alloc (.cells #[.int .i64 y0, .int .i64 y1, .int .i64 y2, .int .i64 y3, .int .i64 y4, .int .i64 y5, .int .i64 y6] 96) := ⟨_, rfl⟩
    rw [← hW3] at hT3 hG3 hH3 hX3 ⊢
    rw [← hg] at hX3 ⊢
    clear hW3 hg hb3 hT2 hG2 hH2
    go_wp2_with (go_at_call 83; (with_reducible refine (fail_any hT3.out (Or.inl rfl) x).mono ?_); rintro e w4 ⟨rfl, hT4, hg4⟩; have hH4 := Lib.hid (hH3.out.keepg hg4 (by intro e; injection e; omega)); have hX4 := Lib.hid (hX3.out.keepg hg4 (by intro e; injection e; omega)); have hT4 := Lib.hid hT4; have c0 := (hH4.out).cell 0; have f0 := (hH4.out).fz 0; have d0 := (hX4.out).cell 0; have c1 := (hH4.out).cell 1; have f1 := (hH4.out).fz 1; have d1 := (hX4.out).cell 1; have c2 := (hH4.out).cell 2; have f2 := (hH4.out).fz 2; have d2 := (hX4.out).cell 2; have c3 := (hH4.out).cell 3; have f3 := (hH4.out).fz 3; have d3 := (hX4.out).cell 3; have c4 := (hH4.out).cell 4; have f4 := (hH4.out).fz 4; have d4 := (hX4.out).cell 4; have c5 := (hH4.out).cell 5; have f5 := (hH4.out).fz 5; have d5 := (hX4.out).cell 5; have c6 := (hH4.out).cell 6; have f6 := (hH4.out).fz 6; have d6 := (hX4.out).cell 6)
    refine bodyPost_ret (v := ctV n) (by rw [HV.out]; exact fst_ret hH4.out y0 y1 y2 y3 y4 y5 y6 _ rfl) rfl ⟨by rw [HN.out], ?_, ?_⟩
    · exact (hT4.out.app (sets7_grown _ w.heap.size y0 y1 y2 y3 y4 y5 y6) (fun g e => by injection e; omega) hbl HA.out).re rfl HX.out.symm
    · exact grown_app (grown_trans hG3.out hg4) (sets7_grown _ w.heap.size y0 y1 y2 y3 y4 y5 y6) (fun g e => by injection e; omega)

end Go.Proofs.YtkpjpokeonppbaaGreatDoor

namespace Go.Proofs.YtkpjpokeonppbaaGreatDoor
open Go Go.RowKit
set_option linter.unusedVariables false
set_option linter.unusedSimpArgs false

set_option maxRecDepth 100000 in
set_option maxHeartbeats 4000000 in
theorem lits_any (c : Nat) (x : Int) (hx : x = c) (hc : c ≤ 1000) {B b g : Nat} {A : Option Addr} {k : Nat} {L : List (List UInt8)} {i : Nat} {f : Nat × Int} (w : World) (hT : Tx w b A k L i f) (hf : f = (0, 0) ∨ 0 < f.1) (hi : i ≤ 20000) (hL : L.length ≤ 100001) (hLn : ∀ j, (lnA L j).length ≤ 100000) (hE : Env B w) (hB : B ≤ b) (hA : ∀ a, A = some a → a.block < w.heap.size) (hg : w.cell? ⟨g, 0, none⟩ = some (.pointer (some ⟨b, 0, none⟩))) :
    Calls Tryz.prog 50 #[.int .i64 x, .pointer (some ⟨g, 0, none⟩)] w
      (EachIs w b A k L i f c (hld (fun j => (gL (lnA L (i + j))).isSome) c) (fun w' v => w'.ownsRow w.heap.size 3 1 v c (intL (fun t => (nm (lnA L (i + t)) 0 : Int)) c))) := by
  have D := Lib.hid (eachL_any c x hx hc w hT hf hi hL hLn hE hB hA)
  clear hT hf hi hL hLn hE hB hA hx hc
  go_enter Tryz.func50, Tryz.ntmps50
  go_wp2_with (go_at_call 51; (with_reducible refine D.out.mono ?_); rintro e w1 hE1; have HE1 := Lib.hid hE1; obtain ⟨⟨v, i', rfl, ⟨A', n', k', rfl⟩, _⟩, _⟩ := hE1)
  go_ret
  exact HE1.out

end Go.Proofs.YtkpjpokeonppbaaGreatDoor
