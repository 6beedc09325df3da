/- The contract of traces.beginning. -/
import Derived.Test.YtpobkemgbbgolaaTraceTwin
namespace Go.Proofs.Ytpobkemgbbgolaa
open Go.RowKit
set_option linter.unusedVariables false
set_option linter.unusedSimpArgs false

section
variable {t : Tr} {q : Tp}

set_option maxRecDepth 100000 in
set_option maxHeartbeats 4000000 in
theorem beginning_any {n : Nat} (h0 : 0 < n) (hn : n ≤ t.ni) (w : World) (ht : TMem w w.heap.size t q) (hts : TSm t) : Calls Try.prog 20 #[tv t q, .int .i64 n] w (RunIs (t.cut n) w) := by
  have n1 := hts.nf
  have n2 := hts.ni
  have HLn := Lib.hid hts.ln
  have hip := ht.ip
  have hfi := ht.fi
  have hc2 := ht.c2
  obtain ⟨nf, fi, ni, ln, ip⟩ := t
  obtain ⟨A1, k1, A2, k2⟩ := q
  dsimp only at n1 n2 HLn hip hfi hc2 hn
  obtain ⟨a2, rfl, ha2, hr2⟩ := hip (by omega)
  have HI := Lib.hid hr2
  have hnk : n ≤ k2 := by omega
  have hB0 : Below w.heap.size w ((w.alloc (.cells #[.slice A1 nf k1, .slice (some a2) ni k2] 32)).alloc (.cells #[.slice none 0 0, .slice none 0 0] 32)) := ((Below.refl _ _).alloc (Nat.le_refl _) _).alloc (by simp) _
  have hT0 : Has ((w.alloc (.cells #[.slice A1 nf k1, .slice (some a2) ni k2] 32)).alloc (.cells #[.slice none 0 0, .slice none 0 0] 32)) w.heap.size 32 #[.slice A1 nf k1, .slice (some a2) ni k2] := (Has.new w 32 #[.slice A1 nf k1, .slice (some a2) ni k2]).al _
  have hZ0 : Has ((w.alloc (.cells #[.slice A1 nf k1, .slice (some a2) ni k2] 32)).alloc (.cells #[.slice none 0 0, .slice none 0 0] 32)) (w.heap.size + 1) 32 #[.slice none 0 0, .slice none 0 0] := Has.new' _ _ (by simp)
  have hfi0 := hfi.to hB0 hB0.size
  clear hip hr2 ht hts hfi
  go_enter Try.func20, Try.ntmps20
  go_wp2_with (first
    | (go_at_call 15; (with_reducible refine (copied_any A1 nf k1 fi _ (by omega) hfi0).mono ?_); rintro e w2 ⟨A, k, rfl, hi2, hb2, hn2, _⟩; have hT2 := hT0.keep hb2 hT0.lt; have hZ2 := hZ0.keep hb2 hZ0.lt; have hB2 := Below.step hB0 hB0.size hb2; have x20 : w2.cell? ⟨w.heap.size, 0, none⟩ = some (.slice A1 nf k1) := hT2.cell 0; have x21 : w2.cell? ⟨w.heap.size, 1, none⟩ = some (.slice (some a2) ni k2) := hT2.cell 1; have hz2 := hZ2.lt; have hz2b := hT2.lt))
  have hX3 : Has (w2.alloc (.cells #[.slice A nf k, .slice none 0 0] 32)) w2.heap.size 32 #[.slice A nf k, .slice none 0 0] := Has.new _ _ _
  have hT3 := hT2.al (.cells #[.slice A nf k, .slice none 0 0] 32)
  have hZ3 := hZ2.al (.cells #[.slice A nf k, .slice none 0 0] 32)
  have hB3 := hB2.alloc hB2.size (.cells #[.slice A nf k, .slice none 0 0] 32)
  have hi3 : BlsAt (w2.alloc (.cells #[.slice A nf k, .slice none 0 0] 32)) w2.heap.size A nf fi := hi2.keep ((Below.refl _ _).alloc (Nat.le_refl _) _)
  have hz3 : w2.heap.size < (w2.alloc (.cells #[.slice A nf k, .slice none 0 0] 32)).heap.size := by simp
  obtain ⟨W3, hW3⟩ : ∃ W3, w2.alloc (.cells #[.slice A nf k, .slice none 0 0] 32) = W3 := ⟨_, rfl⟩
  rw [hW3] at hX3 hT3 hZ3 hB3 hi3 hz3 ⊢
  clear hW3 hT2 hZ2 hB2 hi2 hb2 hT0 hZ0 hB0 hfi0 x20 x21
  go_loopw [17] (fun i wr => ∃ r : Nat, ∃ v, r ≤ n ∧ i = .int .i64 r ∧ Has wr w2.heap.size 32 #[.slice A nf k, v] ∧ Grid wr (w2.heap.size + 1) v r ln ip (some w2.heap.size) (w2.heap.size + 1) ∧ Below w2.heap.size W3 wr) (fun i _ => n - (intOf i).toNat)
  case atStart => exact ⟨0, _, Nat.zero_le _, rfl, hX3, Grid.nil _ _ _ _ _, Below.refl _ _⟩
  case round =>
    obtain ⟨r, v, hr, rfl, hX, hG, hB3r⟩ := hrel
    have hBr : Below w.heap.size w wr := hB3.trans (hB3r.mono (by omega))
    have hZ := hZ3.keep hB3r (by omega)
    have x2 : wr.cell? ⟨w2.heap.size, 1, none⟩ = some v := hX.cell 1
    have hXl := hX.lt
    by_cases hlt : r < n
    · obtain ⟨A', k', y0, hy, hyn⟩ := HI.out r (by omega)
      have y0 : wr.cell? (a2.add r) = some (.slice A' (ln r) k') := (hBr.cell (by rw [add_block]; exact ha2)).trans y0
      have hy := hy.to hBr hBr.size
      have hlr := HLn.out r (by omega)
      have hq0 : (0 : Int) ≤ (r : Int) := by omega
      have hq1 : (r : Int) < (n : Int) := by omega
      have hS0 : wr.drew.cell? ⟨w2.heap.size, 1, none⟩ = some v := x2
      have HS1 := Lib.hid hS0
      have hGd : Grid wr.drew (w2.heap.size + 1) v r ln ip (some w2.heap.size) (w2.heap.size + 1) := ⟨hG.ex⟩
      have hXd : Has wr.drew w2.heap.size 32 #[.slice A nf k, v] := hX
      have hBd : Below w2.heap.size W3 wr.drew := below_dn hB3r 1
      have hyd : BlsAt wr.drew wr.drew.heap.size A' (ln r) (ip r) := hy
      clear hy
      go_wp2
      refine wp_region_T (fun w' => w'.cell? ⟨w2.heap.size, 1, none⟩ = some v) 7 (by kernel_rfl) ?_
      (refine wpT_take 0 (v := ?_) rfl (by kernel_rfl) (by kernel_rfl) (by kernel_rfl) (by kernel_rfl) (fun _ _ _ h => h) rfl hS0 (fun w hS => ?_) ?_; rotate_left; focus (go_simp; rfl)); (refine wpT_take 1 (v := ?_) rfl (by kernel_rfl) (by kernel_rfl) (by kernel_rfl) (by kernel_rfl) (fun _ _ _ h => h) rfl hS0 (fun w hS => ?_) ?_; rotate_left; focus (go_simp; rfl)); (refine wpT_take 2 (v := ?_) rfl (by kernel_rfl) (by kernel_rfl) (by kernel_rfl) (by kernel_rfl) (fun _ _ _ h => h) rfl hS0 (fun w hS => ?_) ?_; rotate_left; focus (go_simp; rfl))
      refine wpT_one 3 (by kernel_rfl) (wpOp_go rfl rfl fun K hK => ?_)
      go_simp
      go_at_call 15
      (with_reducible refine (copied_any A' (ln r) k' (ip r) wr.drew (by omega) hyd).mono ?_)
      rintro e w6 ⟨A6, k6, rfl, hi6, hb6, hn6, hf6⟩
      have hS6 : w6.cell? ⟨w2.heap.size, 1, none⟩ = some v := (hb6.cell (cell_lt HS1.out)).trans HS1.out
      have hG6 := hGd.call hb6
      have hX6 := hXd.keep hb6 hXd.lt
      have hB6 := hBd.trans (hb6.mono (by have : w2.heap.size < wr.drew.heap.size := hXd.lt; omega))
      have hap := hGd.apart (m := ln r) hf6 (E := some w2.heap.size) (fun g hg => by cases hg; exact hXd.lt)
      refine hK _ _ ⟨fun _ => hS6, ?_⟩
      refine wpT_one 4 (by kernel_rfl) (wpOp_go rfl rfl fun K hK => ?_)
      go_simp
      refine hK _ _ ⟨fun _ => ca hS6 _, ?_⟩
      refine wpT_one 5 (by kernel_rfl) (wpOp_go rfl rfl fun K hK => ?_)
      have hl6 := hX6.lt
      refine wp_append_row _ _ (by rfl) (w2.heap.size + 1) v r ln ip (some w2.heap.size) (by rfl) (hG6.al _) w6.heap.size 1 A6 k6 (by rfl) ((Has.new w6 29 #[.slice A6 (ln r) k6]).cell 0) (hi6.to ((Below.refl _ _).alloc (Nat.le_refl _) _) (by simp)) hn6 hap (by omega) (by simp; omega) ?_ (fun _ a ha => by have := hf6 a ha; have : w2.heap.size < wr.drew.heap.size := hXd.lt; omega)
      intro g8 k8 w8 hG8 hg8 hl8 hkp8
      have hX8 := (hG6.al (.cells #[.slice A6 (ln r) k6] 29)).has (hX6.al _) hg8 (by omega)
      have hB8 := (hG6.al (.cells #[.slice A6 (ln r) k6] 29)).below (hB6.alloc (by omega) _) (by simp; omega) (by omega) hg8
      have y8 : w8.cell? ⟨w2.heap.size, 1, none⟩ = some v := hX8.cell 1
      have yf8 : w8.frozen? ⟨w2.heap.size, 1, none⟩ = false := hX8.fz 1
      refine hK _ _ ⟨fun _ => y8, ?_⟩
      refine wpT_one 6 (by kernel_rfl) (wpOp_go rfl rfl fun K hK => ?_)
      go_simp
      refine hK _ _ ⟨fun _ => y8, ?_⟩
      refine wpT_one 7 (by kernel_rfl) (wpOp_go rfl rfl fun K hK => ?_)
      go_simp
      refine hK _ _ ⟨fun h => absurd h (by decide), ?_⟩
      refine wpT_done (by kernel_rfl) (NoPanic.normal ?_) _
      go_wp2
      go_roundw
      case rel => exact ⟨r + 1, _, by omega, by go_num, hX8.set 1 _, hG8.far (grown_set w8 w2.heap.size 1 _) (Or.inr rfl) (Or.inr fun e => by have := (hG8.lt e).1; omega) (Or.inl rfl), hB8.setCell (Nat.le_refl _) _⟩
      case measure => simp [intOf]; omega
    · obtain rfl : r = n := by omega
      have x0 : wr.cell? ⟨w2.heap.size, 0, none⟩ = some (.slice A nf k) := hX.cell 0
      have z0 : wr.cell? ⟨w.heap.size + 1, 0, none⟩ = some (.slice none 0 0) := hZ.cell 0
      have z1 : wr.cell? ⟨w.heap.size + 1, 1, none⟩ = some (.slice none 0 0) := hZ.cell 1
      have f0 := hZ.fz 0
      have f1 := hZ.fz 1
      have hir := (hi3.keep hB3r).more (by omega : w2.heap.size ≤ wr.heap.size)
      have hO : ∀ a, A = some a → w.heap.size + 1 + 1 ≤ a.block := fun a ha => by
        have := (by assumption : ∀ a, A = some a → _ ≤ a.block) a ha
        simpa using this
      obtain ⟨A5, k5, rfl, hi5, hn5, hc5, hl5⟩ := hG.at
      clear hr hlt
      go_wp2
      have hN : TNew wr (w.heap.size + 1 + 1) ((⟨nf, fi, ni, ln, ip⟩ : Tr).cut r) ⟨A, k, A5, k5⟩ := ⟨hir, hn2, hO, hG.weak (by omega) (by omega)⟩
      have hN2 := (hN.set (x := w.heap.size + 1) (by omega) 0 (.slice A nf k)).set (x := w.heap.size + 1) (by omega) 1 (.slice A5 r k5)
      refine bodyPost_ret (v := .agg #[.slice A nf k, .slice A5 r k5]) (by simp [results, Try.results20, go_sem, z0, z1]) rfl ⟨⟨A, k, A5, k5⟩, rfl, ⟨hN2.fi, hN2.n1, fun a ha => by have := hN2.l1 a ha; omega, hN2.ip.weak (by omega) (by omega)⟩, (hBr.setCell (by simp) _).setCell (by simp) _⟩

end
