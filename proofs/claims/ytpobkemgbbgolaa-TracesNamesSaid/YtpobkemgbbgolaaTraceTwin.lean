/- The contract of the reference's Twin of a run. -/
import Derived.Test.YtpobkemgbbgolaaTraceProps
namespace Go.Proofs.Ytpobkemgbbgolaa
open Go.RowKit
set_option linter.unusedVariables false
set_option linter.unusedSimpArgs false

/-- a run in memory of its own -/
structure OwnT (w : World) (base : Nat) (t : Tr) (A : Option Addr) (k : Nat) (v : Value) : Prop where
  ex : ∃ lo, base ≤ lo ∧ w.ownsRow base 4 1 (.slice A t.nf k) t.nf (bL t.fi t.nf) ∧ (∀ g, (Value.slice A t.nf k).ownBlock = some g → g < lo) ∧ Grid w lo v t.ni t.ln t.ip none lo
/-- what Twin returns -/
def TwinIs (t : Tr) (w : World) (e : Ending) (w' : World) : Prop :=
  ∃ A k v, e = .returned (.agg #[.slice A t.nf k, v]) ∧ OwnT w' w.heap.size t A k v ∧ Below w.heap.size w w'
theorem OwnT.mem {w : World} {base : Nat} {t : Tr} {A : Option Addr} {k : Nat} {v : Value} (h : OwnT w base t A k v) : ∃ q : Tp, Value.agg #[.slice A t.nf k, v] = tv t q ∧ TMem w w.heap.size t q := by
  obtain ⟨lo, hb, ho, hd, hG⟩ := h.ex
  obtain ⟨A', k', e, hi, hn, hf⟩ := own_bools2 ho
  obtain ⟨A2, k2, rfl, hi2, hn2, hc2, _⟩ := hG.at
  injection e with e1 e2 e3
  subst e1 e3
  exact ⟨⟨A, k, A2, k2⟩, rfl, hi, hi2, hn, hn2, hc2⟩
theorem TwinIs.at {t : Tr} {w w' : World} {e : Ending} (h : TwinIs t w e w') : ∃ q, e = .returned (tv t q) ∧ TMem w' w'.heap.size t q ∧ Below w.heap.size w w' := by
  obtain ⟨A, k, v, rfl, ho, hb⟩ := h
  obtain ⟨q, e, hm⟩ := ho.mem
  exact ⟨q, by rw [e], hm, hb⟩
/-- the same, with less said of where -/
theorem Grid.weak {w : World} {base base' : Nat} {v : Value} {n : Nat} {L : Nat → Nat} {f : Nat → Nat → Bool} {D : Option Nat} {lo lo' : Nat} (h : Grid w base v n L f D lo) (h1 : base' ≤ base) (h2 : lo' ≤ lo) : Grid w base' v n L f none lo' := by
  obtain ⟨xs, ho, hc⟩ := h.ex
  refine ⟨⟨xs, own_base ho h1, fun j hj => ?_⟩⟩
  obtain ⟨A, k, e1, e2, e3, e4⟩ := hc j hj
  exact ⟨A, k, e1, e2, e3, fun hn a ha => ⟨(e4 hn a ha).1, by simp, Nat.le_trans h2 (e4 hn a ha).2.2⟩⟩
theorem grown_set (w : World) (g j : Nat) (u : Value) : w.grownBy (w.setCell ⟨g, j, none⟩ u) (some g) := ⟨rfl, rfl, rfl, by simp, fun k hk hne => Below.heap_setCell w ⟨g, j, none⟩ u k (fun e => hne (by rw [e]))⟩

/-- a run in memory from a block on -/
structure TNew (w : World) (base : Nat) (t : Tr) (q : Tp) : Prop where
  fi : BlsAt w w.heap.size q.A1 t.nf t.fi
  n1 : q.A1 = none → t.nf = 0 ∧ q.k1 = 0
  l1 : ∀ a, q.A1 = some a → base ≤ a.block
  ip : Grid w base (.slice q.A2 t.ni q.k2) t.ni t.ln t.ip none base
theorem TNew.mem {w : World} {base : Nat} {t : Tr} {q : Tp} (h : TNew w base t q) : TMem w w.heap.size t q := by
  obtain ⟨A2, k2, e, hi2, hn2, hc2, _⟩ := h.ip.at
  injection e with e1 e2 e3
  subst e3
  rw [← e1] at hi2 hn2
  exact ⟨h.fi, hi2, h.n1, hn2, hc2⟩
theorem TNew.set {w : World} {base : Nat} {t : Tr} {q : Tp} (h : TNew w base t q) {x : Nat} (hx : x < base) (j : Nat) (u : Value) : TNew (w.setCell ⟨x, j, none⟩ u) base t q :=
  ⟨h.fi.by (grown_set w x j u) (fun _ a ha e => by have := h.l1 a ha; injection e with e; omega), h.n1, h.l1, h.ip.under (grown_set w x j u) hx hx⟩
/-- a run that a call returns -/
def RunIs (t : Tr) (w : World) (e : Ending) (w' : World) : Prop := ∃ q, e = .returned (tv t q) ∧ TNew w' w.heap.size t q ∧ Below w.heap.size w w'
theorem TwinIs.run {t : Tr} {w w' : World} {e : Ending} (h : TwinIs t w e w') : RunIs t w e w' := by
  obtain ⟨A, k, v, rfl, ho, hb⟩ := h
  obtain ⟨lo, hl, ho, hd, hG⟩ := ho.ex
  obtain ⟨A', k', e, hi, hn, hf⟩ := own_bools2 ho
  obtain ⟨A2, k2, rfl, _⟩ := hG.at
  injection e with e1 e2 e3
  subst e1 e3
  exact ⟨⟨A, k, A2, k2⟩, rfl, ⟨hi, hn, hf, hG.weak hl hl⟩, hb⟩

abbrev zt : Array Value := #[.slice none 0 0, .slice none 0 0]
section
variable {t : Tr} {q : Tp}
set_option maxRecDepth 100000 in
set_option maxHeartbeats 4000000 in
theorem twin6_any (w : World) (ht : TMem w w.heap.size t q) (hts : TSm t) : Calls Try.prog 9 #[tv t q] w (TwinIs t w) := by
  have n1 := hts.nf
  have n2 := hts.ni
  have HLn := Lib.hid hts.ln
  have hip := ht.ip
  have hfi := ht.fi
  have hnil := ht.n1
  obtain ⟨nf, fi, ni, ln, ip⟩ := t
  obtain ⟨A1, k1, A2, k2⟩ := q
  dsimp only at n1 n2 HLn hip hfi hnil
  have HX0 : Hid (Has (((w.alloc (.cells #[.slice A1 nf k1, .slice A2 ni k2] 32)).alloc (.cells #[.slice none 0 0, .slice none 0 0] 32)).alloc (.cells #[] 4)) (w.heap.size + 1 + 1) 4 #[]) := Has.new' _ _ (by simp)
  have hB0 : Below w.heap.size w (((w.alloc (.cells #[.slice A1 nf k1, .slice A2 ni k2] 32)).alloc (.cells #[.slice none 0 0, .slice none 0 0] 32)).alloc (.cells #[] 4)) := (((Below.refl _ _).alloc (Nat.le_refl _) _).alloc (by simp) _).alloc (by simp; omega) _
  have hT0 : Has (((w.alloc (.cells #[.slice A1 nf k1, .slice A2 ni k2] 32)).alloc (.cells #[.slice none 0 0, .slice none 0 0] 32)).alloc (.cells #[] 4)) w.heap.size 32 #[.slice A1 nf k1, .slice A2 ni k2] := ((Has.new w 32 #[.slice A1 nf k1, .slice A2 ni k2]).al _).al _
  have hZ0 : Has (((w.alloc (.cells #[.slice A1 nf k1, .slice A2 ni k2] 32)).alloc (.cells #[.slice none 0 0, .slice none 0 0] 32)).alloc (.cells #[] 4)) (w.heap.size + 1) 32 #[.slice none 0 0, .slice none 0 0] := (Has.new' _ _ (by simp)).al _
  go_enter Try.func9, Try.ntmps9
  go_wp2_with (first
    | (at_builtin; (refine append_new rfl (.tmp 5) (.tmp 7) rfl (w.heap.size + 1 + 1) rfl HX0.out A1 nf k1 fi rfl (hfi.to hB0 hB0.size) hnil (by omega) ?_); intro A k w2 hi2 hn2 hf2 hg2 ho2; have hT2 := hT0.grow hg2 (by omega); have hZ2 := hZ0.grow hg2 (by omega); have hB2 := hB0.grown hg2 hB0.size (fun k hk => by cases hk; omega)))
  have hX3 : Has (w2.alloc (.cells #[.slice A nf k, .slice none 0 0] 32)) w2.heap.size 32 #[.slice A nf k, .slice none 0 0] := Has.new _ _ _
  have hT3 := hT2.al (.cells #[.slice A nf k, .slice none 0 0] 32)
  have hZ3 := hZ2.al (.cells #[.slice A nf k, .slice none 0 0] 32)
  have hB3 := hB2.alloc hB2.size (.cells #[.slice A nf k, .slice none 0 0] 32)
  have hO3 := own_by ho2 (grown_al w2 (.cells #[.slice A nf k, .slice none 0 0] 32)) (Or.inl rfl)
  have hO3b : ∀ g, (Value.slice A nf k).ownBlock = some g → w.heap.size + 1 + 1 ≤ g ∧ g < w2.heap.size := fun g hg => own_in ho2 hg
  have hz2 := hZ2.lt
  have hz3 : w2.heap.size < (w2.alloc (.cells #[.slice A nf k, .slice none 0 0] 32)).heap.size := by simp
  obtain ⟨W3, hW3⟩ : ∃ W3, w2.alloc (.cells #[.slice A nf k, .slice none 0 0] 32) = W3 := ⟨_, rfl⟩
  rw [hW3] at hX3 hT3 hZ3 hB3 hO3 hz3 ⊢
  clear hW3 hT2 hZ2 hB2 ho2 hi2 hg2 hf2 hT0 hZ0 hB0
  go_loopw [4] (fun i wr => ∃ r : Nat, ∃ v, r ≤ ni ∧ i = .int .i64 r ∧ Has wr w2.heap.size 32 #[.slice A nf k, v] ∧ Grid wr (w2.heap.size + 1) v r ln ip (some w2.heap.size) (w2.heap.size + 1) ∧ Below w2.heap.size W3 wr) (fun i _ => ni - (intOf i).toNat)
  case atStart => exact ⟨0, _, Nat.zero_le _, rfl, hX3, Grid.nil _ _ _ _ _, Below.refl _ _⟩
  case round =>
    obtain ⟨r, v, hr, rfl, hX, hG, hB3r⟩ := hrel
    have hBr : Below w.heap.size w wr := hB3.trans (hB3r.mono (by omega))
    have hT := hT3.keep hB3r (by omega)
    have hZ := hZ3.keep hB3r (by omega)
    have x1 : wr.cell? ⟨w.heap.size, 1, none⟩ = some (.slice A2 ni k2) := hT.cell 1
    have x2 : wr.cell? ⟨w2.heap.size, 1, none⟩ = some v := hX.cell 1
    have hXl := hX.lt
    by_cases hlt : r < ni
    · obtain ⟨a2, hA2, ha2, hr2⟩ := (hip.keep hBr) (by omega)
      obtain ⟨A', k', y0, hy, hyn⟩ := hr2 r hlt
      have hy := hy.more hBr.size
      rw [hA2] at x1
      have HA2 := Lib.hid hA2
      have hlr := HLn.out r hlt
      have hq0 : (0 : Int) ≤ (r : Int) := by omega
      have hq1 : (r : Int) < (ni : Int) := by omega
      have hS0 : wr.drew.cell? ⟨w2.heap.size, 1, none⟩ = some v ∧ wr.drew.cell? ⟨w.heap.size, 1, none⟩ = some (.slice (some a2) ni k2) ∧ wr.drew.cell? (a2.add r) = some (.slice A' (ln r) k') := ⟨x2, x1, y0⟩
      have HS1 := Lib.hid hS0
      have hGd : Grid wr.drew (w2.heap.size + 1) v r ln ip (some w2.heap.size) (w2.heap.size + 1) := ⟨hG.ex⟩
      have hXd : Has wr.drew w2.heap.size 32 #[.slice A nf k, v] := hX
      have hTd : Has wr.drew w.heap.size 32 #[.slice A1 nf k1, .slice A2 ni k2] := hT
      have hBd : Below w2.heap.size W3 wr.drew := below_dn hB3r 1
      have hyd : BlsAt (wr.drew.alloc (.cells #[] 4)) (wr.drew.alloc (.cells #[] 4)).heap.size A' (ln r) (ip r) := (show BlsAt wr.drew wr.drew.heap.size A' (ln r) (ip r) from hy).to ((Below.refl _ _).alloc (Nat.le_refl _) _) (by simp)
      clear hr2 hA2 hy
      go_wp2
      refine wp_region_T (fun w' => w'.cell? ⟨w2.heap.size, 1, none⟩ = some v ∧ w'.cell? ⟨w.heap.size, 1, none⟩ = some (.slice (some a2) ni k2) ∧ w'.cell? (a2.add r) = some (.slice A' (ln r) k')) 12 (by kernel_rfl) ?_
      (refine wpT_take 0 (v := ?_) rfl (by kernel_rfl) (by kernel_rfl) (by kernel_rfl) (by kernel_rfl) (fun _ _ _ h => h) rfl hS0 (fun w hS => ?_) ?_; rotate_left; focus (obtain ⟨j0, j1, j2⟩ := hS; go_simp; rfl)); (refine wpT_take 1 (v := ?_) rfl (by kernel_rfl) (by kernel_rfl) (by kernel_rfl) (by kernel_rfl) (fun _ _ _ h => h) rfl hS0 (fun w hS => ?_) ?_; rotate_left; focus (obtain ⟨j0, j1, j2⟩ := hS; go_simp; rfl)); (refine wpT_take 3 (v := ?_) rfl (by kernel_rfl) (by kernel_rfl) (by kernel_rfl) (by kernel_rfl) (fun _ _ _ h => h) rfl hS0 (fun w hS => ?_) ?_; rotate_left; focus (obtain ⟨j0, j1, j2⟩ := hS; go_simp; rfl)); (refine wpT_take 4 (v := ?_) rfl (by kernel_rfl) (by kernel_rfl) (by kernel_rfl) (by kernel_rfl) (fun _ _ _ h => h) rfl hS0 (fun w hS => ?_) ?_; rotate_left; focus (obtain ⟨j0, j1, j2⟩ := hS; go_simp; rfl)); (refine wpT_take 5 (v := ?_) rfl (by kernel_rfl) (by kernel_rfl) (by kernel_rfl) (by kernel_rfl) (fun _ _ _ h => h) rfl hS0 (fun w hS => ?_) ?_; rotate_left; focus (obtain ⟨j0, j1, j2⟩ := hS; go_simp; rfl)); (refine wpT_take 6 (v := ?_) rfl (by kernel_rfl) (by kernel_rfl) (by kernel_rfl) (by kernel_rfl) (fun _ _ _ h => h) rfl hS0 (fun w hS => ?_) ?_; rotate_left; focus (obtain ⟨j0, j1, j2⟩ := hS; go_simp; rfl)); (refine wpT_take 7 (v := ?_) rfl (by kernel_rfl) (by kernel_rfl) (by kernel_rfl) (by kernel_rfl) (fun _ _ _ h => h) rfl hS0 (fun w hS => ?_) ?_; rotate_left; focus (obtain ⟨j0, j1, j2⟩ := hS; go_simp; rfl))
      refine wpT_one 2 (by kernel_rfl) (wpOp_go rfl rfl fun K hK => ?_)
      go_simp
      refine hK _ _ ⟨fun _ => ⟨ca hS0.1 _, ca hS0.2.1 _, ca hS0.2.2 _⟩, ?_⟩
      refine wpT_one 8 (by kernel_rfl) (wpOp_go rfl rfl fun K hK => ?_)
      refine wp_append_new _ _ (by rfl) wr.drew.heap.size (by rfl) (Has.new' _ _ rfl) A' (ln r) k' (ip r) (by rfl) hyd hyn (by omega) ?_
      intro A6 k6 w6 hi6 hn6 hf6 hg6 _
      have hb6 : Below wr.drew.heap.size wr.drew w6 := ((Below.refl _ _).alloc (Nat.le_refl _) _).grown hg6 (by simp) (fun k hk => by cases hk; exact Nat.le_refl _)
      have hS6 : w6.cell? ⟨w2.heap.size, 1, none⟩ = some v ∧ w6.cell? ⟨w.heap.size, 1, none⟩ = some (.slice (some a2) ni k2) ∧ w6.cell? (a2.add r) = some (.slice A' (ln r) k') := ⟨(hb6.cell (cell_lt HS1.out.1)).trans HS1.out.1, (hb6.cell (cell_lt HS1.out.2.1)).trans HS1.out.2.1, (hb6.cell (cell_lt HS1.out.2.2)).trans HS1.out.2.2⟩
      have hG6 := hGd.call hb6
      have hX6 := hXd.keep hb6 hXd.lt
      have hT6 := hTd.keep hb6 hTd.lt
      have hB6 := hBd.trans (hb6.mono (by have : w2.heap.size < wr.drew.heap.size := hXd.lt; omega))
      have hap := hGd.apart (m := ln r) hf6 (E := some w2.heap.size) (fun g hg => by cases hg; exact hXd.lt)
      refine hK _ _ ⟨fun _ => hS6, ?_⟩
      refine wpT_one 9 (by kernel_rfl) (wpOp_go rfl rfl fun K hK => ?_)
      go_simp
      refine hK _ _ ⟨fun _ => ⟨ca hS6.1 _, ca hS6.2.1 _, ca hS6.2.2 _⟩, ?_⟩
      refine wpT_one 10 (by kernel_rfl) (wpOp_go rfl rfl fun K hK => ?_)
      have hl6 := hX6.lt
      refine wp_append_row _ _ (by rfl) (w2.heap.size + 1) v r ln ip (some w2.heap.size) (by rfl) (hG6.al _) w6.heap.size 1 A6 k6 (by rfl) ((Has.new w6 29 #[.slice A6 (ln r) k6]).cell 0) (hi6.to ((Below.refl _ _).alloc (Nat.le_refl _) _) (by simp)) hn6 hap (by omega) (by simp; omega) ?_ (fun _ a ha => by have := hf6 a ha; have : w2.heap.size < wr.drew.heap.size := hXd.lt; omega)
      intro g8 k8 w8 hG8 hg8 hl8 hkp8
      have hX8 := (hG6.al (.cells #[.slice A6 (ln r) k6] 29)).has (hX6.al _) hg8 (by omega)
      have hT8 := (hG6.al (.cells #[.slice A6 (ln r) k6] 29)).has (hT6.al _) hg8 (by omega)
      have hB8 := (hG6.al (.cells #[.slice A6 (ln r) k6] 29)).below (hB6.alloc (by omega) _) (by simp; omega) (by omega) hg8
      have y8 : w8.cell? ⟨w2.heap.size, 1, none⟩ = some v := hX8.cell 1
      have yf8 : w8.frozen? ⟨w2.heap.size, 1, none⟩ = false := hX8.fz 1
      have hS8 : w8.cell? ⟨w2.heap.size, 1, none⟩ = some v ∧ w8.cell? ⟨w.heap.size, 1, none⟩ = some (.slice (some a2) ni k2) ∧ w8.cell? (a2.add r) = some (.slice A' (ln r) k') := ⟨y8, by rw [← HA2.out]; exact hT8.cell 1, (hg8.cell_far _ (by rw [add_block]; have := hB6.size; simp; omega) (by rw [add_block]; intro e; have := (hGd.lt e.symm).1; omega)).trans (ca hS6.2.2 _)⟩
      refine hK _ _ ⟨fun _ => hS8, ?_⟩
      refine wpT_one 11 (by kernel_rfl) (wpOp_go rfl rfl fun K hK => ?_)
      go_simp
      refine hK _ _ ⟨fun _ => hS8, ?_⟩
      refine wpT_one 12 (by kernel_rfl) (wpOp_go rfl rfl fun K hK => ?_)
      go_simp
      refine hK _ _ ⟨fun h => absurd h (by decide), ?_⟩
      refine wpT_done (by kernel_rfl) (NoPanic.normal ?_) _
      go_wp2
      go_roundw
      case rel => exact ⟨r + 1, _, by omega, by go_num, hX8.set 1 _, hG8.far (grown_set w8 w2.heap.size 1 _) (Or.inr rfl) (Or.inr fun e => by have := (hG8.lt e).1; omega) (Or.inl rfl), hB8.setCell (Nat.le_refl _) _⟩
      case measure => simp [intOf]; omega
    · obtain rfl : r = ni := by omega
      have x0 : wr.cell? ⟨w2.heap.size, 0, none⟩ = some (.slice A nf k) := hX.cell 0
      have z0 : wr.cell? ⟨w.heap.size + 1, 0, none⟩ = some (.slice none 0 0) := hZ.cell 0
      have z1 : wr.cell? ⟨w.heap.size + 1, 1, none⟩ = some (.slice none 0 0) := hZ.cell 1
      have f0 := hZ.fz 0
      have f1 := hZ.fz 1
      obtain ⟨A5, k5, rfl, hi5, hn5, hc5, hl5⟩ := hG.at
      clear hr hlt
      go_wp2
      refine bodyPost_ret (v := .agg #[.slice A nf k, .slice A5 r k5]) (by simp [results, Try.results9, go_sem, z0, z1]) rfl ⟨A, k, .slice A5 r k5, rfl, ⟨w2.heap.size + 1, by omega, ?_, fun g hg => by have := hO3b g hg; omega, ?_⟩, (hBr.setCell (by simp) _).setCell (by simp) _⟩
      · have hne : (Value.slice A nf k).ownBlock ≠ some (w.heap.size + 1) := fun e => by have := hO3b _ e; omega
        exact own_by (own_by (own_base (own_under hO3 hB3r fun g hg => (hO3b g hg).2) (by omega)) (grown_set wr (w.heap.size + 1) 0 _) (Or.inr hne)) (grown_set _ (w.heap.size + 1) 1 _) (Or.inr hne)
      · exact (hG.under (grown_set wr (w.heap.size + 1) 0 _) (by omega) (by omega)).under (grown_set _ (w.heap.size + 1) 1 _) (by omega) (by omega)
end
