/- The contracts of the reference of traces: Check, SameAll, Same; and of layer 4's Bad. -/
import Derived.Test.YtpobkemgbbgolaaTraceRef
namespace Go.Proofs.Ytpobkemgbbgolaa
open Go.RowKit
set_option linter.unusedVariables false
set_option linter.unusedSimpArgs false

section
variable {c : Cr} {p : Pl} {t : Tr} {q : Tp}

end

/-- two lists of lists that agree -/
def samR (n m : Nat) (L M : Nat → Nat) (f g : Nat → Nat → Bool) : Bool := decide (n = m ∧ ∀ j, j < n → samB (L j) (M j) (f j) (g j) = true)
theorem samR_no {n m : Nat} {L M : Nat → Nat} {f g : Nat → Nat → Bool} (h : n ≠ m) : samR n m L M f g = false := decide_eq_false fun h' => h h'.1
theorem samR_no2 {n m k : Nat} {L M : Nat → Nat} {f g : Nat → Nat → Bool} (hk : k < n) (h : samB (L k) (M k) (f k) (g k) = false) : samR n m L M f g = false := decide_eq_false fun h' => by rw [h'.2 k hk] at h; cases h
theorem samR_yes {n : Nat} {L M : Nat → Nat} {f g : Nat → Nat → Bool} (h : ∀ j, j < n → samB (L j) (M j) (f j) (g j) = true) : samR n n L M f g = true := decide_eq_true ⟨rfl, h⟩

theorem samBs_at {n m : Nat} {f g : Nat → Bool} {b : Bool} (hb : samB n m f g = b) (A A' : Option Addr) (k k' : Nat) (B : Nat) (w : World) (hn : n ≤ 100000) (hm : m ≤ 100000) (hA : BlsAt w B A n f) (hA' : BlsAt w B A' m g) :
    Calls Try.prog 25 #[.slice A n k, .slice A' m k'] w fun e w' => e = .returned (.bool b) ∧ Below w.heap.size w w' := hb ▸ samBs_any A A' n m k k' f g B w hn hm hA hA'

set_option maxRecDepth 100000 in
set_option maxHeartbeats 4000000 in
theorem samRs_any (A A' : Option Addr) (n m k k' : Nat) (L M : Nat → Nat) (f g : Nat → Nat → Bool) (B : Nat) (w : World) (hB : B ≤ w.heap.size) (hn : n ≤ 100000) (hL : ∀ j, j < n → L j ≤ 100000) (hM : ∀ j, j < m → M j ≤ 100000) (hA : RowsAt w B A n L f) (hA' : RowsAt w B A' m M g) :
    Calls Try.prog 13 #[.slice A n k, .slice A' m k'] w fun e w' => e = .returned (.bool (samR n m L M f g)) ∧ Below w.heap.size w w' := by
  by_cases hnm : n = m
  · subst hnm
    have t1 : ((n : Int) != (n : Int)) = false := by simp
    have HLb := Lib.hid hL
    have HMb := Lib.hid hM
    clear hL hM
    go_enter Try.func13, Try.ntmps13
    go_wp2
    go_loopw [5] (fun i wr => ∃ r : Nat, r ≤ n ∧ i = .int .i64 r ∧ Hid (∀ j, j < r → samB (L j) (M j) (f j) (g j) = true) ∧ Below B w wr ∧ Below w.heap.size w wr) (fun i _ => n - (intOf i).toNat)
    case atStart => exact ⟨0, Nat.zero_le _, rfl, Lib.hid (fun j hj => absurd hj (Nat.not_lt_zero _)), Below.refl _ _, Below.refl _ _⟩
    case round =>
      obtain ⟨r, hr, rfl, hS, hBB, hBr⟩ := hrel
      by_cases hlt : r < n
      · obtain ⟨a, rfl, hab, hcs⟩ := (hA.keep hBB) (by omega)
        obtain ⟨a', rfl, hab', hcs'⟩ := (hA'.keep hBB) (by omega)
        obtain ⟨A1, k1, y0, h1, _⟩ := hcs r hlt
        obtain ⟨A2, k2, y1, h2, _⟩ := hcs' r hlt
        have hq0 : (0 : Int) ≤ (r : Int) := by omega
        have hq1 : (r : Int) < (n : Int) := by omega
        have hBd : Below w.heap.size w wr.drew := below_dn hBr 1
        have h1d : BlsAt wr.drew B A1 (L r) (f r) := h1
        have h2d : BlsAt wr.drew B A2 (M r) (g r) := h2
        have hBBd : Below B w wr.drew := below_dn hBB 1
        clear hcs hcs'
        obtain ⟨b, hb⟩ : ∃ b, samB (L r) (M r) (f r) (g r) = b := ⟨_, rfl⟩
        have HQ := Lib.hid hb
        clear hb
        have hS0 : (wr.drew.cell? (a.add r) = some (.slice A1 (L r) k1)) ∧ wr.drew.cell? (a'.add r) = some (.slice A2 (M r) k2) := ⟨y0, y1⟩
        have HS1 := Lib.hid hS0
        clear h1 h2
        go_wp2
        refine wp_region_T (fun w' => (w'.cell? (a.add r) = some (.slice A1 (L r) k1)) ∧ w'.cell? (a'.add r) = some (.slice A2 (M r) k2)) 10 (by kernel_rfl) ?_
        (refine wpT_take 0 (v := ?_) rfl (by kernel_rfl) (by kernel_rfl) (by kernel_rfl) (by kernel_rfl) (fun _ _ _ h => h) rfl hS0 (fun w hS => ?_) ?_; rotate_left; focus (obtain ⟨j0, j1⟩ := hS; go_simp; rfl)); (refine wpT_take 1 (v := ?_) rfl (by kernel_rfl) (by kernel_rfl) (by kernel_rfl) (by kernel_rfl) (fun _ _ _ h => h) rfl hS0 (fun w hS => ?_) ?_; rotate_left; focus (obtain ⟨j0, j1⟩ := hS; go_simp; rfl)); (refine wpT_take 2 (v := ?_) rfl (by kernel_rfl) (by kernel_rfl) (by kernel_rfl) (by kernel_rfl) (fun _ _ _ h => h) rfl hS0 (fun w hS => ?_) ?_; rotate_left; focus (obtain ⟨j0, j1⟩ := hS; go_simp; rfl)); (refine wpT_take 3 (v := ?_) rfl (by kernel_rfl) (by kernel_rfl) (by kernel_rfl) (by kernel_rfl) (fun _ _ _ h => h) rfl hS0 (fun w hS => ?_) ?_; rotate_left; focus (obtain ⟨j0, j1⟩ := hS; go_simp; rfl)); (refine wpT_take 4 (v := ?_) rfl (by kernel_rfl) (by kernel_rfl) (by kernel_rfl) (by kernel_rfl) (fun _ _ _ h => h) rfl hS0 (fun w hS => ?_) ?_; rotate_left; focus (obtain ⟨j0, j1⟩ := hS; go_simp; rfl)); (refine wpT_take 5 (v := ?_) rfl (by kernel_rfl) (by kernel_rfl) (by kernel_rfl) (by kernel_rfl) (fun _ _ _ h => h) rfl hS0 (fun w hS => ?_) ?_; rotate_left; focus (obtain ⟨j0, j1⟩ := hS; go_simp; rfl)); (refine wpT_take 6 (v := ?_) rfl (by kernel_rfl) (by kernel_rfl) (by kernel_rfl) (by kernel_rfl) (fun _ _ _ h => h) rfl hS0 (fun w hS => ?_) ?_; rotate_left; focus (obtain ⟨j0, j1⟩ := hS; go_simp; rfl)); (refine wpT_take 7 (v := ?_) rfl (by kernel_rfl) (by kernel_rfl) (by kernel_rfl) (by kernel_rfl) (fun _ _ _ h => h) rfl hS0 (fun w hS => ?_) ?_; rotate_left; focus (obtain ⟨j0, j1⟩ := hS; go_simp; rfl))
        refine wpT_one 8 (by kernel_rfl) (wpOp_go rfl rfl fun K hK => ?_)
        go_simp
        go_at_call 25
        (with_reducible refine (samBs_at HQ.out A1 A2 k1 k2 B wr.drew (HLb.out r hlt) (HMb.out r hlt) h1d h2d).mono ?_)
        rintro e w5 ⟨rfl, hb5⟩
        have hS0 : (w5.cell? (a.add r) = some (.slice A1 (L r) k1)) ∧ w5.cell? (a'.add r) = some (.slice A2 (M r) k2) := ⟨(hb5.cell (cell_lt HS1.out.1)).trans HS1.out.1, (hb5.cell (cell_lt HS1.out.2)).trans HS1.out.2⟩
        have hB5 := Below.step hBd hBd.size hb5
        have hBB5 := hBBd.trans (hb5.mono (Nat.le_trans hB hBr.size))
        refine hK _ _ ⟨fun _ => hS0, ?_⟩
        (refine wpT_take 9 (v := ?_) rfl (by kernel_rfl) (by kernel_rfl) (by kernel_rfl) (by kernel_rfl) (fun _ _ _ h => h) rfl hS0 (fun w hS => ?_) ?_; rotate_left; focus (go_simp; rfl))
        refine wpT_done (by kernel_rfl) (NoPanic.normal ?_) _
        clear hS0 hK
        cases b
        · have HZ := Lib.hid (samR_no2 (m := n) hlt HQ.out)
          go_wp2
          go_ret
          exact ⟨by rw [HZ.out]; rfl, hB5⟩
        · go_wp2
          go_roundw
          case rel => exact ⟨r + 1, by omega, by go_num, Lib.hid (fun j hj => by
            rcases Nat.lt_succ_iff_lt_or_eq.1 hj with h' | h'
            · exact hS.out j h'
            · subst h'; exact HQ.out), hBB5, hB5⟩
          case measure => simp [intOf]; omega
      · obtain rfl : r = n := by omega
        have HZ := Lib.hid (samR_yes hS.out)
        clear hr hlt
        go_wp2
        go_ret
        exact ⟨by rw [HZ.out]; rfl, hBr⟩
  · have HZ := Lib.hid (samR_no (L := L) (M := M) (f := f) (g := g) hnm)
    have t1 : ((n : Int) != (m : Int)) = true := by simp; omega
    go_enter Try.func13, Try.ntmps13
    go_wp2
    go_ret
    exact ⟨by rw [HZ.out]; rfl, by go_grown⟩
theorem samRs_at {n m : Nat} {L M : Nat → Nat} {f g : Nat → Nat → Bool} {b : Bool} (hb : samR n m L M f g = b) (A A' : Option Addr) (k k' : Nat) (B : Nat) (w : World) (hB : B ≤ w.heap.size) (hn : n ≤ 100000) (hL : ∀ j, j < n → L j ≤ 100000) (hM : ∀ j, j < m → M j ≤ 100000) (hA : RowsAt w B A n L f) (hA' : RowsAt w B A' m M g) :
    Calls Try.prog 13 #[.slice A n k, .slice A' m k'] w fun e w' => e = .returned (.bool b) ∧ Below w.heap.size w w' := hb ▸ samRs_any A A' n m k k' L M f g B w hB hn hL hM hA hA'