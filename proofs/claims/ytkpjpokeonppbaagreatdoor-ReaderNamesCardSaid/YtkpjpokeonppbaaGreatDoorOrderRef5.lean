/- The reference of layer 3: the order of the gates. -/
import Derived.Test.YtkpjpokeonppbaaGreatDoorOrderRef3
namespace Go.Proofs.YtkpjpokeonppbaaGreatDoor
open Go.RowKit
set_option linter.unusedVariables false
set_option linter.unusedSimpArgs false

namespace Rw
theorem num_g {r : Rw} (h : r.num = true) {j : Nat} (hj : j < r.na) : (2 ≤ r.gl j ∧ r.gl j ≤ 2 * r.m + 1) ∧ (0 ≤ r.ga j ∧ r.ga j ≤ 2 * r.m + 1) ∧ (0 ≤ r.gb j ∧ r.gb j ≤ 2 * r.m + 1) := by
  unfold num at h
  simp only [Bool.and_eq_true] at h
  have h1 := List.all_eq_true.1 h.1.1 (r.gl j) (by unfold dL; exact List.mem_append_right _ (mem_lst.2 ⟨j, hj, rfl⟩))
  have h2 := List.all_eq_true.1 h.1.2 (r.ga j) (by unfold uL; exact List.mem_append_right _ (mem_twos.2 ⟨j, hj, Or.inl rfl⟩))
  have h3 := List.all_eq_true.1 h.1.2 (r.gb j) (by unfold uL; exact List.mem_append_right _ (mem_twos.2 ⟨j, hj, Or.inr rfl⟩))
  have e1 := of_decide_eq_true h1
  have e2 := of_decide_eq_true h2
  have e3 := of_decide_eq_true h3
  exact ⟨⟨e1.1, e1.2.2⟩, e2, e3⟩
/-- what is ready once the first q gates' variables are struck -/
def rdk (r : Rw) (q : Nat) (v : Nat) : Bool := decide ((v : Int) ∉ (lst r.gl q).map (· / 2))
theorem rdk_0 (r : Rw) (v : Nat) : r.rdk 0 v = true := by simp [rdk, lst]
theorem rdk_succ (r : Rw) (q v : Nat) (h : 0 ≤ r.gl q) : (if v = (r.gl q / 2).toNat then false else r.rdk q v) = r.rdk (q + 1) v := by
  unfold rdk
  rw [lst_succ]
  by_cases e : v = (r.gl q / 2).toNat
  · rw [if_pos e]
    symm
    refine decide_eq_false (fun h => h ?_)
    simp
    right; omega
  · rw [if_neg e]
    rw [Bool.eq_iff_iff]
    simp only [decide_eq_true_eq, List.map_append, List.mem_append, List.map_cons, List.map_nil, List.mem_singleton, not_or]
    constructor
    · intro h; exact ⟨h, by omega⟩
    · intro h; exact h.1
theorem rdk_end (r : Rw) (v : Nat) : r.rdk r.na v = r.rd0 v := rfl

/-- what the search from behind has found, down to q -/
def FD (r : Rw) (B : Int → Bool) (q : Nat) (f : Int) : Prop := (f = -1 ∧ ∀ j, q ≤ j → j < r.na → r.may B j = false) ∨ ∃ n : Nat, f = n ∧ q ≤ n ∧ n < r.na ∧ r.may B n = true ∧ ∀ j, q ≤ j → j < n → r.may B j = false
theorem FD_0 {r : Rw} {B : Int → Bool} : r.FD B r.na (-1) := Or.inl ⟨rfl, fun j h1 h2 => by omega⟩
theorem FD_no {r : Rw} {B : Int → Bool} {q : Nat} {f : Int} (h : r.FD B (q + 1) f) (hm : r.may B q = false) : r.FD B q f := by
  rcases h with ⟨e, h⟩ | ⟨n, e, h1, h2, h3, h4⟩
  · exact Or.inl ⟨e, fun j hj hl => if hq : j = q then hq ▸ hm else h j (by omega) hl⟩
  · exact Or.inr ⟨n, e, by omega, h2, h3, fun j hj hl => if hq : j = q then hq ▸ hm else h4 j (by omega) hl⟩
theorem FD_yes {r : Rw} {B : Int → Bool} {q : Nat} (hq : q < r.na) (hm : r.may B q = true) : r.FD B q q := Or.inr ⟨q, rfl, Nat.le_refl _, hq, hm, fun j h1 h2 => by omega⟩
theorem FD_end {r : Rw} {B : Int → Bool} {f : Int} (h : r.FD B 0 f) : (f = -1 ∧ r.fnd B = r.na) ∨ (f = (r.fnd B : Int) ∧ r.fnd B < r.na) := by
  rcases h with ⟨e, h⟩ | ⟨n, e, _, h2, h3, h4⟩
  · exact Or.inl ⟨e, fnd_no fun j hj => h j (Nat.zero_le _) hj⟩
  · have := fnd_is h2 h3 (fun j hj => h4 j (Nat.zero_le _) hj)
    exact Or.inr ⟨by rw [this, e], by omega⟩
end Rw
/-- the length of a slice -/
def lenV : Value → Nat
  | .slice _ n _ => n
  | _ => 0
/-- numbers of gates -/
def nL (l : List Nat) : List Int := l.map (fun i : Nat => (i : Int))
theorem nL_len (l : List Nat) : (nL l).length = l.length := by simp [nL]
theorem nL_app (l : List Nat) (i : Nat) : nL (l ++ [i]) = nL l ++ [(i : Int)] := by simp [nL]

theorem own_ints1 {w : World} {base : Nat} {e : TypeId} {v : Value} {n : Nat} {xs : List Value} (ho : w.ownsRow base e 1 v n xs) : ∃ A k, v = .slice A n k ∧ ∀ a, A = some a → base ≤ a.block := by
  rcases ho.2 with ⟨rfl, hn⟩ | ⟨q, cap, cur, rfl, hg, hh, r⟩
  · have hn0 : n = 0 := by
      have := ho.1
      rw [hn] at this
      simp at this
      omega
    subst hn0
    exact ⟨none, 0, rfl, fun a h => by cases h⟩
  · exact ⟨_, cap, rfl, fun a h => by cases h; exact hg⟩
theorem info_bool8 : (Tryz.prog.info? 4).map (fun i => (i.zero, i.size, i.bytes)) = some (some (.bool false), 1, 1) := by kernel_rfl

/-- one variable more is ready -/
def upd' (B : Int → Bool) (v : Int) : Int → Bool := fun u => if u = v then true else B u
set_option maxRecDepth 100000 in
set_option maxHeartbeats 4000000 in
theorem oOrder_any (r : Rw) (p : Rp) (w : World) (mn : Nat) (hmn : r.m = mn) (hs : RSm r) (hm : RMem w w.heap.size r p) (h1 : r.m ≤ 1000) (hnum : r.num = true) :
    Calls Tryz.prog 47 #[rv r p] w (ListIs (nL r.ord) w) := by
  have g2 := hs.na
  have hmn1 : mn ≤ 1000 := by omega
  have h0 : 0 ≤ r.m := by omega
  have hw1 : IntKind.i64.wrap (r.m + 1) = r.m + 1 := IntWalk.i64_in _ (by omega)
  obtain ⟨i0, hi0, hzz0, hs0, hy0⟩ := info_parts info_int
  have hmk : ∀ w : World, (Instr.makeSlice 121 (.int .i64 (r.m + 1)) (.int .i64 (r.m + 1))).run Tryz.prog w = .ok (.slice (some ⟨w.heap.size, 0, none⟩) (mn + 1) (mn + 1)) (w.alloc (.cells (madeCells #[.bool false] (mn + 1)) 4)) := fun w => by
    have := run_make_row' 121 4 (.bool false) 1 Tryz.underlying121 info_bool8 rfl .i64 .i64 (mn + 1) (by omega) (by omega) w
    rw [hmn]; exact this
  have hg := Lib.hid (fun j (hj : j < r.na) => Rw.num_g hnum hj)
  have HM := Lib.hid hmn
  have hH1 : Has ((w.alloc (.cells (rc r p) 26)).alloc (.cells (madeCells #[.bool false] (mn + 1)) 4)) w.heap.size 26 (rc r p) := (Has.new _ _ _).al _
  have hR1 : ((w.alloc (.cells (rc r p) 26)).alloc (.cells (madeCells #[.bool false] (mn + 1)) 4)).rowIs (w.heap.size + 1) 4 (mn + 1) (fun v => .bool (decide (v < 0))) := by
    have := World.rowIs_made (w.alloc (.cells (rc r p) 26)) (.bool false) (mn + 1) 4
    simpa using this
  have hB1 : Below w.heap.size w ((w.alloc (.cells (rc r p) 26)).alloc (.cells (madeCells #[.bool false] (mn + 1)) 4)) := by go_grown
  clear hmn hnum
  go_enter Tryz.func47, Tryz.ntmps47
  go_wp2
  go_loopw [4] (fun i wr => ∃ q : Nat, q ≤ mn + 1 ∧ i = .int .i64 q ∧ Has wr w.heap.size 26 (rc r p) ∧ wr.rowIs (w.heap.size + 1) 4 (mn + 1) (fun v => .bool (decide (v < q))) ∧ Below w.heap.size w wr) (fun i _ => mn + 1 - (intOf i).toNat)
  case atStart => exact ⟨0, Nat.zero_le _, rfl, hH1, hR1, hB1⟩
  case round =>
    clear hH1 hR1 hB1
    obtain ⟨q, hq, rfl, hH, hR, hBr⟩ := hrel
    obtain ⟨x0, x1, x2, x3, x4, x5⟩ := hH.rbox
    have hHl := hH.lt
    by_cases hlt : q < mn + 1
    · have c1 : (q : Int) ≤ r.m := by have := HM.out; omega
      have c2 : (q : Int) < (mn : Int) + 1 := by omega
      have z1 := hR.cell hlt
      have z2 := hR.frozen q
      go_wp2
      go_roundw
      case rel => exact ⟨q + 1, by omega, by go_num, hH.far (by simp) _, (hR.set _ _).congr (fun j hj => by
        by_cases e : j = q
        · subst e; simp
        · simp only [e, if_false]; congr 1; rw [Bool.eq_iff_iff]; simp; omega), hBr.setCell (by simp) _⟩
      case measure => simp [intOf]; omega
    · have c1 : ¬ (q : Int) ≤ r.m := by have := HM.out; omega
      have hR0 : wr.rowIs (w.heap.size + 1) 4 (mn + 1) (fun v => .bool (r.rdk 0 v)) := hR.congr (fun j hj => by rw [Rw.rdk_0]; congr 1; exact decide_eq_true (by omega))
      clear hq hlt hR
      go_wp2
      go_loopw [5] (fun i wr => ∃ q : Nat, q ≤ r.na ∧ i = .int .i64 q ∧ Has wr w.heap.size 26 (rc r p) ∧ wr.rowIs (w.heap.size + 1) 4 (mn + 1) (fun v => .bool (r.rdk q v)) ∧ Below w.heap.size w wr) (fun i _ => r.na - (intOf i).toNat)
      case atStart => exact ⟨0, Nat.zero_le _, rfl, hH, hR0, hBr⟩
      case round =>
        clear hH hR0 hBr
        obtain ⟨q, hq, rfl, hH, hR, hBr⟩ := hrel
        obtain ⟨x0, x1, x2, x3, x4, x5⟩ := hH.rbox
        have hHl := hH.lt
        by_cases hlt : q < r.na
        · obtain ⟨a, hA, hab, hcs⟩ := (hm.an.keep hBr) (by omega)
          obtain ⟨y0, y1, y2⟩ := hcs q hlt
          obtain ⟨⟨e1, e2⟩, _, _⟩ := hg.out q hlt
          have hm1 := HM.out
          have n1 : (r.gl q / 2).toNat < mn + 1 := by omega
          have m1 : 0 ≤ r.gl q / 2 := by omega
          have m2 : r.gl q / 2 < (mn : Int) + 1 := by omega
          have m3 : 0 ≤ r.gl q := by omega
          have z1 := hR.cell n1
          have z2 := hR.frozen (r.gl q / 2).toNat
          have hst := Lib.hid (fun v => r.rdk_succ q v m3)
          rw [hA] at x3
          clear hcs hA hm1
          go_wp2
          go_roundw
          case rel => exact ⟨q + 1, by omega, by go_num, hH.far (by simp) _, (hR.set _ _).congr (fun j hj => by rw [← hst.out j]; split <;> rfl), hBr.setCell (by simp) _⟩
          case measure => simp [intOf]; omega
        · obtain ⟨m0, hme⟩ : ∃ m0, m0 = q := ⟨_, rfl⟩
          subst hme
          have c2 : ¬ (m0 : Int) < (r.na : Int) := by omega
          have hR3 : wr.rowIs (w.heap.size + 1) 4 (mn + 1) (fun v => .bool ((r.st 0).1 (v : Int))) := hR.congr (fun j hj => by rw [show m0 = r.na from by omega]; rfl)
          clear hq hlt hR
          obtain ⟨W0, hW0⟩ : ∃ W0, W0 = wr := ⟨_, rfl⟩
          subst hW0
          go_wp2
          go_loopw [6] (fun v wr => ∃ k : Nat, k ≤ r.na ∧ Hid ((r.st k).2.length = k) ∧ wr.ownsRow W0.heap.size 3 1 v k (il (nL (r.st k).2)) ∧ Has wr w.heap.size 26 (rc r p) ∧ wr.rowIs (w.heap.size + 1) 4 (mn + 1) (fun v => .bool ((r.st k).1 (v : Int))) ∧ Below w.heap.size w wr ∧ W0.heap.size ≤ wr.heap.size) (fun v _ => r.na - lenV v)
          case atStart => exact ⟨0, Nat.zero_le _, Lib.hid rfl, World.ownsRow_nil _ _ _ _, hH, hR3, hBr, Nat.le_refl _⟩
          case round =>
            have hw0 := hR3.lt
            clear hH hR3 hBr
            obtain ⟨k, hk, hlen, hown, hH, hR, hBr, hsz⟩ := hrel
            have hown2 := hown
            obtain ⟨A, kc, hv, _⟩ := own_ints1 hown
            subst hv
            obtain ⟨x0, x1, x2, x3, x4, x5⟩ := hH.rbox
            have hHl := hH.lt
            by_cases hlt : k < r.na
            · have c1 : (k : Int) < (r.na : Int) := by omega
              have n0 : IntKind.i64.wrap ((r.na : Int) - 1) = (r.na : Int) - 1 := IntWalk.i64_in _ (by omega)
              go_wp2
              go_loopw [7, 8] (fun f i wr => (∃ fv : Int, f = .int .i64 fv ∧ ((∃ j : Nat, j < r.na ∧ i = .int .i64 j ∧ Hid (r.FD (r.st k).1 (j + 1) fv)) ∨ (i = .int .i64 (-1) ∧ Hid (r.FD (r.st k).1 0 fv)))) ∧ wr.ownsRow W0.heap.size 3 1 (.slice A k kc) k (il (nL (r.st k).2)) ∧ Has wr w.heap.size 26 (rc r p) ∧ wr.rowIs (w.heap.size + 1) 4 (mn + 1) (fun v => .bool ((r.st k).1 (v : Int))) ∧ Below w.heap.size w wr ∧ W0.heap.size ≤ wr.heap.size) (fun _ i _ => (intOf i + 1).toNat)
              case atStart => exact ⟨⟨-1, rfl, Or.inl ⟨r.na - 1, by omega, by congr 1; omega, by show r.FD _ (r.na - 1 + 1) _; rw [show r.na - 1 + 1 = r.na from by omega]; exact Rw.FD_0⟩⟩, hown2, hH, hR, hBr, hsz⟩
              case round =>
                clear hown2 hown hH hR hBr hsz
                obtain ⟨⟨fv, rfl, hij⟩, hown, hH, hR, hBr, hsz⟩ := hrel
                obtain ⟨x0, x1, x2, x3, x4, x5⟩ := hH.rbox
                have hHl := hH.lt
                rcases hij with ⟨j, hj, rfl, hF⟩ | ⟨rfl, hF⟩
                · obtain ⟨a, hA, hab, hcs⟩ := (hm.an.keep hBr) (by omega)
                  obtain ⟨y0, y1, y2⟩ := hcs j hj
                  obtain ⟨⟨e1, e2⟩, ⟨e3, e4⟩, e5, e6⟩ := hg.out j hj
                  have hm1 := HM.out
                  have i1 : (0 : Int) ≤ (j : Int) := by omega
                  have i2 : (j : Int) < (r.na : Int) := by omega
                  have n1 : (r.gl j / 2).toNat < mn + 1 := by omega
                  have n2 : (r.ga j / 2).toNat < mn + 1 := by omega
                  have n3 : (r.gb j / 2).toNat < mn + 1 := by omega
                  have m1 : 0 ≤ r.gl j / 2 := by omega
                  have m2 : r.gl j / 2 < (mn : Int) + 1 := by omega
                  have m3 : 0 ≤ r.ga j / 2 := by omega
                  have m4 : r.ga j / 2 < (mn : Int) + 1 := by omega
                  have m5 : 0 ≤ r.gb j / 2 := by omega
                  have m6 : r.gb j / 2 < (mn : Int) + 1 := by omega
                  have m7 : 0 ≤ r.gl j := by omega
                  have nj : IntKind.i64.wrap ((j : Int) - 1) = (j : Int) - 1 := IntWalk.i64_in _ (by omega)
                  have z1 := ca (hR.cell n1) (.cells #[.int .i64 (r.gl j), .int .i64 (r.ga j), .int .i64 (r.gb j)] 32)
                  have z2 := ca (hR.cell n2) (.cells #[.int .i64 (r.gl j), .int .i64 (r.ga j), .int .i64 (r.gb j)] 32)
                  have z3 := ca (hR.cell n3) (.cells #[.int .i64 (r.gl j), .int .i64 (r.ga j), .int .i64 (r.gb j)] 32)
                  rw [Int.toNat_of_nonneg m1] at z1
                  rw [Int.toNat_of_nonneg m3] at z2
                  rw [Int.toNat_of_nonneg m5] at z3
                  have hrl := hR.lt
                  have hrel2 : ∀ fv' : Int, r.FD (r.st k).1 j fv' → (∃ fv : Int, Value.int .i64 fv' = .int .i64 fv ∧ ((∃ j' : Nat, j' < r.na ∧ Value.int .i64 ((j : Int) - 1) = .int .i64 (j' : Int) ∧ Hid (r.FD (r.st k).1 (j' + 1) fv)) ∨ (Value.int .i64 ((j : Int) - 1) = .int .i64 (-1) ∧ Hid (r.FD (r.st k).1 0 fv)))) := fun fv' h => by
                    refine ⟨fv', rfl, ?_⟩
                    by_cases h0 : j = 0
                    · subst h0; exact Or.inr ⟨rfl, h⟩
                    · exact Or.inl ⟨j - 1, by omega, by congr 1; omega, by show r.FD _ (j - 1 + 1) _; rw [show j - 1 + 1 = j from by omega]; exact h⟩
                  have HR2 := Lib.hid hrel2
                  rw [hA] at x3
                  clear hcs hA hm1 hrel2
                  cases hb1 : (r.st k).1 (r.gl j / 2)
                  · rw [hb1] at z1
                    cases hb2 : (r.st k).1 (r.ga j / 2)
                    · rw [hb2] at z2
                      have hM := Lib.hid (show r.may (r.st k).1 j = false by unfold Rw.may; rw [hb1, hb2]; rfl)
                      go_wp2
                      go_roundw
                      case rel => exact ⟨HR2.out _ (Rw.FD_no hF.out hM.out), hown.alloc _, hH.al _, hR.alloc _, hBr.alloc hBr.size _, by simp; omega⟩
                      case measure => simp [intOf]
                    · rw [hb2] at z2
                      cases hb3 : (r.st k).1 (r.gb j / 2)
                      · rw [hb3] at z3
                        have hM := Lib.hid (show r.may (r.st k).1 j = false by unfold Rw.may; rw [hb1, hb2, hb3]; rfl)
                        go_wp2
                        go_roundw
                        case rel => exact ⟨HR2.out _ (Rw.FD_no hF.out hM.out), hown.alloc _, hH.al _, hR.alloc _, hBr.alloc hBr.size _, by simp; omega⟩
                        case measure => simp [intOf]
                      · rw [hb3] at z3
                        have hM := Lib.hid (show r.may (r.st k).1 j = true by unfold Rw.may; rw [hb1, hb2, hb3]; rfl)
                        go_wp2
                        go_roundw
                        case rel => exact ⟨HR2.out _ (Rw.FD_yes hj hM.out), hown.alloc _, hH.al _, hR.alloc _, hBr.alloc hBr.size _, by simp; omega⟩
                        case measure => simp [intOf]
                  · rw [hb1] at z1
                    have hM := Lib.hid (show r.may (r.st k).1 j = false by unfold Rw.may; rw [hb1]; rfl)
                    go_wp2
                    go_roundw
                    case rel => exact ⟨HR2.out _ (Rw.FD_no hF.out hM.out), hown.alloc _, hH.al _, hR.alloc _, hBr.alloc hBr.size _, by simp; omega⟩
                    case measure => simp [intOf]
                · rcases Rw.FD_end hF.out with ⟨hfv, hfn⟩ | ⟨hfv, hfn⟩
                  · subst hfv
                    have hO : Hid (r.ord = (r.st k).2) := congrArg Prod.snd (Rw.st_done hfn hk)
                    clear hfn
                    go_wp2
                    go_ret
                    exact ⟨_, rfl, by rw [hO.out, nL_len, hlen.out]; exact own_base hown (by omega), hBr⟩
                  · obtain ⟨n, hn⟩ : ∃ n, n = r.fnd (r.st k).1 := ⟨_, rfl⟩
                    rw [← hn] at hfv hfn
                    subst hfv
                    obtain ⟨a, hA, hab, hcs⟩ := (hm.an.keep hBr) (by omega)
                    obtain ⟨y0, y1, y2⟩ := hcs n hfn
                    obtain ⟨⟨e1, e2⟩, _, _⟩ := hg.out n hfn
                    have hm1 := HM.out
                    have i1 : (0 : Int) ≤ (n : Int) := by omega
                    have i2 : (n : Int) < (r.na : Int) := by omega
                    have n1 : (r.gl n / 2).toNat < mn + 1 := by omega
                    have m1 : 0 ≤ r.gl n / 2 := by omega
                    have m2 : r.gl n / 2 < (mn : Int) + 1 := by omega
                    have m7 : 0 ≤ r.gl n := by omega
                    have z1 := hR.cell n1
                    have z2 := hR.frozen (r.gl n / 2).toNat
                    have hS : Hid (r.st (k + 1) = (upd' (r.st k).1 (r.gl n / 2), (r.st k).2 ++ [n])) := by
                      show r.st (k + 1) = _
                      rw [Rw.st_go (by rw [← hn]; exact hfn), ← hn]; rfl
                    rw [hA] at x3
                    have hHs := hH.far (q := ⟨w.heap.size + 1, (r.gl n / 2).toNat, none⟩) (by simp) (.bool true)
                    have hos := ownsRow_setCell_below hown (a := ⟨w.heap.size + 1, (r.gl n / 2).toNat, none⟩) (by simp; omega) (.bool true)
                    have hRs : (wr.setCell ⟨w.heap.size + 1, (r.gl n / 2).toNat, none⟩ (.bool true)).rowIs (w.heap.size + 1) 4 (mn + 1) (fun v => .bool ((r.st (k + 1)).1 (v : Int))) := (hR.set _ _).congr (fun j hj => by
                      rw [hS.out]
                      show _ = Value.bool (upd' (r.st k).1 (r.gl n / 2) (j : Int))
                      unfold upd'
                      by_cases e : j = (r.gl n / 2).toNat
                      · rw [if_pos e, if_pos (by omega)]
                      · rw [if_neg e, if_neg (by omega)])
                    have hBs := hBr.setCell (p := ⟨w.heap.size + 1, (r.gl n / 2).toNat, none⟩) (by simp) (.bool true)
                    have hHn := Lib.hid hn
                    clear hcs hA hm1 hn
                    go_wp2_with (at_builtin; refine wpList_append_own _ rfl _ _ 23 rfl W0.heap.size 3 i0 (.int .i64 0) 1 8 Tryz.underlying23 hi0 hzz0 hs0 hy0 rfl (by decide) _ k (il (nL (r.st k).2)) rfl (hos.alloc _) ⟨wr.heap.size, 0, none⟩ 1 1 [.int .i64 (n : Int)] rfl rfl (by have := cell_one_new (wr.setCell ⟨w.heap.size + 1, (r.gl n / 2).toNat, none⟩ (.bool true)) (.int .i64 (n : Int)) 3; simpa [World.setCell] using this) (by simp [Value.oneCell']) (by simp only [maxLen]; omega) (by omega) (by simp [World.setCell]; omega) ?_; intro v' w8 hown' hgrow _)
                    have hs8 := hgrow.size
                    simp [World.setCell] at hs8
                    obtain ⟨A', kc', hv', _⟩ := own_ints1 hown'
                    subst hv'
                    have hrl := hRs.lt
                    go_roundw
                    case rel => exact ⟨k + 1, by omega, by show (r.st (k + 1)).2.length = k + 1; rw [hS.out]; simp; exact hlen.out, by rw [hS.out]; show World.ownsRow _ _ _ _ _ _ (il (nL ((r.st k).2 ++ [n]))); rw [nL_app, il_app]; exact hown', app_has hHs hos hgrow (by omega), (hRs.alloc _).of_block (hgrow.block _ (by simp [World.setCell] at hrl ⊢; omega) (fun e => by have := own_block hos _ e.symm; omega)), app_below hBs (by have := hBr.size; simp [World.setCell]; omega) (by omega) hos hgrow, by omega⟩
                    case measure => simp [lenV]; omega
            · have c1 : ¬ (k : Int) < (r.na : Int) := by omega
              have hO : Hid (r.ord = (r.st k).2) := by show r.ord = _; rw [show k = r.na from by omega]; rfl
              clear hlt
              go_wp2
              go_ret
              exact ⟨_, rfl, by rw [hO.out, nL_len, hlen.out]; exact own_base hown2 (by omega), hBr⟩
end Go.Proofs.YtkpjpokeonppbaaGreatDoor
