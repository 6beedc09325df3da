/- The contract of clause.Resolve. -/
import Derived.Test.YtigfdfbjpelcaaaClProg3
namespace Go.Proofs.Ytigfdfbjpelcaaa
open Go Go.RowKit Go.Lib Go.Sort
set_option linter.unusedVariables false
set_option linter.unusedSimpArgs false

theorem resolve_clo (v : Int) (c : Nat) : Clo 41 c (.int .i64 v) I64 (fun x => decide (x.tdiv 2 = v)) := fun W x hx hc => by
  show Calls Try.prog 41 #[.int .i64 x, .pointer (some ⟨c, 0, none⟩)] W _
  unfold I64 at hx
  have hq : -9223372036854775808 ≤ x.tdiv 2 ∧ x.tdiv 2 ≤ 9223372036854775807 := by
    rcases Int.le_total 0 x with h | h
    · rw [Int.tdiv_eq_ediv_of_nonneg h]; omega
    · have := Int.tdiv_eq_ediv_of_nonneg (a := -x) (b := 2) (by omega)
      rw [Int.neg_tdiv] at this; omega
  obtain ⟨u, hu⟩ : ∃ u, u = x.tdiv 2 := ⟨_, rfl⟩
  have HU := hu.symm
  rw [HU] at hq
  simp only [HU]
  clear hu
  by_cases he : u = v
  · have e1 : (u == v) = true := by simpa using he
    rw [show decide (u = v) = true by simpa using he]
    clear he
    go_enter Try.func41, Try.ntmps41
    go_wp2
    go_ret
    exact ⟨rfl, 0, rfl⟩
  · have e1 : (u == v) = false := by simpa using he
    rw [show decide (u = v) = false by simpa using he]
    clear he
    go_enter Try.func41, Try.ntmps41
    go_wp2
    go_ret
    exact ⟨rfl, 0, rfl⟩

theorem deleteF_nil (fv : Value) (w : World) : Calls Try.prog 43 #[.slice none 0 0, fv] w fun e w' => e = .returned (.slice none 0 0) ∧ w' = w := by
  have hi := Try.slices_IndexFunc_empty (α := Int) none 0 fv w
  go_enter Try.func43, Try.ntmps43
  go_wp2_with (first
    | (go_at_call 42; (with_reducible refine hi.mono ?_); rintro e w1 ⟨rfl, hw⟩; obtain rfl := hw.symm))
  go_ret
  exact ⟨rfl, rfl⟩

theorem deleteF_any {g c : Nat} {u : Value} {p : Int → Bool} (hp : Clo g c u I64 p) (eg : ∀ args w, (callFunc g args).run Try.prog w = .ok (.enter g args) w) (B : Nat) (v : Value) (l : List Int) (w : World) (ho : Io B w v l) (hl : l.length ≤ 100000) (hQ : ∀ x ∈ l, I64 x) (hcell : w.cell? ⟨c, 0, none⟩ = some u) (hcB : c < B) (hB : B ≤ w.heap.size) :
    Calls Try.prog 43 #[v, .func (.func g) #[] #[.pointer (some ⟨c, 0, none⟩)]] w fun e w' => ∃ v', e = .returned v' ∧ Io B w' v' (l.filter fun x => !p x) ∧ Below B w w' := by
  rcases ho.2 with ⟨rfl, hn⟩ | ⟨b, cap, cur, rfl, hg, hh, hk, hm, hs, ht⟩
  · have e : l = [] := List.eq_nil_of_length_eq_zero hn
    subst e
    exact (deleteF_nil _ w).mono fun e w' h => ⟨_, h.1, Io.nil _ _, by rw [h.2]; exact Below.refl _ _⟩
  · have hH := holds_of_blockI (ss := l) hh (by simpa [iC] using ht)
    haveI : Inhabited {x // I64 x} := ⟨⟨0, i64_0⟩⟩
    have ea := att_map I64 l hQ
    obtain ⟨zs, hzs⟩ : ∃ zs, zs = l.attachWith I64 hQ := ⟨_, rfl⟩
    rw [← hzs] at ea
    have hzl : zs.length = l.length := by rw [hzs]; simp
    have hH2 : Holds (fun x : {x // I64 x} => Value.int .i64 x.1) w b 0 zs.toArray := fun j hj => by
      have hj' : j < l.length := by rw [hzs] at hj; simpa using hj
      have h1 := hH j (by simpa using hj')
      rw [hzs]
      refine ⟨?_, h1.2⟩
      rw [h1.1]
      have e2 := att_at I64 l hQ j hj'
      have e3 : (l.attachWith I64 hQ).toArray[j]! = (l.attachWith I64 hQ)[j]! := by
        rw [getElem!_pos _ j (by simpa using hj'), getElem!_pos _ j (by simpa using hj')]; simp
      show some (Value.int .i64 l.toArray[j]!) = some (Value.int .i64 ((l.attachWith I64 hQ).toArray[j]!).1)
      rw [e3, e2, getB_at hj', getD_at hj']
    have hlt : b < w.heap.size := Has.lt (t := 3) (cs := cur) hh
    have hD := Try.slices_DeleteFunc (α := {x // I64 x}) (fun x => .int .i64 x.1) (fun _ => rfl) (fun x => p x.1) g #[.pointer (some ⟨c, 0, none⟩)] eg ⟨0, i64_0⟩ Try.zeroValue3 b 0 cap zs.toArray w
      (fun W x hb => hp W x.1 x.2 ((hb.cell (cell_lt hcell)).trans hcell))
      (fun n os dk x _ => hp _ x.1 x.2 (by
        unfold sortWorld
        rw [cell?_grow _ _ _ (by show c < (putRow _ _ _ _ _).heap.size; rw [size_putRow]; exact cell_lt hcell), cell?_putRow_other _ _ b 0 _ _ (Or.inl (by show c ≠ b; omega))]
        exact hcell)) hH2 (by simp; omega) (by simp; omega)
    rw [show zs.toArray.size = l.length by simpa using hzl] at hD
    have ef : (zs.filter fun x => !p x.1).map (·.1) = l.filter fun x => !p x := by rw [← ea, List.filter_map]; rfl
    have el : (zs.filter fun x => !p x.1).length = (l.filter fun x => !p x).length := by rw [← ef, List.length_map]
    refine hD.mono fun e w' ⟨h1, q, h2⟩ => ⟨_, h1, ?_, ?_⟩
    · have ho2 : w.ownsRow B 3 1 (.slice (some ⟨b, 0, none⟩) zs.length cap) zs.length (zs.map fun x => Value.int .i64 x.1) := by
        rw [hzl, show (zs.map fun x => Value.int .i64 x.1) = iC l by rw [← ea]; unfold iC; rw [List.map_map]; rfl]
        exact ho
      have hfl : (zs.filter fun x => !p x.1).length ≤ zs.length := List.length_filter_le _ _
      have := Lib.ownsRow_putRow (enc := fun x : {x // I64 x} => Value.int .i64 x.1) (q := q) (k := (zs.filter fun x => !p x.1).length) (ys := (zs.filter fun x => !p x.1) ++ List.replicate (l.length - (zs.filter fun x => !p x.1).length) ⟨0, i64_0⟩) ho2 (by simp; omega) hfl
      rw [List.take_left] at this
      rw [h2]
      show Io B _ (.slice (some ⟨b, 0, none⟩) (zs.filter fun x => !p x.1).length cap) _
      refine Io.mk this el ?_
      rw [← ef]; unfold iC; rw [List.map_map]; rfl
    · rw [h2]
      exact Lib.below_putRow (Below.refl B w) hg

theorem concat2_any (b : Nat) (A : Option Addr) (l : List Int) (k : Nat) (A' : Option Addr) (l' : List Int) (k' : Nat) (w : World) (h0 : w.cell? ⟨b, 0, none⟩ = some (.slice A l.length k)) (h1 : w.cell? ⟨b, 1, none⟩ = some (.slice A' l'.length k')) (h : Ia w w.heap.size A l k) (h' : Ia w w.heap.size A' l' k') (hl : l.length ≤ 100000) (hl' : l'.length ≤ 100000) :
    Calls Try.prog 44 #[.slice (some ⟨b, 0, none⟩) 2 2] w fun e w' => ∃ v, e = .returned v ∧ Io w.heap.size w' v (l ++ l') ∧ Below w.heap.size w w' := by
  have hC := concatI_any b 2 (fun j => if j = 0 then A else A') (fun j => if j = 0 then l.length else l'.length) (fun j => if j = 0 then k else k') (fun j i => if j = 0 then l.getD i 0 else l'.getD i 0) w.heap.size w (by omega)
    (fun j hj => by match j, hj with
                    | 0, _ => exact h0
                    | 1, _ => exact h1) (cell_lt h0)
    (fun j hj => by match j, hj with
                    | 0, _ => exact h.h
                    | 1, _ => exact h'.h)
    (fun j hj => by match j, hj with
                    | 0, _ => exact h.nn
                    | 1, _ => exact h'.nn) (by show 0 + l.length + l'.length ≤ 300000; omega)
  refine hC.mono fun e w' ⟨v, h1, h2, h3⟩ => ⟨v, h1, Io.mk h2 ?_ ?_, h3⟩
  · show 0 + l.length + l'.length = _; rw [List.length_append]; omega
  · show [] ++ intL (fun i => l.getD i 0) l.length ++ intL (fun i => l'.getD i 0) l'.length = _
    rw [intL_all, intL_all, iC_app]; rfl

end Go.Proofs.Ytigfdfbjpelcaaa
