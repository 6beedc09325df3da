/- The contracts of the package order: sizes, lists of literals. -/
import Derived.Test.YtnkpmcpinicciaaDoorOrderConcat
import Derived.Test.YtnkpmcpinicciaaDoorOrderList
import Derived.Test.YtnkpmcpinicciaaDoorOrderRef6
import Derived.Test.YtnkpmcpinicciaaDoorHeadTail
namespace Go.Proofs.YtnkpmcpinicciaaDoor
open Go.RowKit
set_option linter.unusedVariables false
set_option linter.unusedSimpArgs false

set_option maxRecDepth 100000 in
set_option maxHeartbeats 2000000 in
theorem pMany_any (r : Rw) (p : Rp) (w : World) (hs : RSm r) : Calls Tryd.prog 50 #[rv r p] w fun e w' => e = .returned (.bool r.big) ∧ Below w.heap.size w w' := by
  have g1 := hs.ni
  have g2 := hs.nl
  have g3 := hs.na
  have g4 := hs.nb
  have g5 := hs.nc
  by_cases h1 : 1000 < r.m
  · have HR := Lib.hid (show r.big = true from decide_eq_true (Or.inl h1))
    go_enter Tryd.func50, Tryd.ntmps50
    go_wp2
    go_ret
    exact ⟨Li.ret_bool HR.out.symm, by go_grown⟩
  by_cases h2 : 1000 < (r.ni + r.nl + r.na : Int)
  · have HR := Lib.hid (show r.big = true from decide_eq_true (Or.inr (Or.inl h2)))
    go_enter Tryd.func50, Tryd.ntmps50
    go_wp2
    go_ret
    exact ⟨Li.ret_bool HR.out.symm, by go_grown⟩
  by_cases h3 : 100 < r.nb
  · have HR := Lib.hid (show r.big = true from decide_eq_true (Or.inr (Or.inr (Or.inl h3))))
    go_enter Tryd.func50, Tryd.ntmps50
    go_wp2
    go_ret
    refine ⟨Li.ret_bool (Eq.trans ?_ HR.out.symm), by go_grown⟩
    first
      | rfl
      | (simp; omega)
      | (simp; done)
  by_cases h4 : 100 < r.nc
  · have HR := Lib.hid (show r.big = true from decide_eq_true (Or.inr (Or.inr (Or.inr h4))))
    go_enter Tryd.func50, Tryd.ntmps50
    go_wp2
    go_ret
    refine ⟨Li.ret_bool (Eq.trans ?_ HR.out.symm), by go_grown⟩
    first
      | rfl
      | (simp; omega)
      | (simp; done)
  · have HR := Lib.hid (show r.big = false from decide_eq_false (by omega))
    go_enter Tryd.func50, Tryd.ntmps50
    go_wp2
    go_ret
    refine ⟨Li.ret_bool (Eq.trans ?_ HR.out.symm), by go_grown⟩
    first
      | rfl
      | (simp; omega)
      | (simp; done)

theorem varOf_any {l : Int} (h0 : 0 ≤ l) (h1 : l ≤ 2001) (w : World) : Calls Tryd.prog 69 #[.int .i64 l] w fun e w' => e = .returned (.int .i64 (l / 2)) ∧ w = w' := by
  go_enter Tryd.func69, Tryd.ntmps69
  go_wp2_with (go_at_call 83; refine (var_yes _ _ (Li.isL_mk h0 h1)).mono ?_; rintro e w1 ⟨rfl, rfl⟩)
  go_ret
  exact ⟨rfl, rfl⟩

theorem wrongReset_any (a b x : Int) (w : World) : Calls Tryd.prog 53 #[.agg #[.int .i64 a, .int .i64 b, .int .i64 x]] w fun e w' => e = .returned (.bool (!Rw.reOk x)) ∧ Below w.heap.size w w' := by
  have hx : x = 0 ∨ x = 1 ∨ x = 2 ∨ (x ≠ 0 ∧ x ≠ 1 ∧ x ≠ 2) := by omega
  rcases hx with rfl | rfl | rfl | ⟨h0, h1, h2⟩
  all_goals
    first
      | (have t0 : (x != 0) = true := by simp [h0]
         have t1 : (x != 1) = true := by simp [h1]
         have t2 : (x != 2) = true := by simp [h2]
         have HR := Lib.hid (show Rw.reOk x = false from decide_eq_false (by omega))
         clear h0 h1 h2
         go_enter Tryd.func53, Tryd.ntmps53
         go_wp2
         go_ret
         exact ⟨by rw [HR.out]; rfl, by go_grown⟩)
      | (go_enter Tryd.func53, Tryd.ntmps53
         go_wp2
         go_ret
         exact ⟨rfl, by go_grown⟩)
end Go.Proofs.YtnkpmcpinicciaaDoor
