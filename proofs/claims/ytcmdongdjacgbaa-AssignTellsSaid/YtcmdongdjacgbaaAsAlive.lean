/- The chapter's example: alive. -/
import Derived.Test.YtcmdongdjacgbaaAsBox
import Derived.Test.YtcmdongdjacgbaaAsWays
namespace Go.Proofs.Ytcmdongdjacgbaa
open Go Go.RowKit
set_option linter.unusedVariables false
set_option linter.unusedSimpArgs false

theorem Nw.lit2 (W : World) {n m : Nat} {t s : List Int} {cs cs2 : Array Value} (hcs : cs = (iC t).toArray) (hcs2 : cs2 = (iC s).toArray) (hn : n = t.length) (hm : m = s.length) :
    Nw W.heap.size ((W.alloc (.cells cs2 3)).alloc (.cells cs 3)) (some ⟨W.heap.size + 1, 0, none⟩) n n t (some ⟨W.heap.size, 0, none⟩) m m s := by
  have h := Nw.lit W hcs2 hcs hm hn
  exact ⟨h.si, h.ti, h.ms, h.nt, h.sa, h.ta⟩
theorem oA0 : OkA 5 [] [] := by decide
theorem oA1 : OkA 5 ([] ++ [4]) [] := by decide
theorem oA2 : OkA 5 ([] ++ [4] ++ [7]) ([] ++ [((1 : Nat) : Int)]) := by decide
theorem oA3 : OkA 5 ([] ++ [4] ++ [7] ++ [2]) ([] ++ [((1 : Nat) : Int)]) := by decide
theorem oA4 : OkA 5 ([] ++ [4] ++ [7] ++ [2] ++ [9]) ([] ++ [((1 : Nat) : Int)] ++ [((3 : Nat) : Int)]) := by decide

theorem exU1 : List.take (usz 4 ([] ++ [((1 : Nat) : Int)] ++ [((3 : Nat) : Int)]) 1) ([] ++ [4] ++ [7] ++ [2] ++ [9] : List Int) = [4, 7, 2] := by decide
theorem exV1 : List.take 1 ([] ++ [((1 : Nat) : Int)] ++ [((3 : Nat) : Int)]) = [1] := by decide
theorem exU0 : List.take (usz 4 ([] ++ [((1 : Nat) : Int)] ++ [((3 : Nat) : Int)]) 0) ([] ++ [4] ++ [7] ++ [2] ++ [9] : List Int) = [4] := by decide
theorem exV0 : List.take 0 ([] ++ [((1 : Nat) : Int)] ++ [((3 : Nat) : Int)]) = [] := by decide
theorem exL2 : lE 5 ([] ++ [4] ++ [7] ++ [2] ++ [9]) ([] ++ [((1 : Nat) : Int)] ++ [((3 : Nat) : Int)]) 3 = 0 := by decide
theorem exL1 : lV 5 ([] ++ [4] ++ [7] ++ [2] ++ [9]) ([] ++ [((1 : Nat) : Int)] ++ [((3 : Nat) : Int)]) 3 = 1 := by
  unfold lV
  rw [if_pos exL2, plc_at oA4.2.1 (j := 2) (by decide) (by decide)]
  decide

end Go.Proofs.Ytcmdongdjacgbaa
