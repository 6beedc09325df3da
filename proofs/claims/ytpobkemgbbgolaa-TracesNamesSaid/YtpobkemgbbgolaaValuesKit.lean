/- Small lemmas for the laws of layer 4. -/
import Derived.Test.YtpobkemgbbgolaaValuesRef3
namespace Go.Proofs.Ytpobkemgbbgolaa
open Go.RowKit
set_option linter.unusedVariables false

theorem samBs_self (A A' : Option Addr) (n k k' : Nat) (f : Nat → Bool) (B : Nat) (w : World) (hn : n ≤ 100000) (hA : BlsAt w B A n f) (hA' : BlsAt w B A' n f) :
    Calls Try.prog 25 #[.slice A n k, .slice A' n k'] w fun e w' => e = .returned (.bool true) ∧ Below w.heap.size w w' := by
  have h := samBs_any A A' n n k k' f f B w hn hn hA hA'
  rw [samB_yes (fun _ _ => rfl)] at h
  exact h
theorem Cr.len_bd (c : Cr) (ns ni : Nat) (hs : Sm c) : c.fn ns ni ≤ 100000 ∧ c.nn ns ni ≤ 100000 ∧ c.bn ns ni ≤ 100000 := by
  have g1 := hs.nl
  have g2 := hs.nb
  unfold fn nn bn
  split
  · rename_i h
    have := Cr.fg_bd (Cr.ask_zero h).1
    omega
  · omega
