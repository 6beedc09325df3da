/- The reference of layer 7; the contracts of Raw, Lines and Text on both sides; the walk of the law on Text. -/
import Derived.Test.YtbppdifghkkooaaDoorAsciiRaw
import Derived.Test.YtbppdifghkkooaaDoorStrKit
import Derived.Test.YtbppdifghkkooaaDoorHeadTail
import Derived.Great.BuildSlice
import Derived.Test.YtbppdifghkkooaaDoorOrderOf
import Derived.Test.YtbppdifghkkooaaDoorGatesFrame
namespace Go.Proofs.YtbppdifghkkooaaDoor
open Go.RowKit
set_option linter.unusedVariables false
set_option linter.unusedSimpArgs false

/-- a byte that has just been laid, as a string -/
theorem one_string (w : World) (x : Int) (c : UInt8) (hx : x = (c.toNat : Int)) : (convert 54 9 (.slice (some ⟨w.heap.size, 0, none⟩) 1 1)).run Tryd.prog (w.alloc (.cells #[.int .u8 x] 5)) = .ok (.string (str [c])) (w.alloc (.cells #[.int .u8 x] 5)) := by
  subst hx
  have h : Txt w.heap.size (w.alloc (.cells #[.int .u8 (c.toNat : Int)] 5)) (.slice (some ⟨w.heap.size, 0, none⟩) 1 1) [c] := World.ownsRow_lit (base := w.heap.size) (e := 5) (size := 1) w #[.int .u8 (c.toNat : Int)] 1 (Nat.le_refl _) (by decide) rfl
  exact txt_string h

set_option maxRecDepth 100000 in
set_option maxHeartbeats 4000000 in
theorem digits_any (u : Nat) (hu : u ≤ 9999) (w : World) : Calls Tryd.prog 26 #[.int .i64 (u : Int)] w fun e w' => e = .returned (.string (str (Lib.decDigits u))) ∧ Below w.heap.size w w' := by
  have hlen : (Lib.decDigits u).length ≤ 4 := by rw [Lib.decDigits_length]; exact nDigits_le u 3 (by omega)
  have HLN := Lib.hid hlen
  clear hlen
  go_enter Tryd.func26, Tryd.ntmps26
  go_wp2
  go_loopw [0, 3] (fun n s wr => ∃ m : Nat, ∃ l : List UInt8, n = .int .i64 (m : Int) ∧ s = .string (str l) ∧ m ≤ u ∧ Hid (Lib.decDigits u = Lib.decDigits m ++ l) ∧ Below w.heap.size w wr) (fun n _ _ => (intOf n).toNat)
  case atStart => exact ⟨u, [], rfl, rfl, Nat.le_refl _, Lib.hid (by simp), Below.refl _ _⟩
  case round =>
    obtain ⟨m, l, rfl, rfl, hm, hD, hBr⟩ := hrel
    have hll : l.length ≤ 4 := by have h1 := HLN.out; rw [hD.out, List.length_append] at h1; omega
    by_cases h9 : 9 < m
    · have h9i : (9 : Int) < (m : Int) := by omega
      obtain ⟨c, hc⟩ : ∃ c, c = UInt8.ofNat (48 + m % 10) := ⟨_, rfl⟩
      have hcn : (c.toNat : Int) = 48 + (m : Int) % 10 := by rw [hc, UInt8.toNat_ofNat']; omega
      have k1 := one_string wr (48 + (m : Int) % 10) c hcn.symm
      have k2 := fun W => str_add (l := [c]) (m := l) (by simp; omega) W
      have HN := Lib.hid (show Lib.decDigits m = Lib.decDigits (m / 10) ++ [c] by rw [Lib.decDigits, dif_neg (by omega), hc])
      have hw8 : IntKind.u8.wrap (48 + (m : Int) % 10) = 48 + (m : Int) % 10 := by rw [IntKind.wrap_u8]; omega
      clear hc hcn
      go_wp2
      go_roundw
      case rel => exact ⟨m / 10, [c] ++ l, by go_num, rfl, by omega, Lib.hid (by rw [hD.out, HN.out]; simp), hBr.alloc hBr.size _⟩
      case measure => simp [intOf]; omega
    · have h9i : ¬ (9 : Int) < (m : Int) := by omega
      obtain ⟨c, hc⟩ : ∃ c, c = UInt8.ofNat (48 + m) := ⟨_, rfl⟩
      have hcn : (c.toNat : Int) = 48 + (m : Int) := by rw [hc, UInt8.toNat_ofNat']; omega
      have k1 := one_string wr (48 + (m : Int)) c hcn.symm
      have k2 := fun W => str_add (l := [c]) (m := l) (by simp; omega) W
      have HN := Lib.hid (show Lib.decDigits m = [c] by rw [Lib.decDigits, dif_pos (by omega), hc])
      have hw8 : IntKind.u8.wrap (48 + (m : Int)) = 48 + (m : Int) := by rw [IntKind.wrap_u8]; omega
      clear hc hcn
      go_wp2
      go_ret
      exact ⟨by rw [hD.out, HN.out]; rfl, hBr.alloc hBr.size _⟩

theorem dgs_any {x : Int} (h0 : 0 ≤ x) (h1 : x ≤ 9999) (w : World) : Calls Tryd.prog 26 #[.int .i64 x] w fun e w' => e = .returned (.string (str (dgs x))) ∧ Below w.heap.size w w' := by
  have h := digits_any x.toNat (by omega) w
  rw [Int.toNat_of_nonneg h0] at h
  rw [dgs_nat x h0]
  exact h

end Go.Proofs.YtbppdifghkkooaaDoor

namespace Go.Proofs.YtbppdifghkkooaaDoor
open Go.RowKit
set_option linter.unusedVariables false
set_option linter.unusedSimpArgs false

end Go.Proofs.YtbppdifghkkooaaDoor

namespace Go.Proofs.YtbppdifghkkooaaDoor
open Go.RowKit
set_option linter.unusedVariables false
set_option linter.unusedSimpArgs false

end Go.Proofs.YtbppdifghkkooaaDoor

namespace Go.Proofs.YtbppdifghkkooaaDoor
open Go.RowKit
set_option linter.unusedVariables false
set_option linter.unusedSimpArgs false

/-- what Text returns -/
def Cr.tE (c : Cr) : List UInt8 := if c.chk = 0 then c.raw.txtE else []
def Cr.tK (c : Cr) : Int := if c.chk = 0 then c.raw.chk else c.chk
def TextIs (c : Cr) (w : World) (e : Ending) (w' : World) : Prop := e = .returned (.tuple #[.string (str c.tE), .int .i64 c.tK]) ∧ Below w.heap.size w w'
theorem tE_yes {c : Cr} (h : (c.chk == 0) = true) : c.tE = c.raw.txtE ∧ c.tK = c.raw.chk := by
  have h1 : c.chk = 0 := by simpa using h
  exact ⟨if_pos h1, if_pos h1⟩
theorem tE_no {c : Cr} (h : (c.chk == 0) = false) : c.tE = [] ∧ c.tK = c.chk := by
  have h1 : ¬ c.chk = 0 := by simpa using h
  exact ⟨if_neg h1, if_neg h1⟩

end Go.Proofs.YtbppdifghkkooaaDoor

namespace Go.Proofs.YtbppdifghkkooaaDoor
open Go.RowKit
set_option linter.unusedVariables false
set_option linter.unusedSimpArgs false

end Go.Proofs.YtbppdifghkkooaaDoor
