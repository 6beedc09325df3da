/- The reference of layer 7; the contracts of Raw, Lines and Text on both sides; the walk of the law on Text. -/
import Derived.Test.YtkpjpokeonppbaaGreatDoorAsciiRaw
import Derived.Test.YtkpjpokeonppbaaGreatDoorStrKit
import Derived.Test.YtkpjpokeonppbaaGreatDoorHeadTail
import Derived.Great.BuildSlice
import Derived.Test.YtkpjpokeonppbaaGreatDoorOrderOf
import Derived.Test.YtkpjpokeonppbaaGreatDoorGatesFrame
namespace Go.Proofs.YtkpjpokeonppbaaGreatDoor
open Go.RowKit
set_option linter.unusedVariables false
set_option linter.unusedSimpArgs false

/-- a byte that has just been laid, as a string -/
theorem one_string (w : World) (x : Int) (c : UInt8) (hx : x = (c.toNat : Int)) : (convert 81 9 (.slice (some ⟨w.heap.size, 0, none⟩) 1 1)).run Tryz.prog (w.alloc (.cells #[.int .u8 x] 5)) = .ok (.string (str [c])) (w.alloc (.cells #[.int .u8 x] 5)) := by
  subst hx
  have h : Txt w.heap.size (w.alloc (.cells #[.int .u8 (c.toNat : Int)] 5)) (.slice (some ⟨w.heap.size, 0, none⟩) 1 1) [c] := World.ownsRow_lit (base := w.heap.size) (e := 5) (size := 1) w #[.int .u8 (c.toNat : Int)] 1 (Nat.le_refl _) (by decide) rfl
  exact txt_string h

end Go.Proofs.YtkpjpokeonppbaaGreatDoor

namespace Go.Proofs.YtkpjpokeonppbaaGreatDoor
open Go.RowKit
set_option linter.unusedVariables false
set_option linter.unusedSimpArgs false

end Go.Proofs.YtkpjpokeonppbaaGreatDoor

namespace Go.Proofs.YtkpjpokeonppbaaGreatDoor
open Go.RowKit
set_option linter.unusedVariables false
set_option linter.unusedSimpArgs false

set_option maxRecDepth 100000 in
set_option maxHeartbeats 2000000 in
theorem aRaw_no (r : Rw) (p : Rp) (w : World) (hk : ¬ r.chk = 0) (hs : RSm r) (hm : RMem w w.heap.size r p) (hN : RNils r p) :
    Calls Tryz.prog 20 #[rv r p] w fun e w' => e = .returned (.tuple #[.string ⟨#[]⟩, .int .i64 r.chk]) ∧ Below w.heap.size w w' := by
  have h' : (r.chk != 0) = true := by simpa using hk
  obtain ⟨hB0, hH0⟩ := rbox_new w r p
  have hm0 := hm.to hB0 hB0.size
  have K := Lib.hid (pCheck_any r p (w.alloc (.cells (rcL r p) 26)) hs hm0 hN)
  go_enter Tryz.func20, Tryz.ntmps20
  go_wp2_with (go_at_call 21; (with_reducible refine K.out.mono ?_); rintro e w1 ⟨rfl, hb1⟩)
  go_ret2
  exact ⟨rfl, Below.step hB0 hB0.size hb1⟩
theorem aRaw_any (r : Rw) (p : Rp) (w : World) (hs : RSm r) (hm : RMem w w.heap.size r p) (hN : RNils r p) (htab : Tab w.heap.size w) :
    Calls Tryz.prog 20 #[rv r p] w fun e w' => e = .returned (.tuple #[.string (str r.txtE), .int .i64 r.chk]) ∧ Below w.heap.size w w' := by
  unfold Rw.txtE
  by_cases hk : r.chk = 0
  · rw [if_pos hk, hk]
    exact aRaw_yes r p w hk hs hm hN htab
  · rw [if_neg hk]
    exact aRaw_no r p w hk hs hm hN

set_option maxRecDepth 100000 in
set_option maxHeartbeats 2000000 in
theorem aLines_any (r : Rw) (p : Rp) (w : World) (hs : RSm r) (hm : RMem w w.heap.size r p) (hN : RNils r p) :
    Calls Tryz.prog 26 #[rv r p] w fun e w' => e = .returned (.tuple #[.int .i64 r.lnsE, .int .i64 r.chk]) ∧ Below w.heap.size w w' := by
  obtain ⟨hB0, hH0⟩ := rbox_new w r p
  have hm0 := hm.to hB0 hB0.size
  have g0 := hs.ni
  have g1 := hs.nl
  have g2 := hs.na
  have g3 := hs.nb
  have g4 := hs.nc
  have hl : r.lnsE = if r.chk = 0 then 1 + (r.ni : Int) + r.nl + r.nb + r.nc + r.na else 0 := rfl
  have K := Lib.hid (pCheck_any r p (w.alloc (.cells (rcL r p) 26)) hs hm0 hN)
  by_cases hk : r.chk = 0
  · rw [if_pos hk] at hl
    rw [hl]
    have h' : (r.chk != 0) = false := by simp [hk]
    have HK := Lib.hid hk
    clear hl hk
    go_enter Tryz.func26, Tryz.ntmps26
    go_wp2_with (go_at_call 21; (with_reducible refine K.out.mono ?_); rintro e w1 ⟨rfl, hb1⟩; obtain ⟨x0, x1, x2, x3, x4, x5⟩ := (hH0.keep hb1 hH0.lt).rbox)
    go_ret2
    exact ⟨by rw [HK.out]; go_num, Below.step hB0 hB0.size hb1⟩
  · rw [if_neg hk] at hl
    rw [hl]
    have h' : (r.chk != 0) = true := by simpa using hk
    clear hl hk
    go_enter Tryz.func26, Tryz.ntmps26
    go_wp2_with (go_at_call 21; (with_reducible refine K.out.mono ?_); rintro e w1 ⟨rfl, hb1⟩)
    go_ret2
    exact ⟨rfl, Below.step hB0 hB0.size hb1⟩

end Go.Proofs.YtkpjpokeonppbaaGreatDoor

namespace Go.Proofs.YtkpjpokeonppbaaGreatDoor
open Go.RowKit
set_option linter.unusedVariables false
set_option linter.unusedSimpArgs false

/-- what Text returns -/
def Cr.tE (c : Cr) : List UInt8 := if c.chk = 0 then c.raw.txtE else []
def Cr.tK (c : Cr) : Int := if c.chk = 0 then c.raw.chk else c.chk
def TextIs (c : Cr) (w : World) (e : Ending) (w' : World) : Prop := e = .returned (.tuple #[.string (str c.tE), .int .i64 c.tK]) ∧ Below w.heap.size w w'
theorem tE_yes {c : Cr} (h : (c.chk == 0) = true) : c.tE = c.raw.txtE ∧ c.tK = c.raw.chk := by
  have h1 : c.chk = 0 := by simpa using h
  exact ⟨if_pos h1, if_pos h1⟩
theorem tE_no {c : Cr} (h : (c.chk == 0) = false) : c.tE = [] ∧ c.tK = c.chk := by
  have h1 : ¬ c.chk = 0 := by simpa using h
  exact ⟨if_neg h1, if_neg h1⟩

set_option maxRecDepth 100000 in
set_option maxHeartbeats 4000000 in
theorem aText_any (c : Cr) (p : Pl) (w : World) (hm : Mem w w.heap.size c p) (hs : Sm c) (hN : Nils c p) (htab : Tab w.heap.size w) :
    Calls Tryz.prog 23 #[cv c p] w (TextIs c w) := by
  have HT := Lib.hid htab
  clear htab
  cases h : (c.chk == 0)
  · have h' : (c.chk != 0) = true := by simp [bne, h]
    have HE := Lib.hid (tE_no h)
    unfold TextIs
    rw [HE.out.1, HE.out.2]
    go_enter Tryz.func23, Tryz.ntmps23
    go_wp2_with (go_at_call 40; refine (oRaw_no c p _ (hm.to (by go_grown) (by go_size)) hs h).mono ?_; rintro e w1 ⟨rfl, hb1⟩; have hB1 : Below w.heap.size w w1 := Below.step (by go_grown) (by go_size) hb1)
    go_ret2
    exact ⟨rfl, hB1.alloc hB1.size _⟩
  · have h' : (c.chk != 0) = false := by simp [bne, h]
    have HE := Lib.hid (tE_yes h)
    have HSM := Lib.hid (raw_sm hs h)
    unfold TextIs
    rw [HE.out.1, HE.out.2]
    go_enter Tryz.func23, Tryz.ntmps23
    go_wp2_with (first
      | (go_at_call 40; refine (oRaw_yes c p _ (hm.to (by go_grown) (by go_size)) hs hN h).mono ?_; rintro e w1 ⟨⟨A1, A2, A3, A4, A5, k1, k2, k3, k4, k5⟩, rfl, hr1, hn1, hb1⟩; have hB1 : Below w.heap.size w w1 := Below.step (by go_grown) (by go_size) hb1)
      | (go_at_call 20; refine (aRaw_any c.raw ⟨A1, A2, A3, A4, A5, k1, k2, k3, k4, k5⟩ _ HSM.out (hr1.to ((Below.refl _ _).alloc (Nat.le_refl _) _) (by simp)) hn1 (Tab.up (HT.out.on (hB1.alloc hB1.size _)) (hB1.alloc hB1.size _).size)).mono ?_; rintro e w2 ⟨rfl, hb2⟩; have hB2 := Below.step (hB1.alloc hB1.size _) (hB1.alloc hB1.size _).size hb2))
    go_ret2
    exact ⟨rfl, hB2⟩

end Go.Proofs.YtkpjpokeonppbaaGreatDoor

namespace Go.Proofs.YtkpjpokeonppbaaGreatDoor
open Go.RowKit
set_option linter.unusedVariables false
set_option linter.unusedSimpArgs false

end Go.Proofs.YtkpjpokeonppbaaGreatDoor
