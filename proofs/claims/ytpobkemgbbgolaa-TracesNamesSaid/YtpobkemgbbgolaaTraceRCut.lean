/- The contract of the reference's Cut of a run. -/
import Derived.Test.YtpobkemgbbgolaaTraceCut
import Derived.Test.YtpobkemgbbgolaaTraceRef4
namespace Go.Proofs.Ytpobkemgbbgolaa
open Go.RowKit
set_option linter.unusedVariables false
set_option linter.unusedSimpArgs false

section
variable {c : Cr} {p : Pl} {t : Tr} {q : Tp}

theorem Tr.cut_sm (hts : TSm t) {n : Nat} (hn : n ≤ t.ni) : TSm (t.cut n) := ⟨hts.nf, Nat.le_trans hn hts.ni, fun j hj => hts.ln j (Nat.lt_of_lt_of_le hj hn)⟩

theorem twin_cut {m : Nat} {A : Option Addr} (hA : q.A2 = A) (h0 : 0 < m) (hm : m ≤ t.ni) (w : World) (h : RArg w w.heap.size c p t q) :
    Calls Try.prog 9 #[.agg #[.slice q.A1 t.nf q.k1, .slice A m q.k2]] w (RunIs (t.cut m) w) := hA ▸
  (twin6_any (t := t.cut m) w (h.ht.cut h0 hm) (Tr.cut_sm h.hts hm)).mono fun _ _ h => h.run

theorem cutT_sm (hts : TSm t) : TSm (c.cutT t) := by
  unfold Cr.cutT
  split
  · refine Tr.cut_sm hts ?_
    unfold Cr.cun
    split
    · rename_i h; omega
    · exact Nat.zero_le _
  · exact ⟨Nat.zero_le _, Nat.zero_le _, fun j hj => absurd hj (Nat.not_lt_zero _)⟩

end
