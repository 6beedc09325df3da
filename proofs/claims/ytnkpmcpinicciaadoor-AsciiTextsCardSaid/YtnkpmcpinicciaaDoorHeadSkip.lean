/- A region that draws its order, with HeadTail: an operation whose guard is false is passed over. -/
import Derived.Test.YtnkpmcpinicciaaDoorHeadTail
namespace Go.Proofs.YtnkpmcpinicciaaDoor
open Go
set_option linter.unusedVariables false
section
variable {P : Program} {ops : Array Oper} {Q : Exit → Act → World → Prop} {md : Region.Mode} {S : World → Prop} {n : Nat}
/-- pass over number i, whose guard is decided -/
theorem wpT_skip (i : Nat) {oi : Oper} {fuel : Nat} {listed : Array Bool} {a : Act} {w : World} (hi : ops[i]? = some oi)
    (hs : Region.noSelect ops = true) (hT : tailWaits md ops n i = true) (hf : Region.free md ops listed i = true) (hr : (Region.ready md ops listed).contains i = true)
    (hQ : ∀ c a w, Q (.panic c) (a.put oi.dst undef) w → Q (.panic c) a w) (hw : Region.wanted oi (yielded ops a.tmps) = false) (hS : S w)
    (h : wpT P md ops Q S n fuel (listed.setIfInBounds i true) (a.put oi.dst undef) w) : wpT P md ops Q S n (fuel + 1) listed a w :=
  wpT_first hi hs hT hQ fuel listed a w hf (by simpa using hr) (Or.inr ⟨hw, rfl⟩) hS h
/-- the walk of such a region, held together (so that no term is unfolded to see what it is) -/
structure WT (P : Program) (md : Region.Mode) (ops : Array Oper) (Q : Exit → Act → World → Prop) (S : World → Prop) (n fuel : Nat) (listed : Array Bool) (a : Act) (w : World) : Prop where
  h : wpT P md ops Q S n fuel listed a w
theorem wt_take (i : Nat) {oi : Oper} {v : Value} {fuel : Nat} {listed : Array Bool} {a : Act} {w : World} (hi : ops[i]? = some oi)
    (hs : Region.noSelect ops = true) (hT : tailWaits md ops n i = true) (hf : Region.free md ops listed i = true) (hr : (Region.ready md ops listed).contains i = true)
    (hQ : ∀ c a w, Q (.panic c) (a.put oi.dst v) w → Q (.panic c) a w) (hw : Region.wanted oi (yielded ops a.tmps) = true) (hS : S w) (hy : ∀ w, S w → (execOp a.eval oi).run P w = .ok (.value v) w)
    (h : WT P md ops Q S n fuel (listed.setIfInBounds i true) (a.put oi.dst v) w) : WT P md ops Q S n (fuel + 1) listed a w := ⟨wpT_take i hi hs hT hf hr hQ hw hS hy h.h⟩
theorem wt_skip (i : Nat) {oi : Oper} {fuel : Nat} {listed : Array Bool} {a : Act} {w : World} (hi : ops[i]? = some oi)
    (hs : Region.noSelect ops = true) (hT : tailWaits md ops n i = true) (hf : Region.free md ops listed i = true) (hr : (Region.ready md ops listed).contains i = true)
    (hQ : ∀ c a w, Q (.panic c) (a.put oi.dst undef) w → Q (.panic c) a w) (hw : Region.wanted oi (yielded ops a.tmps) = false) (hS : S w)
    (h : WT P md ops Q S n fuel (listed.setIfInBounds i true) (a.put oi.dst undef) w) : WT P md ops Q S n (fuel + 1) listed a w := ⟨wpT_skip i hi hs hT hf hr hQ hw hS h.h⟩
theorem wt_one (i : Nat) {fuel : Nat} {listed : Array Bool} {a : Act} {w : World} (hr : Region.ready md ops listed = [i])
    (h : wpOp P ops Q i (fun a' w' => (i < n → S w') ∧ WT P md ops Q S n fuel (listed.setIfInBounds i true) a' w') a w) : WT P md ops Q S n (fuel + 1) listed a w :=
  ⟨wpT_one i hr (wpOp_mono (fun a' w' h' => ⟨h'.1, h'.2.h⟩) h)⟩
theorem wt_done {listed : Array Bool} {a : Act} {w : World} (hr : Region.ready md ops listed = []) (h : Q .normal a w) (fuel : Nat) : WT P md ops Q S n fuel listed a w := ⟨wpT_done hr h fuel⟩
end
end Go.Proofs.YtnkpmcpinicciaaDoor
