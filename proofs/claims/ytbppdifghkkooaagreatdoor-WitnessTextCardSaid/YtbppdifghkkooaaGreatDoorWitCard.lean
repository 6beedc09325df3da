/- The frame of a statement that lists the library's variables: the world's shape and the variables together. -/
import Derived.Test.YtbppdifghkkooaaGreatDoorWitProg
import Derived.Test.YtbppdifghkkooaaGreatDoorGatesFrame
import Derived.Shelf.Vars
import Derived.Stop.LaidErr
import Derived.LaidMore
import Derived.LaidSub
import Derived.Lib.LaidTab
import Derived.Handed
namespace Go.Proofs.YtbppdifghkkooaaGreatDoor
open Go Go.RowKit
set_option linter.unusedVariables false
set_option linter.unusedSimpArgs false

/-- a contract that is shown under the world's shape and a condition of one's own -/
theorem handed_both {H : Type} {enc : TypeId × Value → H} {a : Assume} {C : Checked} {os : Os} {f : FuncId} {fn : Func} {s : ChangeSpec} {cs : List PathCond} {ap fr ho ag : Bool} {X : World → Array Value → Prop}
    (hX : ∀ (w w' : World) (xs : Array Value), w.heap = w'.heap → X w xs → X w' xs)
    (own : ownKnob C.prog.godebug = none) (started : os.Started) (ni : C.prog.inits.idxOf? f = none) (hfn : C.prog.funcs[f]? = some fn)
    (one : ∃ (w : World) (tp : Tape) (i : Input), w.os = os ∧ (w.forCall tp i).Shaped C.prog ∧ i.vars = [] ∧ Input.okWide C.prog (w.forCall tp i) .any w.heap.size f i ∧
      ((s.pre enc C.prog fn cs ap (w.forCall tp i).memory i.args ∧ X (w.forCall tp i).memory i.args) ∧ sizedMet enc C.prog fn (OpenSpec.ofChange s) ap (w.forCall tp i).memory i.args) ∧ a.holds C.prog (lone (Frame.enter C.prog f i.args .normal) [] (w.forCall tp i)))
    (go : ∀ (W : World) (base : Nat) (xs : Array Value) (ds gs : List (DataW H)) (bf : List MemPlace),
      (∀ (j : Nat) t v, fn.params[j]? = some t → xs[j]? = some v → Value.okWide C.prog W .any base t v) →
      DataW.Whole enc C.prog fn.params.toList s.vars ap W xs.toList ds gs bf →
      cs.all (PathCond.test C.prog ⟨fn.params.toList, ds, s.plain.varTypes C.prog, gs⟩) = true →
      (DataW.weightsEach C.prog (fn.params.toList ++ s.plain.varTypes C.prog) (ds ++ gs)).all (· ≤ reachBytes) = true → (W.ShapedOpen C.prog ∧ X W xs) →
      a.holds C.prog (lone (Frame.enter C.prog f xs .normal) [] W) →
      Calls C.prog f xs W fun e W' => ∃ v, e = .returned v ∧ s.post enc C.prog fn ap fr ho ag W xs v W') :
    ReturnsInHanded a C os f .any (fun w xs => (s.pre enc C.prog fn cs ap w xs ∧ X w xs) ∧ sizedMet enc C.prog fn (OpenSpec.ofChange s) ap w xs) (s.post enc C.prog fn ap fr ho ag) :=
  returnsInHanded_of_calls own started ni one fun w tp i _ shape _ ok pre hold => by
    obtain ⟨_, _, _, fn2, at2, _, _, _, _, vals⟩ := ok
    obtain rfl : fn2 = fn := Option.some.inj (at2.symm.trans hfn)
    obtain ⟨⟨⟨ds, gs, bf, whole, tests⟩, x⟩, sized⟩ := pre
    refine (go (w.forCall tp i) w.heap.size i.args ds gs bf vals (DataW.Whole.of_heap (w' := w.forCall tp i) (by rfl) whole) tests (sized.weights whole) ⟨shape, hX _ _ _ (by rfl) x⟩ hold).mono ?_
    rintro e W' ⟨v, rfl, post⟩
    exact ChangeSpec.post_blind post

theorem one_error (u : TypeId) (h : Tryz.prog.typeName? 3 u = some "*errors.errorString") : u = 264 := by
  have e : "*" ++ "errors.errorString" = "*errors.errorString" := by decide
  rw [← e] at h
  exact typeName_ptr_named (nm := "errors.errorString") (by rw [e]; kernel_rfl) (by kernel_rfl) (by decide) u h
/-- what the listed variables and the world's shape give -/
theorem env_w {L : List (String × DataW Unit)} {W : World} (hs : W.ShapedOpen Tryz.prog) (h : laidMet Tryz.prog L W)
    (e1 : (L.filter fun x => x.1 == "internal/strconv.uint64pow10") = [("internal/strconv.uint64pow10", Lib.tabData .u64 Lib.pow10Tab)])
    (e2 : (L.filter fun x => x.1 == "strconv.ErrSyntax") = [("strconv.ErrSyntax", .iface "*errors.errorString" (.ptr (.agg [.lit (.string [105, 110, 118, 97, 108, 105, 100, 32, 115, 121, 110, 116, 97, 120])])))])
    (e3 : (L.filter fun x => x.1 == "strconv.ErrRange") = [("strconv.ErrRange", .iface "*errors.errorString" (.ptr (.agg [.lit (.string [118, 97, 108, 117, 101, 32, 111, 117, 116, 32, 111, 102, 32, 114, 97, 110, 103, 101])])))]) : EnvW W.heap.size W := by
  have h1 := h.filter fun x => x.1 == "internal/strconv.uint64pow10"
  rw [e1] at h1
  have h2 := h.filter fun x => x.1 == "strconv.ErrSyntax"
  rw [e2] at h2
  have h3 := h.filter fun x => x.1 == "strconv.ErrRange"
  rw [e3] at h3
  obtain ⟨a0, s0, hv0, -, -, -⟩ := laid_sentinel h2 (show Tryz.prog.globalNamed "strconv.ErrSyntax" = some 2 by kernel_rfl) (show (Tryz.prog.globals[2]?).map (·.type) = some 150 by kernel_rfl) Tryz.underlying150 one_error Tryz.underlying264 Tryz.underlying266 rfl rfl Tryz.underlying9 (by kernel_rfl) (by kernel_rfl)
  have hE : W.cell? ⟨2, 0, none⟩ = some (.iface 264 (.pointer (some a0))) := by
    have := World.var?_cell (show Tryz.prog.globalNamed "strconv.ErrSyntax" = some 2 by kernel_rfl) hv0 0
    simpa using this
  obtain ⟨a1, s1, hv1, -, -, -⟩ := laid_sentinel h3 (show Tryz.prog.globalNamed "strconv.ErrRange" = some 3 by kernel_rfl) (show (Tryz.prog.globals[3]?).map (·.type) = some 150 by kernel_rfl) Tryz.underlying150 one_error Tryz.underlying264 Tryz.underlying266 rfl rfl Tryz.underlying9 (by kernel_rfl) (by kernel_rfl)
  have hR : W.cell? ⟨3, 0, none⟩ = some (.iface 264 (.pointer (some a1))) := by
    have := World.var?_cell (show Tryz.prog.globalNamed "strconv.ErrRange" = some 3 by kernel_rfl) hv1 0
    simpa using this
  obtain ⟨m, hm⟩ := cell_of_shapedOpen_int (g := 1) (t := 3) (zero := #[.int .i64 0]) (k := .i64) hs (of_decide_eq_true (by kernel_rfl)) (by kernel_rfl) rfl (by kernel_rfl) (by kernel_rfl) Tryz.underlying3
  exact ⟨⟨Lib.tabBelow_of_tabIs (Lib.tabIs_of_head (show Tryz.prog.globalNamed "internal/strconv.uint64pow10" = some 0 by kernel_rfl) (by kernel_rfl) Tryz.underlying239 Tryz.underlying206 (by kernel_rfl) (by kernel_rfl) h1), ⟨m, hm⟩, ⟨_, _, hE⟩, cell_lt hm, cell_lt hE⟩, ⟨_, _, hR⟩, cell_lt hR⟩

end Go.Proofs.YtbppdifghkkooaaGreatDoor
