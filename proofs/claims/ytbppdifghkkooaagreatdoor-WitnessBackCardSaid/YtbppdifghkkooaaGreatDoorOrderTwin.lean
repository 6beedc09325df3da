/- The contract of the reference's Twin of a raw circuit: the same numbers in memory of its own; and its comparison of any two raw circuits. -/
import Derived.Test.YtbppdifghkkooaaGreatDoorOrderRaw
namespace Go.Proofs.YtbppdifghkkooaaGreatDoor
open Go.RowKit
set_option linter.unusedVariables false
set_option linter.unusedSimpArgs false

theorem TripsAt.src {w : World} {B : Nat} {A : Option Addr} {n k : Nat} {f g h : Nat → Int} (hh : TripsAt w B A n f g h) (hn : A = none → n = 0 ∧ k = 0) : Src w A n k (tripL f g h n) := by
  cases A with
  | none => obtain ⟨rfl, rfl⟩ := hn rfl; exact Or.inl ⟨rfl, rfl, rfl, rfl⟩
  | some ad =>
    refine Or.inr ⟨ad, rfl, fun j u hu => ?_⟩
    have hj : j < n * 3 := by rw [← tripL_len f g h n]; exact (List.getElem?_eq_some_iff.1 hu).1
    obtain ⟨a, e, _, hc⟩ := hh (by omega)
    obtain rfl : ad = a := by injection e
    obtain ⟨c1, c2, c3⟩ := hc (j / 3) (by omega)
    obtain ⟨p1, p2, p3⟩ := tripL_at f g h n (j / 3) (by omega)
    have e3 : (⟨(ad.add (j / 3 * 3)).block, (ad.add (j / 3 * 3)).off + 2, none⟩ : Addr) = ad.add (j / 3 * 3 + 2) := by
      rw [add_succ, add_succ]
    rw [← add_succ] at c2
    rw [e3] at c3
    have h3 : j = j / 3 * 3 ∨ j = j / 3 * 3 + 1 ∨ j = j / 3 * 3 + 2 := by omega
    rcases h3 with hp | hp | hp
    · rw [← hp] at c1 p1
      rw [c1, ← hu, p1]
    · rw [← hp] at c2 p2
      rw [c2, ← hu, p2]
    · rw [← hp] at c3 p3
      rw [c3, ← hu, p3]
theorem own_trips1 {w : World} {base : Nat} {e : TypeId} {g0 n k : Nat} {f g h : Nat → Int} (ho : w.ownsRow base e 3 (.slice (some ⟨g0, 0, none⟩) n k) n (tripL f g h n)) : TripsAt w w.heap.size (some ⟨g0, 0, none⟩) n f g h := by
  obtain ⟨A, k', hv, ht, _⟩ := own_trips ho
  cases hv
  exact ht

/-- a raw circuit in memory of its own, from block base on -/
structure OwnR (w : World) (base : Nat) (r : Rw) (p : Rp) : Prop where
  ip : ∃ g, p.A1 = some ⟨g, 0, none⟩ ∧ w.ownsRow base 3 1 (.slice (some ⟨g, 0, none⟩) r.ni p.k1) r.ni (intL r.ip r.ni)
  la : ∃ g, p.A2 = some ⟨g, 0, none⟩ ∧ w.ownsRow base 129 3 (.slice (some ⟨g, 0, none⟩) r.nl p.k2) r.nl (tripL r.ll r.la r.lb r.nl)
  an : ∃ g, p.A3 = some ⟨g, 0, none⟩ ∧ w.ownsRow base 129 3 (.slice (some ⟨g, 0, none⟩) r.na p.k3) r.na (tripL r.gl r.ga r.gb r.na)
  bd : ∃ g, p.A4 = some ⟨g, 0, none⟩ ∧ w.ownsRow base 3 1 (.slice (some ⟨g, 0, none⟩) r.nb p.k4) r.nb (intL r.bd r.nb)
  cn : ∃ g, p.A5 = some ⟨g, 0, none⟩ ∧ w.ownsRow base 3 1 (.slice (some ⟨g, 0, none⟩) r.nc p.k5) r.nc (intL r.cn r.nc)
theorem OwnR.mem {w : World} {base : Nat} {r : Rw} {p : Rp} (h : OwnR w base r p) : RMem w w.heap.size r p := by
  obtain ⟨⟨g1, e1, h1⟩, ⟨g2, e2, h2⟩, ⟨g3, e3, h3⟩, ⟨g4, e4, h4⟩, g5, e5, h5⟩ := h
  exact ⟨by rw [e1]; exact own_ints h1 (fun _ => own_lt h1), by rw [e2]; exact own_trips1 h2, by rw [e3]; exact own_trips1 h3, by rw [e4]; exact own_ints h4 (fun _ => own_lt h4), by rw [e5]; exact own_ints h5 (fun _ => own_lt h5)⟩
theorem OwnR.nils {w : World} {base : Nat} {r : Rw} {p : Rp} (h : OwnR w base r p) : RNils r p := by
  obtain ⟨⟨g1, e1, h1⟩, ⟨g2, e2, h2⟩, ⟨g3, e3, h3⟩, ⟨g4, e4, h4⟩, g5, e5, h5⟩ := h
  exact ⟨(by rw [e1]; intro h; cases h), (by rw [e2]; intro h; cases h), (by rw [e3]; intro h; cases h), (by rw [e4]; intro h; cases h), (by rw [e5]; intro h; cases h)⟩

/-- the state of Twin between two of its rows -/
structure TwR (w W : World) (cs zs : Array Value) : Prop where
  b : Below w.heap.size w W
  h : Has W w.heap.size 25 cs
  z : Has W (w.heap.size + 1) 25 zs
  l : w.heap.size + 2 ≤ W.heap.size
theorem TwR.mid {w W w1 : World} {cs zs : Array Value} (t : TwR w W cs zs) {e : TypeId} {r : Nat} (hg : (W.alloc (.cells #[] e)).grownBy w1 (some r)) (hr : r = W.heap.size) : Has w1 w.heap.size 25 cs ∧ Has w1 (w.heap.size + 1) 25 zs ∧ w.heap.size + 1 < w1.heap.size ∧ w.heap.size < w1.heap.size := by
  subst hr
  have hl := t.l
  have ha : Below (W.heap.size) W (W.alloc (.cells #[] e)) := (Below.refl _ _).alloc (Nat.le_refl _) _
  have hs := hg.size
  simp at hs
  exact ⟨(t.h.keep ha (by omega)).grow hg (by omega), (t.z.keep ha (by omega)).grow hg (by omega), by omega, by omega⟩
theorem TwR.step {w W w1 : World} {cs zs : Array Value} (t : TwR w W cs zs) {e : TypeId} {r : Nat} (hg : (W.alloc (.cells #[] e)).grownBy w1 (some r)) (hr : r = W.heap.size) (j : Nat) (v : Value) : TwR w (w1.setCell ⟨w.heap.size, j, none⟩ v) (cs.setIfInBounds j v) zs := by
  subst hr
  have hl := t.l
  have hb : Below w.heap.size w (W.alloc (.cells #[] e)) := t.b.alloc (by omega) _
  have hb1 : Below w.heap.size w w1 := hb.grown hg (by simp; omega) (fun k hk => by cases hk; omega)
  have ha : Below (W.heap.size) W (W.alloc (.cells #[] e)) := (Below.refl _ _).alloc (Nat.le_refl _) _
  have hs := hg.size
  simp at hs
  exact ⟨hb1.setCell (by simp) _, ((t.h.keep ha (by omega)).grow hg (by omega)).set j v, ((t.z.keep ha (by omega)).grow hg (by omega)).far (by simp) _, by simp [World.setCell]; omega⟩
/-- what was owned stays so -/
theorem TwR.own {w W w1 : World} {cs zs : Array Value} (t : TwR w W cs zs) {e e' : TypeId} {r : Nat} (hg : (W.alloc (.cells #[] e)).grownBy w1 (some r)) (hr : r = W.heap.size) (j : Nat) (v : Value) {base size g n k : Nat} {xs : List Value} (hb : base = w.heap.size + 2)
    (h : W.ownsRow base e' size (.slice (some ⟨g, 0, none⟩) n k) n xs) : (w1.setCell ⟨w.heap.size, j, none⟩ v).ownsRow base e' size (.slice (some ⟨g, 0, none⟩) n k) n xs := by
  subst hr
  have h1 := own_ge h
  have h2 := own_lt h
  refine own_keep h ?_
  rw [Below.heap_setCell _ _ _ _ (by simp; omega), hg.block g (by simp; omega) (by simp; omega)]
  exact Below.heap_alloc _ _ _ h2

/-- two lists of triples that agree -/
def sameD (n m : Nat) (f g h f' g' h' : Nat → Int) : Bool := decide (n = m ∧ ∀ j, j < n → f j = f' j ∧ g j = g' j ∧ h j = h' j)
theorem sameD_no {n m : Nat} {f g h f' g' h' : Nat → Int} (hn : n ≠ m) : sameD n m f g h f' g' h' = false := decide_eq_false fun h' => hn h'.1
theorem sameD_no2 {n m k : Nat} {f g h f' g' h' : Nat → Int} (hk : k < n) (hne : ¬ (f k = f' k ∧ g k = g' k ∧ h k = h' k)) : sameD n m f g h f' g' h' = false := decide_eq_false fun h' => hne (h'.2 k hk)
theorem sameD_yes {n : Nat} {f g h f' g' h' : Nat → Int} (hj : ∀ j, j < n → f j = f' j ∧ g j = g' j ∧ h j = h' j) : sameD n n f g h f' g' h' = true := decide_eq_true ⟨rfl, hj⟩

set_option maxRecDepth 100000 in
set_option maxHeartbeats 2000000 in
theorem sameDef_any (A A' : Option Addr) (n m k k' : Nat) (f g h f' g' h' : Nat → Int) (B : Nat) (w : World) (hn : n ≤ 100000) (hm : m ≤ 100000) (hA0 : TripsAt w B A n f g h) (hA0' : TripsAt w B A' m f' g' h') (hB : B ≤ w.heap.size) :
    Calls Tryz.prog 42 #[.slice A n k, .slice A' m k'] w fun e w' => e = .returned (.bool (sameD n m f g h f' g' h')) ∧ Below w.heap.size w w' := by
  by_cases hnm : n = m
  · subst hnm
    go_enter Tryz.func42, Tryz.ntmps42
    go_wp2
    go_loopw [5] (fun i wr => ∃ q : Nat, q ≤ n ∧ i = .int .i64 q ∧ Hid (∀ j, j < q → f j = f' j ∧ g j = g' j ∧ h j = h' j) ∧ Below w.heap.size w wr) (fun i _ => n - (intOf i).toNat)
    case atStart => exact ⟨0, Nat.zero_le _, rfl, fun j hj => absurd hj (Nat.not_lt_zero _), Below.refl _ _⟩
    case round =>
      obtain ⟨q, hq, rfl, hL, hBr⟩ := hrel
      by_cases hlt : q < n
      · obtain ⟨a, hA, hab, hcs⟩ := (hA0.keep (hBr.mono hB)) (by omega)
        obtain ⟨a', hA', hab', hcs'⟩ := (hA0'.keep (hBr.mono hB)) (by omega)
        obtain ⟨y0, y1, y2⟩ := hcs q hlt
        obtain ⟨y0', y1', y2'⟩ := hcs' q hlt
        subst hA hA'
        clear hcs hcs'
        have hi1 : (0 : Int) ≤ (q : Int) := by omega
        have hi2 : (q : Int) < (n : Int) := by omega
        by_cases E1 : f q = f' q
        · rw [E1] at y0
          by_cases E2 : g q = g' q
          · rw [E2] at y1
            by_cases E3 : h q = h' q
            · rw [E3] at y2
              have HY := Lib.hid (And.intro E1 (And.intro E2 E3))
              clear E1 E2 E3
              go_wp2
              go_quiet (fail)
              go_wp2
              go_roundw
              case rel => exact ⟨q + 1, by omega, by go_num, fun j hj => by
                rcases Nat.lt_succ_iff_lt_or_eq.1 hj with h' | h'
                · exact hL.out j h'
                · subst h'; exact HY.out, below_dn hBr _⟩
              case measure => simp [intOf]; omega
            · have HR := Lib.hid (Li.ret_bool (sameD_no2 (f := f) (g := g) (h := h) (f' := f') (g' := g') (h' := h') (m := n) hlt (fun hh => E3 hh.2.2)))
              have n3 : (h q == h' q) = false := by simpa using E3
              have n3' : (h q != h' q) = true := by simpa using E3
              clear E1 E2 E3
              go_wp2
              go_quiet (fail)
              go_wp2
              go_ret
              exact ⟨HR.out.symm, below_dn hBr _⟩
          · have HR := Lib.hid (Li.ret_bool (sameD_no2 (f := f) (g := g) (h := h) (f' := f') (g' := g') (h' := h') (m := n) hlt (fun hh => E2 hh.2.1)))
            have n2 : (g q == g' q) = false := by simpa using E2
            have n2' : (g q != g' q) = true := by simpa using E2
            clear E1 E2
            go_wp2
            go_quiet (fail)
            go_wp2
            go_ret
            exact ⟨HR.out.symm, below_dn hBr _⟩
        · have HR := Lib.hid (Li.ret_bool (sameD_no2 (f := f) (g := g) (h := h) (f' := f') (g' := g') (h' := h') (m := n) hlt (fun hh => E1 hh.1)))
          have n1 : (f q == f' q) = false := by simpa using E1
          have n1' : (f q != f' q) = true := by simpa using E1
          clear E1
          go_wp2
          go_quiet (fail)
          go_wp2
          go_ret
          exact ⟨HR.out.symm, below_dn hBr _⟩
      · obtain rfl : q = n := by omega
        have HR := Lib.hid (Li.ret_bool (sameD_yes hL.out))
        clear hq hlt
        go_wp2
        go_ret
        exact ⟨HR.out.symm, hBr⟩
  · have HR := Lib.hid (Li.ret_bool (sameD_no (f := f) (g := g) (h := h) (f' := f') (g' := g') (h' := h') hnm))
    have h1 : ((n : Int) != (m : Int)) = true := by simp; omega
    clear hnm
    go_enter Tryz.func42, Tryz.ntmps42
    go_wp2
    go_ret
    exact ⟨HR.out.symm, Below.refl _ _⟩

/-- raw circuits that agree -/
def sameR (r s : Rw) : Bool := decide (r.m = s.m) && (sameB r.ni s.ni r.ip s.ip && (sameD r.nl s.nl r.ll r.la r.lb s.ll s.la s.lb && (sameD r.na s.na r.gl r.ga r.gb s.gl s.ga s.gb && (sameB r.nb s.nb r.bd s.bd && sameB r.nc s.nc r.cn s.cn))))

set_option maxRecDepth 100000 in
set_option maxHeartbeats 8000000 in
theorem oSame_w (r s : Rw) (p p' : Rp) (w : World) (X1 X2 X3 X4 X5 : Bool)
    (C1 : Hid (∀ W, Below w.heap.size w W → Calls Tryz.prog 41 #[.slice p.A1 r.ni p.k1, .slice p'.A1 s.ni p'.k1] W fun e w' => e = .returned (.bool X1) ∧ Below W.heap.size W w'))
    (C2 : Hid (∀ W, Below w.heap.size w W → Calls Tryz.prog 42 #[.slice p.A2 r.nl p.k2, .slice p'.A2 s.nl p'.k2] W fun e w' => e = .returned (.bool X2) ∧ Below W.heap.size W w'))
    (C3 : Hid (∀ W, Below w.heap.size w W → Calls Tryz.prog 42 #[.slice p.A3 r.na p.k3, .slice p'.A3 s.na p'.k3] W fun e w' => e = .returned (.bool X3) ∧ Below W.heap.size W w'))
    (C4 : Hid (∀ W, Below w.heap.size w W → Calls Tryz.prog 41 #[.slice p.A4 r.nb p.k4, .slice p'.A4 s.nb p'.k4] W fun e w' => e = .returned (.bool X4) ∧ Below W.heap.size W w'))
    (C5 : Hid (∀ W, Below w.heap.size w W → Calls Tryz.prog 41 #[.slice p.A5 r.nc p.k5, .slice p'.A5 s.nc p'.k5] W fun e w' => e = .returned (.bool X5) ∧ Below W.heap.size W w'))
    : Calls Tryz.prog 14 #[rv r p, rv s p'] w fun e w' => e = .returned (.bool (decide (r.m = s.m) && (X1 && (X2 && (X3 && (X4 && X5)))))) ∧ Below w.heap.size w w' := by
  have q0 := Has.new w 25 (rc r p)
  have q1 := (q0.keep (Below.alloc (Below.refl (w.heap.size + 1) _) (by simp) (.cells (rc s p') 25)) (Nat.lt_succ_self _))
  have q2 := Has.new (w.alloc (.cells (rc r p) 25)) 25 (rc s p')
  rw [World.size_alloc] at q2
  have hB0 : Below w.heap.size w ((w.alloc (.cells (rc r p) 25)).alloc (.cells (rc s p') 25)) := by go_grown
  unfold rc at q1 q2 hB0
  have HH := Lib.hid (And.intro hB0 (And.intro q1 q2))
  clear q0 q1 q2 hB0
  by_cases h0 : r.m = s.m
  · have e0 : (r.m == s.m) = true := by simpa using h0
    rw [decide_eq_true h0]
    have H0 := Lib.hid h0
    clear h0
    cases X1
    · go_enter Tryz.func14, Tryz.ntmps14
      go_wp2_with (go_at_call 41; (with_reducible refine (C1.out _ HH.out.1).mono ?_); rintro e w1 ⟨rfl, hb1⟩; have hB1 : Below w.heap.size w w1 := Below.step HH.out.1 HH.out.1.size hb1; have hP1 : Has w1 w.heap.size 25 (rc r p) := HH.out.2.1.keep hb1 (by simp; omega); have hQ1 : Has w1 (w.heap.size + 1) 25 (rc s p') := HH.out.2.2.keep hb1 (by simp); obtain ⟨x0, x1, x2, x3, x4, x5⟩ := hP1.rbox; obtain ⟨y0, y1, y2, y3, y4, y5⟩ := hQ1.rbox)
      go_ret
      exact ⟨by simp, hB1⟩
    · skip
      cases X2
      · go_enter Tryz.func14, Tryz.ntmps14
        go_wp2_with (go_at_call 41; (with_reducible refine (C1.out _ HH.out.1).mono ?_); rintro e w1 ⟨rfl, hb1⟩; have hB1 : Below w.heap.size w w1 := Below.step HH.out.1 HH.out.1.size hb1; have hP1 : Has w1 w.heap.size 25 (rc r p) := HH.out.2.1.keep hb1 (by simp; omega); have hQ1 : Has w1 (w.heap.size + 1) 25 (rc s p') := HH.out.2.2.keep hb1 (by simp); obtain ⟨x0, x1, x2, x3, x4, x5⟩ := hP1.rbox; obtain ⟨y0, y1, y2, y3, y4, y5⟩ := hQ1.rbox)
        go_wp2_with (go_at_call 42; (with_reducible refine (C2.out _ hB1).mono ?_); rintro e w2 ⟨rfl, hb2⟩; have hB2 : Below w.heap.size w w2 := Below.step hB1 hB1.size hb2; have hP2 : Has w2 w.heap.size 25 (rc r p) := hP1.keep hb2 hP1.lt; have hQ2 : Has w2 (w.heap.size + 1) 25 (rc s p') := hQ1.keep hb2 hQ1.lt; obtain ⟨x0, x1, x2, x3, x4, x5⟩ := hP2.rbox; obtain ⟨y0, y1, y2, y3, y4, y5⟩ := hQ2.rbox)
        go_ret
        exact ⟨by simp, hB2⟩
      · skip
        cases X3
        · go_enter Tryz.func14, Tryz.ntmps14
          go_wp2_with (go_at_call 41; (with_reducible refine (C1.out _ HH.out.1).mono ?_); rintro e w1 ⟨rfl, hb1⟩; have hB1 : Below w.heap.size w w1 := Below.step HH.out.1 HH.out.1.size hb1; have hP1 : Has w1 w.heap.size 25 (rc r p) := HH.out.2.1.keep hb1 (by simp; omega); have hQ1 : Has w1 (w.heap.size + 1) 25 (rc s p') := HH.out.2.2.keep hb1 (by simp); obtain ⟨x0, x1, x2, x3, x4, x5⟩ := hP1.rbox; obtain ⟨y0, y1, y2, y3, y4, y5⟩ := hQ1.rbox)
          go_wp2_with (go_at_call 42; (with_reducible refine (C2.out _ hB1).mono ?_); rintro e w2 ⟨rfl, hb2⟩; have hB2 : Below w.heap.size w w2 := Below.step hB1 hB1.size hb2; have hP2 : Has w2 w.heap.size 25 (rc r p) := hP1.keep hb2 hP1.lt; have hQ2 : Has w2 (w.heap.size + 1) 25 (rc s p') := hQ1.keep hb2 hQ1.lt; obtain ⟨x0, x1, x2, x3, x4, x5⟩ := hP2.rbox; obtain ⟨y0, y1, y2, y3, y4, y5⟩ := hQ2.rbox)
          go_wp2_with (go_at_call 42; (with_reducible refine (C3.out _ hB2).mono ?_); rintro e w3 ⟨rfl, hb3⟩; have hB3 : Below w.heap.size w w3 := Below.step hB2 hB2.size hb3; have hP3 : Has w3 w.heap.size 25 (rc r p) := hP2.keep hb3 hP2.lt; have hQ3 : Has w3 (w.heap.size + 1) 25 (rc s p') := hQ2.keep hb3 hQ2.lt; obtain ⟨x0, x1, x2, x3, x4, x5⟩ := hP3.rbox; obtain ⟨y0, y1, y2, y3, y4, y5⟩ := hQ3.rbox)
          go_ret
          exact ⟨by simp, hB3⟩
        · skip
          cases X4
          · go_enter Tryz.func14, Tryz.ntmps14
            go_wp2_with (go_at_call 41; (with_reducible refine (C1.out _ HH.out.1).mono ?_); rintro e w1 ⟨rfl, hb1⟩; have hB1 : Below w.heap.size w w1 := Below.step HH.out.1 HH.out.1.size hb1; have hP1 : Has w1 w.heap.size 25 (rc r p) := HH.out.2.1.keep hb1 (by simp; omega); have hQ1 : Has w1 (w.heap.size + 1) 25 (rc s p') := HH.out.2.2.keep hb1 (by simp); obtain ⟨x0, x1, x2, x3, x4, x5⟩ := hP1.rbox; obtain ⟨y0, y1, y2, y3, y4, y5⟩ := hQ1.rbox)
            go_wp2_with (go_at_call 42; (with_reducible refine (C2.out _ hB1).mono ?_); rintro e w2 ⟨rfl, hb2⟩; have hB2 : Below w.heap.size w w2 := Below.step hB1 hB1.size hb2; have hP2 : Has w2 w.heap.size 25 (rc r p) := hP1.keep hb2 hP1.lt; have hQ2 : Has w2 (w.heap.size + 1) 25 (rc s p') := hQ1.keep hb2 hQ1.lt; obtain ⟨x0, x1, x2, x3, x4, x5⟩ := hP2.rbox; obtain ⟨y0, y1, y2, y3, y4, y5⟩ := hQ2.rbox)
            go_wp2_with (go_at_call 42; (with_reducible refine (C3.out _ hB2).mono ?_); rintro e w3 ⟨rfl, hb3⟩; have hB3 : Below w.heap.size w w3 := Below.step hB2 hB2.size hb3; have hP3 : Has w3 w.heap.size 25 (rc r p) := hP2.keep hb3 hP2.lt; have hQ3 : Has w3 (w.heap.size + 1) 25 (rc s p') := hQ2.keep hb3 hQ2.lt; obtain ⟨x0, x1, x2, x3, x4, x5⟩ := hP3.rbox; obtain ⟨y0, y1, y2, y3, y4, y5⟩ := hQ3.rbox)
            go_wp2_with (go_at_call 41; (with_reducible refine (C4.out _ hB3).mono ?_); rintro e w4 ⟨rfl, hb4⟩; have hB4 : Below w.heap.size w w4 := Below.step hB3 hB3.size hb4; have hP4 : Has w4 w.heap.size 25 (rc r p) := hP3.keep hb4 hP3.lt; have hQ4 : Has w4 (w.heap.size + 1) 25 (rc s p') := hQ3.keep hb4 hQ3.lt; obtain ⟨x0, x1, x2, x3, x4, x5⟩ := hP4.rbox; obtain ⟨y0, y1, y2, y3, y4, y5⟩ := hQ4.rbox)
            go_ret
            exact ⟨by simp, hB4⟩
          · skip
            cases X5
            · go_enter Tryz.func14, Tryz.ntmps14
              go_wp2_with (go_at_call 41; (with_reducible refine (C1.out _ HH.out.1).mono ?_); rintro e w1 ⟨rfl, hb1⟩; have hB1 : Below w.heap.size w w1 := Below.step HH.out.1 HH.out.1.size hb1; have hP1 : Has w1 w.heap.size 25 (rc r p) := HH.out.2.1.keep hb1 (by simp; omega); have hQ1 : Has w1 (w.heap.size + 1) 25 (rc s p') := HH.out.2.2.keep hb1 (by simp); obtain ⟨x0, x1, x2, x3, x4, x5⟩ := hP1.rbox; obtain ⟨y0, y1, y2, y3, y4, y5⟩ := hQ1.rbox)
              go_wp2_with (go_at_call 42; (with_reducible refine (C2.out _ hB1).mono ?_); rintro e w2 ⟨rfl, hb2⟩; have hB2 : Below w.heap.size w w2 := Below.step hB1 hB1.size hb2; have hP2 : Has w2 w.heap.size 25 (rc r p) := hP1.keep hb2 hP1.lt; have hQ2 : Has w2 (w.heap.size + 1) 25 (rc s p') := hQ1.keep hb2 hQ1.lt; obtain ⟨x0, x1, x2, x3, x4, x5⟩ := hP2.rbox; obtain ⟨y0, y1, y2, y3, y4, y5⟩ := hQ2.rbox)
              go_wp2_with (go_at_call 42; (with_reducible refine (C3.out _ hB2).mono ?_); rintro e w3 ⟨rfl, hb3⟩; have hB3 : Below w.heap.size w w3 := Below.step hB2 hB2.size hb3; have hP3 : Has w3 w.heap.size 25 (rc r p) := hP2.keep hb3 hP2.lt; have hQ3 : Has w3 (w.heap.size + 1) 25 (rc s p') := hQ2.keep hb3 hQ2.lt; obtain ⟨x0, x1, x2, x3, x4, x5⟩ := hP3.rbox; obtain ⟨y0, y1, y2, y3, y4, y5⟩ := hQ3.rbox)
              go_wp2_with (go_at_call 41; (with_reducible refine (C4.out _ hB3).mono ?_); rintro e w4 ⟨rfl, hb4⟩; have hB4 : Below w.heap.size w w4 := Below.step hB3 hB3.size hb4; have hP4 : Has w4 w.heap.size 25 (rc r p) := hP3.keep hb4 hP3.lt; have hQ4 : Has w4 (w.heap.size + 1) 25 (rc s p') := hQ3.keep hb4 hQ3.lt; obtain ⟨x0, x1, x2, x3, x4, x5⟩ := hP4.rbox; obtain ⟨y0, y1, y2, y3, y4, y5⟩ := hQ4.rbox)
              go_wp2_with (go_at_call 41; (with_reducible refine (C5.out _ hB4).mono ?_); rintro e w5 ⟨rfl, hb5⟩; have hB5 : Below w.heap.size w w5 := Below.step hB4 hB4.size hb5; have hP5 : Has w5 w.heap.size 25 (rc r p) := hP4.keep hb5 hP4.lt; have hQ5 : Has w5 (w.heap.size + 1) 25 (rc s p') := hQ4.keep hb5 hQ4.lt; obtain ⟨x0, x1, x2, x3, x4, x5⟩ := hP5.rbox; obtain ⟨y0, y1, y2, y3, y4, y5⟩ := hQ5.rbox)
              go_ret
              exact ⟨by simp, hB5⟩
            · go_enter Tryz.func14, Tryz.ntmps14
              go_wp2_with (go_at_call 41; (with_reducible refine (C1.out _ HH.out.1).mono ?_); rintro e w1 ⟨rfl, hb1⟩; have hB1 : Below w.heap.size w w1 := Below.step HH.out.1 HH.out.1.size hb1; have hP1 : Has w1 w.heap.size 25 (rc r p) := HH.out.2.1.keep hb1 (by simp; omega); have hQ1 : Has w1 (w.heap.size + 1) 25 (rc s p') := HH.out.2.2.keep hb1 (by simp); obtain ⟨x0, x1, x2, x3, x4, x5⟩ := hP1.rbox; obtain ⟨y0, y1, y2, y3, y4, y5⟩ := hQ1.rbox)
              go_wp2_with (go_at_call 42; (with_reducible refine (C2.out _ hB1).mono ?_); rintro e w2 ⟨rfl, hb2⟩; have hB2 : Below w.heap.size w w2 := Below.step hB1 hB1.size hb2; have hP2 : Has w2 w.heap.size 25 (rc r p) := hP1.keep hb2 hP1.lt; have hQ2 : Has w2 (w.heap.size + 1) 25 (rc s p') := hQ1.keep hb2 hQ1.lt; obtain ⟨x0, x1, x2, x3, x4, x5⟩ := hP2.rbox; obtain ⟨y0, y1, y2, y3, y4, y5⟩ := hQ2.rbox)
              go_wp2_with (go_at_call 42; (with_reducible refine (C3.out _ hB2).mono ?_); rintro e w3 ⟨rfl, hb3⟩; have hB3 : Below w.heap.size w w3 := Below.step hB2 hB2.size hb3; have hP3 : Has w3 w.heap.size 25 (rc r p) := hP2.keep hb3 hP2.lt; have hQ3 : Has w3 (w.heap.size + 1) 25 (rc s p') := hQ2.keep hb3 hQ2.lt; obtain ⟨x0, x1, x2, x3, x4, x5⟩ := hP3.rbox; obtain ⟨y0, y1, y2, y3, y4, y5⟩ := hQ3.rbox)
              go_wp2_with (go_at_call 41; (with_reducible refine (C4.out _ hB3).mono ?_); rintro e w4 ⟨rfl, hb4⟩; have hB4 : Below w.heap.size w w4 := Below.step hB3 hB3.size hb4; have hP4 : Has w4 w.heap.size 25 (rc r p) := hP3.keep hb4 hP3.lt; have hQ4 : Has w4 (w.heap.size + 1) 25 (rc s p') := hQ3.keep hb4 hQ3.lt; obtain ⟨x0, x1, x2, x3, x4, x5⟩ := hP4.rbox; obtain ⟨y0, y1, y2, y3, y4, y5⟩ := hQ4.rbox)
              go_wp2_with (go_at_call 41; (with_reducible refine (C5.out _ hB4).mono ?_); rintro e w5 ⟨rfl, hb5⟩; have hB5 : Below w.heap.size w w5 := Below.step hB4 hB4.size hb5; have hP5 : Has w5 w.heap.size 25 (rc r p) := hP4.keep hb5 hP4.lt; have hQ5 : Has w5 (w.heap.size + 1) 25 (rc s p') := hQ4.keep hb5 hQ4.lt; obtain ⟨x0, x1, x2, x3, x4, x5⟩ := hP5.rbox; obtain ⟨y0, y1, y2, y3, y4, y5⟩ := hQ5.rbox)
              go_ret
              exact ⟨by simp, hB5⟩
  · have e0 : (r.m == s.m) = false := by simpa using h0
    rw [decide_eq_false h0]
    clear h0
    go_enter Tryz.func14, Tryz.ntmps14
    go_wp2
    go_ret
    exact ⟨by simp, HH.out.1⟩

theorem oSame_any (r s : Rw) (p p' : Rp) (w : World) (hr : RSm r) (hs : RSm s) (hm : RMem w w.heap.size r p) (hm' : RMem w w.heap.size s p') :
    Calls Tryz.prog 14 #[rv r p, rv s p'] w fun e w' => e = .returned (.bool (sameR r s)) ∧ Below w.heap.size w w' := by
  have a1 := hr.ni
  have a2 := hr.nl
  have a3 := hr.na
  have a4 := hr.nb
  have a5 := hr.nc
  have b1 := hs.ni
  have b2 := hs.nl
  have b3 := hs.na
  have b4 := hs.nb
  have b5 := hs.nc
  exact oSame_w r s p p' w _ _ _ _ _
    (fun W hb => sameInts_any p.A1 p'.A1 r.ni s.ni p.k1 p'.k1 r.ip s.ip w.heap.size W (by omega) (by omega) (hm.ip.keep hb) (hm'.ip.keep hb))
    (fun W hb => sameDef_any p.A2 p'.A2 r.nl s.nl p.k2 p'.k2 r.ll r.la r.lb s.ll s.la s.lb w.heap.size W (by omega) (by omega) (hm.la.keep hb) (hm'.la.keep hb) hb.size)
    (fun W hb => sameDef_any p.A3 p'.A3 r.na s.na p.k3 p'.k3 r.gl r.ga r.gb s.gl s.ga s.gb w.heap.size W (by omega) (by omega) (hm.an.keep hb) (hm'.an.keep hb) hb.size)
    (fun W hb => sameInts_any p.A4 p'.A4 r.nb s.nb p.k4 p'.k4 r.bd s.bd w.heap.size W (by omega) (by omega) (hm.bd.keep hb) (hm'.bd.keep hb))
    (fun W hb => sameInts_any p.A5 p'.A5 r.nc s.nc p.k5 p'.k5 r.cn s.cn w.heap.size W (by omega) (by omega) (hm.cn.keep hb) (hm'.cn.keep hb))
end Go.Proofs.YtbppdifghkkooaaGreatDoor
