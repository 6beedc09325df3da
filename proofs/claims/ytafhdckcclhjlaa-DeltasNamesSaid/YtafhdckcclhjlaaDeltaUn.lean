/- The contracts of deltas.readLess, readGate, Unpack and the reference's Unpack and Same. -/
import Derived.Test.YtafhdckcclhjlaaDeltaPk
namespace Go.Proofs.Ytafhdckcclhjlaa
open Go Go.RowKit
set_option linter.unusedVariables false
set_option linter.unusedSimpArgs false

section
variable {P : Program} {ops : Array Oper} {Q : Exit → Act → World → Prop} {md : Region.Mode} {S : World → Prop} {n : Nat}
theorem dy_ways2 (i j : Nat) {fuel : Nat} {listed : Array Bool} {a : Act} {w : World} (hr : Region.ready md ops listed = [i, j])
    (hi : wpOp P ops Q i (fun a' w' => (i < n → S w') ∧ WT P md ops Q S n fuel (listed.setIfInBounds i true) a' w') a w)
    (hj : wpOp P ops Q j (fun a' w' => (j < n → S w') ∧ WT P md ops Q S n fuel (listed.setIfInBounds j true) a' w') a w) : WT P md ops Q S n (fuel + 1) listed a w :=
  ⟨fun h0 => (by rw [hr] at h0; cases h0), fun x hx => by
    rw [hr] at hx
    rcases List.mem_cons.1 hx with rfl | hx
    · exact wpOp_mono (fun a' w' h' => ⟨h'.1, h'.2.h⟩) hi
    obtain rfl : x = j := by simpa using hx
    exact wpOp_mono (fun a' w' h' => ⟨h'.1, h'.2.h⟩) hj⟩
theorem dy_call (i s : Nat) {oi : Oper} {d : Nat} {f : FuncId} {args : Array Value} {u : Value} {fuel : Nat} {listed : Array Bool} {a : Act} {w : World} (hi : opAt ops.toList i = some oi) (hd : oi.dst = some d)
    (hw : Region.wanted oi (yielded ops a.tmps) = true) (h1 : Slot a s u) (he : ∀ ev : Operand → Value, (∀ x, ev (.const x) = x) → (∀ f, ev (.func f) = .func (.func f) #[] #[]) → ev (.tmp s) = u → (execOp ev oi).run P w = .ok (.enter f args) w)
    (h : Calls P f args w fun e w' => ∃ v, e = .returned v ∧ (i < n → S w') ∧ WT P md ops Q S n fuel (listed.setIfInBounds i true) (a.put (some d) v) w') : wpOp P ops Q i (fun a' w' => (i < n → S w') ∧ WT P md ops Q S n fuel (listed.setIfInBounds i true) a' w') a w := by
  refine wpOp_go (opAt_spec hi) hw fun K hK => ?_
  show oi.upon P a K Q _
  rw [he _ (fun _ => rfl) (fun _ => rfl) h1.eval, Oper.upon_enter]
  refine h.mono fun e w' => ?_
  rintro ⟨v, rfl, h1, h2⟩
  have h3 := hK _ _ ⟨h1, h2⟩
  show K (a.put oi.dst v) w'
  rw [hd]; exact h3
theorem dy_val (i : Nat) {oi : Oper} {d : Nat} {v : Value} {fuel : Nat} {listed : Array Bool} {a : Act} {w w' : World} (hi : opAt ops.toList i = some oi) (hd : oi.dst = some d)
    (hw : Region.wanted oi (yielded ops a.tmps) = true) (he : ∀ ev : Operand → Value, (∀ x, ev (.const x) = x) → (execOp ev oi).run P w = .ok (.value v) w')
    (h : ∀ W1, w' = W1 → (i < n → S W1) ∧ WT P md ops Q S n fuel (listed.setIfInBounds i true) (a.put (some d) v) W1) : wpOp P ops Q i (fun a' w' => (i < n → S w') ∧ WT P md ops Q S n fuel (listed.setIfInBounds i true) a' w') a w := by
  refine wpOp_go (opAt_spec hi) hw fun K hK => ?_
  show oi.upon P a K Q _
  rw [he _ (fun _ => rfl), Oper.upon_value, hd]
  exact hK _ _ (h _ rfl)
theorem dy_act2 (i s t : Nat) {oi : Oper} {u x : Value} {fuel : Nat} {listed : Array Bool} {a : Act} {w w' : World} (hi : opAt ops.toList i = some oi) (hd : oi.dst = none)
    (hw : Region.wanted oi (yielded ops a.tmps) = true) (h1 : Slot a s u) (h2 : Slot a t x) (he : ∀ ev : Operand → Value, (∀ x, ev (.const x) = x) → ev (.tmp s) = u → ev (.tmp t) = x → (execOp ev oi).run P w = .ok .skip w')
    (h : ∀ W1, w' = W1 → (i < n → S W1) ∧ WT P md ops Q S n fuel (listed.setIfInBounds i true) a W1) : wpOp P ops Q i (fun a' w' => (i < n → S w') ∧ WT P md ops Q S n fuel (listed.setIfInBounds i true) a' w') a w := by
  refine wpOp_go (opAt_spec hi) hw fun K hK => ?_
  show oi.upon P a K Q _
  rw [he _ (fun _ => rfl) h1.eval h2.eval, Oper.upon_skip, hd]
  exact hK _ _ (h _ rfl)
theorem dy_call2 (i s t : Nat) {oi : Oper} {d : Nat} {f : FuncId} {args : Array Value} {u x : Value} {fuel : Nat} {listed : Array Bool} {a : Act} {w : World} (hi : opAt ops.toList i = some oi) (hd : oi.dst = some d)
    (hw : Region.wanted oi (yielded ops a.tmps) = true) (h1 : Slot a s u) (h2 : Slot a t x) (he : ∀ ev : Operand → Value, (∀ x, ev (.const x) = x) → (∀ f, ev (.func f) = .func (.func f) #[] #[]) → ev (.tmp s) = u → ev (.tmp t) = x → (execOp ev oi).run P w = .ok (.enter f args) w)
    (h : Calls P f args w fun e w' => ∃ v, e = .returned v ∧ (i < n → S w') ∧ WT P md ops Q S n fuel (listed.setIfInBounds i true) (a.put (some d) v) w') : wpOp P ops Q i (fun a' w' => (i < n → S w') ∧ WT P md ops Q S n fuel (listed.setIfInBounds i true) a' w') a w := by
  refine wpOp_go (opAt_spec hi) hw fun K hK => ?_
  show oi.upon P a K Q _
  rw [he _ (fun _ => rfl) (fun _ => rfl) h1.eval h2.eval, Oper.upon_enter]
  refine h.mono fun e w' => ?_
  rintro ⟨v, rfl, h1, h2⟩
  have h3 := hK _ _ ⟨h1, h2⟩
  show K (a.put oi.dst v) w'
  rw [hd]; exact h3
end

theorem rd_bd (l : List UInt8) : 0 ≤ (rdN l : Int) ∧ (rdN l : Int) ≤ 2147483647 := by have := rdN_le l; omega
/-- what readLess returns -/
def lsE (o : Int) (l : List UInt8) : Int := if rdE l ≠ 0 then rdE l else if o < rdN l then 8 else 0
def lsN (o : Int) (l : List UInt8) : Int := if lsE o l = 0 then o - rdN l else 0
def lsS (o : Int) (l : List UInt8) : Int := if lsE o l = 0 then rdS l else 0
set_option maxRecDepth 100000 in
set_option maxHeartbeats 2000000 in
theorem dLess_any {o : Int} (h0 : 0 ≤ o) (h1 : o ≤ 100000) (A : Option Addr) (l : List UInt8) (k : Nat) (w : World) (h : Bya w w.heap.size A l k) (hl : l.length ≤ 100000) : Calls Try.prog 32 #[.int .i64 o, .slice A l.length k] w fun e w' => e = .returned (.tuple #[.int .i64 (lsN o l), .int .i64 (lsS o l), .int .i64 (lsE o l)]) ∧ w = w' := by
  have D := dRead_any A l k w h hl
  have hb := rd_bd l
  by_cases hE : rdE l = 0
  · by_cases hN : o < rdN l
    · have HR := Lib.hid (show lsN o l = 0 ∧ lsS o l = 0 ∧ lsE o l = 8 by
        have e : lsE o l = 8 := by unfold lsE; rw [if_neg (by simpa using hE), if_pos hN]
        exact ⟨by unfold lsN; rw [e]; rfl, by unfold lsS; rw [e]; rfl, e⟩)
      unfold rdV at D
      rw [hE] at D
      obtain ⟨x, hx⟩ : ∃ x, (rdN l : Int) = x := ⟨_, rfl⟩
      obtain ⟨s, hs⟩ : ∃ s, (rdS l : Int) = s := ⟨_, rfl⟩
      rw [hx, hs] at D
      rw [hx] at hN hb
      have D1 := Lib.hid D
      clear D hE hx hs
      go_enter Try.func32, Try.ntmps32
      go_wp2_with (go_at_call 18; (with_reducible refine D1.out.mono ?_); rintro e w1 ⟨rfl, rfl⟩)
      go_ret3
      exact ⟨by rw [HR.out.1, HR.out.2.1, HR.out.2.2]; rfl, rfl⟩
    · have HR := Lib.hid (show lsN o l = o - rdN l ∧ lsS o l = rdS l ∧ lsE o l = 0 by
        have e : lsE o l = 0 := by unfold lsE; rw [if_neg (by simpa using hE), if_neg hN]
        exact ⟨by unfold lsN; rw [e]; rfl, by unfold lsS; rw [e]; rfl, e⟩)
      unfold rdV at D
      rw [hE] at D
      obtain ⟨x, hx⟩ : ∃ x, (rdN l : Int) = x := ⟨_, rfl⟩
      obtain ⟨s, hs⟩ : ∃ s, (rdS l : Int) = s := ⟨_, rfl⟩
      rw [hx, hs] at D HR
      rw [hx] at hN hb
      have D1 := Lib.hid D
      clear D hE hx hs
      go_enter Try.func32, Try.ntmps32
      go_wp2_with (go_at_call 18; (with_reducible refine D1.out.mono ?_); rintro e w1 ⟨rfl, rfl⟩)
      go_ret3
      exact ⟨by rw [HR.out.1, HR.out.2.1, HR.out.2.2]; rfl, rfl⟩
  · have HR := Lib.hid (show lsN o l = 0 ∧ lsS o l = 0 ∧ lsE o l = rdE l by
      have e : lsE o l = rdE l := by unfold lsE; rw [if_pos hE]
      exact ⟨by unfold lsN; rw [e, if_neg hE], by unfold lsS; rw [e, if_neg hE], e⟩)
    rw [rdV_no rfl hE] at D
    obtain ⟨x, hx⟩ : ∃ x, rdE l = x := ⟨_, rfl⟩
    rw [hx] at D HR hE
    have hi : (x != 0) = true := by simpa using hE
    have D1 := Lib.hid D
    clear D hE hx hb
    go_enter Try.func32, Try.ntmps32
    go_wp2_with (go_at_call 18; (with_reducible refine D1.out.mono ?_); rintro e w1 ⟨rfl, rfl⟩)
    go_ret3
    exact ⟨by rw [HR.out.1, HR.out.2.1, HR.out.2.2]; rfl, rfl⟩

/-- what readGate returns -/
def gtA (v : Int) (l : List UInt8) : Int := if g1E v l = 0 then g1A v l else 0
def gtB (v : Int) (l : List UInt8) : Int := if g1E v l = 0 then g1B v l else 0
def gtS (v : Int) (l : List UInt8) : Int := if g1E v l = 0 then g1S l else 0
theorem gt_no {v : Int} {l : List UInt8} {x : Int} (h : g1E v l = x) (h0 : x ≠ 0) : gtA v l = 0 ∧ gtB v l = 0 ∧ gtS v l = 0 ∧ g1E v l = x := by
  have h1 : g1E v l ≠ 0 := by rw [h]; exact h0
  exact ⟨if_neg h1, if_neg h1, if_neg h1, h⟩
theorem gt_yes {v : Int} {l : List UInt8} (h : g1E v l = 0) : gtA v l = g1A v l ∧ gtB v l = g1B v l ∧ gtS v l = g1S l := ⟨if_pos h, if_pos h, if_pos h⟩
set_option maxRecDepth 100000 in
set_option maxHeartbeats 4000000 in
theorem dGate_any {v : Int} (h0 : 1 ≤ v) (h1 : v ≤ 1000) (A : Option Addr) (l : List UInt8) (k : Nat) (w : World) (h : Bya w w.heap.size A l k) (hl : l.length ≤ 100000) : Calls Try.prog 27 #[.int .i64 (2 * v), .slice A l.length k] w fun e w' => e = .returned (.tuple #[.agg #[.int .i64 (gtA v l), .int .i64 (gtB v l)], .int .i64 (gtS v l), .int .i64 (g1E v l)]) ∧ Below w.heap.size w w' := by
  have hS := rdS_le l
  obtain ⟨A', k', hs, hA⟩ := h.from (rdS l) hS.2
  have HB0 : Hid (∀ x y : Int, Below w.heap.size w (w.alloc (.cells #[.int .i64 x, .int .i64 y] 29))) := Lib.hid fun x y => by go_grown
  have hb0 := (HB0.out 0 0)
  have D := dLess_any (o := 2 * v) (by omega) (by omega) A l k (w.alloc (.cells #[.int .i64 0, .int .i64 0] 29)) (h.to hb0 hb0.size) hl
  have E := fun (o : Int) (p0 : 0 ≤ o) (p1 : o ≤ 100000) => dLess_any (o := o) p0 p1 A' (l.drop (rdS l)) k' (w.alloc (.cells #[.int .i64 0, .int .i64 0] 29)) (hA.to hb0 hb0.size) (by rw [List.length_drop]; omega)
  have hg := g1_ways v l
  have hbd := rd_bd l
  have hbd2 := rd_bd (l.drop (rdS l))
  have HLE : Hid (∀ o, lsE o l = if rdE l ≠ 0 then rdE l else if o < rdN l then 8 else 0) := Lib.hid fun o => rfl
  have HLE2 : Hid (∀ o, lsE o (l.drop (rdS l)) = if rdE (l.drop (rdS l)) ≠ 0 then rdE (l.drop (rdS l)) else if o < rdN (l.drop (rdS l)) then 8 else 0) := Lib.hid fun o => rfl
  have HLN : Hid (∀ o, lsE o l = 0 → lsN o l = o - rdN l ∧ lsS o l = rdS l) := Lib.hid fun o e => ⟨by unfold lsN; rw [if_pos e], by unfold lsS; rw [if_pos e]⟩
  have HLN2 : Hid (∀ o, lsE o (l.drop (rdS l)) = 0 → lsN o (l.drop (rdS l)) = o - rdN (l.drop (rdS l)) ∧ lsS o (l.drop (rdS l)) = rdS (l.drop (rdS l))) := Lib.hid fun o e => ⟨by unfold lsN; rw [if_pos e], by unfold lsS; rw [if_pos e]⟩
  have HG : Hid (∀ x, g1E v l = x → x ≠ 0 → gtA v l = 0 ∧ gtB v l = 0 ∧ gtS v l = 0 ∧ g1E v l = x) := Lib.hid fun x e h => gt_no e h
  have HY := Lib.hid (gt_yes (v := v) (l := l))
  have HA1 : Hid (g1A v l = 2 * v - rdN l) := Lib.hid rfl
  have HB1 : Hid (g1B v l = 2 * v - rdN l - rdN (l.drop (rdS l))) := Lib.hid rfl
  have HS1 : Hid (g1S l = rdS l + rdS (l.drop (rdS l))) := Lib.hid rfl
  obtain ⟨r, hr⟩ : ∃ r, rgt v (g1A v l) 0 = r := ⟨_, rfl⟩
  obtain ⟨r2, hr2⟩ : ∃ r, rgt v (g1A v l) (g1B v l) = r := ⟨_, rfl⟩
  rw [hr, hr2] at hg
  have hri : r = true ↔ 0 < (rdN l : Int) ∧ (rdN l : Int) ≤ 2 * v := by rw [← hr, rgt_iff, HA1.out]; omega
  have hri2 : r2 = true ↔ 0 ≤ 2 * v - (rdN l : Int) - (rdN (l.drop (rdS l)) : Int) ∧ 2 * v - (rdN l : Int) - (rdN (l.drop (rdS l)) : Int) ≤ 2 * v - (rdN l : Int) ∧ 2 * v - (rdN l : Int) < 2 * v := by rw [← hr2, rgt_iff, HA1.out, HB1.out]
  clear hr hr2 hb0 h hA
  have HSL := Lib.hid hs
  by_cases e1 : lsE (2 * v) l = 0
  · have e2 : rdE l = 0 ∧ (rdN l : Int) ≤ 2 * v := by
      have e := HLE.out (2 * v)
      by_cases e2 : rdE l = 0
      · rw [if_neg (by simpa using e2)] at e
        by_cases e3 : 2 * v < (rdN l : Int)
        · rw [if_pos e3] at e; omega
        · exact ⟨e2, by omega⟩
      · rw [if_pos e2] at e; omega
    obtain ⟨n1, n2⟩ := HLN.out _ e1
    rw [e1, n1, n2] at D
    have E1 := E (2 * v - rdN l) (by omega) (by omega)
    have LE2 := HLE2.out (2 * v - rdN l)
    have LN2 := HLN2.out (2 * v - rdN l)
    obtain ⟨X, hX⟩ : ∃ X, (rdN l : Int) = X := ⟨_, rfl⟩
    obtain ⟨Y, hY⟩ : ∃ Y, (rdN (l.drop (rdS l)) : Int) = Y := ⟨_, rfl⟩
    obtain ⟨s, hss⟩ : ∃ s, rdS l = s := ⟨_, rfl⟩
    rw [hX] at D E1 LE2 LN2 hri hri2 hbd e2 HA1 HB1
    rw [hY] at LE2 LN2 hri2 hbd2 HB1
    by_cases hx0 : X = 0
    · have HR := Lib.hid (HG.out 8 (by
        have : r = false := by cases r with
          | false => rfl
          | true => have := hri.1 rfl; omega
        rcases hg with g | g | g | g | g
        · exact absurd e2.1 g.1
        · exact g.2.2
        · rw [this] at g; cases g.2.1
        · rw [this] at g; cases g.2.1
        · rw [this] at g; cases g.2.1) (by decide))
      subst hx0
      rw [Int.sub_zero] at D
      have D1 := Lib.hid D
      clear D E E1 LE2 LN2 n1 n2 e1 e2 hg hri hri2 hbd hbd2 hs hS HA1 HB1 hX hY
      go_enter Try.func27, Try.ntmps27
      go_wp2_with (go_at_call 32; (with_reducible refine D1.out.mono ?_); rintro e w1 ⟨rfl, rfl⟩)
      refine bodyPost_ret (v := .tuple #[.agg #[.int .i64 0, .int .i64 0], .int .i64 0, .int .i64 8]) (by simp [results, Try.results27, go_sem]) rfl ?_
      exact ⟨by rw [HR.out.1, HR.out.2.1, HR.out.2.2.1, HR.out.2.2.2], HB0.out 0 0⟩
    have hrt : r = true := hri.2 (by omega)
    have hneq : (2 * v - X == 2 * v) = false := by simp; omega
    rw [hss] at D hs
    by_cases e3 : lsE (2 * v - X) (l.drop (rdS l)) = 0
    · have e4 : rdE (l.drop (rdS l)) = 0 ∧ Y ≤ 2 * v - X := by
        by_cases e4 : rdE (l.drop (rdS l)) = 0
        · rw [if_neg (by simpa using e4)] at LE2
          by_cases e5 : 2 * v - X < Y
          · rw [if_pos e5] at LE2; omega
          · exact ⟨e4, by omega⟩
        · rw [if_pos e4] at LE2; omega
      have hr2t : r2 = true := hri2.2 (by omega)
      have hg0 : g1E v l = 0 := by
        rcases hg with g | g | g | g | g
        · exact absurd e2.1 g.1
        · rw [hrt] at g; cases g.2.1
        · exact absurd e4.1 g.2.2.1
        · rw [hr2t] at g; cases g.2.2.2.1
        · exact g.2.2.2.2
      obtain ⟨m1, m2⟩ := LN2 e3
      obtain ⟨s2, hs2⟩ : ∃ s2, rdS (l.drop (rdS l)) = s2 := ⟨_, rfl⟩
      have hs2l := rdS_le (l.drop (rdS l))
      rw [e3, m1, m2, hs2] at E1
      rw [hs2] at hs2l
      have HR := Lib.hid (show gtA v l = 2 * v - X ∧ gtB v l = 2 * v - X - Y ∧ gtS v l = (s : Int) + (s2 : Int) ∧ g1E v l = 0 from by
        obtain ⟨y1, y2, y3⟩ := HY.out hg0
        refine ⟨by rw [y1, HA1.out], by rw [y2, HB1.out], ?_, hg0⟩
        rw [y3, HS1.out, hs2, hss]; omega)
      rw [hss] at hS E1
      have D1 := Lib.hid D
      rw [List.length_drop] at E1
      have D2 := Lib.hid E1
      clear D E E1 LE2 LN2 n1 n2 e1 e3 e4 hg hri hri2 hbd hbd2 HA1 HB1 hX hY m1 m2 hr2t hrt hg0
      have hs5 : s ≤ 5 := hS.1
      have hs6 : s2 ≤ 5 := hs2l.1
      clear hS hs2l HSL
      go_enter Try.func27, Try.ntmps27
      go_wp2_with (first
        | (go_at_call 32; (with_reducible refine D1.out.mono ?_); rintro e w1 ⟨rfl, rfl⟩)
        | (go_at_call 32; (with_reducible refine D2.out.mono ?_); rintro e w1 ⟨rfl, rfl⟩))
      refine bodyPost_ret (v := .tuple #[.agg #[.int .i64 (2 * v - X), .int .i64 (2 * v - X - Y)], .int .i64 ((s : Int) + (s2 : Int)), .int .i64 0]) (by simp [results, Try.results27, go_sem]) rfl ?_
      exact ⟨by rw [HR.out.1, HR.out.2.1, HR.out.2.2.1, HR.out.2.2.2], HB0.out _ _⟩
    · have hx : g1E v l = lsE (2 * v - X) (l.drop (rdS l)) := by
        by_cases e4 : rdE (l.drop (rdS l)) = 0
        · rw [if_neg (by simpa using e4)] at LE2
          by_cases e5 : 2 * v - X < Y
          · rw [if_pos e5] at LE2
            have hr2f : r2 = false := by cases r2 with
              | false => rfl
              | true => have := hri2.1 rfl; omega
            rcases hg with g | g | g | g | g
            · exact absurd e2.1 g.1
            · rw [hrt] at g; cases g.2.1
            · exact absurd e4 g.2.2.1
            · rw [LE2]; exact g.2.2.2.2
            · rw [hr2f] at g; cases g.2.2.2.1
          · rw [if_neg e5] at LE2; exact absurd LE2 e3
        · rw [if_pos e4] at LE2
          rcases hg with g | g | g | g | g
          · exact absurd e2.1 g.1
          · rw [hrt] at g; cases g.2.1
          · rw [LE2]; exact g.2.2.2
          · exact absurd g.2.2.1 e4
          · exact absurd g.2.2.1 e4
      obtain ⟨x, hxx⟩ : ∃ x, lsE (2 * v - X) (l.drop (rdS l)) = x := ⟨_, rfl⟩
      have HR := Lib.hid (HG.out x (hx.trans hxx) (by rw [← hxx]; exact e3))
      have hN : lsN (2 * v - X) (l.drop (rdS l)) = 0 ∧ lsS (2 * v - X) (l.drop (rdS l)) = 0 := ⟨if_neg e3, if_neg e3⟩
      rw [hN.1, hN.2, hxx] at E1
      have hi : (x != 0) = true := by rw [← hxx]; simpa using e3
      rw [hss] at E1
      have D1 := Lib.hid D
      rw [List.length_drop] at E1
      have D2 := Lib.hid E1
      clear D E E1 LE2 LN2 n1 n2 e1 e2 e3 hN hxx hx hg hri hri2 hbd hbd2 hS HA1 HB1 hX hY HSL hrt
      go_enter Try.func27, Try.ntmps27
      go_wp2_with (first
        | (go_at_call 32; (with_reducible refine D1.out.mono ?_); rintro e w1 ⟨rfl, rfl⟩)
        | (go_at_call 32; (with_reducible refine D2.out.mono ?_); rintro e w1 ⟨rfl, rfl⟩))
      refine bodyPost_ret (v := .tuple #[.agg #[.int .i64 0, .int .i64 0], .int .i64 0, .int .i64 x]) (by simp [results, Try.results27, go_sem]) rfl ?_
      exact ⟨by rw [HR.out.1, HR.out.2.1, HR.out.2.2.1, HR.out.2.2.2], HB0.out 0 0⟩
  · have hx : g1E v l = lsE (2 * v) l := by
      have e := HLE.out (2 * v)
      by_cases e2 : rdE l = 0
      · rw [if_neg (by simpa using e2)] at e
        by_cases e3 : 2 * v < (rdN l : Int)
        · rw [if_pos e3] at e
          have : r = false := by cases r with
            | false => rfl
            | true => have := hri.1 rfl; omega
          rcases hg with g | g | g | g | g
          · omega
          · omega
          · rw [this] at g; cases g.2.1
          · rw [this] at g; cases g.2.1
          · rw [this] at g; cases g.2.1
        · rw [if_neg e3] at e; exact absurd e e1
      · rw [if_pos e2] at e
        rcases hg with g | g | g | g | g
        · rw [g.2, e]
        · exact absurd g.1 e2
        · exact absurd g.1 e2
        · exact absurd g.1 e2
        · exact absurd g.1 e2
    obtain ⟨x, hxx⟩ : ∃ x, lsE (2 * v) l = x := ⟨_, rfl⟩
    have HR := Lib.hid (HG.out x (hx.trans hxx) (by rw [← hxx]; exact e1))
    have hN : lsN (2 * v) l = 0 ∧ lsS (2 * v) l = 0 := ⟨if_neg e1, if_neg e1⟩
    rw [hN.1, hN.2, hxx] at D
    have hi : (x != 0) = true := by rw [← hxx]; simpa using e1
    have D1 := Lib.hid D
    clear D E hN hxx hx e1 hg hri hri2 hbd hbd2 hs hS
    go_enter Try.func27, Try.ntmps27
    go_wp2_with (go_at_call 32; (with_reducible refine D1.out.mono ?_); rintro e w1 ⟨rfl, rfl⟩)
    refine bodyPost_ret (v := .tuple #[.agg #[.int .i64 0, .int .i64 0], .int .i64 0, .int .i64 x]) (by simp [results, Try.results27, go_sem]) rfl ?_
    exact ⟨by rw [HR.out.1, HR.out.2.1, HR.out.2.2.1, HR.out.2.2.2], HB0.out 0 0⟩

theorem dinfo_and : (Try.prog.info? 29).map (fun i => (i.zero, i.size, i.bytes)) = some (some (.agg #[.int .i64 0, .int .i64 0]), 2, 16) := by kernel_rfl
/-- gates that a call owns -/
def Gso (B : Nat) (w : World) (v : Value) (n : Nat) (f g : Nat → Int) : Prop := w.ownsRow B 29 2 v n (pairL f g n)
theorem Gso.nil (B : Nat) (w : World) (f g : Nat → Int) : Gso B w (.slice none 0 0) 0 f g := World.ownsRow_nil _ _ _ _
theorem Gso.keep {B n : Nat} {w w' : World} {v : Value} {f g : Nat → Int} (h : Gso B w v n f g) (hb : Below w.heap.size w w') : Gso B w' v n f g := by
  refine ⟨h.1, h.2.imp id fun ⟨g, cap, cur, h1, h2, h3, h4⟩ => ⟨g, cap, cur, h1, h2, ?_, h4⟩⟩
  exact (hb.block g (Has.lt (t := 29) (cs := cur) h3)).trans h3
theorem Gso.at {B n : Nat} {w : World} {v : Value} {f g : Nat → Int} (h : Gso B w v n f g) : ∃ A k, v = .slice A n k ∧ PairsAt w w.heap.size A n f g ∧ (A = none → n = 0 ∧ k = 0) ∧ n ≤ k := by
  rcases h.2 with ⟨rfl, rfl⟩ | ⟨b, cap, cur, rfl, hg, hh, hk, r⟩
  · exact ⟨none, 0, rfl, fun h => absurd h (Nat.lt_irrefl 0), fun _ => ⟨rfl, rfl⟩, Nat.le_refl _⟩
  · exact ⟨_, cap, rfl, own_pairs h fun _ => Has.lt (t := 29) (cs := cur) hh, (fun h => by cases h), hk⟩
theorem cell_two_new (w : World) (x y : Value) (t : TypeId) : ∀ j u, [x, y][j]? = some u → (w.alloc (.cells #[x, y] t)).cell? ((⟨w.heap.size, 0, none⟩ : Addr).add j) = some u := by
  intro j u hj
  have h := Has.new w t #[x, y]
  match j, hj with
  | 0, hj => simp at hj; subst hj; exact h.cell 0
  | 1, hj => simp at hj; subst hj; exact h.cell 1
/-- one gate more -/
theorem gs_append {w : World} {ops : Array Oper} {rest : List Oper} {o : Oper} {a : Act} {Q : Exit → Act → World → Prop} (hgd : o.guard = none) (s x : Operand)
    (ho : o.op = .call { callee := .builtin .append, args := #[s, x], argTypes := #[30, 30] })
    (B : Nat) (v : Value) (n : Nat) (f g : Nat → Int) (hs : a.eval s = v) (hown : Gso B w v n f g) (b : Nat) (hx : a.eval x = .slice (some ⟨b, 0, none⟩) 1 1)
    (hc : ∀ j u, [Value.int .i64 (f n), Value.int .i64 (g n)][j]? = some u → w.cell? ((⟨b, 0, none⟩ : Addr).add j) = some u)
    (hle : n ≤ 100000) (hB : B ≤ w.heap.size) (h : ∀ v' w', Gso B w' v' (n + 1) f g → Below B w w' → wpList Try.prog ops Q rest (a.put o.dst v') w') : wpList Try.prog ops Q (o :: rest) a w := by
  obtain ⟨i0, hi0, hzz0, hs0, hy0⟩ := info_parts dinfo_and
  refine wpList_append_own w hgd s x 30 ho B 29 i0 (.agg #[.int .i64 0, .int .i64 0]) 2 16 Try.underlying30 hi0 hzz0 hs0 hy0 rfl (by decide) v n (pairL f g n) hs hown ⟨b, 0, none⟩ 1 1 [.int .i64 (f n), .int .i64 (g n)] hx rfl hc (by simp [Value.oneCell']) (by simp only [maxLen]; omega) (by omega) hB ?_
  intro v' w' h1 h2 _
  exact h v' w' h1 ((Below.refl B w).grown h2 hB (fun k hk => (World.ownsRow.lt hown k hk).1))
theorem pairL_congr {f g f' g' : Nat → Int} : ∀ {n : Nat}, (∀ j, j < n → f j = f' j ∧ g j = g' j) → pairL f g n = pairL f' g' n
  | 0, _ => rfl
  | n + 1, h => by rw [pairL, pairL, pairL_congr (n := n) fun j hj => h j (by omega), (h n (by omega)).1, (h n (by omega)).2]
/-- a list's numbers, nothing behind it -/
def upto (n : Nat) (f : Nat → Int) (j : Nat) : Int := if j < n then f j else 0
theorem upto_lt {n : Nat} {f : Nat → Int} {j : Nat} (h : j < n) : upto n f j = f j := if_pos h
/-- the gates that Unpack returns -/
def unA (v n : Int) (l : List UInt8) : Nat → Int := upto (unN v n l) (upA v l)
def unB (v n : Int) (l : List UInt8) : Nat → Int := upto (unN v n l) (upB v l)
/-- what Unpack returns -/
def GsErr (v n : Int) (l : List UInt8) (w : World) (e : Ending) (w' : World) : Prop := ∃ A k, e = .returned (.tuple #[.slice A (unN v n l) k, .int .i64 (unS v n l : Int), .int .i64 (unE v n l)]) ∧ Gts w' w'.heap.size A (unN v n l) k (unA v n l) (unB v n l) ∧ Below w.heap.size w w'
theorem i64_z : I64 0 := by unfold I64; omega
theorem un_i64 {v n : Int} {l : List UInt8} (j : Nat) : I64 (unA v n l j) ∧ I64 (unB v n l j) := by
  unfold unA unB upto
  by_cases h : j < unN v n l
  · rw [if_pos h, if_pos h]
    have hE : unE v n l = 0 := by
      by_cases hE : unE v n l = 0
      · exact hE
      · unfold unN at h; rw [if_neg hE] at h; omega
    unfold unN at h
    rw [if_pos hE] at h
    unfold unE at hE
    have ha := asd_ways v n
    by_cases h0 : asd v n = 0
    · rw [if_neg (by simpa using h0)] at hE
      have := rgt_iff.1 (allR_at (up_right hE) j h)
      unfold I64; omega
    · rw [if_pos h0] at hE; exact absurd hE h0
  · rw [if_neg h, if_neg h]; exact ⟨i64_z, i64_z⟩
theorem GsErr.no {v n : Int} {l : List UInt8} {w w' : World} {x : Int} (hE : unE v n l = x) (h0 : x ≠ 0) (h : Below w.heap.size w w') : GsErr v n l w (.returned (.tuple #[.slice none 0 0, .int .i64 0, .int .i64 x])) w' := by
  have hne : unE v n l ≠ 0 := by rw [hE]; exact h0
  have hN : unN v n l = 0 := if_neg hne
  have hS : unS v n l = 0 := if_neg hne
  refine ⟨none, 0, by rw [hN, hS, hE]; rfl, ⟨fun h => ?_, fun _ => ⟨hN, rfl⟩, fun j => (un_i64 j).1, fun j => (un_i64 j).2⟩, h⟩
  rw [hN] at h; exact absurd h (Nat.lt_irrefl 0)
theorem GsErr.yes {v : Int} {N : Nat} {l : List UInt8} {w w' : World} {u : Value} (h0 : asd v N = 0) (hE : upE v l N = 0) (ho : Gso w.heap.size w' u N (upA v l) (upB v l)) (h : Below w.heap.size w w') : GsErr v N l w (.returned (.tuple #[u, .int .i64 (upT v l N : Int), .int .i64 0])) w' := by
  have e1 : unE v N l = 0 := by unfold unE; rw [if_neg (by simpa using h0), Int.toNat_natCast, hE]
  have e2 : unN v N l = N := by unfold unN; rw [if_pos e1, Int.toNat_natCast]
  have e3 : unS v N l = upT v l N := by unfold unS; rw [if_pos e1, Int.toNat_natCast]
  obtain ⟨A, k, rfl, hp, hn, hk⟩ := ho.at
  refine ⟨A, k, by rw [e1, e2, e3], ⟨?_, by rw [e2]; exact hn, fun j => (un_i64 j).1, fun j => (un_i64 j).2⟩, h⟩
  rw [e2]
  intro hn
  obtain ⟨a, ea, hb, hc⟩ := hp hn
  refine ⟨a, ea, hb, fun j hj => ?_⟩
  rw [show unA v N l j = upA v l j by unfold unA; rw [e2]; exact upto_lt hj, show unB v N l j = upB v l j by unfold unB; rw [e2]; exact upto_lt hj]
  exact hc j hj
theorem un_stop {v : Int} {N q : Nat} {l : List UInt8} (h0 : asd v N = 0) (hE : upE v l q = 0) (hq : q < N) (h : g1E (v + q) (l.drop (upT v l q)) ≠ 0) : unE v N l = g1E (v + q) (l.drop (upT v l q)) := by
  unfold unE
  rw [if_neg (by simpa using h0), Int.toNat_natCast]
  have := upE_stay hE h (N - (q + 1))
  rwa [show q + 1 + (N - (q + 1)) = N by omega] at this

set_option maxRecDepth 100000 in
set_option maxHeartbeats 4000000 in
theorem dUnpack_no {v n : Int} (hv : I64 v) (hn : I64 n) (A : Option Addr) (l : List UInt8) (k : Nat) (w : World) (hE : asd v n ≠ 0) : Calls Try.prog 14 #[.int .i64 v, .int .i64 n, .slice A l.length k] w (GsErr v n l w) := by
  have D := dVars_any hv hn w
  have HU := Lib.hid (show unE v n l = asd v n by unfold unE; rw [if_pos hE])
  obtain ⟨E, hEE⟩ : ∃ E, asd v n = E := ⟨_, rfl⟩
  rw [hEE] at D hE HU
  have hi : (E != 0) = true := by simpa using hE
  have HE := Lib.hid hE
  have D1 := Lib.hid D
  clear D hEE hE
  go_enter Try.func14, Try.ntmps14
  go_wp2_with (go_at_call 25; (with_reducible refine D1.out.mono ?_); rintro e w1 ⟨rfl, rfl⟩)
  go_ret3
  exact GsErr.no HU.out HE.out (Below.refl _ _)

end Go.Proofs.Ytafhdckcclhjlaa
