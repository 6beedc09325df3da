/- The package order's Circuit: the error of a raw circuit that is not valid; the circuit of a valid one. -/
import Derived.Test.YtpdfdbnmohippaaOrderNew
import Derived.Test.YtpdfdbnmohippaaOrderUse
import Derived.Test.YtpdfdbnmohippaaCircBox
import Derived.Test.YtpdfdbnmohippaaOrderRaw
namespace Go.Proofs.Ytpdfdbnmohippaa
open Go Go.RowKit
set_option linter.unusedVariables false
set_option linter.unusedSimpArgs false

theorem wb_call2 {P : Program} {ops : Array Oper} {Q : Exit → Act → World → Prop} {md : Region.Mode} {S : World → Prop} {n : Nat} (i s t : Nat) {oi : Oper} {d : Nat} {f : FuncId} {args : Array Value} {u x : Value} {fuel : Nat} {listed : Array Bool} {a : Act} {w : World} (hi : opAt ops.toList i = some oi) (hd : oi.dst = some d)
    (hw : Region.wanted oi (yielded ops a.tmps) = true) (h1 : Slot a s u) (h2 : Slot a t x) (he : ∀ ev : Operand → Value, (∀ x, ev (.const x) = x) → (∀ f, ev (.func f) = .func (.func f) #[] #[]) → ev (.tmp s) = u → ev (.tmp t) = x → (execOp ev oi).run P w = .ok (.enter f args) w)
    (h : Calls P f args w fun e w' => ∃ v, e = .returned v ∧ (i < n → S w') ∧ WT P md ops Q S n fuel (listed.setIfInBounds i true) (a.put (some d) v) w') : wpOp P ops Q i (fun a' w' => (i < n → S w') ∧ WT P md ops Q S n fuel (listed.setIfInBounds i true) a' w') a w := by
  refine wpOp_go (opAt_spec hi) hw fun K hK => ?_
  show oi.upon P a K Q _
  rw [he _ (fun _ => rfl) (fun _ => rfl) h1.eval h2.eval, Oper.upon_enter]
  refine h.mono fun e w' => ?_
  rintro ⟨v, rfl, h1, h2⟩
  have h3 := hK _ _ ⟨h1, h2⟩
  show K (a.put oi.dst v) w'
  rw [hd]; exact h3

set_option maxRecDepth 100000 in
set_option maxHeartbeats 4000000 in
theorem circ_no (r : Rw) (p : Rp) (w : World) (hs : RSm r) (hm : RMem w w.heap.size r p) (hN : RNils r p) (hk : r.chk ≠ 0) :
    Calls Try.prog 9 #[rv r p] w fun e w' => e = .returned (.tuple #[.agg #[.int .i64 0, .slice none 0 0, .slice none 0 0, .slice none 0 0, .slice none 0 0], .slice none 0 0, .int .i64 r.chk]) ∧ Below w.heap.size w w' := by
  have hk' : (r.chk != 0) = true := by simpa using hk
  have hB0 : Below w.heap.size w ((w.alloc (.cells (rcL r p) 32)).alloc (.cells #[.int .i64 0, .slice none 0 0, .slice none 0 0, .slice none 0 0, .slice none 0 0] 26)) := by go_grown
  have hZ0 : Has ((w.alloc (.cells (rcL r p) 32)).alloc (.cells #[.int .i64 0, .slice none 0 0, .slice none 0 0, .slice none 0 0, .slice none 0 0] 26)) (w.heap.size + 1) 26 zc := Has.new' _ _ (by simp)
  have H0 := Lib.hid (And.intro hB0 hZ0)
  have G0 : Hid (∀ W, Below w.heap.size w W → Calls Try.prog 36 #[rv r p] W fun e w' => ∃ v, e = .returned (.tuple #[v, .int .i64 r.chk]) ∧ Below W.heap.size W w') := fun W hb => (pGates_any r p W hs (hm.to hb hb.size) hN).mono fun e w' ⟨v, he, _, hb⟩ => ⟨v, he, hb⟩
  clear hB0 hZ0 hk
  go_enter Try.func9, Try.ntmps9
  go_wp2_with (go_at_call 36; (with_reducible refine (G0.out _ H0.out.1).mono ?_); rintro e w1 ⟨v, rfl, hb1⟩; have hB1 := Below.step H0.out.1 H0.out.1.size hb1; have hZ1 := H0.out.2.keep hb1 H0.out.2.lt; obtain ⟨⟨z0, z1, z2, z3, z4⟩, f0, f1, f2, f3, f4⟩ := hZ1.z5)
  refine bodyPost_ret (v := .tuple #[.agg #[.int .i64 0, .slice none 0 0, .slice none 0 0, .slice none 0 0, .slice none 0 0], .slice none 0 0, .int .i64 r.chk]) (by simp [results, Try.results9, go_sem, z0, z1, z2, z3, z4]) rfl ⟨rfl, ?_⟩
  exact ((((hB1.setCell (by simp) _).setCell (by simp) _).setCell (by simp) _).setCell (by simp) _).setCell (by simp) _

/-- the cells that the statement's loads ask for -/
def BoxC (r : Rw) (p : Rp) (b : Nat) (W : World) : Prop := W.cell? ⟨b, 1, none⟩ = some (.slice p.A1 r.ni p.k1) ∧ W.cell? ⟨b, 4, none⟩ = some (.slice p.A4 r.nb p.k4) ∧ W.cell? ⟨b, 5, none⟩ = some (.slice p.A5 r.nc p.k5)
section
variable {U W W' : World} {bx : Nat} {r : Rw} {p : Rp} {F4 F5 : Nat → Int} {s8 : Option Nat} {t4 t5 : Option Value}
/-- where the statement stands that makes the circuit: its box, and the two lists -/
structure Ci (U W : World) (bx : Nat) (r : Rw) (p : Rp) (F4 F5 : Nat → Int) (s8 : Option Nat) (t4 t5 : Option Value) : Prop where
  B : Below U.heap.size U W
  x : Has W bx 32 (rc r p)
  xl : bx < U.heap.size
  h8 : ∀ b, s8 = some b → U.heap.size ≤ b ∧ Has W b 26 zc
  o4 : ∀ v, t4 = some v → W.ownsRow U.heap.size 3 1 v r.nb (intL F4 r.nb)
  o5 : ∀ v, t5 = some v → W.ownsRow U.heap.size 3 1 v r.nc (intL F5 r.nc)
theorem Ci.box (h : Ci U W bx r p F4 F5 s8 t4 t5) : BoxC r p bx W := ⟨h.x.cell 1, h.x.cell 4, h.x.cell 5⟩
theorem Ci.on (h : Ci U W bx r p F4 F5 s8 t4 t5) (hb : Below W.heap.size W W') : Ci U W' bx r p F4 F5 s8 t4 t5 :=
  ⟨Below.step h.B h.B.size hb, h.x.keep hb h.x.lt, h.xl, fun b e => ⟨(h.h8 b e).1, (h.h8 b e).2.keep hb (h.h8 b e).2.lt⟩, fun v e => own_below (h.o4 v e) hb, fun v e => own_below (h.o5 v e) hb⟩
theorem Ci.al8 (h : Ci U W bx r p F4 F5 none t4 t5) : Ci U (W.alloc (.cells zc 26)) bx r p F4 F5 (some W.heap.size) t4 t5 := by
  have k := h.on ((Below.refl W.heap.size W).alloc (Nat.le_refl _) (.cells zc 26))
  exact ⟨k.B, k.x, k.xl, fun b e => by cases e; exact ⟨h.B.size, Has.new _ _ _⟩, k.o4, k.o5⟩
theorem Ci.c4 {v : Value} (h : Ci U W bx r p F4 F5 s8 none none) (hb : Below W.heap.size W W') (ho : W'.ownsRow U.heap.size 3 1 v r.nb (intL F4 r.nb)) : Ci U W' bx r p F4 F5 s8 (some v) none := by
  have k := h.on hb
  exact ⟨k.B, k.x, k.xl, k.h8, (fun u e => by cases e; exact ho), (fun u e => by cases e)⟩
theorem Ci.c5 {v u : Value} (h : Ci U W bx r p F4 F5 s8 (some u) none) (hb : Below W.heap.size W W') (ho : W'.ownsRow U.heap.size 3 1 v r.nc (intL F5 r.nc)) : Ci U W' bx r p F4 F5 s8 (some u) (some v) := by
  have k := h.on hb
  exact ⟨k.B, k.x, k.xl, k.h8, k.o4, (fun u e => by cases e; exact ho)⟩
/-- behind it -/
structure Cd (U W : World) (bx : Nat) (r : Rw) (p : Rp) (F4 F5 : Nat → Int) (b8 : Nat) (v4 v5 : Value) : Prop where
  B : Below U.heap.size U W
  x : Has W bx 32 (rc r p)
  xl : bx < U.heap.size
  l8 : U.heap.size ≤ b8
  h8 : Has W b8 26 #[.int .i64 r.ni, .slice none 0 0, .slice none 0 0, v4, v5]
  o4 : W.ownsRow U.heap.size 3 1 v4 r.nb (intL F4 r.nb)
  o5 : W.ownsRow U.heap.size 3 1 v5 r.nc (intL F5 r.nc)
theorem Cd.box {b8 : Nat} {v4 v5 : Value} (h : Cd U W bx r p F4 F5 b8 v4 v5) : BoxC r p bx W := ⟨h.x.cell 1, h.x.cell 4, h.x.cell 5⟩
theorem row_ne {base b g size n : Nat} {e t : TypeId} {v : Value} {xs : List Value} {cs : Array Value} (h : W.ownsRow base e size v n xs) (hb : Has W b t cs) (ht : e ≠ t) (hg : v.ownBlock = some g) : g ≠ b := by
  rcases h.2 with ⟨hv, _⟩ | ⟨g', cap, cur, hv, _, hh, _⟩
  · rw [hv] at hg; cases hg
  · rw [hv] at hg
    cases hg
    exact Has.ne (cs := cur) hh hb ht
theorem Ci.fin {b8 : Nat} {A4 A5 : Option Addr} {k4 k5 : Nat} (h : Ci U W bx r p F4 F5 (some b8) (some (.slice A4 r.nb k4)) (some (.slice A5 r.nc k5)))
    (e : put5 W b8 (.int .i64 r.ni) (.slice none 0 0) (.slice none 0 0) (.slice A4 r.nb k4) (.slice A5 r.nc k5) = W') : Cd U W' bx r p F4 F5 b8 (.slice A4 r.nb k4) (.slice A5 r.nc k5) := by
  subst e
  obtain ⟨l8, h8⟩ := h.h8 b8 rfl
  have hx := h.xl
  exact ⟨put5_below _ _ _ _ _ h.B l8, (put5_far _ _ _ _ _ _ (by omega)).trans h.x, h.xl, l8, put5_has h8, own_on (h.o4 _ rfl) fun g hg _ => put5_far _ _ _ _ _ _ (row_ne (h.o4 _ rfl) h8 (by decide) hg), own_on (h.o5 _ rfl) fun g hg _ => put5_far _ _ _ _ _ _ (row_ne (h.o5 _ rfl) h8 (by decide) hg)⟩
end

theorem own_pairs' {w : World} {base : Nat} {e : TypeId} {v : Value} {n : Nat} {f h : Nat → Int} (ho : w.ownsRow base e 2 v n (pairL f h n)) : ∃ A k, v = .slice A n k ∧ PairsAt w w.heap.size A n f h ∧ (A = none → n = 0 ∧ k = 0) := by
  rcases ho.2 with ⟨rfl, hn⟩ | ⟨q, cap, cur, rfl, hg, hh, r⟩
  · subst hn
    exact ⟨none, 0, rfl, fun h => absurd h (Nat.not_lt_zero _), fun _ => ⟨rfl, rfl⟩⟩
  · exact ⟨_, cap, rfl, own_pairs ho (fun _ => Has.lt (t := e) (cs := cur) hh), (fun h => by cases h)⟩
theorem own_pairs2 {w : World} {base : Nat} {e : TypeId} {A : Option Addr} {n k : Nat} {f h : Nat → Int} (ho : w.ownsRow base e 2 (.slice A n k) n (pairL f h n)) : PairsAt w w.heap.size A n f h := by
  obtain ⟨A', k', hv, hp, _⟩ := own_pairs' ho
  cases hv
  exact hp
theorem own_ints2 {w : World} {base : Nat} {e : TypeId} {A : Option Addr} {n k : Nat} {f : Nat → Int} (ho : w.ownsRow base e 1 (.slice A n k) n (intL f n)) : IntsAt w w.heap.size A n f ∧ (A = none → n = 0 ∧ k = 0) := by
  obtain ⟨A', k', hv, hp, hn, _⟩ := own_ints' ho
  cases hv
  exact ⟨hp, hn⟩
theorem row_new {w : World} {base size n : Nat} {e : TypeId} {A : Option Addr} {k : Nat} {xs : List Value} (h : w.ownsRow base e size (.slice A n k) n xs) {B : Nat} (hB : B ≤ base) (a : Addr) (e1 : A = some a) : B ≤ a.block := Nat.le_trans hB (own_block h a.block (by rw [e1]; rfl))
theorem slice_succ {W : World} {base : Nat} {e : TypeId} {size : Nat} {v : Value} {k : Nat} {xs : List Value} (h : W.ownsRow base e size v (k + 1) xs) : ∃ g cap, v = .slice (some ⟨g, 0, none⟩) (k + 1) cap := by
  rcases h.2 with ⟨_, h0⟩ | ⟨g, cap, cur, hv, _⟩
  · omega
  · exact ⟨g, cap, hv⟩
theorem own_kept {X wr : World} {b base size n : Nat} {e : TypeId} {v : Value} {xs : List Value} {cs : Array Value} (h : X.ownsRow base e size v n xs) (hK : Kept X wr b) (hb : Has X b 26 cs) (he : e ≠ 26) : wr.ownsRow base e size v n xs :=
  own_on h fun g hg ⟨cur, hc⟩ => hK.k g (Has.lt hc) (row_ne h hb he hg)
theorem own_put5 {X : World} {b base size n : Nat} {e : TypeId} {v : Value} {xs : List Value} {cs : Array Value} (v0 v1 v2 v3 v4 : Value) (h : X.ownsRow base e size v n xs) (hb : Has X b 26 cs) (he : e ≠ 26) : (put5 X b v0 v1 v2 v3 v4).ownsRow base e size v n xs :=
  own_on h fun g hg _ => put5_far _ _ _ _ _ _ (row_ne h hb he hg)
/-- what Circuit returns of a valid raw circuit -/
def CircOk (r : Rw) (mn : Nat) (w : World) (e : Ending) (w' : World) : Prop :=
  ∃ p' g, e = .returned (.tuple #[cv r.cir p', .slice (some ⟨g, 0, none⟩) (mn + 1) (mn + 1), .int .i64 0]) ∧ Mem w' w'.heap.size r.cir p' ∧ Nils r.cir p' ∧ w'.rowIs g 3 (mn + 1) (fun v => .int .i64 (r.nw v)) ∧ Below w.heap.size w w' ∧ w.heap.size ≤ g ∧ ∀ a, (p'.A1 = some a ∨ p'.A2 = some a ∨ p'.A3 = some a ∨ p'.A4 = some a) → w.heap.size ≤ a.block

set_option maxRecDepth 100000 in
set_option maxHeartbeats 16000000 in
theorem circ_yes (r : Rw) (p : Rp) (w : World) (mn : Nat) (hmn : r.m = mn) (hs : RSm r) (hm : RMem w w.heap.size r p) (hN : RNils r p) (hk : r.chk = 0) :
    Calls Try.prog 9 #[rv r p] w (CircOk r mn w) := by
  obtain ⟨h0, hbig, hnum, _⟩ := Rw.chk_parts hk
  have hbg := of_decide_eq_false hbig
  have h1 : r.m ≤ 1000 := by omega
  have g0 := hs.ni
  have g1 := hs.nl
  have g2 := hs.na
  have g4 := hs.nb
  have g5 := hs.nc
  have hB0 : Below w.heap.size w ((w.alloc (.cells (rcL r p) 32)).alloc (.cells #[.int .i64 0, .slice none 0 0, .slice none 0 0, .slice none 0 0, .slice none 0 0] 26)) := by go_grown
  have hX0 : Has ((w.alloc (.cells (rcL r p) 32)).alloc (.cells #[.int .i64 0, .slice none 0 0, .slice none 0 0, .slice none 0 0, .slice none 0 0] 26)) w.heap.size 32 (rc r p) := (Has.new _ _ _).al _
  have hZ0 : Has ((w.alloc (.cells (rcL r p) 32)).alloc (.cells #[.int .i64 0, .slice none 0 0, .slice none 0 0, .slice none 0 0, .slice none 0 0] 26)) (w.heap.size + 1) 26 zc := Has.new' _ _ (by simp)
  have H0 := Lib.hid (And.intro hB0 (And.intro hX0 hZ0))
  have G0 : Hid (∀ W, Below w.heap.size w W → Calls Try.prog 36 #[rv r p] W fun e w' => ∃ A k, e = .returned (.tuple #[.slice A r.ord.length k, .int .i64 0]) ∧ IntsAt w' w'.heap.size A r.ord.length (fun j => (nL r.ord).getD j 0) ∧ Below W.heap.size W w') := fun W hb => (pGates_any r p W hs (hm.to hb hb.size) hN).mono fun e w' ⟨v, he, ho, hb⟩ => by
    have ho := ho hk
    rw [← nL_len r.ord] at ho
    obtain ⟨A, k, hv, hi, _⟩ := own_list ho
    rw [nL_len] at hv hi
    exact ⟨A, k, by rw [he, hk, hv], hi, hb⟩
  have V0 : Hid (∀ W A k, Below w.heap.size w W → IntsAt W W.heap.size A r.ord.length (fun j => (nL r.ord).getD j 0) → Calls Try.prog 37 #[rv r p, .slice A r.ord.length k] W (NumsIs r mn W)) := fun W A k hb hi => newVars_any r p W mn A k hmn hs (hm.to hb hb.size) hN h1 hnum hi
  have HK := Lib.hid hk
  have HM := Lib.hid hm
  have HMN := Lib.hid hmn
  clear hB0 hX0 hZ0 hk hbig hbg hnum hmn hm
  go_enter Try.func9, Try.ntmps9
  go_wp2_with (go_at_call 36; (with_reducible refine (G0.out _ H0.out.1).mono ?_); rintro e w1 ⟨U5, k5, rfl, hi1, hb1⟩; have hB1 := Below.step H0.out.1 H0.out.1.size hb1; have hX1 := H0.out.2.1.keep hb1 H0.out.2.1.lt; have hZ1 := H0.out.2.2.keep hb1 H0.out.2.2.lt; obtain ⟨x0, x1, x2, x3, x4, x5⟩ := hX1.rbox)
  go_wp2_with (go_at_call 37; (with_reducible refine (V0.out _ _ _ hB1 hi1).mono ?_); rintro e w2 ⟨g, rfl, hR2, hg2, hb2⟩; have hB2 := Below.step hB1 hB1.size hb2; have hX2 := hX1.keep hb2 hX1.lt; have hZ2 := hZ1.keep hb2 hZ1.lt; have hi2 := (hi1.keep hb2).more hb2.size)
  clear x0 x1 x2 x3 x4 x5
  obtain ⟨U, hU⟩ : ∃ U, w2.drew = U := ⟨_, rfl⟩
  have hRU : U.rowIs g 3 (mn + 1) (fun v => .int .i64 (r.nw v)) := hU ▸ hR2.drew
  have hXU : Has U w.heap.size 32 (rc r p) := hU ▸ (show Has w2.drew w.heap.size 32 (rc r p) from hX2)
  have hZU : Has U (w.heap.size + 1) 26 zc := hU ▸ (show Has w2.drew (w.heap.size + 1) 26 zc from hZ2)
  have hBU : Below w.heap.size w U := hU ▸ below_dn hB2 1
  have hiU : IntsAt U U.heap.size U5 r.ord.length (fun j => (nL r.ord).getD j 0) := hU ▸ (show IntsAt w2.drew w2.drew.heap.size U5 r.ord.length (fun j => (nL r.ord).getD j 0) from hi2)
  have hNU : IntsAt U U.heap.size (some ⟨g, 0, none⟩) (mn + 1) (fun v => r.nw (v : Int)) := fun _ => ⟨_, rfl, hRU.lt, fun j hj => by
    have e : (⟨g, 0, none⟩ : Addr).add j = ⟨g, j, none⟩ := by unfold Addr.add; split <;> simp_all
    rw [e, hRU.cell hj]⟩
  have hb0 : Ci U U w.heap.size r p (fun j => r.told (r.bd j)) (fun j => r.told (r.cn j)) none none none := ⟨Below.refl _ _, hXU, hXU.lt, (fun b e => by cases e), (fun v e => by cases e), (fun v e => by cases e)⟩
  have RA : Hid (∀ (A : Option Addr) (n k : Nat) (x : Nat → Int), n ≤ 1000 → IntsAt U U.heap.size A n x → (∀ j, j < n → x j ∈ r.uL) → ∀ W, Below U.heap.size U W → Calls Try.prog 38 #[.slice A n k, .slice (some ⟨g, 0, none⟩) (mn + 1) (mn + 1)] W fun e w' => ∃ A' k', e = .returned (.slice A' n k') ∧ w'.ownsRow U.heap.size 3 1 (.slice A' n k') n (intL (fun j => r.told (x j)) n) ∧ Below W.heap.size W w') := fun A n k x hn hA hx W hb => by
    have hu := fun j hj => Rw.used_nw HK.out (hx j hj)
    have hmn := HMN.out
    have ec : ∀ j, j < n → (((x j / 2).toNat : Nat) : Int) = x j / 2 := fun j hj => by have := (hu j hj).1; omega
    have h := renamedAll_any A (some ⟨g, 0, none⟩) n k (mn + 1) (mn + 1) x (fun v => r.nw (v : Int)) U.heap.size W hb.size (hA.keep hb) (hNU.keep hb) hn (fun j hj => by
      have := hu j hj
      have e := ec j hj
      show 0 ≤ x j ∧ x j ≤ 2001 ∧ x j / 2 < ((mn + 1 : Nat) : Int) ∧ 0 ≤ r.nw (((x j / 2).toNat : Nat) : Int) ∧ r.nw (((x j / 2).toNat : Nat) : Int) ≤ 1000
      rw [e]
      omega)
    refine h.mono fun e w' ⟨v, he, ho, hb'⟩ => ?_
    have el : intL (reN (fun v => r.nw (v : Int)) x) n = intL (fun j => r.told (x j)) n := intL_congr fun j hj => by
      show 2 * r.nw (((x j / 2).toNat : Nat) : Int) + x j % 2 = 2 * r.nw (x j / 2) + x j % 2
      rw [ec j hj]
    rw [el] at ho
    obtain ⟨A', k', hv, _⟩ := own_ints' ho
    subst hv
    exact ⟨A', k', he, own_baseT ho hb.size, hb'⟩
  have RA4 : Hid (∀ W, Below U.heap.size U W → Calls Try.prog 38 #[.slice p.A4 r.nb p.k4, .slice (some ⟨g, 0, none⟩) (mn + 1) (mn + 1)] W fun e w' => ∃ A' k', e = .returned (.slice A' r.nb k') ∧ w'.ownsRow U.heap.size 3 1 (.slice A' r.nb k') r.nb (intL (fun j => r.told (r.bd j)) r.nb) ∧ Below W.heap.size W w') := RA.out p.A4 r.nb p.k4 r.bd g4 ((HM.out.bd.keep hBU).more hBU.size) (fun j hj => by unfold Rw.uL; simp only [List.mem_append]; exact Or.inl (Or.inl (Or.inl (mem_lst.2 ⟨j, hj, rfl⟩))))
  have RA5 : Hid (∀ W, Below U.heap.size U W → Calls Try.prog 38 #[.slice p.A5 r.nc p.k5, .slice (some ⟨g, 0, none⟩) (mn + 1) (mn + 1)] W fun e w' => ∃ A' k', e = .returned (.slice A' r.nc k') ∧ w'.ownsRow U.heap.size 3 1 (.slice A' r.nc k') r.nc (intL (fun j => r.told (r.cn j)) r.nc) ∧ Below W.heap.size W w') := RA.out p.A5 r.nc p.k5 r.cn g5 ((HM.out.cn.keep hBU).more hBU.size) (fun j hj => by unfold Rw.uL; simp only [List.mem_append]; exact Or.inl (Or.inl (Or.inr (mem_lst.2 ⟨j, hj, rfl⟩))))
  have hgw : w.heap.size ≤ g := Nat.le_trans hB1.size hg2
  clear hi1 hi2 hB1 hB2 hX1 hX2 hZ1 hZ2 hR2 hg2 hb1 hb2
  refine Go.Code.wp_mono (Q := fun e a' W' => e = .normal ∧ ∃ b8 A4 k4 A5 k5', (Sz a' 96 ∧ Slot a' 1 (.pointer (some ⟨w.heap.size, 0, none⟩)) ∧ Slot a' 2 (.pointer (some ⟨w.heap.size + 1, 0, none⟩)) ∧ Slot a' 5 (.slice U5 r.ord.length k5) ∧ Slot a' 7 (.slice (some ⟨g, 0, none⟩) (mn + 1) (mn + 1)) ∧ Slot a' 8 (.pointer (some ⟨b8, 0, none⟩))) ∧ Cd U W' w.heap.size r p (fun j => r.told (r.bd j)) (fun j => r.told (r.cn j)) b8 (.slice A4 r.nb k4) (.slice A5 r.nc k5')) ?rest ?reg
  case reg =>
      refine wp_slots (fun f => Sz f 96 ∧ Slot f 1 (.pointer (some ⟨w.heap.size, 0, none⟩)) ∧ Slot f 2 (.pointer (some ⟨w.heap.size + 1, 0, none⟩)) ∧ Slot f 5 (.slice U5 r.ord.length k5) ∧ Slot f 7 (.slice (some ⟨g, 0, none⟩) (mn + 1) (mn + 1))) ⟨⟨rfl, rfl⟩, ⟨rfl⟩, ⟨rfl⟩, ⟨rfl⟩, ⟨rfl⟩⟩ fun a0 hA0 hR => ?_
      obtain ⟨hZ, hs1, hs2, hs5, hs7⟩ := hR
      clear hA0
      have hS0 : BoxC r p w.heap.size U := hb0.box
      refine wp_region_T' hU (BoxC r p w.heap.size) 14 (by kernel_rfl) ?_
      refine WT.h ?_
      (refine wt_take1 0 1 (v := ?_) rfl rfl (by kernel_rfl) (by kernel_rfl) (by kernel_rfl) (by kernel_rfl) (fun _ _ _ h => h) rfl hS0 (by (repeat (first | (refine slot_hit (N := 96) ?_ (by rfl); (repeat (refine sz_put ?_)); assumption; done) | (apply slot_miss; focus rfl))); all_goals assumption) (fun ev hk hv0 w hS => ?_) ?_; rotate_left; focus (obtain ⟨j1, j2, j3⟩ := hS; go_simp; rfl)); (refine wt_take1 1 27 (v := ?_) rfl rfl (by kernel_rfl) (by kernel_rfl) (by kernel_rfl) (by kernel_rfl) (fun _ _ _ h => h) rfl hS0 (by (repeat (first | (refine slot_hit (N := 96) ?_ (by rfl); (repeat (refine sz_put ?_)); assumption; done) | (apply slot_miss; focus rfl))); all_goals assumption) (fun ev hk hv0 w hS => ?_) ?_; rotate_left; focus (obtain ⟨j1, j2, j3⟩ := hS; go_simp; rfl)); (refine wt_take1 2 28 (v := ?_) rfl rfl (by kernel_rfl) (by kernel_rfl) (by kernel_rfl) (by kernel_rfl) (fun _ _ _ h => h) rfl hS0 (by (repeat (first | (refine slot_hit (N := 96) ?_ (by rfl); (repeat (refine sz_put ?_)); assumption; done) | (apply slot_miss; focus rfl))); all_goals assumption) (fun ev hk hv0 w hS => ?_) ?_; rotate_left; focus (obtain ⟨j1, j2, j3⟩ := hS; go_simp; rfl)); (refine wt_take1 3 1 (v := ?_) rfl rfl (by kernel_rfl) (by kernel_rfl) (by kernel_rfl) (by kernel_rfl) (fun _ _ _ h => h) rfl hS0 (by (repeat (first | (refine slot_hit (N := 96) ?_ (by rfl); (repeat (refine sz_put ?_)); assumption; done) | (apply slot_miss; focus rfl))); all_goals assumption) (fun ev hk hv0 w hS => ?_) ?_; rotate_left; focus (obtain ⟨j1, j2, j3⟩ := hS; go_simp; rfl)); (refine wt_take1 4 30 (v := ?_) rfl rfl (by kernel_rfl) (by kernel_rfl) (by kernel_rfl) (by kernel_rfl) (fun _ _ _ h => h) rfl hS0 (by (repeat (first | (refine slot_hit (N := 96) ?_ (by rfl); (repeat (refine sz_put ?_)); assumption; done) | (apply slot_miss; focus rfl))); all_goals assumption) (fun ev hk hv0 w hS => ?_) ?_; rotate_left; focus (obtain ⟨j1, j2, j3⟩ := hS; go_simp; rfl)); (refine wt_move 5 7 rfl rfl (by kernel_rfl) (by kernel_rfl) (by kernel_rfl) (by kernel_rfl) (fun _ _ _ h => h) rfl hS0 (by (repeat (first | (refine slot_hit (N := 96) ?_ (by rfl); (repeat (refine sz_put ?_)); assumption; done) | (apply slot_miss; focus rfl))); all_goals assumption) rfl ?_); (refine wt_take1 7 1 (v := ?_) rfl rfl (by kernel_rfl) (by kernel_rfl) (by kernel_rfl) (by kernel_rfl) (fun _ _ _ h => h) rfl hS0 (by (repeat (first | (refine slot_hit (N := 96) ?_ (by rfl); (repeat (refine sz_put ?_)); assumption; done) | (apply slot_miss; focus rfl))); all_goals assumption) (fun ev hk hv0 w hS => ?_) ?_; rotate_left; focus (obtain ⟨j1, j2, j3⟩ := hS; go_simp; rfl)); (refine wt_take1 8 34 (v := ?_) rfl rfl (by kernel_rfl) (by kernel_rfl) (by kernel_rfl) (by kernel_rfl) (fun _ _ _ h => h) rfl hS0 (by (repeat (first | (refine slot_hit (N := 96) ?_ (by rfl); (repeat (refine sz_put ?_)); assumption; done) | (apply slot_miss; focus rfl))); all_goals assumption) (fun ev hk hv0 w hS => ?_) ?_; rotate_left; focus (obtain ⟨j1, j2, j3⟩ := hS; go_simp; rfl)); (refine wt_move 9 7 rfl rfl (by kernel_rfl) (by kernel_rfl) (by kernel_rfl) (by kernel_rfl) (fun _ _ _ h => h) rfl hS0 (by (repeat (first | (refine slot_hit (N := 96) ?_ (by rfl); (repeat (refine sz_put ?_)); assumption; done) | (apply slot_miss; focus rfl))); all_goals assumption) rfl ?_)
      refine wt_ways2 6 12 (by kernel_rfl) ?_ ?_
      · refine wb_call2 6 31 32 rfl rfl rfl (by (repeat (first | (refine slot_hit (N := 96) ?_ (by rfl); (repeat (refine sz_put ?_)); assumption; done) | (apply slot_miss; focus rfl))); all_goals assumption) (by (repeat (first | (refine slot_hit (N := 96) ?_ (by rfl); (repeat (refine sz_put ?_)); assumption; done) | (apply slot_miss; focus rfl))); all_goals assumption) (f := ?_) (args := ?_) (fun ev hk hkf hv0 hv1 => ?_) ?_
        rotate_left 2
        focus (go_simp; first | rfl | (constructor <;> rfl))
        (with_reducible refine (RA4.out _ hb0.B).mono ?_)
        rintro e V1 ⟨A6, k6, rfl, ho1, hv1⟩
        have hb1 := hb0.c4 hv1 ho1
        refine ⟨_, rfl, fun _ => hb1.box, ?_⟩
        refine wt_ways2 10 12 (by kernel_rfl) ?_ ?_
        · refine wb_call2 10 35 36 rfl rfl rfl (by (repeat (first | (refine slot_hit (N := 96) ?_ (by rfl); (repeat (refine sz_put ?_)); assumption; done) | (apply slot_miss; focus rfl))); all_goals assumption) (by (repeat (first | (refine slot_hit (N := 96) ?_ (by rfl); (repeat (refine sz_put ?_)); assumption; done) | (apply slot_miss; focus rfl))); all_goals assumption) (f := ?_) (args := ?_) (fun ev hk hkf hv0 hv1 => ?_) ?_
          rotate_left 2
          focus (go_simp; first | rfl | (constructor <;> rfl))
          (with_reducible refine (RA5.out _ hb1.B).mono ?_)
          rintro e V2 ⟨A10, k10, rfl, ho2, hv2⟩
          have hb2 := hb1.c5 hv2 ho2
          refine ⟨_, rfl, fun _ => hb2.box, ?_⟩
          clear hS0
          have hS0 : BoxC r p w.heap.size V2 := hb2.box
          (refine wt_take3 11 29 33 37 (v := ?_) rfl rfl (by kernel_rfl) (by kernel_rfl) (by kernel_rfl) (by kernel_rfl) (fun _ _ _ h => h) rfl hS0 (by (repeat (first | (refine slot_hit (N := 96) ?_ (by rfl); (repeat (refine sz_put ?_)); assumption; done) | (apply slot_miss; focus rfl))); all_goals assumption) (by (repeat (first | (refine slot_hit (N := 96) ?_ (by rfl); (repeat (refine sz_put ?_)); assumption; done) | (apply slot_miss; focus rfl))); all_goals assumption) (by (repeat (first | (refine slot_hit (N := 96) ?_ (by rfl); (repeat (refine sz_put ?_)); assumption; done) | (apply slot_miss; focus rfl))); all_goals assumption) (fun ev hk hv0 hv1 hv2 w hS => ?_) ?_; rotate_left; focus (go_simp; rfl))
          refine wt_one 12 (by kernel_rfl) ?_
          refine wb_val 12 rfl rfl rfl (v := ?_) (w' := ?_) (fun ev hk => ?_) ?_
          rotate_left 2
          focus (go_simp; first | rfl | (constructor <;> rfl))
          intro V3 hV3
          have hb3 := hb2.al8
          unfold zc at hb3
          rw [hV3] at hb3
          clear hV3
          refine ⟨fun _ => hb3.box, ?_⟩
          obtain ⟨⟨z0, z1, z2, z3, z4⟩, f0, f1, f2, f3, f4⟩ := (hb3.h8 _ rfl).2.z5
          refine wt_one 13 (by kernel_rfl) ?_
          refine wb_act2 13 8 38 rfl rfl rfl (by (repeat (first | (refine slot_hit (N := 96) ?_ (by rfl); (repeat (refine sz_put ?_)); assumption; done) | (apply slot_miss; focus rfl))); all_goals assumption) (by (repeat (first | (refine slot_hit (N := 96) ?_ (by rfl); (repeat (refine sz_put ?_)); assumption; done) | (apply slot_miss; focus rfl))); all_goals assumption) (w' := ?_) (fun ev hk hv0 hv1 => ?_) ?_
          rotate_left
          focus (go_simp; rfl)
          intro U2 hU2
          have h3 := hb3.fin hU2
          refine ⟨fun _ => h3.box, ?_⟩
          refine wt_done (by kernel_rfl) (NoPanic.normal ⟨rfl, _, _, _, _, _, ⟨?_, ?_, ?_, ?_, ?_, ?_⟩, h3⟩) _
          · (repeat (refine sz_put ?_)); assumption
          · exact (by (repeat (first | (refine slot_hit (N := 96) ?_ (by rfl); (repeat (refine sz_put ?_)); assumption; done) | (apply slot_miss; focus rfl))); all_goals assumption)
          · exact (by (repeat (first | (refine slot_hit (N := 96) ?_ (by rfl); (repeat (refine sz_put ?_)); assumption; done) | (apply slot_miss; focus rfl))); all_goals assumption)
          · exact (by (repeat (first | (refine slot_hit (N := 96) ?_ (by rfl); (repeat (refine sz_put ?_)); assumption; done) | (apply slot_miss; focus rfl))); all_goals assumption)
          · exact (by (repeat (first | (refine slot_hit (N := 96) ?_ (by rfl); (repeat (refine sz_put ?_)); assumption; done) | (apply slot_miss; focus rfl))); all_goals assumption)
          · exact (by (repeat (first | (refine slot_hit (N := 96) ?_ (by rfl); (repeat (refine sz_put ?_)); assumption; done) | (apply slot_miss; focus rfl))); all_goals assumption)
        · refine wb_val 12 rfl rfl rfl (v := ?_) (w' := ?_) (fun ev hk => ?_) ?_
          rotate_left 2
          focus (go_simp; first | rfl | (constructor <;> rfl))
          intro V2 hV2
          have hb2 := hb1.al8
          unfold zc at hb2
          rw [hV2] at hb2
          clear hV2
          refine ⟨fun _ => hb2.box, ?_⟩
          refine wt_one 10 (by kernel_rfl) ?_
          refine wb_call2 10 35 36 rfl rfl rfl (by (repeat (first | (refine slot_hit (N := 96) ?_ (by rfl); (repeat (refine sz_put ?_)); assumption; done) | (apply slot_miss; focus rfl))); all_goals assumption) (by (repeat (first | (refine slot_hit (N := 96) ?_ (by rfl); (repeat (refine sz_put ?_)); assumption; done) | (apply slot_miss; focus rfl))); all_goals assumption) (f := ?_) (args := ?_) (fun ev hk hkf hv0 hv1 => ?_) ?_
          rotate_left 2
          focus (go_simp; first | rfl | (constructor <;> rfl))
          (with_reducible refine (RA5.out _ hb2.B).mono ?_)
          rintro e V3 ⟨A10, k10, rfl, ho3, hv3⟩
          have hb3 := hb2.c5 hv3 ho3
          refine ⟨_, rfl, fun _ => hb3.box, ?_⟩
          clear hS0
          have hS0 : BoxC r p w.heap.size V3 := hb3.box
          (refine wt_take3 11 29 33 37 (v := ?_) rfl rfl (by kernel_rfl) (by kernel_rfl) (by kernel_rfl) (by kernel_rfl) (fun _ _ _ h => h) rfl hS0 (by (repeat (first | (refine slot_hit (N := 96) ?_ (by rfl); (repeat (refine sz_put ?_)); assumption; done) | (apply slot_miss; focus rfl))); all_goals assumption) (by (repeat (first | (refine slot_hit (N := 96) ?_ (by rfl); (repeat (refine sz_put ?_)); assumption; done) | (apply slot_miss; focus rfl))); all_goals assumption) (by (repeat (first | (refine slot_hit (N := 96) ?_ (by rfl); (repeat (refine sz_put ?_)); assumption; done) | (apply slot_miss; focus rfl))); all_goals assumption) (fun ev hk hv0 hv1 hv2 w hS => ?_) ?_; rotate_left; focus (go_simp; rfl))
          obtain ⟨⟨z0, z1, z2, z3, z4⟩, f0, f1, f2, f3, f4⟩ := (hb3.h8 _ rfl).2.z5
          refine wt_one 13 (by kernel_rfl) ?_
          refine wb_act2 13 8 38 rfl rfl rfl (by (repeat (first | (refine slot_hit (N := 96) ?_ (by rfl); (repeat (refine sz_put ?_)); assumption; done) | (apply slot_miss; focus rfl))); all_goals assumption) (by (repeat (first | (refine slot_hit (N := 96) ?_ (by rfl); (repeat (refine sz_put ?_)); assumption; done) | (apply slot_miss; focus rfl))); all_goals assumption) (w' := ?_) (fun ev hk hv0 hv1 => ?_) ?_
          rotate_left
          focus (go_simp; rfl)
          intro U2 hU2
          have h3 := hb3.fin hU2
          refine ⟨fun _ => h3.box, ?_⟩
          refine wt_done (by kernel_rfl) (NoPanic.normal ⟨rfl, _, _, _, _, _, ⟨?_, ?_, ?_, ?_, ?_, ?_⟩, h3⟩) _
          · (repeat (refine sz_put ?_)); assumption
          · exact (by (repeat (first | (refine slot_hit (N := 96) ?_ (by rfl); (repeat (refine sz_put ?_)); assumption; done) | (apply slot_miss; focus rfl))); all_goals assumption)
          · exact (by (repeat (first | (refine slot_hit (N := 96) ?_ (by rfl); (repeat (refine sz_put ?_)); assumption; done) | (apply slot_miss; focus rfl))); all_goals assumption)
          · exact (by (repeat (first | (refine slot_hit (N := 96) ?_ (by rfl); (repeat (refine sz_put ?_)); assumption; done) | (apply slot_miss; focus rfl))); all_goals assumption)
          · exact (by (repeat (first | (refine slot_hit (N := 96) ?_ (by rfl); (repeat (refine sz_put ?_)); assumption; done) | (apply slot_miss; focus rfl))); all_goals assumption)
          · exact (by (repeat (first | (refine slot_hit (N := 96) ?_ (by rfl); (repeat (refine sz_put ?_)); assumption; done) | (apply slot_miss; focus rfl))); all_goals assumption)
      · refine wb_val 12 rfl rfl rfl (v := ?_) (w' := ?_) (fun ev hk => ?_) ?_
        rotate_left 2
        focus (go_simp; first | rfl | (constructor <;> rfl))
        intro V1 hV1
        have hb1 := hb0.al8
        unfold zc at hb1
        rw [hV1] at hb1
        clear hV1
        refine ⟨fun _ => hb1.box, ?_⟩
        refine wt_one 6 (by kernel_rfl) ?_
        refine wb_call2 6 31 32 rfl rfl rfl (by (repeat (first | (refine slot_hit (N := 96) ?_ (by rfl); (repeat (refine sz_put ?_)); assumption; done) | (apply slot_miss; focus rfl))); all_goals assumption) (by (repeat (first | (refine slot_hit (N := 96) ?_ (by rfl); (repeat (refine sz_put ?_)); assumption; done) | (apply slot_miss; focus rfl))); all_goals assumption) (f := ?_) (args := ?_) (fun ev hk hkf hv0 hv1 => ?_) ?_
        rotate_left 2
        focus (go_simp; first | rfl | (constructor <;> rfl))
        (with_reducible refine (RA4.out _ hb1.B).mono ?_)
        rintro e V2 ⟨A6, k6, rfl, ho2, hv2⟩
        have hb2 := hb1.c4 hv2 ho2
        refine ⟨_, rfl, fun _ => hb2.box, ?_⟩
        refine wt_one 10 (by kernel_rfl) ?_
        refine wb_call2 10 35 36 rfl rfl rfl (by (repeat (first | (refine slot_hit (N := 96) ?_ (by rfl); (repeat (refine sz_put ?_)); assumption; done) | (apply slot_miss; focus rfl))); all_goals assumption) (by (repeat (first | (refine slot_hit (N := 96) ?_ (by rfl); (repeat (refine sz_put ?_)); assumption; done) | (apply slot_miss; focus rfl))); all_goals assumption) (f := ?_) (args := ?_) (fun ev hk hkf hv0 hv1 => ?_) ?_
        rotate_left 2
        focus (go_simp; first | rfl | (constructor <;> rfl))
        (with_reducible refine (RA5.out _ hb2.B).mono ?_)
        rintro e V3 ⟨A10, k10, rfl, ho3, hv3⟩
        have hb3 := hb2.c5 hv3 ho3
        refine ⟨_, rfl, fun _ => hb3.box, ?_⟩
        clear hS0
        have hS0 : BoxC r p w.heap.size V3 := hb3.box
        (refine wt_take3 11 29 33 37 (v := ?_) rfl rfl (by kernel_rfl) (by kernel_rfl) (by kernel_rfl) (by kernel_rfl) (fun _ _ _ h => h) rfl hS0 (by (repeat (first | (refine slot_hit (N := 96) ?_ (by rfl); (repeat (refine sz_put ?_)); assumption; done) | (apply slot_miss; focus rfl))); all_goals assumption) (by (repeat (first | (refine slot_hit (N := 96) ?_ (by rfl); (repeat (refine sz_put ?_)); assumption; done) | (apply slot_miss; focus rfl))); all_goals assumption) (by (repeat (first | (refine slot_hit (N := 96) ?_ (by rfl); (repeat (refine sz_put ?_)); assumption; done) | (apply slot_miss; focus rfl))); all_goals assumption) (fun ev hk hv0 hv1 hv2 w hS => ?_) ?_; rotate_left; focus (go_simp; rfl))
        obtain ⟨⟨z0, z1, z2, z3, z4⟩, f0, f1, f2, f3, f4⟩ := (hb3.h8 _ rfl).2.z5
        refine wt_one 13 (by kernel_rfl) ?_
        refine wb_act2 13 8 38 rfl rfl rfl (by (repeat (first | (refine slot_hit (N := 96) ?_ (by rfl); (repeat (refine sz_put ?_)); assumption; done) | (apply slot_miss; focus rfl))); all_goals assumption) (by (repeat (first | (refine slot_hit (N := 96) ?_ (by rfl); (repeat (refine sz_put ?_)); assumption; done) | (apply slot_miss; focus rfl))); all_goals assumption) (w' := ?_) (fun ev hk hv0 hv1 => ?_) ?_
        rotate_left
        focus (go_simp; rfl)
        intro U2 hU2
        have h3 := hb3.fin hU2
        refine ⟨fun _ => h3.box, ?_⟩
        refine wt_done (by kernel_rfl) (NoPanic.normal ⟨rfl, _, _, _, _, _, ⟨?_, ?_, ?_, ?_, ?_, ?_⟩, h3⟩) _
        · (repeat (refine sz_put ?_)); assumption
        · exact (by (repeat (first | (refine slot_hit (N := 96) ?_ (by rfl); (repeat (refine sz_put ?_)); assumption; done) | (apply slot_miss; focus rfl))); all_goals assumption)
        · exact (by (repeat (first | (refine slot_hit (N := 96) ?_ (by rfl); (repeat (refine sz_put ?_)); assumption; done) | (apply slot_miss; focus rfl))); all_goals assumption)
        · exact (by (repeat (first | (refine slot_hit (N := 96) ?_ (by rfl); (repeat (refine sz_put ?_)); assumption; done) | (apply slot_miss; focus rfl))); all_goals assumption)
        · exact (by (repeat (first | (refine slot_hit (N := 96) ?_ (by rfl); (repeat (refine sz_put ?_)); assumption; done) | (apply slot_miss; focus rfl))); all_goals assumption)
        · exact (by (repeat (first | (refine slot_hit (N := 96) ?_ (by rfl); (repeat (refine sz_put ?_)); assumption; done) | (apply slot_miss; focus rfl))); all_goals assumption)
  case rest =>
    rintro e a' W3 ⟨rfl, b8, A4, k4, A5, k5', ⟨hZ, hs1, hs2, hs5, hs7, hs8⟩, hX3⟩
    refine q_known hZ [(1, .pointer (some ⟨w.heap.size, 0, none⟩)), (2, .pointer (some ⟨w.heap.size + 1, 0, none⟩)), (5, .slice U5 r.ord.length k5), (7, .slice (some ⟨g, 0, none⟩) (mn + 1) (mn + 1)), (8, .pointer (some ⟨b8, 0, none⟩))] ⟨hs1, hs2, hs5, hs7, hs8, trivial⟩ fun fv fl hfl => ?_
    obtain rfl : fl = [fv 0, ((.pointer (some ⟨w.heap.size, 0, none⟩)) : Value), ((.pointer (some ⟨w.heap.size + 1, 0, none⟩)) : Value), fv 3, fv 4, ((.slice U5 r.ord.length k5) : Value), fv 6, ((.slice (some ⟨g, 0, none⟩) (mn + 1) (mn + 1)) : Value), ((.pointer (some ⟨b8, 0, none⟩)) : Value), fv 9, fv 10, fv 11, fv 12, fv 13, fv 14, fv 15, fv 16, fv 17, fv 18, fv 19, fv 20, fv 21, fv 22, fv 23, fv 24, fv 25, fv 26, fv 27, fv 28, fv 29, fv 30, fv 31, fv 32, fv 33, fv 34, fv 35, fv 36, fv 37, fv 38, fv 39, fv 40, fv 41, fv 42, fv 43, fv 44, fv 45, fv 46, fv 47, fv 48, fv 49, fv 50, fv 51, fv 52, fv 53, fv 54, fv 55, fv 56, fv 57, fv 58, fv 59, fv 60, fv 61, fv 62, fv 63, fv 64, fv 65, fv 66, fv 67, fv 68, fv 69, fv 70, fv 71, fv 72, fv 73, fv 74, fv 75, fv 76, fv 77, fv 78, fv 79, fv 80, fv 81, fv 82, fv 83, fv 84, fv 85, fv 86, fv 87, fv 88, fv 89, fv 90, fv 91, fv 92, fv 93, fv 94, fv 95] := hfl.symm.trans (by kernel_rfl)
    clear hfl hZ hs1 hs2 hs5 hs7 hs8
    have hb8l := hX3.h8.lt
    have hol : r.ord.length ≤ r.na := Rw.ord_len
    have hl8 := hX3.l8
    have hwU := hX3.xl
    have hgU := hRU.lt
    have hBW : Below w.heap.size w W3 := Below.step hBU hBU.size hX3.B
    have hR3 : W3.rowIs g 3 (mn + 1) (fun v => .int .i64 (r.nw v)) := hRU.of_block (hX3.B.block g hgU)
    have hi3 : IntsAt W3 W3.heap.size U5 r.ord.length (fun j => (nL r.ord).getD j 0) := (hiU.keep hX3.B).more hX3.B.size
    have hd3 : ∀ a, U5 = some a → 0 < r.ord.length → a.block < U.heap.size := fun a e hn => by obtain ⟨a', e', hl, _⟩ := hiU hn; rw [e] at e'; cases e'; exact hl
    have hx2 : W3.cell? ⟨w.heap.size, 2, none⟩ = some (.slice p.A2 r.nl p.k2) := hX3.x.cell 2
    have RN : Hid (∀ (x : Int), x ∈ r.uL → ∀ W, W.rowIs g 3 (mn + 1) (fun v => .int .i64 (r.nw v)) → Calls Try.prog 39 #[.int .i64 x, .slice (some ⟨g, 0, none⟩) (mn + 1) (mn + 1)] W fun e w' => e = .returned (.int .i64 (r.told x)) ∧ W = w') := fun x hx W hW => by
      have hu := Rw.used_nw HK.out hx
      have hmn := HMN.out
      have ec : (((x / 2).toNat : Nat) : Int) = x / 2 := by omega
      have hI : IntsAt W W.heap.size (some ⟨g, 0, none⟩) (mn + 1) (fun v => r.nw (v : Int)) := fun _ => ⟨_, rfl, hW.lt, fun j hj => by
        have e : (⟨g, 0, none⟩ : Addr).add j = ⟨g, j, none⟩ := by unfold Addr.add; split <;> simp_all
        rw [e, hW.cell hj]⟩
      have h := renamed_any (some ⟨g, 0, none⟩) (mn + 1) (mn + 1) (fun v => r.nw (v : Int)) x W.heap.size W hI (by omega) (by omega) (by omega) (by show 0 ≤ r.nw (((x / 2).toNat : Nat) : Int) ∧ r.nw (((x / 2).toNat : Nat) : Int) ≤ 1000; rw [ec]; omega)
      have e2 : 2 * (fun v : Nat => r.nw (v : Int)) (x / 2).toNat + x % 2 = r.told x := by
        show 2 * r.nw (((x / 2).toNat : Nat) : Int) + x % 2 = _
        rw [ec]; rfl
      rw [e2] at h
      exact h
    obtain ⟨i1, hi1, hzz1, hs1, hy1⟩ := info_parts info_latch
    obtain ⟨i2, hi2, hzz2, hs2, hy2⟩ := info_parts info_and
    clear RA RA4 RA5 hNU hiU hb0 V0 G0
    go_wp2
    go_loopw [42] (fun i wr => ∃ q : Nat, ∃ v, q ≤ r.nl ∧ i = .int .i64 q ∧ wr.ownsRow W3.heap.size 35 2 v q (pairL (fun j => r.told (r.la j)) r.lb q) ∧ Has wr b8 26 #[.int .i64 r.ni, v, .slice none 0 0, .slice A4 r.nb k4, .slice A5 r.nc k5'] ∧ Below w.heap.size w wr ∧ Kept W3 wr b8) (fun i _ => r.nl - (intOf i).toNat)
    case atStart => exact ⟨0, _, Nat.zero_le _, rfl, World.ownsRow_nil _ _ _ _, hX3.h8, hBW, Kept.refl _ _⟩
    case round =>
      obtain ⟨q, v, hq, rfl, hown, hX, hBr, hK2⟩ := hrel
      have hks := hK2.s
      have hRr : wr.rowIs g 3 (mn + 1) (fun v => .int .i64 (r.nw v)) := hR3.of_block (hK2.k g (by omega) (by omega))
      by_cases hlt : q < r.nl
      · obtain ⟨a, hA, hab, hcs⟩ := (HM.out.la.keep hBr) (by omega)
        obtain ⟨y0, y1, y2⟩ := hcs q hlt
        have i1' : (0 : Int) ≤ (q : Int) := by omega
        have i2' : (q : Int) < (r.nl : Int) := by omega
        have hmem : r.la q ∈ r.uL := by unfold Rw.uL; simp only [List.mem_append]; exact Or.inl (Or.inr (mem_lst.2 ⟨q, hlt, rfl⟩))
        have D := Lib.hid (fun W hW => RN.out (r.la q) hmem W hW)
        obtain ⟨z, hz⟩ : ∃ z, r.told (r.la q) = z := ⟨_, rfl⟩
        have HZ := Lib.hid hz
        obtain ⟨ll, hll⟩ : ∃ z, r.ll q = z := ⟨_, rfl⟩
        obtain ⟨la, hla⟩ : ∃ z, r.la q = z := ⟨_, rfl⟩
        obtain ⟨lb, hlb⟩ : ∃ z, r.lb q = z := ⟨_, rfl⟩
        have HLB := Lib.hid hlb
        rw [hz] at D
        rw [hla] at D
        rw [hll] at y0
        rw [hla] at y1
        rw [hlb] at y2
        have hX1 := hX.al (.cells #[.int .i64 ll, .int .i64 la, .int .i64 lb] 41)
        have hL1 := Has.new wr 41 #[.int .i64 ll, .int .i64 la, .int .i64 lb]
        have hR1 : (wr.alloc (.cells #[.int .i64 ll, .int .i64 la, .int .i64 lb] 41)).drew.rowIs g 3 (mn + 1) (fun v => .int .i64 (r.nw v)) := (hRr.alloc _).drew
        rw [hA]
        clear hcs hA hz hll hla hlb hmem
        go_wp2
        have hS0 : (fun w' : World => w'.cell? ⟨b8, 1, none⟩ = some v ∧ w'.cell? ⟨wr.heap.size, 1, none⟩ = some (.int .i64 la) ∧ w'.cell? ⟨wr.heap.size, 2, none⟩ = some (.int .i64 lb)) (wr.alloc (.cells #[.int .i64 ll, .int .i64 la, .int .i64 lb] 41)).drew := ⟨hX1.cell 1, hL1.cell 1, hL1.cell 2⟩
        refine wp_slots (fun f => Sz f 96 ∧ Slot f 7 (.slice (some ⟨g, 0, none⟩) (mn + 1) (mn + 1)) ∧ Slot f 8 (.pointer (some ⟨b8, 0, none⟩)) ∧ Slot f 10 (.pointer (some ⟨wr.heap.size, 0, none⟩))) ⟨⟨rfl, rfl⟩, ⟨rfl⟩, ⟨rfl⟩, ⟨rfl⟩⟩ fun a0 hA0 hR => ?_
        obtain ⟨hZ, hs7, hs8, hs10⟩ := hR
        have HA := Lib.hid hA0
        clear hA0
        refine wp_region_T (fun w' : World => w'.cell? ⟨b8, 1, none⟩ = some v ∧ w'.cell? ⟨wr.heap.size, 1, none⟩ = some (.int .i64 la) ∧ w'.cell? ⟨wr.heap.size, 2, none⟩ = some (.int .i64 lb)) 12 (by kernel_rfl) ?_
        refine WT.h ?_
        (refine wt_take1 0 8 (v := ?_) rfl rfl (by kernel_rfl) (by kernel_rfl) (by kernel_rfl) (by kernel_rfl) (fun _ _ _ h => h) rfl hS0 (by (repeat (first | (refine slot_hit (N := 96) ?_ (by rfl); (repeat (refine sz_put ?_)); assumption; done) | (apply slot_miss; focus rfl))); all_goals assumption) (fun ev hk hv0 w hS => ?_) ?_; rotate_left; focus (obtain ⟨j1, j2, j3⟩ := hS; go_simp; rfl)); (refine wt_take1 1 46 (v := ?_) rfl rfl (by kernel_rfl) (by kernel_rfl) (by kernel_rfl) (by kernel_rfl) (fun _ _ _ h => h) rfl hS0 (by (repeat (first | (refine slot_hit (N := 96) ?_ (by rfl); (repeat (refine sz_put ?_)); assumption; done) | (apply slot_miss; focus rfl))); all_goals assumption) (fun ev hk hv0 w hS => ?_) ?_; rotate_left; focus (obtain ⟨j1, j2, j3⟩ := hS; go_simp; rfl)); (refine wt_take1 2 10 (v := ?_) rfl rfl (by kernel_rfl) (by kernel_rfl) (by kernel_rfl) (by kernel_rfl) (fun _ _ _ h => h) rfl hS0 (by (repeat (first | (refine slot_hit (N := 96) ?_ (by rfl); (repeat (refine sz_put ?_)); assumption; done) | (apply slot_miss; focus rfl))); all_goals assumption) (fun ev hk hv0 w hS => ?_) ?_; rotate_left; focus (obtain ⟨j1, j2, j3⟩ := hS; go_simp; rfl)); (refine wt_take1 3 48 (v := ?_) rfl rfl (by kernel_rfl) (by kernel_rfl) (by kernel_rfl) (by kernel_rfl) (fun _ _ _ h => h) rfl hS0 (by (repeat (first | (refine slot_hit (N := 96) ?_ (by rfl); (repeat (refine sz_put ?_)); assumption; done) | (apply slot_miss; focus rfl))); all_goals assumption) (fun ev hk hv0 w hS => ?_) ?_; rotate_left; focus (obtain ⟨j1, j2, j3⟩ := hS; go_simp; rfl)); (refine wt_move 4 7 rfl rfl (by kernel_rfl) (by kernel_rfl) (by kernel_rfl) (by kernel_rfl) (fun _ _ _ h => h) rfl hS0 (by (repeat (first | (refine slot_hit (N := 96) ?_ (by rfl); (repeat (refine sz_put ?_)); assumption; done) | (apply slot_miss; focus rfl))); all_goals assumption) rfl ?_); (refine wt_take1 6 10 (v := ?_) rfl rfl (by kernel_rfl) (by kernel_rfl) (by kernel_rfl) (by kernel_rfl) (fun _ _ _ h => h) rfl hS0 (by (repeat (first | (refine slot_hit (N := 96) ?_ (by rfl); (repeat (refine sz_put ?_)); assumption; done) | (apply slot_miss; focus rfl))); all_goals assumption) (fun ev hk hv0 w hS => ?_) ?_; rotate_left; focus (obtain ⟨j1, j2, j3⟩ := hS; go_simp; rfl)); (refine wt_take1 7 52 (v := ?_) rfl rfl (by kernel_rfl) (by kernel_rfl) (by kernel_rfl) (by kernel_rfl) (fun _ _ _ h => h) rfl hS0 (by (repeat (first | (refine slot_hit (N := 96) ?_ (by rfl); (repeat (refine sz_put ?_)); assumption; done) | (apply slot_miss; focus rfl))); all_goals assumption) (fun ev hk hv0 w hS => ?_) ?_; rotate_left; focus (obtain ⟨j1, j2, j3⟩ := hS; go_simp; rfl))
        refine wt_call2 5 49 50 (by kernel_rfl) rfl rfl rfl (by (repeat (first | (refine slot_hit (N := 96) ?_ (by rfl); (repeat (refine sz_put ?_)); assumption; done) | (apply slot_miss; focus rfl))); all_goals assumption) (by (repeat (first | (refine slot_hit (N := 96) ?_ (by rfl); (repeat (refine sz_put ?_)); assumption; done) | (apply slot_miss; focus rfl))); all_goals assumption) (f := ?_) (args := ?_) (fun ev hk hkf hv0 hv1 => ?_) ?_; rotate_left 2; focus (go_simp; first | rfl | (constructor <;> rfl))
        (with_reducible refine (D.out _ hR1).mono ?_)
        rintro e w6 ⟨rfl, rfl⟩
        refine ⟨_, rfl, fun _ => hS0, ?_⟩
        (refine wt_take2 8 51 53 (v := ?_) rfl rfl (by kernel_rfl) (by kernel_rfl) (by kernel_rfl) (by kernel_rfl) (fun _ _ _ h => h) rfl hS0 (by (repeat (first | (refine slot_hit (N := 96) ?_ (by rfl); (repeat (refine sz_put ?_)); assumption; done) | (apply slot_miss; focus rfl))); all_goals assumption) (by (repeat (first | (refine slot_hit (N := 96) ?_ (by rfl); (repeat (refine sz_put ?_)); assumption; done) | (apply slot_miss; focus rfl))); all_goals assumption) (fun ev hk hv0 hv1 w hS => ?_) ?_; rotate_left; focus (obtain ⟨j1, j2, j3⟩ := hS; go_simp; rfl))
        refine wt_val1 9 54 (by kernel_rfl) rfl rfl rfl (by (repeat (first | (refine slot_hit (N := 96) ?_ (by rfl); (repeat (refine sz_put ?_)); assumption; done) | (apply slot_miss; focus rfl))); all_goals assumption) (v := ?_) (w' := ?_) (fun ev hk hv0 => ?_) ?_; rotate_left 2; focus (go_simp; first | rfl | (constructor <;> rfl))
        refine ⟨fun _ => ⟨ca hS0.1 _, ca hS0.2.1 _, ca hS0.2.2 _⟩, ?_⟩
        refine wt_one 10 (by kernel_rfl) (wpOp_go rfl rfl fun K hK => ?_)
        refine wp_append_lies _ (.tmp 47) (.tmp 55) _ (by rfl) W3.heap.size 35 i1 _ 2 16 Try.underlying22 hi1 hzz1 hs1 hy1 rfl (by omega) v q (pairL (fun j => r.told (r.la j)) r.lb q) (Slot.eval (by (repeat (first | (refine slot_hit (N := 96) ?_ (by rfl); (repeat (refine sz_put ?_)); assumption; done) | (apply slot_miss; focus rfl))); all_goals assumption)) (((hown.alloc _).alloc _).drew) ⟨wr.heap.size + 1, 0, none⟩ 1 1 [.int .i64 z, .int .i64 lb] (Slot.eval (by (repeat (first | (refine slot_hit (N := 96) ?_ (by rfl); (repeat (refine sz_put ?_)); assumption; done) | (apply slot_miss; focus rfl))); all_goals assumption)) (by rfl) (World.news_of_block (cs := #[.int .i64 z, .int .i64 lb]) (t := 35) (fr := (0, 0)) (Has.new' _ _ (by simp))) (by simp [Value.oneCell']) (by omega) (by simp only [maxLen]; omega) (by omega) (by simp; omega) (wr.heap.size + 2) (by simp) ?_
        intro gg cap w8 hown' hgrow hat hlt8
        have hgrow := grown_undrew hgrow
        have hX8 := app_has hX1 (hown.alloc _) hgrow (by omega)
        have hL8 := (hL1.al (.cells #[.int .i64 z, .int .i64 lb] 35)).keepg hgrow (fun hh => own_old hown hh)
        have y8 : w8.cell? ⟨b8, 1, none⟩ = some v := hX8.cell 1
        have yf8 : w8.frozen? ⟨b8, 1, none⟩ = false := hX8.fz 1
        have hS8 : w8.cell? ⟨b8, 1, none⟩ = some v ∧ w8.cell? ⟨wr.heap.size, 1, none⟩ = some (.int .i64 la) ∧ w8.cell? ⟨wr.heap.size, 2, none⟩ = some (.int .i64 lb) := ⟨y8, hL8.cell 1, hL8.cell 2⟩
        refine hK _ _ ⟨fun _ => hS8, ?_⟩
        clear hS0
        have hS0 := hS8
        (refine wt_take1 11 8 (v := ?_) rfl rfl (by kernel_rfl) (by kernel_rfl) (by kernel_rfl) (by kernel_rfl) (fun _ _ _ h => h) rfl hS0 (by (repeat (first | (refine slot_hit (N := 96) ?_ (by rfl); (repeat (refine sz_put ?_)); assumption; done) | (apply slot_miss; focus rfl))); all_goals assumption) (fun ev hk hv0 w hS => ?_) ?_; rotate_left; focus (go_simp; rfl))
        refine wt_one 12 (by kernel_rfl) ?_
        refine wb_act2 12 57 56 rfl rfl rfl (by (repeat (first | (refine slot_hit (N := 96) ?_ (by rfl); (repeat (refine sz_put ?_)); assumption; done) | (apply slot_miss; focus rfl))); all_goals assumption) (by (repeat (first | (refine slot_hit (N := 96) ?_ (by rfl); (repeat (refine sz_put ?_)); assumption; done) | (apply slot_miss; focus rfl))); all_goals assumption) (w' := ?_) (fun ev hk hv0 hv1 => ?_) ?_
        rotate_left
        focus (go_simp; rfl)
        intro w9 hw9
        refine ⟨fun h => absurd h (by decide), ?_⟩
        refine wt_done (by kernel_rfl) (NoPanic.normal ?_) _
        have hrel9 : w9.ownsRow W3.heap.size 35 2 (.slice (some ⟨gg, 0, none⟩) (q + 1) cap) (q + 1) (pairL (fun j => r.told (r.la j)) r.lb (q + 1)) ∧ Has w9 b8 26 #[.int .i64 r.ni, .slice (some ⟨gg, 0, none⟩) (q + 1) cap, .slice none 0 0, .slice A4 r.nb k4, .slice A5 r.nc k5'] ∧ Below w.heap.size w w9 ∧ Kept W3 w9 b8 := by
          subst hw9
          have ho := hown'
          rw [← HZ.out, ← HLB.out] at ho
          exact ⟨own_set ho (by omega), hX8.set 1 _, (app_below (hBr.alloc hBr.size _) (by simp; omega) (by omega) (hown.alloc _) hgrow).setCell (by show w.heap.size ≤ b8; omega) _, hK2.round2 hown hgrow⟩
        have HR9 := Lib.hid hrel9
        have ha := HA.out
        subst ha
        clear hS0 hS8 y8 yf8 hX8 hL8 hw9 hrel9 hZ hs7 hs8 hs10 hown' hgrow hX1 hL1 hR1 D
        go_wp2
        go_roundw
        case rel => exact ⟨q + 1, _, by omega, by go_num, HR9.out.1, HR9.out.2.1, HR9.out.2.2.1, HR9.out.2.2.2⟩
        case measure => simp [intOf]; omega
      · obtain rfl : q = r.nl := by omega
        clear hlt hq
        obtain ⟨A1, k1, rfl, hp1, hn1⟩ := own_pairs' hown
        obtain ⟨W5, hW5⟩ : ∃ W5, W5 = wr := ⟨_, rfl⟩
        subst hW5
        have hR5 := hRr
        go_wp2
        go_loopw [61] (fun i wr => ∃ t : Nat, ∃ v, t ≤ r.ord.length ∧ i = .int .i64 t ∧ wr.ownsRow W5.heap.size 37 2 v t (pairL r.cir.ga r.cir.gb t) ∧ Has wr b8 26 #[.int .i64 r.ni, .slice A1 r.nl k1, v, .slice A4 r.nb k4, .slice A5 r.nc k5'] ∧ Below w.heap.size w wr ∧ Kept W5 wr b8) (fun i _ => r.ord.length - (intOf i).toNat)
        case atStart => exact ⟨0, _, Nat.zero_le _, rfl, World.ownsRow_nil _ _ _ _, hX, hBr, Kept.refl _ _⟩
        case round =>
          obtain ⟨t, v, ht, rfl, hown2, hX2, hBr2, hK5⟩ := hrel
          have hks5 := hK5.s
          have hRr2 : wr.rowIs g 3 (mn + 1) (fun v => .int .i64 (r.nw v)) := hR5.of_block (hK5.k g (by omega) (by omega))
          have hHr : Has wr w.heap.size 32 (rc r p) := ((hK5.k w.heap.size (by omega) (by omega)).trans (hK2.k w.heap.size (by omega) (by omega))).trans hX3.x
          obtain ⟨x0, x1, x2, x3, x4, x5⟩ := hHr.rbox
          by_cases htl : t < r.ord.length
          · have hdd : ∀ a, U5 = some a → a.block ≠ b8 := fun a e => by have := hd3 a e (by omega); omega
            obtain ⟨u, hUu, hub, huc⟩ := (hK5.ints (hK2.ints hi3 hdd) hdd) (by omega)
            obtain ⟨n, hn⟩ : ∃ n, Hid (n = r.ord.getD t 0) := ⟨_, Lib.hid rfl⟩
            have hna : n < r.na := by rw [hn.out]; exact Rw.ord_at htl
            have v0 : wr.cell? (u.add t) = some (.int .i64 (n : Int)) := by
              rw [huc t htl, hn.out]
              simp [nL, List.getD_eq_getElem?_getD, List.getElem?_eq_getElem htl]
            obtain ⟨a, hA, hab, hcs⟩ := (HM.out.an.keep hBr2) (by omega)
            obtain ⟨y0, y1, y2⟩ := hcs n hna
            have j1 : (0 : Int) ≤ (t : Int) := by omega
            have j2 : (t : Int) < (r.ord.length : Int) := by omega
            have j3 : (0 : Int) ≤ (n : Int) := by omega
            have j4 : (n : Int) < (r.na : Int) := by omega
            have hm1 : r.ga n ∈ r.uL := by unfold Rw.uL; simp only [List.mem_append]; exact Or.inr (mem_twos.2 ⟨n, hna, Or.inl rfl⟩)
            have hm2 : r.gb n ∈ r.uL := by unfold Rw.uL; simp only [List.mem_append]; exact Or.inr (mem_twos.2 ⟨n, hna, Or.inr rfl⟩)
            have D1 : Hid (∀ m, Calls Try.prog 39 #[.int .i64 (r.ga n), .slice (some ⟨g, 0, none⟩) (mn + 1) (mn + 1)] (wr.drewN m) fun e w' => e = .returned (.int .i64 (r.told (r.ga n))) ∧ wr.drewN m = w') := fun m => RN.out (r.ga n) hm1 (wr.drewN m) hRr2
            have D2 : Hid (∀ m, Calls Try.prog 39 #[.int .i64 (r.gb n), .slice (some ⟨g, 0, none⟩) (mn + 1) (mn + 1)] (wr.drewN m) fun e w' => e = .returned (.int .i64 (r.told (r.gb n))) ∧ wr.drewN m = w') := fun m => RN.out (r.gb n) hm2 (wr.drewN m) hRr2
            have hga : r.cir.ga t = max (r.told (r.ga n)) (r.told (r.gb n)) := by rw [hn.out]; rfl
            have hgb : r.cir.gb t = min (r.told (r.ga n)) (r.told (r.gb n)) := by rw [hn.out]; rfl
            obtain ⟨z1, hz1⟩ : ∃ z, r.told (r.ga n) = z := ⟨_, rfl⟩
            obtain ⟨z2, hz2⟩ : ∃ z, r.told (r.gb n) = z := ⟨_, rfl⟩
            obtain ⟨xa, hxa⟩ : ∃ z, r.ga n = z := ⟨_, rfl⟩
            obtain ⟨xb, hxb⟩ : ∃ z, r.gb n = z := ⟨_, rfl⟩
            rw [hz1] at D1 hga hgb
            rw [hz2] at D2 hga hgb
            rw [hxa] at D1 y1
            rw [hxb] at D2 y2
            have HG := Lib.hid (And.intro hga hgb)
            rw [hA] at x3
            subst hUu
            clear huc hcs hA hm1 hm2 hga hgb hz1 hz2 hxa hxb y0
            go_wp2
            go_quiet (first | (go_at_call 39; with_reducible exact qs (D1.out _)) | (go_at_call 39; with_reducible exact qs (D2.out _)))
            generalize hW6 : wr.drewN nq = W6
            have hown3 : W6.ownsRow W5.heap.size 37 2 v t (pairL r.cir.ga r.cir.gb t) := hW6 ▸ (show (wr.drewN nq).ownsRow W5.heap.size 37 2 v t (pairL r.cir.ga r.cir.gb t) from hown2)
            have hX6 : Has W6 b8 26 #[.int .i64 r.ni, .slice A1 r.nl k1, v, .slice A4 r.nb k4, .slice A5 r.nc k5'] := hW6 ▸ (show Has (wr.drewN nq) b8 26 #[.int .i64 r.ni, .slice A1 r.nl k1, v, .slice A4 r.nb k4, .slice A5 r.nc k5'] from hX2)
            have hBr6 : Below w.heap.size w W6 := hW6 ▸ below_dn hBr2 nq
            have hK6 : Kept W5 W6 b8 := hW6 ▸ ⟨hK5.s, hK5.k⟩
            have hks6 := hK6.s
            clear hW6 hown2 hX2 hBr2 hK5 hks5 hRr2 hHr D1 D2 x0 x1 x2 x3 x4 x5 y1 y2 v0
            have q2 : W6.cell? ⟨b8, 2, none⟩ = some v := hX6.cell 2
            have q2a : ∀ o : Obj, (W6.alloc o).cell? ⟨b8, 2, none⟩ = some v := ca q2
            go_wp2_with (at_builtin; (refine append_more rfl (.tmp 82) (.tmp 90) _ rfl W5.heap.size 37 i2 _ 2 16 Try.underlying23 hi2 hzz2 hs2 hy2 rfl (by decide) v t (pairL r.cir.ga r.cir.gb t) rfl (hown3.alloc _) (some ⟨W6.heap.size, 0, none⟩) 1 1 [.int .i64 (max z1 z2), .int .i64 (min z1 z2)] rfl rfl (Or.inr ⟨_, rfl, World.news_of_block (cs := #[.int .i64 (max z1 z2), .int .i64 (min z1 z2)]) (t := 37) (fr := (0, 0)) (Has.new' _ _ rfl)⟩) (by simp [Value.oneCell']) (by simp only [maxLen]; omega) (by omega) (by simp; omega) ?_); intro v' w8 ho8 hg8; obtain ⟨g8, k8, hv8⟩ := slice_succ ho8; subst hv8; have hX8 := app_has hX6 hown3 hg8 (by omega); have hB8 := app_below hBr6 hBr6.size (by omega) hown3 hg8; have HK8 := Lib.hid (hK6.round (j := 2) (u := .slice (some ⟨g8, 0, none⟩) (t + 1) k8) hown3 hg8); have y8 : w8.cell? ⟨b8, 2, none⟩ = some v := hX8.cell 2; have yf8 : w8.frozen? ⟨b8, 2, none⟩ = false := hX8.fz 2)
            go_roundw
            case rel => exact ⟨t + 1, _, by omega, by go_num, by
              show (w8.setCell ⟨b8, 2, none⟩ _).ownsRow W5.heap.size 37 2 _ (t + 1) (pairL r.cir.ga r.cir.gb t ++ [.int .i64 (r.cir.ga t), .int .i64 (r.cir.gb t)])
              rw [HG.out.1, HG.out.2]; exact own_set ho8 (by omega), hX8.set 2 _, hB8.setCell (by show w.heap.size ≤ b8; omega) _, HK8.out⟩
            case measure => simp [intOf]; omega
          · obtain rfl : t = r.ord.length := by omega
            clear htl ht x0 x1 x2 x3 x4 x5
            obtain ⟨A2, k2, hv2, hp2, hn2⟩ := own_pairs' hown2
            subst hv2
            have hZW : Has wr (w.heap.size + 1) 26 zc := ((hK5.k _ (by have := hZU.lt; have := hX3.B.size; omega) (by have := hZU.lt; omega)).trans (hK2.k _ (by have := hZU.lt; have := hX3.B.size; omega) (by have := hZU.lt; omega))).trans (hZU.keep hX3.B hZU.lt)
            obtain ⟨⟨z0, z1, z2, z3, z4⟩, f0, f1, f2, f3, f4⟩ := hZW.z5
            have c0 : wr.cell? ⟨b8, 0, none⟩ = some (.int .i64 r.ni) := hX2.cell 0
            have c1 : wr.cell? ⟨b8, 1, none⟩ = some (.slice A1 r.nl k1) := hX2.cell 1
            have c2 : wr.cell? ⟨b8, 2, none⟩ = some (.slice A2 r.ord.length k2) := hX2.cell 2
            have c3 : wr.cell? ⟨b8, 3, none⟩ = some (.slice A4 r.nb k4) := hX2.cell 3
            have c4 : wr.cell? ⟨b8, 4, none⟩ = some (.slice A5 r.nc k5') := hX2.cell 4
            have hrg : g ≠ w.heap.size + 1 := by
              obtain ⟨c, hc, _⟩ := hRr2
              exact Has.ne (t := 3) (cs := c) hc hZW (by decide)
            have o1 := own_put5 (.int .i64 r.ni) (.slice A1 r.nl k1) (.slice A2 r.ord.length k2) (.slice A4 r.nb k4) (.slice A5 r.nc k5') (own_kept hown hK5 hX (by decide)) hZW (by decide)
            have o2 := own_put5 (.int .i64 r.ni) (.slice A1 r.nl k1) (.slice A2 r.ord.length k2) (.slice A4 r.nb k4) (.slice A5 r.nc k5') hown2 hZW (by decide)
            have o4 := own_put5 (.int .i64 r.ni) (.slice A1 r.nl k1) (.slice A2 r.ord.length k2) (.slice A4 r.nb k4) (.slice A5 r.nc k5') (own_kept (own_kept hX3.o4 hK2 hX3.h8 (by decide)) hK5 hX (by decide)) hZW (by decide)
            have o5 := own_put5 (.int .i64 r.ni) (.slice A1 r.nl k1) (.slice A2 r.ord.length k2) (.slice A4 r.nb k4) (.slice A5 r.nc k5') (own_kept (own_kept hX3.o5 hK2 hX3.h8 (by decide)) hK5 hX (by decide)) hZW (by decide)
            have oR := hRr2.of_block (put5_far wr (b := w.heap.size + 1) (.int .i64 r.ni) (.slice A1 r.nl k1) (.slice A2 r.ord.length k2) (.slice A4 r.nb k4) (.slice A5 r.nc k5') hrg)
            have oB := put5_below (.int .i64 r.ni) (.slice A1 r.nl k1) (.slice A2 r.ord.length k2) (.slice A4 r.nb k4) (.slice A5 r.nc k5') hBr2 (show w.heap.size ≤ w.heap.size + 1 by omega)
            have HF := Lib.hid (And.intro (show Mem _ _ r.cir ⟨A1, A2, A4, A5, k1, k2, k4, k5'⟩ from ⟨own_pairs2 o1, own_pairs2 o2, (own_ints2 o4).1, (own_ints2 o5).1⟩) (And.intro (show Nils r.cir ⟨A1, A2, A4, A5, k1, k2, k4, k5'⟩ from ⟨hn1, hn2, (own_ints2 o4).2, (own_ints2 o5).2⟩) (And.intro oR (And.intro oB (show ∀ a, (A1 = some a ∨ A2 = some a ∨ A4 = some a ∨ A5 = some a) → w.heap.size ≤ a.block from fun a ha => by
              have hU0 := hBU.size
              have hW0 := hBW.size
              have hW1 := hBr.size
              rcases ha with ha | ha | ha | ha
              · exact row_new o1 hW0 a ha
              · exact row_new o2 hW1 a ha
              · exact row_new o4 hU0 a ha
              · exact row_new o5 hU0 a ha)))))
            clear o1 o2 o4 o5 oR oB hown hown2 hX hX2 hp1 hn1 hp2 hn2
            go_wp2
            refine bodyPost_ret (v := .tuple #[cv r.cir ⟨A1, A2, A4, A5, k1, k2, k4, k5'⟩, .slice (some ⟨g, 0, none⟩) (mn + 1) (mn + 1), .int .i64 0]) (by simp [results, Try.results9, go_sem, z0, z1, z2, z3, z4]; exact ⟨rfl, rfl, rfl, rfl, rfl⟩) rfl ⟨⟨A1, A2, A4, A5, k1, k2, k4, k5'⟩, g, rfl, HF.out.1, HF.out.2.1, HF.out.2.2.1, HF.out.2.2.2.1, hgw, HF.out.2.2.2.2⟩

end Go.Proofs.Ytpdfdbnmohippaa
