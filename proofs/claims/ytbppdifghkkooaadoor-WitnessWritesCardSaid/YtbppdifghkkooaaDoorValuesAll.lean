/- The contract of values.All. -/
import Derived.Test.YtbppdifghkkooaaDoorValuesRef
import Derived.Laws.CopyOwn
import Derived.StillTailTactics
import Derived.BigRegion
namespace Go.Proofs.YtbppdifghkkooaaDoor
open Go.RowKit
set_option linter.unusedVariables false
set_option linter.unusedSimpArgs false

/-- a list of truth values with another one laid over it from place off on -/
def putB (f g : Nat → Bool) (off m : Nat) : Nat → Bool := fun j => if off ≤ j ∧ j < off + m then g (j - off) else f j
theorem splice_bL (f g : Nat → Bool) (n off m : Nat) (h : off + m ≤ n) : (bL f n).take off ++ (bL g m ++ (bL f n).drop (off + (bL g m).length)) = bL (putB f g off m) n := by
  have l1 := bL_len f n
  have l2 := bL_len g m
  have l3 := bL_len (putB f g off m) n
  refine List.ext_getElem? fun j => ?_
  by_cases hj : j < n
  · rw [bL_at _ n j hj]
    unfold putB
    by_cases h1 : j < off
    · rw [List.getElem?_append_left (by simp; omega), List.getElem?_take_of_lt h1, bL_at _ n j hj, if_neg (by omega)]
    · have e1 : ((bL f n).take off).length = off := by simp; omega
      rw [List.getElem?_append_right (by omega), e1]
      by_cases h2 : j < off + m
      · rw [List.getElem?_append_left (by omega), bL_at _ m _ (by omega), if_pos (by omega)]
      · rw [List.getElem?_append_right (by omega), List.getElem?_drop, if_neg (by omega)]
        have e2 : off + (bL g m).length + (j - off - (bL g m).length) = j := by omega
        rw [e2, bL_at _ n j hj]
  · rw [List.getElem?_eq_none (by simp; omega), List.getElem?_eq_none (by omega)]

/-- copy of a list of truth values to a part of what the call owns -/
theorem copy_bools {P : Program} {w : World} {ops : Array Oper} {rest : List Oper} {o : Oper} {a : Act} {Q : Exit → Act → World → Prop} (hgd : o.guard = none) (d s : Operand) (dT sT : TypeId)
    (ho : o.op = .call { callee := .builtin .copy, args := #[d, s], argTypes := #[dT, sT] }) (elem : TypeId) (hu : P.underlying dT = some (.slice elem)) (hsz : (P.info? elem).map (·.size) = some 1)
    (g off n m k c : Nat) (A A' : Option Addr) (f h : Nat → Bool) (hd : a.eval d = .slice A m c) (hs : a.eval s = .slice A' m k) (hA : 0 < m → A = some ⟨g, off, none⟩)
    (t : TypeId) (hg : w.heap[g]? = some (.cells (bL f n).toArray t (0, 0))) (B : Nat) (hsrc : BlsAt w B A' m h) (hfit : off + m ≤ n)
    (hK : ∀ w', w'.heap[g]? = some (.cells (bL (putB f h off m) n).toArray t (0, 0)) → w.grownBy w' (some g) → wpList P ops Q rest (a.put o.dst (goInt m)) w') :
    wpList P ops Q (o :: rest) a w := by
  by_cases h0 : m = 0
  · subst h0
    refine wpList_copy_nothing hgd d s dT sT ho elem hu hsz _ _ _ _ _ _ hd hs rfl (hK w ?_ (World.grownBy.refl w _))
    have e : putB f h off 0 = f := by
      funext j; unfold putB; rw [if_neg (by omega)]
    rw [e]; exact hg
  · obtain ⟨ad, rfl, _, hc⟩ := hsrc (by omega)
    have hl := bL_len h m
    have hlf := bL_len f n
    have hlen : (bL h m).length = m := by omega
    rw [hA (by omega)] at hd
    refine wpList_copy_own hgd d s dT sT ho elem hu hsz g off m c ad m k hd hs (bL f n).toArray t hg (bL h m) (by rw [hlen]; exact (Nat.min_self m).symm) (fun j v hv => ?_) (by simp; omega) (bL_one h m) ?_
    · have hj : j < m := by rw [← hlen]; exact (List.getElem?_eq_some_iff.1 hv).1
      rw [hc j hj, ← hv, bL_at h m j hj]
    · rw [hlen]
      refine hK _ ?_ ⟨rfl, rfl, rfl, by simp [World.setRow], fun j _ hj => setRow_other w g j _ (by simpa using hj)⟩
      have e := splice_bL f h n off m hfit
      rw [hlen] at e
      have e2 : ((bL f n).toArray.toList.take off ++ (bL h m ++ (bL f n).toArray.toList.drop (off + m))).toArray = (bL (putB f h off m) n).toArray := by rw [← e]
      rw [e2]
      exact setRow_heap w g _ _ t _ hg

theorem Cr.frA_puts {c : Cr} {s t : Nat → Bool} {ni : Nat} (hi : (ni : Int) = c.i) : putB (putB (fun _ => false) t 1 ni) s (1 + ni) c.nl = c.frA s t 0 := by
  funext j
  have e : c.i.toNat = ni := by omega
  unfold putB Cr.frA Cr.fg
  rw [e]
  by_cases h0 : j = 0
  · subst h0; simp
  · rw [if_neg h0]
    by_cases h1 : j < 1 + ni
    · rw [if_neg (by omega), if_pos (by omega), if_pos h1]
    · rw [if_neg h1]
      by_cases h2 : j < 1 + ni + c.nl
      · rw [if_pos (by omega), if_pos h2]
      · rw [if_neg (by omega), if_neg (by omega), if_neg h2]
theorem Cr.frA_set (c : Cr) (s t : Nat → Bool) (q j : Nat) : (if j = c.fg + q then Value.bool (vlo (c.frA s t q) (c.ga q) && vlo (c.frA s t q) (c.gb q)) else Value.bool (c.frA s t q j)) = Value.bool (c.frA s t (q + 1) j) := by
  rw [Cr.frA_succ]
  show _ = Value.bool (if j = c.fg + q then _ else _)
  split <;> rfl
theorem made_bL (n : Nat) : madeCells #[.bool false] n = (bL (fun _ => false) n).toArray := by
  have l := bL_len (fun _ => false) n
  refine Array.ext (by simp [size_madeCells]; omega) fun j h1 h2 => ?_
  have h3 : j < n := by simpa [size_madeCells] using h1
  have h4 := bL_at (fun _ => false) n j h3
  have : (bL (fun _ => false) n).toArray[j] = .bool false := by
    have := (List.getElem?_eq_some_iff.1 h4).2
    simpa using this
  rw [this]
  simp [madeCells, Nat.mod_one]

section
variable {P : Program} {ops : Array Oper} {w : World} {Q : Act → Prop} {a : Act} {o : Oper} {rest : List Oper}
/-- the walk of such a region, held together (so that no term is unfolded to see what it is) -/
structure Stl (P : Program) (ops : Array Oper) (w : World) (Q : Act → Prop) (l : List Oper) (a : Act) : Prop where
  h : wpStill P ops w Q l a
theorem stl_val {a' : Act} {v : Value} (hw : Region.wanted o (yielded ops a.tmps) = true) (hy : (execOp a.eval o).run P w = .ok (.value v) w) (ha : a.put o.dst v = a') (h : Stl P ops w Q rest a') : Stl P ops w Q (o :: rest) a :=
  ⟨wpStill_step fun K hK => by
    rw [if_pos hw]
    unfold Oper.still
    rw [hy]
    exact (Oper.stillUpon_value o a w K v).symm ▸ hK _ (ha ▸ h.h)⟩
theorem stl_call {a' : Act} {v : Value} {f : FuncId} {args : Array Value} (hw : Region.wanted o (yielded ops a.tmps) = true) (hy : (execOp a.eval o).run P w = .ok (.enter f args) w) (hc : Calls P f args w fun e w' => e = .returned v ∧ w' = w) (ha : a.put o.dst v = a') (h : Stl P ops w Q rest a') : Stl P ops w Q (o :: rest) a :=
  ⟨wpStill_step fun K hK => by
    rw [if_pos hw]
    unfold Oper.still
    rw [hy]
    exact ⟨rfl, v, hc, hK _ (ha ▸ h.h)⟩⟩
theorem stl_skip {a' : Act} (hw : Region.wanted o (yielded ops a.tmps) = false) (ha : a.put o.dst undef = a') (h : Stl P ops w Q rest a') : Stl P ops w Q (o :: rest) a :=
  ⟨wpStill_step fun K hK => by rw [if_neg (by rw [hw]; exact Bool.false_ne_true)]; exact hK _ (ha ▸ h.h)⟩
theorem stl_nil (h : Q a) : Stl P ops w Q [] a := ⟨h⟩
end

/-- what All returns: a list of its own without room behind it -/
def BoolsFull (n : Nat) (f : Nat → Bool) (x : Int) (w : World) (e : Ending) (w' : World) : Prop :=
  ∃ g, e = .returned (.tuple #[.slice (some ⟨g, 0, none⟩) n n, .int .i64 x]) ∧ BlsAt w' w'.heap.size (some ⟨g, 0, none⟩) n f ∧ Below w.heap.size w w'
/-- how many values All returns -/
def Cr.fn (c : Cr) (ns ni : Nat) : Nat := if c.ask ns ni = 0 then c.fg + c.na else 0
theorem Cr.fn_no {c : Cr} {ns ni : Nat} {x : Int} (h : c.ask ns ni = x) (hx : x ≠ 0) : c.fn ns ni = 0 := if_neg (by omega)
theorem Cr.fn_yes {c : Cr} {ns ni : Nat} (h : c.ask ns ni = 0) : c.fn ns ni = c.fg + c.na := if_pos h

/-- a part, by numbers of Go -/
theorem part_at {x y : Int} {first size : Nat} (hx : x = first) (hy : y = size) (g N b : Nat) (w : World) (hb : Has w b 27 #[.slice (some ⟨g, 0, none⟩) N N]) (hN : N ≤ 2000) (hf : first + size ≤ N) :
    Calls Tryd.prog 88 #[.int .i64 x, .int .i64 y, .pointer (some ⟨b, 0, none⟩)] w fun e w' => e = .returned (.slice (partA g first size) size size) ∧ w = w' := by
  subst hx hy
  exact part_any g N b first size w hb hN hf
theorem st_call {P : Program} {f : FuncId} {args : Array Value} {w : World} {v : Value} (h : Calls P f args w fun e w' => e = .returned v ∧ w = w') : Calls P f args w fun e w' => e = .returned v ∧ w' = w := h.mono fun _ _ ⟨he, hm⟩ => ⟨he, hm.symm⟩
theorem vars0 {c : Cr} (h : c.chk = 0) {sn : Nat} (hn : c.sz = sn) (p : Pl) (w : World) (hm : Mem w w.heap.size c p) (hs : Sm c) : Calls Tryd.prog 87 #[cv c p] w fun e w' => e = .returned (.tuple #[.int .i64 (sn : Int), .int .i64 0]) ∧ Below w.heap.size w w' := by
  have := gVars_any c p w hm hs
  unfold Cr.vrs at this
  rwa [if_pos h, h, hn] at this

set_option maxRecDepth 100000 in
set_option maxHeartbeats 2000000 in
theorem all_no (c : Cr) (p : Pl) (As At : Option Addr) (ns ks ni ki : Nat) (s t : Nat → Bool) (w : World) (hm : Mem w w.heap.size c p) (hs : Sm c) (h1 : ns ≤ 100000) (h2 : ni ≤ 100000) (hk : c.ask ns ni ≠ 0) :
    Calls Tryd.prog 74 #[cv c p, .slice As ns ks, .slice At ni ki] w (BoolsErr (c.fn ns ni) (c.fr s t) (c.ask ns ni) w) := by
  have hB0 : Below w.heap.size w w := Below.refl _ _
  have g1 := hs.nl
  have g5 := hs.i
  unfold I64 at g5
  have HF := Lib.hid (Cr.fn_no rfl hk)
  rcases c.ask_ways ns ni with ⟨a, r⟩ | ⟨a, b, r⟩ | ⟨a, b, d, r⟩ | ⟨a, b, d, r⟩
  · have h : (c.chk != 0) = true := by simpa [bne] using a
    rw [HF.out, r]
    clear a r hk HF
    go_enter Tryd.func74, Tryd.ntmps74
    go_wp2_with (first
      | (go_at_call 87; (with_reducible refine (gVars_any c p (w.alloc _) (hm.to (by go_grown) (by go_size)) hs).mono ?_); rintro e w1 ⟨rfl, hb1⟩; have hB1 : Below w.heap.size w w1 := Below.step (by go_grown) (by go_size) hb1))
    go_ret2
    exact ⟨none, 0, rfl, fun h => absurd h (Nat.not_lt_zero _), hB1⟩
  rotate_right
  · exact absurd r hk
  all_goals
    obtain ⟨sn, hsn⟩ : ∃ sn : Nat, c.sz = sn := ⟨c.sz.toNat, by have := Cr.chk_i (c := c) (by simpa using a) hs; have : c.sz = c.i + c.nl + c.na := rfl; omega⟩
    have hz := Cr.chk_i (c := c) (by simpa using a) hs
    rw [hsn] at hz
    have HA := Lib.hid a
    have HS := Lib.hid hsn
    try rw [HF.out, r]
    clear a r hsn HF
  · have t1 : ((ns : Int) != (c.nl : Int)) = true := by simp; omega
    clear b hk
    go_enter Tryd.func74, Tryd.ntmps74
    go_wp2_with (first
      | (go_at_call 87; (with_reducible refine (vars0 HA.out HS.out p (w.alloc _) (hm.to (by go_grown) (by go_size)) hs).mono ?_); rintro e w1 ⟨rfl, hb1⟩; obtain ⟨hc1, hf1⟩ := bcell hb1; have hz1 : w.heap.size < w1.heap.size := (by have := hb1.size; (try simp at this); omega); have hB1 : Below w.heap.size w w1 := Below.step (by go_grown) (by go_size) hb1))
    go_ret2
    exact ⟨none, 0, rfl, fun h => absurd h (Nat.not_lt_zero _), hB1⟩
  · have t1 : ((ns : Int) != (c.nl : Int)) = false := by simp; omega
    have t2 : ((ni : Int) != c.i) = true := by simp; omega
    clear b d hk
    go_enter Tryd.func74, Tryd.ntmps74
    go_wp2_with (first
      | (go_at_call 87; (with_reducible refine (vars0 HA.out HS.out p (w.alloc _) (hm.to (by go_grown) (by go_size)) hs).mono ?_); rintro e w1 ⟨rfl, hb1⟩; obtain ⟨hc1, hf1⟩ := bcell hb1; have hz1 : w.heap.size < w1.heap.size := (by have := hb1.size; (try simp at this); omega); have hB1 : Below w.heap.size w w1 := Below.step (by go_grown) (by go_size) hb1))
    go_ret2
    exact ⟨none, 0, rfl, fun h => absurd h (Nat.not_lt_zero _), hB1⟩

set_option maxRecDepth 100000 in
set_option maxHeartbeats 2000000 in
theorem all_full (c : Cr) (p : Pl) (As At : Option Addr) (ns ks ni ki : Nat) (s t : Nat → Bool) (w : World) (hm : Mem w w.heap.size c p) (hs : Sm c) (hS : BlsAt w w.heap.size As ns s) (hT : BlsAt w w.heap.size At ni t) (hk : c.ask ns ni = 0) :
    Calls Tryd.prog 74 #[cv c p, .slice As ns ks, .slice At ni ki] w (BoolsFull (c.fg + c.na) (c.fr s t) 0 w) := by
  obtain ⟨hc, hns, hni⟩ := Cr.ask_zero hk
  have g1 := hs.nl
  have g2 := hs.na
  have hz := Cr.chk_i (c := c) (by simpa using hc) hs
  obtain ⟨sn, hsn⟩ : ∃ sn : Nat, c.sz = sn := ⟨c.sz.toNat, by have : c.sz = c.i + c.nl + c.na := rfl; omega⟩
  have hN : 1 + sn ≤ c.fg + c.na ∧ c.fg + c.na ≤ 1 + sn ∧ c.fg ≤ 1 + ni + c.nl ∧ 1 + ni + c.nl ≤ c.fg ∧ sn ≤ 1000 := by have : c.sz = c.i + c.nl + c.na := rfl; unfold Cr.fg; omega
  have hmk : ∀ w : World, (Instr.makeSlice 27 (.int .i64 (1 + (sn : Int))) (.int .i64 (1 + (sn : Int)))).run Tryd.prog w = .ok (.slice (some ⟨w.heap.size, 0, none⟩) (1 + sn) (1 + sn)) (w.alloc (.cells (madeCells #[.bool false] (1 + sn)) 4)) := fun w =>
    run_make_row' 27 4 (.bool false) 1 Tryd.underlying27 info_bool rfl _ _ (1 + sn) (by omega) (by omega) w
  subst hns
  have t1 : ((c.nl : Int) != (c.nl : Int)) = false := by simp
  have t2 : ((ni : Int) != c.i) = false := by simp; omega
  have HC := Lib.hid hc
  have HS := Lib.hid hsn
  have HI := Lib.hid hni
  have hp := Lib.hid (Cr.frA_puts (s := s) (t := t) hni)
  have hB0 : Below w.heap.size w w := Below.refl _ _
  have H1 := Lib.hid (show (1 : Int) = ((1 : Nat) : Int) from rfl)
  have H2 := Lib.hid (show 1 + c.i = ((1 + ni : Nat) : Int) by omega)
  have H3 := Lib.hid (show 1 + c.i + (c.nl : Int) = ((c.fg : Nat) : Int) by unfold Cr.fg; omega)
  clear hc hsn hni hk
  go_enter Tryd.func74, Tryd.ntmps74
  go_wp2_with (first
    | (go_at_call 87; (with_reducible refine (vars0 HC.out HS.out p (w.alloc _) (hm.to (by go_grown) (by go_size)) hs).mono ?_); rintro e w1 ⟨rfl, hb1⟩; obtain ⟨hc1, hf1⟩ := bcell hb1; have hz1 : w.heap.size < w1.heap.size := (by have := hb1.size; (try simp at this); omega); have hB1 : Below w.heap.size w w1 := Below.step (by go_grown) (by go_size) hb1; have hA1 : Has w1 w.heap.size 26 (cc c p) := (Has.new _ _ _).keep hb1 (by go_size)
       have hR0 : ((w1.alloc (.cells (madeCells #[.bool false] (1 + sn)) 4)).alloc (.cells #[.slice (some ⟨w1.heap.size, 0, none⟩) (1 + sn) (1 + sn)] 27)).heap[w1.heap.size]? = some (.cells (bL (fun _ => false) (1 + sn)).toArray 4 (0, 0)) := (by rw [← made_bL]; exact (Has.new w1 4 (madeCells #[.bool false] (1 + sn))).al _)
       have hX0 : Has ((w1.alloc (.cells (madeCells #[.bool false] (1 + sn)) 4)).alloc (.cells #[.slice (some ⟨w1.heap.size, 0, none⟩) (1 + sn) (1 + sn)] 27)) (w1.heap.size + 1) 27 #[.slice (some ⟨w1.heap.size, 0, none⟩) (1 + sn) (1 + sn)] := Has.new' _ _ (by simp)
       have hA0 : Has ((w1.alloc (.cells (madeCells #[.bool false] (1 + sn)) 4)).alloc (.cells #[.slice (some ⟨w1.heap.size, 0, none⟩) (1 + sn) (1 + sn)] 27)) w.heap.size 26 (cc c p) := (hA1.al _).al _
       have hBx : Below w.heap.size w ((w1.alloc (.cells (madeCells #[.bool false] (1 + sn)) 4)).alloc (.cells #[.slice (some ⟨w1.heap.size, 0, none⟩) (1 + sn) (1 + sn)] 27)) := (hB1.alloc hB1.size _).alloc (by simp; omega) _)
    | (go_at_call 88; (with_reducible refine (part_at H1.out HI.out.symm w1.heap.size (1 + sn) (w1.heap.size + 1) _ hX0 (by omega) (by omega)).mono ?_); rintro e w2 ⟨rfl, rfl⟩)
    | (with_reducible refine copy_bools rfl (.tmp 42) (.tmp 43) _ _ rfl 4 Tryd.underlying27 (by kernel_rfl) w1.heap.size 1 (1 + sn) ni ki ni (partA w1.heap.size 1 ni) At (fun _ => false) t rfl rfl (fun h => by unfold partA; rw [if_neg (by omega)]) 4 hR0 w.heap.size (hT.keep hBx) (by omega) ?_
       intro w2 hR2 hg2
       have hX2 := hX0.grow hg2 (by omega)
       have hA2 := hA0.grow hg2 (by omega)
       have hB2 : Below w.heap.size w w2 := hBx.grown hg2 (by simp; omega) (fun k hk => by cases hk; omega)
       have hz2 : w.heap.size < w2.heap.size := hA2.lt
       obtain ⟨x20, x21, x22, x23, x24⟩ := hA2.box)
    | (go_at_call 88; (with_reducible refine (part_at H2.out (size := c.nl) rfl w1.heap.size (1 + sn) (w1.heap.size + 1) _ hX2 (by omega) (by omega)).mono ?_); rintro e w3 ⟨rfl, rfl⟩)
    | (with_reducible refine copy_bools rfl (.tmp 52) (.tmp 53) _ _ rfl 4 Tryd.underlying27 (by kernel_rfl) w1.heap.size (1 + ni) (1 + sn) c.nl ks c.nl (partA w1.heap.size (1 + ni) c.nl) As (putB (fun _ => false) t 1 ni) s rfl rfl (fun h => by unfold partA; rw [if_neg (by omega)]) 4 hR2 w.heap.size (hS.keep hB2) (by omega) ?_
       intro w3 hR3 hg3
       have hX3 := hX2.grow hg3 (by omega)
       have hA3 := hA2.grow hg3 (by omega)
       have hB3 : Below w.heap.size w w3 := hB2.grown hg3 (by omega) (fun k hk => by cases hk; omega)
       have hz3 : w.heap.size < w3.heap.size := hA3.lt
       obtain ⟨x30, x31, x32, x33, x34⟩ := hA3.box)
    | (go_at_call 88; (with_reducible refine (part_at H3.out (size := c.na) rfl w1.heap.size (1 + sn) (w1.heap.size + 1) _ hX3 (by omega) (by omega)).mono ?_); rintro e w4 ⟨rfl, rfl⟩))
  have hRow : w3.rowIs w1.heap.size 4 (1 + sn) (fun v => .bool (c.frA s t 0 v)) := row_of_list (by rw [← hp.out]; exact hR3)
  obtain ⟨pa, hpa⟩ : ∃ pa, partA w1.heap.size c.fg c.na = pa := ⟨_, rfl⟩
  rw [hpa]
  have HPA := Lib.hid hpa
  have hg1 := hX0.lt
  clear hpa hR0 hX0 hA0 hBx hR2 hg2 hX2 hA2 hB2 hR3 hg3 x20 x21 x22 x23 x24 x30 x31 x32 x33 x34 hc1 hf1 hb1 hmk hp
  go_loopw [70] (fun i wr => ∃ q : Nat, q ≤ c.na ∧ i = .int .i64 q ∧ wr.rowIs w1.heap.size 4 (1 + sn) (fun v => .bool (c.frA s t q v)) ∧ Has wr (w1.heap.size + 1) 27 #[.slice (some ⟨w1.heap.size, 0, none⟩) (1 + sn) (1 + sn)] ∧ Has wr w.heap.size 26 (cc c p) ∧ Below w.heap.size w wr) (fun i _ => c.na - (intOf i).toNat)
  case atStart => exact ⟨0, Nat.zero_le _, rfl, hRow, hX3, hA3, hB3⟩
  case round =>
    clear hRow hX3 hA3 hB3
    obtain ⟨q, hq, rfl, hR, hX, hH, hBr⟩ := hrel
    obtain ⟨x0, x1, x2, x3, x4⟩ := hH.box
    have xb : wr.cell? ⟨w1.heap.size + 1, 0, none⟩ = some (.slice (some ⟨w1.heap.size, 0, none⟩) (1 + sn) (1 + sn)) := hX.cell 0
    by_cases hlt : q < c.na
    · obtain ⟨k1, k2, k3, k4, k5⟩ := Cr.gate_ok HC.out hlt
      obtain ⟨a, hA, hab, hcs⟩ := (hm.an.keep hBr) (by omega)
      obtain ⟨y0, y1⟩ := hcs q hlt
      rw [hA] at x2
      clear hcs hA
      have hpa : pa = some ⟨w1.heap.size, c.fg, none⟩ := by rw [← HPA.out]; unfold partA; rw [if_neg (by omega)]
      clear HPA
      subst hpa
      have b1 : c.ga q / 2 < ((1 + sn : Nat) : Int) := by have := HI.out; unfold Cr.fg at hN; omega
      have b2 : c.gb q / 2 < ((1 + sn : Nat) : Int) := by omega
      have b3 : c.ga q ≤ 2001 := by omega
      have b4 : c.gb q ≤ 2001 := by omega
      have b5 : 0 ≤ c.ga q := by omega
      have hq0 : (0 : Int) ≤ (q : Int) := by omega
      have hq1 : (q : Int) < c.na := by omega
      have hi := row_bools hR
      have fz := hR.frozen (c.fg + q)
      have fzd : wr.drew.frozen? ⟨w1.heap.size, c.fg + q, none⟩ = false := fz
      have hRd : wr.drew.rowIs w1.heap.size 4 (1 + sn) (fun v => .bool (c.frA s t q v)) := hR
      have zd : wr.drew.cell? ⟨w1.heap.size, c.fg + q, none⟩ = some (.bool (c.frA s t q (c.fg + q))) := hR.cell (by omega)
      have hXd : Has wr.drew (w1.heap.size + 1) 27 #[.slice (some ⟨w1.heap.size, 0, none⟩) (1 + sn) (1 + sn)] := hX
      have hHd : Has wr.drew w.heap.size 26 (cc c p) := hH
      have hBd : Below w.heap.size w wr.drew := below_dn hBr 1
      have C1 := st_call (valueOf_any (some ⟨w1.heap.size, 0, none⟩) (1 + sn) (1 + sn) (c.frA s t q) (c.ga q) wr.heap.size wr.drew hi b5 b3 b1)
      have C2 := st_call (valueOf_any (some ⟨w1.heap.size, 0, none⟩) (1 + sn) (1 + sn) (c.frA s t q) (c.gb q) wr.heap.size wr.drew hi k1 b4 b2)
      cases hv : vlo (c.frA s t q) (c.ga q)
      · rw [hv] at C1
        have HV := Lib.hid hv
        have D1 := Lib.hid C1
        clear hv C2 C1
        go_wp2
        go_still_tail 21, (by kernel_rfl)
        refine Stl.h ?_
        (refine stl_call (a' := ?_) (by kernel_rfl) ?_ D1.out ?_ ?_; rotate_left; (focus (first | (go_simp; rfl) | (go_simp; done))); (focus (first | (go_simp; rfl) | (go_simp; done) | rfl)))
        (refine stl_val (v := ?_) (a' := ?_) (by kernel_rfl) ?_ ?_ ?_; rotate_left 2; (focus (first | exact BigFrame.run_move _ rfl _ | (go_simp; rfl) | (go_simp; done))); (focus (first | (go_simp; rfl) | (go_simp; done) | rfl)))
        iterate 8 (refine stl_skip (a' := ?_) (by kernel_rfl) ?_ ?_; rotate_left; (focus (first | (go_simp; rfl) | (go_simp; done) | rfl)))
        iterate 2 (refine stl_val (v := ?_) (a' := ?_) (by kernel_rfl) ?_ ?_ ?_; rotate_left 2; (focus (first | exact BigFrame.run_move _ rfl _ | (go_simp; rfl) | (go_simp; done))); (focus (first | (go_simp; rfl) | (go_simp; done) | rfl)))
        refine stl_nil ?_
        change wpList _ _ _ _ _ wr.drew
        obtain ⟨wd, hwd⟩ : ∃ wd, wr.drew = wd := ⟨_, rfl⟩
        rw [hwd] at fzd zd hRd hXd hHd hBd ⊢
        clear hwd
        go_wp2
        go_roundw
        case rel => exact ⟨q + 1, by omega, by go_num, (hRd.set _ _).congr fun j hj => by have := c.frA_set s t q j; rw [HV.out] at this; exact this, hXd.far (by simp) _, hHd.far (by simp; omega) _, hBd.setCell (by simp; omega) _⟩
        case measure => simp [intOf]; omega
      · rw [hv] at C1
        have HV := Lib.hid hv
        have D1 := Lib.hid C1
        have D2 := Lib.hid C2
        clear hv C1 C2
        go_wp2
        go_still_tail 21, (by kernel_rfl)
        refine Stl.h ?_
        (refine stl_call (a' := ?_) (by kernel_rfl) ?_ D1.out ?_ ?_; rotate_left; (focus (first | (go_simp; rfl) | (go_simp; done))); (focus (first | (go_simp; rfl) | (go_simp; done) | rfl)))
        iterate 8 (refine stl_val (v := ?_) (a' := ?_) (by kernel_rfl) ?_ ?_ ?_; rotate_left 2; (focus (first | exact BigFrame.run_move _ rfl _ | (go_simp; rfl) | (go_simp; done))); (focus (first | (go_simp; rfl) | (go_simp; done) | rfl)))
        (refine stl_call (a' := ?_) (by kernel_rfl) ?_ D2.out ?_ ?_; rotate_left; (focus (first | (go_simp; rfl) | (go_simp; done))); (focus (first | (go_simp; rfl) | (go_simp; done) | rfl)))
        iterate 2 (refine stl_val (v := ?_) (a' := ?_) (by kernel_rfl) ?_ ?_ ?_; rotate_left 2; (focus (first | exact BigFrame.run_move _ rfl _ | (go_simp; rfl) | (go_simp; done))); (focus (first | (go_simp; rfl) | (go_simp; done) | rfl)))
        refine stl_nil ?_
        change wpList _ _ _ _ _ wr.drew
        obtain ⟨wd, hwd⟩ : ∃ wd, wr.drew = wd := ⟨_, rfl⟩
        rw [hwd] at fzd zd hRd hXd hHd hBd ⊢
        clear hwd
        go_wp2
        go_roundw
        case rel => exact ⟨q + 1, by omega, by go_num, (hRd.set _ _).congr fun j hj => by have := c.frA_set s t q j; rw [HV.out] at this; exact this, hXd.far (by simp) _, hHd.far (by simp; omega) _, hBd.setCell (by simp; omega) _⟩
        case measure => simp [intOf]; omega
    · obtain rfl : q = c.na := by omega
      clear hq hlt
      go_wp2
      go_ret2
      have e : 1 + sn = c.fg + c.na := by omega
      have hfin : BlsAt wr wr.heap.size (some ⟨w1.heap.size, 0, none⟩) (c.fg + c.na) (c.fr s t) := by rw [← e]; exact row_bools hR
      exact ⟨w1.heap.size, by rw [← e]; rfl, hfin, hBr⟩
theorem all_yes (c : Cr) (p : Pl) (As At : Option Addr) (ns ks ni ki : Nat) (s t : Nat → Bool) (w : World) (hm : Mem w w.heap.size c p) (hs : Sm c) (hS : BlsAt w w.heap.size As ns s) (hT : BlsAt w w.heap.size At ni t) (hk : c.ask ns ni = 0) :
    Calls Tryd.prog 74 #[cv c p, .slice As ns ks, .slice At ni ki] w (BoolsErr (c.fg + c.na) (c.fr s t) 0 w) := (all_full c p As At ns ks ni ki s t w hm hs hS hT hk).mono fun e w' ⟨g, he, hi, hb⟩ => ⟨_, _, he, hi, hb⟩

/-- a circuit, a state and inputs, as a call has them -/
structure Arg (w : World) (B : Nat) (c : Cr) (p : Pl) (As : Option Addr) (ns ks : Nat) (s : Nat → Bool) (At : Option Addr) (ni ki : Nat) (t : Nat → Bool) : Prop where
  hm : Mem w B c p
  hs : Sm c
  hS : BlsAt w B As ns s
  hT : BlsAt w B At ni t
  nS : As = none → ns = 0 ∧ ks = 0
  nT : At = none → ni = 0 ∧ ki = 0
  n1 : ns ≤ 100000
  n2 : ni ≤ 100000
theorem Arg.to {w W : World} {B : Nat} {c : Cr} {p : Pl} {As : Option Addr} {ns ks : Nat} {s : Nat → Bool} {At : Option Addr} {ni ki : Nat} {t : Nat → Bool} (h : Arg w B c p As ns ks s At ni ki t) (hb : Below B w W) (hB : B ≤ W.heap.size) : Arg W W.heap.size c p As ns ks s At ni ki t :=
  ⟨h.hm.to hb hB, h.hs, h.hS.to hb hB, h.hT.to hb hB, h.nS, h.nT, h.n1, h.n2⟩

theorem all_any {c : Cr} {p : Pl} {As At : Option Addr} {ns ks ni ki : Nat} {s t : Nat → Bool} (w : World) (h : Arg w w.heap.size c p As ns ks s At ni ki t) :
    Calls Tryd.prog 74 #[cv c p, .slice As ns ks, .slice At ni ki] w (BoolsErr (c.fn ns ni) (c.fr s t) (c.ask ns ni) w) := by
  by_cases hk : c.ask ns ni = 0
  · rw [Cr.fn_yes hk, hk]
    exact all_yes c p As At ns ks ni ki s t w h.hm h.hs h.hS h.hT hk
  · exact all_no c p As At ns ks ni ki s t w h.hm h.hs h.n1 h.n2 hk
theorem all_at {c : Cr} {p : Pl} {As At : Option Addr} {ns ks ni ki : Nat} {s t : Nat → Bool} (hk : c.ask ns ni = 0) (w : World) (h : Arg w w.heap.size c p As ns ks s At ni ki t) :
    Calls Tryd.prog 74 #[cv c p, .slice As ns ks, .slice At ni ki] w (BoolsErr (c.fg + c.na) (c.fr s t) 0 w) := all_yes c p As At ns ks ni ki s t w h.hm h.hs h.hS h.hT hk

theorem Cr.lat_ok {c : Cr} (h : c.chk = 0) {j : Nat} (hj : j < c.nl) : 0 ≤ c.nx j ∧ c.nx j ≤ 2001 ∧ c.nx j / 2 < ((c.fg + c.na : Nat) : Int) := by
  obtain ⟨k1, k2, k3, k4, k5, k6, k7, k8⟩ := chk_zero h
  have := (of_decide_eq_true k7 : ∀ j, j < c.nl → 0 ≤ c.nx j ∧ c.nx j / 2 ≤ c.sz ∧ 0 ≤ c.rs j ∧ c.rs j ≤ 2) j hj
  have : c.sz = c.i + c.nl + c.na := rfl
  unfold fg
  omega
theorem Cr.bad_ok {c : Cr} (h : c.chk = 0) {j : Nat} (hj : j < c.nb) : 0 ≤ c.bd j ∧ c.bd j ≤ 2001 ∧ c.bd j / 2 < ((c.fg + c.na : Nat) : Int) := by
  obtain ⟨k1, k2, k3, k4, k5, k6, k7, k8⟩ := chk_zero h
  have := (of_decide_eq_true k5 : ∀ j, j < c.nb → 0 ≤ c.bd j ∧ c.bd j / 2 ≤ c.sz) j hj
  have : c.sz = c.i + c.nl + c.na := rfl
  unfold fg
  omega
theorem Cr.con_ok {c : Cr} (h : c.chk = 0) {j : Nat} (hj : j < c.nc) : 0 ≤ c.cn j ∧ c.cn j ≤ 2001 ∧ c.cn j / 2 < ((c.fg + c.na : Nat) : Int) := by
  obtain ⟨k1, k2, k3, k4, k5, k6, k7, k8⟩ := chk_zero h
  have := (of_decide_eq_true k6 : ∀ j, j < c.nc → 0 ≤ c.cn j ∧ c.cn j / 2 ≤ c.sz) j hj
  have : c.sz = c.i + c.nl + c.na := rfl
  unfold fg
  omega
namespace Cr
/-- how many values Next and Props return -/
def nn (c : Cr) (ns ni : Nat) : Nat := if c.ask ns ni = 0 then c.nl else 0
def bn (c : Cr) (ns ni : Nat) : Nat := if c.ask ns ni = 0 then c.nb else 0
/-- the next state, and the values of the bad literals -/
def nv (c : Cr) (s t : Nat → Bool) (j : Nat) : Bool := vlo (c.fr s t) (c.nx j)
def bv (c : Cr) (s t : Nat → Bool) (j : Nat) : Bool := vlo (c.fr s t) (c.bd j)
/-- whether the constraints hold -/
def hol (c : Cr) (s t : Nat → Bool) : Bool := decide (∀ j, j < c.nc → vlo (c.fr s t) (c.cn j) = true)
def hd (c : Cr) (s t : Nat → Bool) (ns ni : Nat) : Bool := if c.ask ns ni = 0 then c.hol s t else false
theorem hol_no {c : Cr} {s t : Nat → Bool} {k : Nat} (hk : k < c.nc) (h : vlo (c.fr s t) (c.cn k) = false) : c.hol s t = false := decide_eq_false fun h' => by rw [h' k hk] at h; cases h
theorem hol_yes {c : Cr} {s t : Nat → Bool} (h : ∀ j, j < c.nc → vlo (c.fr s t) (c.cn j) = true) : c.hol s t = true := decide_eq_true h
theorem fg_bd {c : Cr} (h : c.chk = 0) : c.fg + c.na ≤ 1001 := by
  have := chk_zero h
  have : c.sz = c.i + c.nl + c.na := rfl
  unfold fg
  omega
end Cr
/-- what Props returns -/
def PropsIs (b : Bool) (n : Nat) (f : Nat → Bool) (x : Int) (w : World) (e : Ending) (w' : World) : Prop :=
  ∃ A k, e = .returned (.tuple #[.bool b, .slice A n k, .int .i64 x]) ∧ BlsAt w' w'.heap.size A n f ∧ Below w.heap.size w w'
/-- the same, in memory that was not there before -/
def PropsNew (b : Bool) (n : Nat) (f : Nat → Bool) (x : Int) (w : World) (e : Ending) (w' : World) : Prop :=
  ∃ A k, e = .returned (.tuple #[.bool b, .slice A n k, .int .i64 x]) ∧ BlsAt w' w'.heap.size A n f ∧ Below w.heap.size w w' ∧ (A = none → n = 0 ∧ k = 0) ∧ ∀ a, A = some a → w.heap.size ≤ a.block
theorem PropsNew.is {b : Bool} {n : Nat} {f : Nat → Bool} {x : Int} {w w' : World} {e : Ending} (h : PropsNew b n f x w e w') : PropsIs b n f x w e w' := by
  obtain ⟨A, k, he, hi, hb, _⟩ := h
  exact ⟨A, k, he, hi, hb⟩
