/- The reference's Circuit of layer 3. -/
import Derived.Test.YtpdfdbnmohippaaOrderCirc
import Derived.Test.YtpdfdbnmohippaaOrderSameKit
import Derived.Test.YtpdfdbnmohippaaOrderRef8
import Derived.Test.YtpdfdbnmohippaaOrderRef7
import Derived.Test.YtpdfdbnmohippaaOrderTwin
import Derived.Maps.AppendAt
namespace Go.Proofs.Ytpdfdbnmohippaa
open Go Go.RowKit
set_option linter.unusedVariables false
set_option linter.unusedSimpArgs false

section
variable {P : Program} {ops : Array Oper} {Q : Exit → Act → World → Prop} {md : Region.Mode} {S : World → Prop} {n : Nat}
/-- an append that comes up alone -/
theorem wt_append (i s x : Nat) {oi : Oper} {d : Nat} {t : TypeId} {u y : Value} {R : Value → World → Prop} {fuel : Nat} {listed : Array Bool} {a : Act} {w : World} (hr : Region.ready md ops listed = [i]) (hi : opAt ops.toList i = some oi) (hd : oi.dst = some d)
    (hw : Region.wanted oi (yielded ops a.tmps) = true) (h1 : Slot a s u) (h2 : Slot a x y) (ho : oi.op = .call { callee := .builtin .append, args := #[.tmp s, .tmp x], argTypes := #[t, t] })
    (hrun : ∀ ty, ∃ v' w', (Builtin.append_ #[t, t] ty #[u, y]).run P w = .ok v' w' ∧ R v' w')
    (h : ∀ v' w', R v' w' → (i < n → S w') ∧ WT P md ops Q S n fuel (listed.setIfInBounds i true) (a.put (some d) v') w') : WT P md ops Q S n (fuel + 1) listed a w := by
  refine wt_one i hr ?_
  refine wpOp_go (opAt_spec hi) hw fun K hK => ?_
  obtain ⟨v', w', hrn, hR⟩ := hrun oi.type
  have h3 := hK (a.put (some d) v') w' (h v' w' hR)
  show oi.upon P a K Q _
  unfold execOp
  simp only [ho, resolve, invoke, builtin, Sem.run_bind, Sem.run_pure, Result.andThen_ok, List.map_toArray, List.map_cons, List.map_nil, h1.eval, h2.eval, hrn, Oper.upon_value, hd]
  exact h3
end

/-- an append in a list of operations -/
theorem wpl_append {P : Program} {ops : Array Oper} {Q : Exit → Act → World → Prop} {rest : List Oper} {o : Oper} {a : Act} {w : World} {R : Value → World → Prop} (hgd : o.guard = none) (s x : Operand) (t : TypeId)
    (ho : o.op = .call { callee := .builtin .append, args := #[s, x], argTypes := #[t, t] }) {u y : Value} (hs : a.eval s = u) (hx : a.eval x = y)
    (hrun : ∀ ty, ∃ v' w', (Builtin.append_ #[t, t] ty #[u, y]).run P w = .ok v' w' ∧ R v' w') (h : ∀ v' w', R v' w' → wpList P ops Q rest (a.put o.dst v') w') : wpList P ops Q (o :: rest) a w := by
  refine wpList_plain hgd fun K hK => ?_
  obtain ⟨v', w', hr, hR⟩ := hrun o.type
  unfold Oper.wp execOp
  simp only [ho, resolve, invoke, builtin, Sem.run_bind, Sem.run_pure, Result.andThen_ok, List.map_toArray, List.map_cons, List.map_nil, hs, hx, hr]
  exact hK _ _ (h v' w' hR)

/-- the state of the reference's Circuit: its boxes, the numbers, the four lists -/
structure Rq (w W : World) (b6 : Nat) (r : Rw) (p : Rp) (g mn : Nat) (v1 v2 v3 v4 : Value) (n1 n2 n3 n4 : Nat) : Prop where
  B : Below w.heap.size w W
  h1 : Has W w.heap.size 32 (rc r p)
  h2 : Has W (w.heap.size + 1) 26 zc
  h6 : Has W b6 26 #[.int .i64 r.ni, v1, v2, v3, v4]
  hb : w.heap.size + 1 < b6
  hg : g < b6
  hn : W.rowIs g 3 (mn + 1) (fun v => .int .i64 (r.nw v))
  o1 : W.ownsRow (b6 + 1) 35 2 v1 n1 (pairL (fun j => r.told (r.la j)) r.lb n1)
  o2 : W.ownsRow (b6 + 1) 37 2 v2 n2 (pairL r.cir.ga r.cir.gb n2)
  o3 : W.ownsRow (b6 + 1) 3 1 v3 n3 (intL (fun j => r.told (r.bd j)) n3)
  o4 : W.ownsRow (b6 + 1) 3 1 v4 n4 (intL (fun j => r.told (r.cn j)) n4)
  ap : ∀ x, v3.ownBlock = some x → v4.ownBlock ≠ some x
theorem own_stay {W W' : World} {base : Nat} {e : TypeId} {size : Nat} {v : Value} {n : Nat} {xs : List Value} (h : W.ownsRow base e size v n xs) (hh : ∀ x, v.ownBlock = some x → W'.heap[x]? = W.heap[x]?) : W'.ownsRow base e size v n xs := own_on h fun g hg _ => hh g hg
theorem own_lt3 {W : World} {base : Nat} {e : TypeId} {size : Nat} {v : Value} {n : Nat} {xs : List Value} (h : W.ownsRow base e size v n xs) {x : Nat} (hx : v.ownBlock = some x) : x < W.heap.size := (World.ownsRow.lt h x hx).2
theorem own_ge3 {W : World} {base : Nat} {e : TypeId} {size : Nat} {v : Value} {n : Nat} {xs : List Value} (h : W.ownsRow base e size v n xs) {x : Nat} (hx : v.ownBlock = some x) : base ≤ x := (World.ownsRow.lt h x hx).1
section
variable {w W W' : World} {b6 g mn n1 n2 n3 n4 : Nat} {r : Rw} {p : Rp} {v1 v2 v3 v4 : Value}
theorem Rq.on (h : Rq w W b6 r p g mn v1 v2 v3 v4 n1 n2 n3 n4) (hb : Below W.heap.size W W') : Rq w W' b6 r p g mn v1 v2 v3 v4 n1 n2 n3 n4 :=
  ⟨Below.step h.B h.B.size hb, h.h1.keep hb h.h1.lt, h.h2.keep hb h.h2.lt, h.h6.keep hb h.h6.lt, h.hb, h.hg, h.hn.of_block (hb.block g h.hn.lt), own_below h.o1 hb, own_below h.o2 hb, own_below h.o3 hb, own_below h.o4 hb, h.ap⟩
theorem Rq.al (h : Rq w W b6 r p g mn v1 v2 v3 v4 n1 n2 n3 n4) (o : Obj) : Rq w (W.alloc o) b6 r p g mn v1 v2 v3 v4 n1 n2 n3 n4 := h.on ((Below.refl _ _).alloc (Nat.le_refl _) o)
theorem Rq.dn (h : Rq w W b6 r p g mn v1 v2 v3 v4 n1 n2 n3 n4) : Rq w W.drew b6 r p g mn v1 v2 v3 v4 n1 n2 n3 n4 := h.on (below_dn (Below.refl _ _) 1)
/-- behind an append to one list and the store of it -/
theorem Rq.core (h : Rq w W b6 r p g mn v1 v2 v3 v4 n1 n2 n3 n4) {vi : Value} (hvi : ∀ x, vi.ownBlock = some x → b6 + 1 ≤ x) (hG : W.grownBy W' vi.ownBlock) (i : Nat) (u : Value) :
    Below w.heap.size w (W'.setCell ⟨b6, i, none⟩ u) ∧ Has (W'.setCell ⟨b6, i, none⟩ u) w.heap.size 32 (rc r p) ∧ Has (W'.setCell ⟨b6, i, none⟩ u) (w.heap.size + 1) 26 zc ∧ Has (W'.setCell ⟨b6, i, none⟩ u) b6 26 ((#[.int .i64 r.ni, v1, v2, v3, v4] : Array Value).setIfInBounds i u) ∧ (W'.setCell ⟨b6, i, none⟩ u).rowIs g 3 (mn + 1) (fun v => .int .i64 (r.nw v)) ∧
    (∀ {e : TypeId} {size : Nat} {v : Value} {n : Nat} {xs : List Value}, W.ownsRow (b6 + 1) e size v n xs → (∀ x, v.ownBlock = some x → vi.ownBlock ≠ some x) → (W'.setCell ⟨b6, i, none⟩ u).ownsRow (b6 + 1) e size v n xs) ∧
    (∀ {e : TypeId} {size : Nat} {v : Value} {n : Nat} {xs : List Value}, W'.ownsRow (b6 + 1) e size v n xs → (W'.setCell ⟨b6, i, none⟩ u).ownsRow (b6 + 1) e size v n xs) := by
  have hlo : ∀ x, x < b6 + 1 → some x ≠ vi.ownBlock := fun x hx e => by have := hvi x e.symm; omega
  have hbW : b6 < W.heap.size := h.h6.lt
  have far : ∀ x, x ≠ b6 → (W'.setCell ⟨b6, i, none⟩ u).heap[x]? = W'.heap[x]? := fun x hx => Below.heap_setCell _ _ _ _ hx
  have old : ∀ x, x < b6 → (W'.setCell ⟨b6, i, none⟩ u).heap[x]? = W.heap[x]? := fun x hx => (far x (by omega)).trans (hG.block x (by omega) (hlo x (by omega)))
  have h6 : Has W' b6 26 #[.int .i64 r.ni, v1, v2, v3, v4] := (hG.block b6 hbW (hlo b6 (by omega))).trans h.h6
  have hb := h.hb
  have hBs := h.B.size
  refine ⟨(h.B.grown hG hBs (fun k hk => by have := hvi k hk; omega)).setCell (show w.heap.size ≤ b6 by omega) _, (old _ (by omega)).trans h.h1, (old _ (by omega)).trans h.h2, h6.set i u, h.hn.of_block (old g h.hg), fun ho hd => own_stay ho fun x hx => ?_, fun ho => own_stay ho fun x hx => far x (by have := own_ge3 ho hx; omega)⟩
  exact (far x (by have := own_ge3 ho hx; omega)).trans (hG.block x (own_lt3 ho hx) fun e => hd x hx e.symm)
/-- between an append and the store: the boxes -/
theorem Rq.mid (h : Rq w W b6 r p g mn v1 v2 v3 v4 n1 n2 n3 n4) {vi : Value} (hvi : ∀ x, vi.ownBlock = some x → b6 + 1 ≤ x) (hG : W.grownBy W' vi.ownBlock) :
    Below w.heap.size w W' ∧ Has W' w.heap.size 32 (rc r p) ∧ Has W' b6 26 #[.int .i64 r.ni, v1, v2, v3, v4] := by
  have hlo : ∀ x, x < b6 + 1 → some x ≠ vi.ownBlock := fun x hx e => by have := hvi x e.symm; omega
  have hbW : b6 < W.heap.size := h.h6.lt
  have hb := h.hb
  have hBs := h.B.size
  exact ⟨h.B.grown hG hBs (fun k hk => by have := hvi k hk; omega), (hG.block _ (by omega) (hlo _ (by omega))).trans h.h1, (hG.block b6 hbW (hlo b6 (by omega))).trans h.h6⟩
theorem own_type {W : World} {base size size' n n' : Nat} {e e' : TypeId} {v v' : Value} {xs xs' : List Value} (h : W.ownsRow base e size v n xs) (h' : W.ownsRow base e' size' v' n' xs') (he : e ≠ e') : ∀ x, v.ownBlock = some x → v'.ownBlock ≠ some x := fun x hx hx' => by
  rcases h.2 with ⟨rfl, _⟩ | ⟨g, c, cur, rfl, _, hh, _⟩
  · cases hx
  · rcases h'.2 with ⟨rfl, _⟩ | ⟨g', c', cur', rfl, _, hh', _⟩
    · cases hx'
    · obtain rfl : g = x := by simpa [Value.ownBlock] using hx
      obtain rfl : g' = g := by simpa [Value.ownBlock] using hx'
      rw [hh] at hh'
      injection hh' with hh'
      injection hh' with _ h2 _
      exact he h2
/-- what an append does -/
def Grew (W W' : World) (base : Nat) (e : TypeId) (size : Nat) (v v' : Value) (n : Nat) (xs : List Value) : Prop := W'.ownsRow base e size v' n xs ∧ W.grownBy W' v.ownBlock ∧ (v'.ownBlock = v.ownBlock ∨ v'.ownBlock = some W.heap.size)
theorem Rq.next1 (h : Rq w W b6 r p g mn v1 v2 v3 v4 n1 n2 n3 n4) {v : Value} (hG : Grew W W' (b6 + 1) 35 2 v1 v (n1 + 1) (pairL (fun j => r.told (r.la j)) r.lb (n1 + 1))) : Rq w (W'.setCell ⟨b6, 1, none⟩ v) b6 r p g mn v v2 v3 v4 (n1 + 1) n2 n3 n4 := by
  obtain ⟨c1, c2, c3, c4, c5, c6, c7⟩ := h.core (fun x hx => own_ge3 h.o1 hx) hG.2.1 1 v
  exact ⟨c1, c2, c3, c4, h.hb, h.hg, c5, c7 hG.1, c6 h.o2 (own_type h.o2 h.o1 (by decide)), c6 h.o3 (own_type h.o3 h.o1 (by decide)), c6 h.o4 (own_type h.o4 h.o1 (by decide)), h.ap⟩
theorem Rq.next2 (h : Rq w W b6 r p g mn v1 v2 v3 v4 n1 n2 n3 n4) {v : Value} (hG : Grew W W' (b6 + 1) 37 2 v2 v (n2 + 1) (pairL r.cir.ga r.cir.gb (n2 + 1))) : Rq w (W'.setCell ⟨b6, 2, none⟩ v) b6 r p g mn v1 v v3 v4 n1 (n2 + 1) n3 n4 := by
  obtain ⟨c1, c2, c3, c4, c5, c6, c7⟩ := h.core (fun x hx => own_ge3 h.o2 hx) hG.2.1 2 v
  exact ⟨c1, c2, c3, c4, h.hb, h.hg, c5, c6 h.o1 (own_type h.o1 h.o2 (by decide)), c7 hG.1, c6 h.o3 (own_type h.o3 h.o2 (by decide)), c6 h.o4 (own_type h.o4 h.o2 (by decide)), h.ap⟩
theorem Rq.next3 (h : Rq w W b6 r p g mn v1 v2 v3 v4 n1 n2 n3 n4) {v : Value} (hG : Grew W W' (b6 + 1) 3 1 v3 v (n3 + 1) (intL (fun j => r.told (r.bd j)) (n3 + 1))) : Rq w (W'.setCell ⟨b6, 3, none⟩ v) b6 r p g mn v1 v2 v v4 n1 n2 (n3 + 1) n4 := by
  obtain ⟨c1, c2, c3, c4, c5, c6, c7⟩ := h.core (fun x hx => own_ge3 h.o3 hx) hG.2.1 3 v
  refine ⟨c1, c2, c3, c4, h.hb, h.hg, c5, c6 h.o1 (own_type h.o1 h.o3 (by decide)), c6 h.o2 (own_type h.o2 h.o3 (by decide)), c7 hG.1, c6 h.o4 (fun x hx e => h.ap x e hx), fun x hx e => ?_⟩
  rcases hG.2.2 with e' | e'
  · exact h.ap x (e'.symm.trans hx) e
  · have := own_lt3 h.o4 e
    rw [hx] at e'
    injection e' with e'
    omega
theorem Rq.next4 (h : Rq w W b6 r p g mn v1 v2 v3 v4 n1 n2 n3 n4) {v : Value} (hG : Grew W W' (b6 + 1) 3 1 v4 v (n4 + 1) (intL (fun j => r.told (r.cn j)) (n4 + 1))) : Rq w (W'.setCell ⟨b6, 4, none⟩ v) b6 r p g mn v1 v2 v3 v n1 n2 n3 (n4 + 1) := by
  obtain ⟨c1, c2, c3, c4, c5, c6, c7⟩ := h.core (fun x hx => own_ge3 h.o4 hx) hG.2.1 4 v
  refine ⟨c1, c2, c3, c4, h.hb, h.hg, c5, c6 h.o1 (own_type h.o1 h.o4 (by decide)), c6 h.o2 (own_type h.o2 h.o4 (by decide)), c6 h.o3 (fun x hx e => h.ap x hx e), c7 hG.1, fun x hx e => ?_⟩
  rcases hG.2.2 with e' | e'
  · exact h.ap x hx (e'.symm.trans e)
  · have := own_lt3 h.o3 hx
    rw [e] at e'
    injection e' with e'
    omega
/-- Told, where the numbers lie -/
theorem Rq.told (h : Rq w W b6 r p g mn v1 v2 v3 v4 n1 n2 n3 n4) (hk : r.chk = 0) (hmn : r.m = mn) (h1 : r.m ≤ 1000) {x : Int} (hx : x ∈ r.uL) : Calls Try.prog 23 #[.slice (some ⟨g, 0, none⟩) (mn + 1) (mn + 1), .int .i64 x] W fun e w' => e = .returned (.int .i64 (r.told x)) ∧ Below W.heap.size W w' := by
  obtain ⟨u1, u2, u3, u4⟩ := Rw.used_nw hk hx
  have hNU : IntsAt W W.heap.size (some ⟨g, 0, none⟩) (mn + 1) (fun v => r.nw (v : Int)) := fun _ => ⟨_, rfl, h.hn.lt, fun j hj => by
    have e : (⟨g, 0, none⟩ : Addr).add j = ⟨g, j, none⟩ := by unfold Addr.add; split <;> simp_all
    rw [e, h.hn.cell hj]⟩
  refine (oTold_any (some ⟨g, 0, none⟩) (mn + 1) (mn + 1) _ x _ W hNU u1 (by omega) (by omega) (fun j hj => ?_)).mono fun e w' ⟨h1, h2⟩ => ⟨?_, h2⟩
  · have := r.nwk_bd r.oL.length j
    have hbg := of_decide_eq_false (Rw.chk_parts hk).2.1
    have hol := Rw.oL_len r
    have hor := r.ord_len
    show -1 ≤ r.nw j ∧ r.nw j ≤ 2000
    unfold Rw.nw
    omega
  · rw [h1]
    show Ending.returned (.int .i64 (2 * r.nw (((x / 2).toNat : Nat) : Int) + x % 2)) = _
    rw [show (((x / 2).toNat : Nat) : Int) = x / 2 by omega]
    rfl
end
theorem app_latch {W : World} {base : Nat} {v : Value} {n : Nat} {f h : Nat → Int} (ho : W.ownsRow base 35 2 v n (pairL f h n)) (hn : n ≤ 100000) (hb : base ≤ W.heap.size) (x y : Int) (hx : f n = x) (hy : h n = y) (ty : TypeId) :
    ∃ v' w', (Builtin.append_ #[22, 22] ty #[v, .slice (some ⟨W.heap.size, 0, none⟩) 1 1]).run Try.prog (W.alloc (.cells #[.int .i64 x, .int .i64 y] 35)) = .ok v' w' ∧ Grew (W.alloc (.cells #[.int .i64 x, .int .i64 y] 35)) w' base 35 2 v v' (n + 1) (pairL f h (n + 1)) := by
  obtain ⟨i0, hi0, hzz0, hs0, hy0⟩ := info_parts info_latch
  have hN := Has.new W 35 #[.int .i64 x, .int .i64 y]
  obtain ⟨v', w', hr, h2, h3, _, h5⟩ := run_append_own_at (P := Try.prog) (W.alloc (.cells #[.int .i64 x, .int .i64 y] 35)) base 22 ty 35 i0 (.agg #[.int .i64 0, .int .i64 0]) 2 16 Try.underlying22 hi0 hzz0 hs0 hy0 rfl (by decide) v n (pairL f h n) (World.ownsRow.alloc ho _) ⟨W.heap.size, 0, none⟩ 1 1 [.int .i64 (f n), .int .i64 (h n)] rfl (fun j u hj => by
    rw [hx, hy] at hj
    match j, hj with
    | 0, hj => simp at hj; subst hj; exact hN.cell 0
    | 1, hj => simp at hj; subst hj; exact hN.cell 1) (by simp [Value.oneCell']) (by simp only [maxLen]; omega) (by omega) (by simp only [World.size_alloc]; omega)
  exact ⟨v', w', hr, h2, h3, h5⟩
theorem app_int {W : World} {base : Nat} {v : Value} {n : Nat} {f : Nat → Int} (ho : W.ownsRow base 3 1 v n (intL f n)) (hn : n ≤ 100000) (hb : base ≤ W.heap.size) (x : Int) (hx : f n = x) (ty : TypeId) :
    ∃ v' w', (Builtin.append_ #[24, 24] ty #[v, .slice (some ⟨W.heap.size, 0, none⟩) 1 1]).run Try.prog (W.alloc (.cells #[.int .i64 x] 3)) = .ok v' w' ∧ Grew (W.alloc (.cells #[.int .i64 x] 3)) w' base 3 1 v v' (n + 1) (intL f (n + 1)) := by
  obtain ⟨i0, hi0, hzz0, hs0, hy0⟩ := info_parts info_int
  obtain ⟨v', w', hr, h2, h3, _, h5⟩ := run_append_own_at (P := Try.prog) (W.alloc (.cells #[.int .i64 x] 3)) base 24 ty 3 i0 (.int .i64 0) 1 8 Try.underlying24 hi0 hzz0 hs0 hy0 rfl (by decide) v n (intL f n) (World.ownsRow.alloc ho _) ⟨W.heap.size, 0, none⟩ 1 1 [.int .i64 (f n)] rfl (by rw [hx]; exact cell_one_new W _ _) (by simp [Value.oneCell']) (by simp only [maxLen]; omega) (by omega) (by simp only [World.size_alloc]; omega)
  exact ⟨v', w', hr, h2, h3, h5⟩
theorem app_and {W : World} {base : Nat} {v : Value} {n : Nat} {f h : Nat → Int} (ho : W.ownsRow base 37 2 v n (pairL f h n)) (hn : n ≤ 100000) (hb : base ≤ W.heap.size) (x y : Int) (hx : f n = x) (hy : h n = y) (ty : TypeId) :
    ∃ v' w', (Builtin.append_ #[23, 23] ty #[v, .slice (some ⟨W.heap.size, 0, none⟩) 1 1]).run Try.prog (W.alloc (.cells #[.int .i64 x, .int .i64 y] 37)) = .ok v' w' ∧ Grew (W.alloc (.cells #[.int .i64 x, .int .i64 y] 37)) w' base 37 2 v v' (n + 1) (pairL f h (n + 1)) := by
  obtain ⟨i0, hi0, hzz0, hs0, hy0⟩ := info_parts info_and
  have hN := Has.new W 37 #[.int .i64 x, .int .i64 y]
  obtain ⟨v', w', hr, h2, h3, _, h5⟩ := run_append_own_at (P := Try.prog) (W.alloc (.cells #[.int .i64 x, .int .i64 y] 37)) base 23 ty 37 i0 (.agg #[.int .i64 0, .int .i64 0]) 2 16 Try.underlying23 hi0 hzz0 hs0 hy0 rfl (by decide) v n (pairL f h n) (World.ownsRow.alloc ho _) ⟨W.heap.size, 0, none⟩ 1 1 [.int .i64 (f n), .int .i64 (h n)] rfl (fun j u hj => by
    rw [hx, hy] at hj
    match j, hj with
    | 0, hj => simp at hj; subst hj; exact hN.cell 0
    | 1, hj => simp at hj; subst hj; exact hN.cell 1) (by simp [Value.oneCell']) (by simp only [maxLen]; omega) (by omega) (by simp only [World.size_alloc]; omega)
  exact ⟨v', w', hr, h2, h3, h5⟩

end Go.Proofs.Ytpdfdbnmohippaa

namespace Go.Proofs.Ytpdfdbnmohippaa
open Go Go.RowKit
set_option linter.unusedVariables false
set_option linter.unusedSimpArgs false

set_option maxRecDepth 100000 in
set_option maxHeartbeats 4000000 in
theorem rcirc_no (r : Rw) (p : Rp) (w : World) (hs : RSm r) (hm : RMem w w.heap.size r p) (hN : RNils r p) (hk : r.chk ≠ 0) :
    Calls Try.prog 18 #[rv r p] w fun e w' => e = .returned (.tuple #[.agg #[.int .i64 0, .slice none 0 0, .slice none 0 0, .slice none 0 0, .slice none 0 0], .slice none 0 0, .int .i64 r.chk]) ∧ Below w.heap.size w w' := by
  have hk' : (r.chk != 0) = true := by simpa using hk
  have hB0 : Below w.heap.size w ((w.alloc (.cells (rcL r p) 32)).alloc (.cells #[.int .i64 0, .slice none 0 0, .slice none 0 0, .slice none 0 0, .slice none 0 0] 26)) := by go_grown
  have hX0 : Has ((w.alloc (.cells (rcL r p) 32)).alloc (.cells #[.int .i64 0, .slice none 0 0, .slice none 0 0, .slice none 0 0, .slice none 0 0] 26)) w.heap.size 32 (rc r p) := (Has.new _ _ _).al _
  have hZ0 : Has ((w.alloc (.cells (rcL r p) 32)).alloc (.cells #[.int .i64 0, .slice none 0 0, .slice none 0 0, .slice none 0 0, .slice none 0 0] 26)) (w.heap.size + 1) 26 zc := Has.new' _ _ (by simp)
  have H0 := Lib.hid (And.intro hB0 (And.intro hX0 hZ0))
  have C0 : Hid (∀ W, Below w.heap.size w W → Calls Try.prog 19 #[rv r p] W fun e w' => e = .returned (.int .i64 r.chk) ∧ Below W.heap.size W w') := fun W hb => oRCheck_any r p W hs (hm.to hb hb.size) hN
  clear hB0 hX0 hZ0 hk
  go_enter Try.func18, Try.ntmps18
  go_wp2_with (go_at_call 19; (with_reducible refine (C0.out _ H0.out.1).mono ?_); rintro e w1 ⟨rfl, hb1⟩; have hB1 := Below.step H0.out.1 H0.out.1.size hb1; have hX1 := H0.out.2.1.keep hb1 H0.out.2.1.lt; have hZ1 := H0.out.2.2.keep hb1 H0.out.2.2.lt; obtain ⟨x0, x1, x2, x3, x4, x5⟩ := hX1.rbox)
  go_wp2_with (go_at_call 19; (with_reducible refine (C0.out _ hB1).mono ?_); rintro e w2 ⟨rfl, hb2⟩; have hB2 := Below.step hB1 hB1.size hb2; have hZ2 := hZ1.keep hb2 hZ1.lt; obtain ⟨⟨z0, z1, z2, z3, z4⟩, f0, f1, f2, f3, f4⟩ := hZ2.z5)
  refine bodyPost_ret (v := .tuple #[.agg #[.int .i64 0, .slice none 0 0, .slice none 0 0, .slice none 0 0, .slice none 0 0], .slice none 0 0, .int .i64 r.chk]) (by simp [results, Try.results18, go_sem, z0, z1, z2, z3, z4]) rfl ⟨rfl, ?_⟩
  exact put5_below (.int .i64 0) (.slice none 0 0) (.slice none 0 0) (.slice none 0 0) (.slice none 0 0) hB2 (show w.heap.size ≤ w.heap.size + 1 by omega)

/-- what a call of Circuit by the reference returns -/
def RCirc (r : Rw) (mn : Nat) (w : World) (e : Ending) (w' : World) : Prop := ∃ p' g, e = .returned (.tuple #[cv r.cir p', .slice (some ⟨g, 0, none⟩) (mn + 1) (mn + 1), .int .i64 0]) ∧ Mem w' w'.heap.size r.cir p' ∧ w'.rowIs g 3 (mn + 1) (fun v => .int .i64 (r.nw v)) ∧ Below w.heap.size w w'
set_option maxRecDepth 100000 in
set_option maxHeartbeats 16000000 in
theorem rcirc_yes (r : Rw) (p : Rp) (w : World) (mn : Nat) (hmn : r.m = mn) (hs : RSm r) (hm : RMem w w.heap.size r p) (hN : RNils r p) (hk : r.chk = 0) :
    Calls Try.prog 18 #[rv r p] w (RCirc r mn w) := by
  obtain ⟨h0, hbig, hnum, _⟩ := Rw.chk_parts hk
  have hbg := of_decide_eq_false hbig
  have h1 : r.m ≤ 1000 := by omega
  have g0 := hs.ni
  have g1 := hs.nl
  have g2 := hs.na
  have g4 := hs.nb
  have g5 := hs.nc
  have hB0 : Below w.heap.size w ((w.alloc (.cells (rcL r p) 32)).alloc (.cells #[.int .i64 0, .slice none 0 0, .slice none 0 0, .slice none 0 0, .slice none 0 0] 26)) := by go_grown
  have hX0 : Has ((w.alloc (.cells (rcL r p) 32)).alloc (.cells #[.int .i64 0, .slice none 0 0, .slice none 0 0, .slice none 0 0, .slice none 0 0] 26)) w.heap.size 32 (rc r p) := (Has.new _ _ _).al _
  have hZ0 : Has ((w.alloc (.cells (rcL r p) 32)).alloc (.cells #[.int .i64 0, .slice none 0 0, .slice none 0 0, .slice none 0 0, .slice none 0 0] 26)) (w.heap.size + 1) 26 zc := Has.new' _ _ (by simp)
  have H0 := Lib.hid (And.intro hB0 (And.intro hX0 hZ0))
  have C0 : Hid (∀ W, Below w.heap.size w W → Calls Try.prog 19 #[rv r p] W fun e w' => e = .returned (.int .i64 0) ∧ Below W.heap.size W w') := fun W hb => by have := oRCheck_any r p W hs (hm.to hb hb.size) hN; rwa [hk] at this
  have V0 : Hid (∀ W, Below w.heap.size w W → Calls Try.prog 44 #[rv r p] W (NumsIs r mn W)) := fun W hb => oNums_any r p W mn hmn hs (hm.to hb hb.size) h1 hnum
  have O0 : Hid (∀ W, Below w.heap.size w W → Calls Try.prog 45 #[rv r p] W fun e w' => ∃ A k, e = .returned (.slice A r.ord.length k) ∧ IntsAt w' w'.heap.size A r.ord.length (fun j => (nL r.ord).getD j 0) ∧ (∀ a, A = some a → W.heap.size ≤ a.block) ∧ Below W.heap.size W w') := fun W hb => (oOrder_any r p W mn hmn hs (hm.to hb hb.size) h1 hnum).mono fun e w' ⟨v, he, ho, hb'⟩ => by
    obtain ⟨A, k, hv, hi, hf⟩ := own_list ho
    rw [nL_len] at hv hi
    exact ⟨A, k, by rw [he, hv], hi, fun a ha => hf a.block (by rw [hv, ha]; rfl), hb'⟩
  have HK := Lib.hid hk
  have HM := Lib.hid hm
  have HMN := Lib.hid hmn
  have H1 := Lib.hid h1
  have HS := Lib.hid hs
  clear hB0 hX0 hZ0 hk hbig hbg hnum hmn hm h0 h1 hs
  go_enter Try.func18, Try.ntmps18
  go_wp2_with (go_at_call 19; (with_reducible refine (C0.out _ H0.out.1).mono ?_); rintro e w1 ⟨rfl, hb1⟩; have hB1 := Below.step H0.out.1 H0.out.1.size hb1; have hX1 := H0.out.2.1.keep hb1 H0.out.2.1.lt; have hZ1 := H0.out.2.2.keep hb1 H0.out.2.2.lt; obtain ⟨x0, x1, x2, x3, x4, x5⟩ := hX1.rbox)
  go_wp2_with (go_at_call 44; (with_reducible refine (V0.out _ hB1).mono ?_); rintro e w2 ⟨g, rfl, hR2, hg2, hb2⟩; have hB2 := Below.step hB1 hB1.size hb2; have hX2 := hX1.keep hb2 hX1.lt; have hZ2 := hZ1.keep hb2 hZ1.lt; clear x0 x1 x2 x3 x4 x5; obtain ⟨x0, x1, x2, x3, x4, x5⟩ := hX2.rbox)
  have hQ0 : Rq w (w2.alloc (.cells #[.int .i64 r.ni, .slice none 0 0, .slice none 0 0, .slice none 0 0, .slice none 0 0] 26)) w2.heap.size r p g mn (.slice none 0 0) (.slice none 0 0) (.slice none 0 0) (.slice none 0 0) 0 0 0 0 :=
    ⟨hB2.alloc hB2.size _, hX2.al _, hZ2.al _, Has.new _ _ _, hZ2.lt, hR2.lt, hR2.alloc _, World.ownsRow_nil _ _ _ _, World.ownsRow_nil _ _ _ _, World.ownsRow_nil _ _ _ _, World.ownsRow_nil _ _ _ _, fun x hx => by cases hx⟩
  obtain ⟨b6, hb6⟩ : ∃ b, w2.heap.size = b := ⟨_, rfl⟩
  rw [hb6] at hQ0 ⊢
  have HQ0 := Lib.hid hQ0
  clear x0 x1 x2 x3 x4 x5 hQ0 hX1 hX2 hZ1 hZ2 hB1 hR2 hg2 hb1 hb2 hb6 hB2
  go_loopw [7] (fun i wr => ∃ q v, q ≤ r.nl ∧ i = .int .i64 (q : Int) ∧ Rq w wr b6 r p g mn v (.slice none 0 0) (.slice none 0 0) (.slice none 0 0) q 0 0 0) (fun i _ => r.nl - (intOf i).toNat)
  case atStart => exact ⟨0, _, Nat.zero_le _, rfl, HQ0.out⟩
  case round =>
    obtain ⟨q, v, hq, rfl, hQ⟩ := hrel
    have HQ := Lib.hid hQ
    obtain ⟨x0, x1, x2, x3, x4, x5⟩ := hQ.h1.rbox
    obtain ⟨Av, kv, hv, _⟩ := own_pairs' hQ.o1
    subst hv
    clear hQ
    by_cases hlt : q < r.nl
    · have hq1 : (q : Int) < (r.nl : Int) := by omega
      have hq0 : (0 : Int) ≤ (q : Int) := by omega
      obtain ⟨a, hA, hab, hcs⟩ := (HM.out.la.keep HQ.out.B) (by omega)
      have hmem : r.la q ∈ r.uL := by unfold Rw.uL; simp only [List.mem_append]; exact Or.inl (Or.inr (mem_lst.2 ⟨q, hlt, rfl⟩))
      have TO : Hid (∀ W, Rq w W b6 r p g mn (.slice Av q kv) (.slice none 0 0) (.slice none 0 0) (.slice none 0 0) q 0 0 0 → Calls Try.prog 23 #[.slice (some ⟨g, 0, none⟩) (mn + 1) (mn + 1), .int .i64 (r.la q)] W fun e w' => e = .returned (.int .i64 (r.told (r.la q))) ∧ Below W.heap.size W w') := fun W hW => hW.told HK.out HMN.out H1.out hmem
      rw [hA] at x2
      have HC : Hid (∀ W, Has W b6 26 #[.int .i64 r.ni, .slice Av q kv, .slice none 0 0, .slice none 0 0, .slice none 0 0] → Has W w.heap.size 32 (rc r p) → Below w.heap.size w W → W.cell? ⟨b6, 1, none⟩ = some (.slice Av q kv) ∧ W.cell? ⟨w.heap.size, 2, none⟩ = some (.slice (some a) r.nl p.k2) ∧ W.cell? ⟨(a.add (q * 3)).block, (a.add (q * 3)).off + 1, none⟩ = some (.int .i64 (r.la q)) ∧ W.cell? ⟨(a.add (q * 3)).block, (a.add (q * 3)).off + 2, none⟩ = some (.int .i64 (r.lb q))) := fun W h6 h1 hB => by
        obtain ⟨a', hA', _, hcs'⟩ := (HM.out.la.keep hB) (by omega)
        rw [hA] at hA'
        cases hA'
        obtain ⟨y0, y1, y2⟩ := hcs' q hlt
        obtain ⟨_, _, z2, _⟩ := h1.rbox
        rw [hA] at z2
        exact ⟨h6.cell 1, z2, y1, y2⟩
      clear hcs hmem
      go_wp2
      have hQd := HQ.out.dn
      refine wp_slots (fun f => Sz f 135 ∧ Slot f 1 (.pointer (some ⟨w.heap.size, 0, none⟩)) ∧ Slot f 5 (.slice (some ⟨g, 0, none⟩) (mn + 1) (mn + 1)) ∧ Slot f 6 (.pointer (some ⟨b6, 0, none⟩)) ∧ Slot f 7 (.int .i64 (q : Int))) ⟨⟨rfl, rfl⟩, ⟨rfl⟩, ⟨rfl⟩, ⟨rfl⟩, ⟨rfl⟩⟩ fun a0' hA0 hR => ?_
      obtain ⟨hZ, hs1, hs5, hs6, hs7⟩ := hR
      have HA := Lib.hid hA0
      clear hA0 x0 x1 x2 x3 x4 x5
      have hS0 := HC.out wr.drew hQd.h6 hQd.h1 hQd.B
      refine wp_region_T (fun W : World => W.cell? ⟨b6, 1, none⟩ = some (.slice Av q kv) ∧ W.cell? ⟨w.heap.size, 2, none⟩ = some (.slice (some a) r.nl p.k2) ∧ W.cell? ⟨(a.add (q * 3)).block, (a.add (q * 3)).off + 1, none⟩ = some (.int .i64 (r.la q)) ∧ W.cell? ⟨(a.add (q * 3)).block, (a.add (q * 3)).off + 2, none⟩ = some (.int .i64 (r.lb q))) 20 (by kernel_rfl) ?_
      refine WT.h ?_
      (refine wt_take1 0 6 (v := ?_) rfl rfl (by kernel_rfl) (by kernel_rfl) (by kernel_rfl) (by kernel_rfl) (fun _ _ _ h => h) rfl hS0 (by (repeat (first | (refine slot_hit (N := 135) ?_ (by rfl); (repeat (refine sz_put ?_)); assumption; done) | (apply slot_miss; focus rfl))); all_goals assumption) (fun ev hk hv0 w hS => ?_) ?_; rotate_left; focus (obtain ⟨j0, j1, j2, j3⟩ := hS; go_simp; rfl)); (refine wt_take1 1 33 (v := ?_) rfl rfl (by kernel_rfl) (by kernel_rfl) (by kernel_rfl) (by kernel_rfl) (fun _ _ _ h => h) rfl hS0 (by (repeat (first | (refine slot_hit (N := 135) ?_ (by rfl); (repeat (refine sz_put ?_)); assumption; done) | (apply slot_miss; focus rfl))); all_goals assumption) (fun ev hk hv0 w hS => ?_) ?_; rotate_left; focus (obtain ⟨j0, j1, j2, j3⟩ := hS; go_simp; rfl)); (refine wt_move 2 5 rfl rfl (by kernel_rfl) (by kernel_rfl) (by kernel_rfl) (by kernel_rfl) (fun _ _ _ h => h) rfl hS0 (by (repeat (first | (refine slot_hit (N := 135) ?_ (by rfl); (repeat (refine sz_put ?_)); assumption; done) | (apply slot_miss; focus rfl))); all_goals assumption) rfl ?_); (refine wt_take1 3 1 (v := ?_) rfl rfl (by kernel_rfl) (by kernel_rfl) (by kernel_rfl) (by kernel_rfl) (fun _ _ _ h => h) rfl hS0 (by (repeat (first | (refine slot_hit (N := 135) ?_ (by rfl); (repeat (refine sz_put ?_)); assumption; done) | (apply slot_miss; focus rfl))); all_goals assumption) (fun ev hk hv0 w hS => ?_) ?_; rotate_left; focus (obtain ⟨j0, j1, j2, j3⟩ := hS; go_simp; rfl)); (refine wt_take1 4 36 (v := ?_) rfl rfl (by kernel_rfl) (by kernel_rfl) (by kernel_rfl) (by kernel_rfl) (fun _ _ _ h => h) rfl hS0 (by (repeat (first | (refine slot_hit (N := 135) ?_ (by rfl); (repeat (refine sz_put ?_)); assumption; done) | (apply slot_miss; focus rfl))); all_goals assumption) (fun ev hk hv0 w hS => ?_) ?_; rotate_left; focus (obtain ⟨j0, j1, j2, j3⟩ := hS; go_simp; rfl)); (refine wt_move 5 7 rfl rfl (by kernel_rfl) (by kernel_rfl) (by kernel_rfl) (by kernel_rfl) (fun _ _ _ h => h) rfl hS0 (by (repeat (first | (refine slot_hit (N := 135) ?_ (by rfl); (repeat (refine sz_put ?_)); assumption; done) | (apply slot_miss; focus rfl))); all_goals assumption) rfl ?_); (refine wt_take2 6 37 38 (v := ?_) rfl rfl (by kernel_rfl) (by kernel_rfl) (by kernel_rfl) (by kernel_rfl) (fun _ _ _ h => h) rfl hS0 (by (repeat (first | (refine slot_hit (N := 135) ?_ (by rfl); (repeat (refine sz_put ?_)); assumption; done) | (apply slot_miss; focus rfl))); all_goals assumption) (by (repeat (first | (refine slot_hit (N := 135) ?_ (by rfl); (repeat (refine sz_put ?_)); assumption; done) | (apply slot_miss; focus rfl))); all_goals assumption) (fun ev hk hv0 hv1 w hS => ?_) ?_; rotate_left; focus (obtain ⟨j0, j1, j2, j3⟩ := hS; go_simp; rfl)); (refine wt_take1 7 39 (v := ?_) rfl rfl (by kernel_rfl) (by kernel_rfl) (by kernel_rfl) (by kernel_rfl) (fun _ _ _ h => h) rfl hS0 (by (repeat (first | (refine slot_hit (N := 135) ?_ (by rfl); (repeat (refine sz_put ?_)); assumption; done) | (apply slot_miss; focus rfl))); all_goals assumption) (fun ev hk hv0 w hS => ?_) ?_; rotate_left; focus (obtain ⟨j0, j1, j2, j3⟩ := hS; go_simp; rfl)); (refine wt_take1 8 40 (v := ?_) rfl rfl (by kernel_rfl) (by kernel_rfl) (by kernel_rfl) (by kernel_rfl) (fun _ _ _ h => h) rfl hS0 (by (repeat (first | (refine slot_hit (N := 135) ?_ (by rfl); (repeat (refine sz_put ?_)); assumption; done) | (apply slot_miss; focus rfl))); all_goals assumption) (fun ev hk hv0 w hS => ?_) ?_; rotate_left; focus (obtain ⟨j0, j1, j2, j3⟩ := hS; go_simp; rfl)); (refine wt_take1 10 1 (v := ?_) rfl rfl (by kernel_rfl) (by kernel_rfl) (by kernel_rfl) (by kernel_rfl) (fun _ _ _ h => h) rfl hS0 (by (repeat (first | (refine slot_hit (N := 135) ?_ (by rfl); (repeat (refine sz_put ?_)); assumption; done) | (apply slot_miss; focus rfl))); all_goals assumption) (fun ev hk hv0 w hS => ?_) ?_; rotate_left; focus (obtain ⟨j0, j1, j2, j3⟩ := hS; go_simp; rfl)); (refine wt_take1 11 43 (v := ?_) rfl rfl (by kernel_rfl) (by kernel_rfl) (by kernel_rfl) (by kernel_rfl) (fun _ _ _ h => h) rfl hS0 (by (repeat (first | (refine slot_hit (N := 135) ?_ (by rfl); (repeat (refine sz_put ?_)); assumption; done) | (apply slot_miss; focus rfl))); all_goals assumption) (fun ev hk hv0 w hS => ?_) ?_; rotate_left; focus (obtain ⟨j0, j1, j2, j3⟩ := hS; go_simp; rfl)); (refine wt_move 12 7 rfl rfl (by kernel_rfl) (by kernel_rfl) (by kernel_rfl) (by kernel_rfl) (fun _ _ _ h => h) rfl hS0 (by (repeat (first | (refine slot_hit (N := 135) ?_ (by rfl); (repeat (refine sz_put ?_)); assumption; done) | (apply slot_miss; focus rfl))); all_goals assumption) rfl ?_); (refine wt_take2 13 44 45 (v := ?_) rfl rfl (by kernel_rfl) (by kernel_rfl) (by kernel_rfl) (by kernel_rfl) (fun _ _ _ h => h) rfl hS0 (by (repeat (first | (refine slot_hit (N := 135) ?_ (by rfl); (repeat (refine sz_put ?_)); assumption; done) | (apply slot_miss; focus rfl))); all_goals assumption) (by (repeat (first | (refine slot_hit (N := 135) ?_ (by rfl); (repeat (refine sz_put ?_)); assumption; done) | (apply slot_miss; focus rfl))); all_goals assumption) (fun ev hk hv0 hv1 w hS => ?_) ?_; rotate_left; focus (obtain ⟨j0, j1, j2, j3⟩ := hS; go_simp; rfl)); (refine wt_take1 14 46 (v := ?_) rfl rfl (by kernel_rfl) (by kernel_rfl) (by kernel_rfl) (by kernel_rfl) (fun _ _ _ h => h) rfl hS0 (by (repeat (first | (refine slot_hit (N := 135) ?_ (by rfl); (repeat (refine sz_put ?_)); assumption; done) | (apply slot_miss; focus rfl))); all_goals assumption) (fun ev hk hv0 w hS => ?_) ?_; rotate_left; focus (obtain ⟨j0, j1, j2, j3⟩ := hS; go_simp; rfl)); (refine wt_take1 15 47 (v := ?_) rfl rfl (by kernel_rfl) (by kernel_rfl) (by kernel_rfl) (by kernel_rfl) (fun _ _ _ h => h) rfl hS0 (by (repeat (first | (refine slot_hit (N := 135) ?_ (by rfl); (repeat (refine sz_put ?_)); assumption; done) | (apply slot_miss; focus rfl))); all_goals assumption) (fun ev hk hv0 w hS => ?_) ?_; rotate_left; focus (obtain ⟨j0, j1, j2, j3⟩ := hS; go_simp; rfl))
      refine wt_call2 9 35 41 (by kernel_rfl) rfl rfl rfl (by (repeat (first | (refine slot_hit (N := 135) ?_ (by rfl); (repeat (refine sz_put ?_)); assumption; done) | (apply slot_miss; focus rfl))); all_goals assumption) (by (repeat (first | (refine slot_hit (N := 135) ?_ (by rfl); (repeat (refine sz_put ?_)); assumption; done) | (apply slot_miss; focus rfl))); all_goals assumption) (f := ?_) (args := ?_) (fun ev hk hkf hv0 hv1 => ?_) ?_; rotate_left 2; focus (go_simp; first | rfl | (constructor <;> rfl))
      (with_reducible refine (TO.out _ hQd).mono ?_)
      rintro e w4 ⟨rfl, hb4⟩
      have hQ4 := hQd.on hb4
      clear hS0
      have hS0 := HC.out w4 hQ4.h6 hQ4.h1 hQ4.B
      refine ⟨_, rfl, fun _ => hS0, ?_⟩
      (refine wt_take2 16 42 48 (v := ?_) rfl rfl (by kernel_rfl) (by kernel_rfl) (by kernel_rfl) (by kernel_rfl) (fun _ _ _ h => h) rfl hS0 (by (repeat (first | (refine slot_hit (N := 135) ?_ (by rfl); (repeat (refine sz_put ?_)); assumption; done) | (apply slot_miss; focus rfl))); all_goals assumption) (by (repeat (first | (refine slot_hit (N := 135) ?_ (by rfl); (repeat (refine sz_put ?_)); assumption; done) | (apply slot_miss; focus rfl))); all_goals assumption) (fun ev hk hv0 hv1 w hS => ?_) ?_; rotate_left; focus (obtain ⟨j0, j1, j2, j3⟩ := hS; go_simp; rfl))
      refine wt_val1 17 49 (by kernel_rfl) rfl rfl rfl (by (repeat (first | (refine slot_hit (N := 135) ?_ (by rfl); (repeat (refine sz_put ?_)); assumption; done) | (apply slot_miss; focus rfl))); all_goals assumption) (v := ?_) (w' := ?_) (fun ev hk hv0 => ?_) ?_; rotate_left 2; focus (go_simp; first | rfl | (constructor <;> rfl))
      have hQ5 := hQ4.al (.cells #[.int .i64 (r.told (r.la q)), .int .i64 (r.lb q)] 35)
      clear hS0
      have hS0 := HC.out _ hQ5.h6 hQ5.h1 hQ5.B
      refine ⟨fun _ => hS0, ?_⟩
      refine wt_append 18 34 50 (by kernel_rfl) rfl rfl rfl (by (repeat (first | (refine slot_hit (N := 135) ?_ (by rfl); (repeat (refine sz_put ?_)); assumption; done) | (apply slot_miss; focus rfl))); all_goals assumption) (by (repeat (first | (refine slot_hit (N := 135) ?_ (by rfl); (repeat (refine sz_put ?_)); assumption; done) | (apply slot_miss; focus rfl))); all_goals assumption) rfl (fun ty => app_latch hQ4.o1 (by omega) (by have := hQ4.h6.lt; omega) _ _ rfl rfl ty) (fun v8 w8 hG => ?_)
      obtain ⟨A8, k8, rfl, _⟩ := own_pairs' hG.1
      obtain ⟨m1, m2, m3⟩ := hQ5.mid (fun x hx => own_ge3 hQ5.o1 hx) hG.2.1
      have hQ6 := hQ5.next1 hG
      clear hS0
      have hS0 := HC.out w8 m3 m2 m1
      refine ⟨fun _ => hS0, ?_⟩
      (refine wt_take1 19 6 (v := ?_) rfl rfl (by kernel_rfl) (by kernel_rfl) (by kernel_rfl) (by kernel_rfl) (fun _ _ _ h => h) rfl hS0 (by (repeat (first | (refine slot_hit (N := 135) ?_ (by rfl); (repeat (refine sz_put ?_)); assumption; done) | (apply slot_miss; focus rfl))); all_goals assumption) (fun ev hk hv0 w hS => ?_) ?_; rotate_left; focus (obtain ⟨j0, j1, j2, j3⟩ := hS; go_simp; rfl))
      have y8 := m3.cell 1
      have yf8 := m3.fz 1
      refine wt_act2 20 52 51 (by kernel_rfl) rfl rfl rfl (by (repeat (first | (refine slot_hit (N := 135) ?_ (by rfl); (repeat (refine sz_put ?_)); assumption; done) | (apply slot_miss; focus rfl))); all_goals assumption) (by (repeat (first | (refine slot_hit (N := 135) ?_ (by rfl); (repeat (refine sz_put ?_)); assumption; done) | (apply slot_miss; focus rfl))); all_goals assumption) (w' := ?_) (fun ev hk hv0 hv1 => ?_) ?_; rotate_left; focus (go_simp; rfl)
      refine ⟨fun h => absurd h (by decide), ?_⟩
      refine wt_done (by kernel_rfl) (NoPanic.normal ?_) _
      have ha := HA.out
      subst ha
      have HQ6 := Lib.hid hQ6
      clear hS0 y8 yf8 m1 m2 m3 hG hQ5 hQ4 hb4 hQd hQ6 hs1 hs5 hs6 hs7 hZ
      go_wp2
      go_roundw
      case rel => exact ⟨q + 1, by omega, by go_num, _, HQ6.out⟩
      case measure => simp [intOf]; omega
    · obtain rfl : q = r.nl := by omega
      clear hlt hq
      go_wp2_with (go_at_call 45; (with_reducible refine (O0.out _ HQ.out.B).mono ?_); rintro e w5 ⟨Ao, ko, rfl, hio, hfo, hb5⟩)
      have HQ5 := Lib.hid (HQ.out.on hb5)
      have HFO : Hid (∀ a, Ao = some a → b6 < a.block) := Lib.hid fun a ha => by have := hfo a ha; have := HQ.out.h6.lt; omega
      have HIO := Lib.hid hio
      clear hio hfo hb5 x0 x1 x2 x3 x4 x5
      go_loopw [9] (fun i wr => ∃ t u, t ≤ r.ord.length ∧ i = .int .i64 (t : Int) ∧ Rq w wr b6 r p g mn (.slice Av r.nl kv) u (.slice none 0 0) (.slice none 0 0) r.nl t 0 0 ∧ (∀ x, u.ownBlock = some x → w5.heap.size ≤ x) ∧ (∀ x, x < w5.heap.size → x ≠ b6 → wr.heap[x]? = w5.heap[x]?)) (fun i _ => r.ord.length - (intOf i).toNat)
      case atStart => exact ⟨0, _, Nat.zero_le _, rfl, HQ5.out, (fun x hx => by cases hx), fun _ _ _ => rfl⟩
      case round =>
        obtain ⟨t, u, ht, rfl, hQ2, hu2, hw2⟩ := hrel
        have hol := r.ord_len
        obtain ⟨Au, ku, hv, _⟩ := own_pairs' hQ2.o2
        subst hv
        have HQ2 := Lib.hid hQ2
        obtain ⟨x0, x1, x2, x3, x4, x5⟩ := hQ2.h1.rbox
        by_cases hlt : t < r.ord.length
        · have hq1 : (t : Int) < (r.ord.length : Int) := by omega
          have hq0 : (0 : Int) ≤ (t : Int) := by omega
          obtain ⟨i0, hi0⟩ : ∃ i, r.ord.getD t 0 = i := ⟨_, rfl⟩
          have hina : i0 < r.na := by rw [← hi0]; exact r.ord_at hlt
          have hin1 : (i0 : Int) < (r.na : Int) := by omega
          have hin0 : (0 : Int) ≤ (i0 : Int) := by omega
          obtain ⟨ao, hAo, hao, _⟩ := HIO.out (by omega)
          subst hAo
          obtain ⟨a, hA, hab, _⟩ := (HM.out.an.keep hQ2.B) (by omega)
          have hnl : (nL r.ord).getD t 0 = (i0 : Int) := by rw [← hi0]; unfold nL; rw [List.getD_eq_getElem?_getD, List.getD_eq_getElem?_getD, List.getElem?_map, List.getElem?_eq_getElem hlt]; rfl
          have HC : Hid (∀ W, Has W w.heap.size 32 (rc r p) → Below w.heap.size w W → (∀ x, x < w5.heap.size → x ≠ b6 → W.heap[x]? = w5.heap[x]?) → W.cell? (ao.add t) = some (.int .i64 (i0 : Int)) ∧ W.cell? ⟨w.heap.size, 3, none⟩ = some (.slice (some a) r.na p.k3) ∧ W.cell? ⟨(a.add (i0 * 3)).block, (a.add (i0 * 3)).off + 1, none⟩ = some (.int .i64 (r.ga i0)) ∧ W.cell? ⟨(a.add (i0 * 3)).block, (a.add (i0 * 3)).off + 2, none⟩ = some (.int .i64 (r.gb i0))) := Lib.hid fun W h1 hB hw => by
            obtain ⟨a', hA', _, hcs'⟩ := (HM.out.an.keep hB) (by omega)
            rw [hA] at hA'
            cases hA'
            obtain ⟨y0, y1, y2⟩ := hcs' i0 hina
            obtain ⟨_, _, _, z3, _⟩ := h1.rbox
            rw [hA] at z3
            obtain ⟨ao', e, _, hco⟩ := HIO.out (by omega)
            cases e
            have hc := hco t hlt
            dsimp only at hc
            rw [hnl] at hc
            have hbo := HFO.out ao rfl
            refine ⟨?_, z3, y1, y2⟩
            rw [← hc]
            exact World.cell?_of_block (hw (ao.add t).block (by rw [add_block]; exact hao) (by rw [add_block]; omega))
          have hm1 : r.ga i0 ∈ r.uL := by unfold Rw.uL; simp only [List.mem_append]; exact Or.inr (mem_twos.2 ⟨i0, hina, Or.inl rfl⟩)
          have hm2 : r.gb i0 ∈ r.uL := by unfold Rw.uL; simp only [List.mem_append]; exact Or.inr (mem_twos.2 ⟨i0, hina, Or.inr rfl⟩)
          obtain ⟨X, hX⟩ : ∃ X, r.told (r.ga i0) = X := ⟨_, rfl⟩
          obtain ⟨Y, hY⟩ : ∃ Y, r.told (r.gb i0) = Y := ⟨_, rfl⟩
          have TA : Hid (∀ W, Rq w W b6 r p g mn (.slice Av r.nl kv) (.slice Au t ku) (.slice none 0 0) (.slice none 0 0) r.nl t 0 0 → Calls Try.prog 23 #[.slice (some ⟨g, 0, none⟩) (mn + 1) (mn + 1), .int .i64 (r.ga i0)] W fun e w' => e = .returned (.int .i64 X) ∧ Below W.heap.size W w') := fun W hW => by rw [← hX]; exact hW.told HK.out HMN.out H1.out hm1
          have TB : Hid (∀ W, Rq w W b6 r p g mn (.slice Av r.nl kv) (.slice Au t ku) (.slice none 0 0) (.slice none 0 0) r.nl t 0 0 → Calls Try.prog 23 #[.slice (some ⟨g, 0, none⟩) (mn + 1) (mn + 1), .int .i64 (r.gb i0)] W fun e w' => e = .returned (.int .i64 Y) ∧ Below W.heap.size W w') := fun W hW => by rw [← hY]; exact hW.told HK.out HMN.out H1.out hm2
          obtain ⟨M1, hM1⟩ : ∃ M, max X Y = M := ⟨_, rfl⟩
          obtain ⟨M2, hM2⟩ : ∃ M, min X Y = M := ⟨_, rfl⟩
          have HM12 : Hid (r.cir.ga t = M1 ∧ r.cir.gb t = M2) := Lib.hid ⟨by rw [← hM1, ← hX, ← hY, ← hi0]; rfl, by rw [← hM2, ← hX, ← hY, ← hi0]; rfl⟩
          have hmax : ∀ ts ty W, (Builtin.max_ ts ty #[.int .i64 X, .int .i64 Y]).run Try.prog W = .ok (.int .i64 M1) W := fun ts ty W => by rw [run_max_int2]; congr 2; rw [← hM1]; split <;> omega
          have hmin : ∀ ts ty W, (Builtin.min_ ts ty #[.int .i64 X, .int .i64 Y]).run Try.prog W = .ok (.int .i64 M2) W := fun ts ty W => by rw [run_min_int2]; congr 2; rw [← hM2]; split <;> omega
          clear hm1 hm2 hX hY hM1 hM2 hnl hi0 hQ2
          go_wp2
          obtain ⟨D, hD⟩ : ∃ D, wr.drew = D := ⟨_, rfl⟩
          have hQd : Rq w D b6 r p g mn (.slice Av r.nl kv) (.slice Au t ku) (.slice none 0 0) (.slice none 0 0) r.nl t 0 0 := hD ▸ HQ2.out.dn
          have hwd : ∀ x, x < w5.heap.size → x ≠ b6 → D.heap[x]? = w5.heap[x]? := hD ▸ hw2
          have hzd : w5.heap.size ≤ D.heap.size := by
            rw [← hD]
            rcases Nat.lt_or_ge wr.heap.size w5.heap.size with hl | hl
            · exfalso
              have hbb := HQ2.out.h6.lt
              have e := hw2 wr.heap.size hl (by omega)
              rw [Array.getElem?_eq_none (Nat.le_refl _), Array.getElem?_eq_getElem hl] at e
              cases e
            · exact hl
          refine wp_slots (fun f => Sz f 135 ∧ Slot f 1 (.pointer (some ⟨w.heap.size, 0, none⟩)) ∧ Slot f 5 (.slice (some ⟨g, 0, none⟩) (mn + 1) (mn + 1)) ∧ Slot f 8 (.slice (some ao) r.ord.length ko) ∧ Slot f 9 (.int .i64 (t : Int))) ⟨⟨rfl, rfl⟩, ⟨rfl⟩, ⟨rfl⟩, ⟨rfl⟩, ⟨rfl⟩⟩ fun a0' hA0 hR => ?_
          obtain ⟨hZ, hs1, hs5, hs8, hs9⟩ := hR
          have HA := Lib.hid hA0
          clear hA0 x0 x1 x2 x3 x4 x5
          have hS0 := HC.out D hQd.h1 hQd.B hwd
          refine wp_region_T' hD (fun W : World => W.cell? (ao.add t) = some (.int .i64 (i0 : Int)) ∧ W.cell? ⟨w.heap.size, 3, none⟩ = some (.slice (some a) r.na p.k3) ∧ W.cell? ⟨(a.add (i0 * 3)).block, (a.add (i0 * 3)).off + 1, none⟩ = some (.int .i64 (r.ga i0)) ∧ W.cell? ⟨(a.add (i0 * 3)).block, (a.add (i0 * 3)).off + 2, none⟩ = some (.int .i64 (r.gb i0))) 24 (by kernel_rfl) ?_
          refine WT.h ?_
          (refine wt_move 0 5 rfl rfl (by kernel_rfl) (by kernel_rfl) (by kernel_rfl) (by kernel_rfl) (fun _ _ _ h => h) rfl hS0 (by (repeat (first | (refine slot_hit (N := 135) ?_ (by rfl); (repeat (refine sz_put ?_)); assumption; done) | (apply slot_miss; focus rfl))); all_goals assumption) rfl ?_); (refine wt_take1 1 1 (v := ?_) rfl rfl (by kernel_rfl) (by kernel_rfl) (by kernel_rfl) (by kernel_rfl) (fun _ _ _ h => h) rfl hS0 (by (repeat (first | (refine slot_hit (N := 135) ?_ (by rfl); (repeat (refine sz_put ?_)); assumption; done) | (apply slot_miss; focus rfl))); all_goals assumption) (fun ev hk hv0 w hS => ?_) ?_; rotate_left; focus (obtain ⟨j0, j1, j2, j3⟩ := hS; go_simp; rfl)); (refine wt_take1 2 62 (v := ?_) rfl rfl (by kernel_rfl) (by kernel_rfl) (by kernel_rfl) (by kernel_rfl) (fun _ _ _ h => h) rfl hS0 (by (repeat (first | (refine slot_hit (N := 135) ?_ (by rfl); (repeat (refine sz_put ?_)); assumption; done) | (apply slot_miss; focus rfl))); all_goals assumption) (fun ev hk hv0 w hS => ?_) ?_; rotate_left; focus (obtain ⟨j0, j1, j2, j3⟩ := hS; go_simp; rfl)); (refine wt_move 3 8 rfl rfl (by kernel_rfl) (by kernel_rfl) (by kernel_rfl) (by kernel_rfl) (fun _ _ _ h => h) rfl hS0 (by (repeat (first | (refine slot_hit (N := 135) ?_ (by rfl); (repeat (refine sz_put ?_)); assumption; done) | (apply slot_miss; focus rfl))); all_goals assumption) rfl ?_); (refine wt_move 4 9 rfl rfl (by kernel_rfl) (by kernel_rfl) (by kernel_rfl) (by kernel_rfl) (fun _ _ _ h => h) rfl hS0 (by (repeat (first | (refine slot_hit (N := 135) ?_ (by rfl); (repeat (refine sz_put ?_)); assumption; done) | (apply slot_miss; focus rfl))); all_goals assumption) rfl ?_); (refine wt_take2 5 64 65 (v := ?_) rfl rfl (by kernel_rfl) (by kernel_rfl) (by kernel_rfl) (by kernel_rfl) (fun _ _ _ h => h) rfl hS0 (by (repeat (first | (refine slot_hit (N := 135) ?_ (by rfl); (repeat (refine sz_put ?_)); assumption; done) | (apply slot_miss; focus rfl))); all_goals assumption) (by (repeat (first | (refine slot_hit (N := 135) ?_ (by rfl); (repeat (refine sz_put ?_)); assumption; done) | (apply slot_miss; focus rfl))); all_goals assumption) (fun ev hk hv0 hv1 w hS => ?_) ?_; rotate_left; focus (obtain ⟨j0, j1, j2, j3⟩ := hS; go_simp; rfl)); (refine wt_take1 6 66 (v := ?_) rfl rfl (by kernel_rfl) (by kernel_rfl) (by kernel_rfl) (by kernel_rfl) (fun _ _ _ h => h) rfl hS0 (by (repeat (first | (refine slot_hit (N := 135) ?_ (by rfl); (repeat (refine sz_put ?_)); assumption; done) | (apply slot_miss; focus rfl))); all_goals assumption) (fun ev hk hv0 w hS => ?_) ?_; rotate_left; focus (obtain ⟨j0, j1, j2, j3⟩ := hS; go_simp; rfl)); (refine wt_take2 7 63 67 (v := ?_) rfl rfl (by kernel_rfl) (by kernel_rfl) (by kernel_rfl) (by kernel_rfl) (fun _ _ _ h => h) rfl hS0 (by (repeat (first | (refine slot_hit (N := 135) ?_ (by rfl); (repeat (refine sz_put ?_)); assumption; done) | (apply slot_miss; focus rfl))); all_goals assumption) (by (repeat (first | (refine slot_hit (N := 135) ?_ (by rfl); (repeat (refine sz_put ?_)); assumption; done) | (apply slot_miss; focus rfl))); all_goals assumption) (fun ev hk hv0 hv1 w hS => ?_) ?_; rotate_left; focus (obtain ⟨j0, j1, j2, j3⟩ := hS; go_simp; rfl)); (refine wt_take1 8 68 (v := ?_) rfl rfl (by kernel_rfl) (by kernel_rfl) (by kernel_rfl) (by kernel_rfl) (fun _ _ _ h => h) rfl hS0 (by (repeat (first | (refine slot_hit (N := 135) ?_ (by rfl); (repeat (refine sz_put ?_)); assumption; done) | (apply slot_miss; focus rfl))); all_goals assumption) (fun ev hk hv0 w hS => ?_) ?_; rotate_left; focus (obtain ⟨j0, j1, j2, j3⟩ := hS; go_simp; rfl)); (refine wt_take1 9 69 (v := ?_) rfl rfl (by kernel_rfl) (by kernel_rfl) (by kernel_rfl) (by kernel_rfl) (fun _ _ _ h => h) rfl hS0 (by (repeat (first | (refine slot_hit (N := 135) ?_ (by rfl); (repeat (refine sz_put ?_)); assumption; done) | (apply slot_miss; focus rfl))); all_goals assumption) (fun ev hk hv0 w hS => ?_) ?_; rotate_left; focus (obtain ⟨j0, j1, j2, j3⟩ := hS; go_simp; rfl)); (refine wt_move 11 5 rfl rfl (by kernel_rfl) (by kernel_rfl) (by kernel_rfl) (by kernel_rfl) (fun _ _ _ h => h) rfl hS0 (by (repeat (first | (refine slot_hit (N := 135) ?_ (by rfl); (repeat (refine sz_put ?_)); assumption; done) | (apply slot_miss; focus rfl))); all_goals assumption) rfl ?_); (refine wt_take1 12 1 (v := ?_) rfl rfl (by kernel_rfl) (by kernel_rfl) (by kernel_rfl) (by kernel_rfl) (fun _ _ _ h => h) rfl hS0 (by (repeat (first | (refine slot_hit (N := 135) ?_ (by rfl); (repeat (refine sz_put ?_)); assumption; done) | (apply slot_miss; focus rfl))); all_goals assumption) (fun ev hk hv0 w hS => ?_) ?_; rotate_left; focus (obtain ⟨j0, j1, j2, j3⟩ := hS; go_simp; rfl)); (refine wt_take1 13 73 (v := ?_) rfl rfl (by kernel_rfl) (by kernel_rfl) (by kernel_rfl) (by kernel_rfl) (fun _ _ _ h => h) rfl hS0 (by (repeat (first | (refine slot_hit (N := 135) ?_ (by rfl); (repeat (refine sz_put ?_)); assumption; done) | (apply slot_miss; focus rfl))); all_goals assumption) (fun ev hk hv0 w hS => ?_) ?_; rotate_left; focus (obtain ⟨j0, j1, j2, j3⟩ := hS; go_simp; rfl)); (refine wt_move 14 8 rfl rfl (by kernel_rfl) (by kernel_rfl) (by kernel_rfl) (by kernel_rfl) (fun _ _ _ h => h) rfl hS0 (by (repeat (first | (refine slot_hit (N := 135) ?_ (by rfl); (repeat (refine sz_put ?_)); assumption; done) | (apply slot_miss; focus rfl))); all_goals assumption) rfl ?_); (refine wt_move 15 9 rfl rfl (by kernel_rfl) (by kernel_rfl) (by kernel_rfl) (by kernel_rfl) (fun _ _ _ h => h) rfl hS0 (by (repeat (first | (refine slot_hit (N := 135) ?_ (by rfl); (repeat (refine sz_put ?_)); assumption; done) | (apply slot_miss; focus rfl))); all_goals assumption) rfl ?_); (refine wt_take2 16 75 76 (v := ?_) rfl rfl (by kernel_rfl) (by kernel_rfl) (by kernel_rfl) (by kernel_rfl) (fun _ _ _ h => h) rfl hS0 (by (repeat (first | (refine slot_hit (N := 135) ?_ (by rfl); (repeat (refine sz_put ?_)); assumption; done) | (apply slot_miss; focus rfl))); all_goals assumption) (by (repeat (first | (refine slot_hit (N := 135) ?_ (by rfl); (repeat (refine sz_put ?_)); assumption; done) | (apply slot_miss; focus rfl))); all_goals assumption) (fun ev hk hv0 hv1 w hS => ?_) ?_; rotate_left; focus (obtain ⟨j0, j1, j2, j3⟩ := hS; go_simp; rfl)); (refine wt_take1 17 77 (v := ?_) rfl rfl (by kernel_rfl) (by kernel_rfl) (by kernel_rfl) (by kernel_rfl) (fun _ _ _ h => h) rfl hS0 (by (repeat (first | (refine slot_hit (N := 135) ?_ (by rfl); (repeat (refine sz_put ?_)); assumption; done) | (apply slot_miss; focus rfl))); all_goals assumption) (fun ev hk hv0 w hS => ?_) ?_; rotate_left; focus (obtain ⟨j0, j1, j2, j3⟩ := hS; go_simp; rfl)); (refine wt_take2 18 74 78 (v := ?_) rfl rfl (by kernel_rfl) (by kernel_rfl) (by kernel_rfl) (by kernel_rfl) (fun _ _ _ h => h) rfl hS0 (by (repeat (first | (refine slot_hit (N := 135) ?_ (by rfl); (repeat (refine sz_put ?_)); assumption; done) | (apply slot_miss; focus rfl))); all_goals assumption) (by (repeat (first | (refine slot_hit (N := 135) ?_ (by rfl); (repeat (refine sz_put ?_)); assumption; done) | (apply slot_miss; focus rfl))); all_goals assumption) (fun ev hk hv0 hv1 w hS => ?_) ?_; rotate_left; focus (obtain ⟨j0, j1, j2, j3⟩ := hS; go_simp; rfl)); (refine wt_take1 19 79 (v := ?_) rfl rfl (by kernel_rfl) (by kernel_rfl) (by kernel_rfl) (by kernel_rfl) (fun _ _ _ h => h) rfl hS0 (by (repeat (first | (refine slot_hit (N := 135) ?_ (by rfl); (repeat (refine sz_put ?_)); assumption; done) | (apply slot_miss; focus rfl))); all_goals assumption) (fun ev hk hv0 w hS => ?_) ?_; rotate_left; focus (obtain ⟨j0, j1, j2, j3⟩ := hS; go_simp; rfl)); (refine wt_take1 20 80 (v := ?_) rfl rfl (by kernel_rfl) (by kernel_rfl) (by kernel_rfl) (by kernel_rfl) (fun _ _ _ h => h) rfl hS0 (by (repeat (first | (refine slot_hit (N := 135) ?_ (by rfl); (repeat (refine sz_put ?_)); assumption; done) | (apply slot_miss; focus rfl))); all_goals assumption) (fun ev hk hv0 w hS => ?_) ?_; rotate_left; focus (obtain ⟨j0, j1, j2, j3⟩ := hS; go_simp; rfl))
          refine wt_one 10 (by kernel_rfl) ?_
          refine wb_call2 10 61 70 rfl rfl rfl (by (repeat (first | (refine slot_hit (N := 135) ?_ (by rfl); (repeat (refine sz_put ?_)); assumption; done) | (apply slot_miss; focus rfl))); all_goals assumption) (by (repeat (first | (refine slot_hit (N := 135) ?_ (by rfl); (repeat (refine sz_put ?_)); assumption; done) | (apply slot_miss; focus rfl))); all_goals assumption) (f := ?_) (args := ?_) (fun ev hk hkf hv0 hv1 => ?_) ?_
          rotate_left 2
          focus (go_simp; first | rfl | (constructor <;> rfl))
          (with_reducible refine (TA.out _ hQd).mono ?_)
          rintro e Va ⟨rfl, hba⟩
          have hQa := hQd.on hba
          have hwa : ∀ x, x < w5.heap.size → x ≠ b6 → Va.heap[x]? = w5.heap[x]? := fun x hx hne => (hba.block x (by have := hzd; omega)).trans (hwd x hx hne)
          have hza : w5.heap.size ≤ Va.heap.size := Nat.le_trans hzd hba.size
          clear hS0
          have hS0 := HC.out Va hQa.h1 hQa.B hwa
          refine ⟨_, rfl, fun _ => hS0, ?_⟩
          refine wt_one 21 (by kernel_rfl) ?_
          refine wb_call2 21 72 81 rfl rfl rfl (by (repeat (first | (refine slot_hit (N := 135) ?_ (by rfl); (repeat (refine sz_put ?_)); assumption; done) | (apply slot_miss; focus rfl))); all_goals assumption) (by (repeat (first | (refine slot_hit (N := 135) ?_ (by rfl); (repeat (refine sz_put ?_)); assumption; done) | (apply slot_miss; focus rfl))); all_goals assumption) (f := ?_) (args := ?_) (fun ev hk hkf hv0 hv1 => ?_) ?_
          rotate_left 2
          focus (go_simp; first | rfl | (constructor <;> rfl))
          (with_reducible refine (TB.out _ hQa).mono ?_)
          rintro e Vb ⟨rfl, hbb⟩
          have hQb := hQa.on hbb
          have hwb : ∀ x, x < w5.heap.size → x ≠ b6 → Vb.heap[x]? = w5.heap[x]? := fun x hx hne => (hbb.block x (by have := hza; omega)).trans (hwa x hx hne)
          have hzb : w5.heap.size ≤ Vb.heap.size := Nat.le_trans hza hbb.size
          clear hS0
          have hS0 := HC.out Vb hQb.h1 hQb.B hwb
          refine ⟨_, rfl, fun _ => hS0, ?_⟩
          have HQE := Lib.hid hQb
          have HWE := Lib.hid hwb
          have HWZ := Lib.hid hzb
          have HSZ : Hid (b6 + 1 ≤ Vb.heap.size) := Lib.hid (by have := hQb.h6.lt; omega)
          clear hwb hwa hzb hza hba hbb hwd hzd hQd hQa
          (refine wt_assign 22 71 rfl rfl (by kernel_rfl) (by kernel_rfl) (by kernel_rfl) (by kernel_rfl) (fun _ _ _ h => h) rfl hS0 (by (repeat (first | (refine slot_hit (N := 135) ?_ (by rfl); (repeat (refine sz_put ?_)); assumption; done) | (apply slot_miss; focus rfl))); all_goals assumption) rfl ?_); (refine wt_assign 23 82 rfl rfl (by kernel_rfl) (by kernel_rfl) (by kernel_rfl) (by kernel_rfl) (fun _ _ _ h => h) rfl hS0 (by (repeat (first | (refine slot_hit (N := 135) ?_ (by rfl); (repeat (refine sz_put ?_)); assumption; done) | (apply slot_miss; focus rfl))); all_goals assumption) rfl ?_)
          refine wt_done (by kernel_rfl) (NoPanic.normal ?_) _
          have ha := HA.out
          subst ha
          clear hS0 hs1 hs5 hs8 hs9 hZ
          obtain ⟨q0', q1', q2', q3', q4', q5'⟩ := HQE.out.h1.rbox
          have c62 := HQE.out.h6.cell 2
          have oo2 := Lib.hid HQE.out.o2
          go_wp2_with (at_builtin; refine wpl_append rfl _ _ 23 rfl rfl rfl (fun ty => app_and oo2.out (by omega) HSZ.out M1 M2 HM12.out.1 HM12.out.2 ty) ?_; intro v8 w8 hG; obtain ⟨A8, k8, hv8, _⟩ := own_pairs' hG.1; subst hv8; have hQ7 := HQE.out.al (.cells #[.int .i64 M1, .int .i64 M2] 37); obtain ⟨m1, m2, m3⟩ := hQ7.mid (fun x hx => own_ge3 hQ7.o2 hx) hG.2.1; have y8 := m3.cell 2; have yf8 := m3.fz 2)
          have hQ8 := hQ7.next2 hG
          have HF2 := Lib.hid (And.intro hQ8 (And.intro (show ∀ x, (Value.slice A8 (t + 1) k8).ownBlock = some x → w5.heap.size ≤ x from fun x hx => by
            rcases hG.2.2 with e' | e'
            · exact hu2 x (e'.symm.trans hx)
            · rw [hx] at e'
              injection e' with e'
              have := HWZ.out
              simp only [World.size_alloc] at e'
              omega) (show ∀ x, x < w5.heap.size → x ≠ b6 → (w8.setCell ⟨b6, 2, none⟩ (.slice A8 (t + 1) k8)).heap[x]? = w5.heap[x]? from fun x hx hne => by
            have hz := HWZ.out
            refine (Below.heap_setCell _ _ _ _ hne).trans ((hG.2.1.block x (by simp only [World.size_alloc]; omega) fun e => ?_).trans ((heap_alloc_old _ _ (by omega)).trans (HWE.out x hx hne)))
            have := hu2 x e.symm
            omega)))
          clear hQ8 hG m1 m2 m3 hQ7
          go_wp2
          go_roundw
          case rel => exact ⟨t + 1, by omega, by go_num, _, HF2.out.1, HF2.out.2.1, HF2.out.2.2⟩
          case measure => simp [intOf]; omega
        · obtain rfl : t = r.ord.length := by omega
          clear hlt ht hu2 hw2 hQ2
          go_wp2
          go_loopw [12] (fun i wr => ∃ q v, q ≤ r.nb ∧ i = .int .i64 (q : Int) ∧ Rq w wr b6 r p g mn (.slice Av r.nl kv) (.slice Au r.ord.length ku) v (.slice none 0 0) r.nl r.ord.length q 0) (fun i _ => r.nb - (intOf i).toNat)
          case atStart => exact ⟨0, _, Nat.zero_le _, rfl, HQ2.out⟩
          case round =>
            obtain ⟨q, v, hq, rfl, hQ⟩ := hrel
            obtain ⟨A_3, k_3, hv, _⟩ := own_ints' hQ.o3
            subst hv
            have HQ3 := Lib.hid hQ
            obtain ⟨x0, x1, x2, x3, x4, x5⟩ := hQ.h1.rbox
            clear hQ
            by_cases hlt : q < r.nb
            · have hq1 : (q : Int) < (r.nb : Int) := by omega
              have hq0 : (0 : Int) ≤ (q : Int) := by omega
              obtain ⟨a, hA, hab, hcs⟩ := (HM.out.bd.keep HQ3.out.B) (by omega)
              have hmem : r.bd q ∈ r.uL := by unfold Rw.uL; simp only [List.mem_append]; exact Or.inl (Or.inl (Or.inl (mem_lst.2 ⟨q, hlt, rfl⟩)))
              have TO : Hid (∀ W, Rq w W b6 r p g mn (.slice Av r.nl kv) (.slice Au r.ord.length ku) (.slice A_3 q k_3) (.slice none 0 0) r.nl r.ord.length q 0 → Calls Try.prog 23 #[.slice (some ⟨g, 0, none⟩) (mn + 1) (mn + 1), .int .i64 (r.bd q)] W fun e w' => e = .returned (.int .i64 (r.told (r.bd q))) ∧ Below W.heap.size W w') := fun W hW => hW.told HK.out HMN.out H1.out hmem
              rw [hA] at x4
              have HC : Hid (∀ W, Has W b6 26 #[.int .i64 r.ni, .slice Av r.nl kv, .slice Au r.ord.length ku, .slice A_3 q k_3, .slice none 0 0] → Has W w.heap.size 32 (rc r p) → Below w.heap.size w W → W.cell? ⟨b6, 3, none⟩ = some (.slice A_3 q k_3) ∧ W.cell? ⟨w.heap.size, 4, none⟩ = some (.slice (some a) r.nb p.k4) ∧ W.cell? (a.add q) = some (.int .i64 (r.bd q))) := fun W h6 h1 hB => by
                obtain ⟨a', hA', _, hcs'⟩ := (HM.out.bd.keep hB) (by omega)
                rw [hA] at hA'
                cases hA'
                have y0 := hcs' q hlt
                obtain ⟨_, _, _, _, z4, z5⟩ := h1.rbox
                rw [hA] at z4
                exact ⟨h6.cell 3, z4, y0⟩
              clear hcs hmem
              go_wp2
              have hQd := HQ3.out.dn
              refine wp_slots (fun f => Sz f 135 ∧ Slot f 1 (.pointer (some ⟨w.heap.size, 0, none⟩)) ∧ Slot f 5 (.slice (some ⟨g, 0, none⟩) (mn + 1) (mn + 1)) ∧ Slot f 6 (.pointer (some ⟨b6, 0, none⟩)) ∧ Slot f 12 (.int .i64 (q : Int))) ⟨⟨rfl, rfl⟩, ⟨rfl⟩, ⟨rfl⟩, ⟨rfl⟩, ⟨rfl⟩⟩ fun a0' hA0 hR => ?_
              obtain ⟨hZ, hs1, hs5, hs6, hs7⟩ := hR
              have HA := Lib.hid hA0
              clear hA0 x0 x1 x2 x3 x4 x5
              have hS0 := HC.out wr.drew hQd.h6 hQd.h1 hQd.B
              refine wp_region_T (fun W : World => W.cell? ⟨b6, 3, none⟩ = some (.slice A_3 q k_3) ∧ W.cell? ⟨w.heap.size, 4, none⟩ = some (.slice (some a) r.nb p.k4) ∧ W.cell? (a.add q) = some (.int .i64 (r.bd q))) 12 (by kernel_rfl) ?_
              refine WT.h ?_
              (refine wt_take1 0 6 (v := ?_) rfl rfl (by kernel_rfl) (by kernel_rfl) (by kernel_rfl) (by kernel_rfl) (fun _ _ _ h => h) rfl hS0 (by (repeat (first | (refine slot_hit (N := 135) ?_ (by rfl); (repeat (refine sz_put ?_)); assumption; done) | (apply slot_miss; focus rfl))); all_goals assumption) (fun ev hk hv0 w hS => ?_) ?_; rotate_left; focus (obtain ⟨j0, j1, j2⟩ := hS; go_simp; rfl)); (refine wt_take1 1 102 (v := ?_) rfl rfl (by kernel_rfl) (by kernel_rfl) (by kernel_rfl) (by kernel_rfl) (fun _ _ _ h => h) rfl hS0 (by (repeat (first | (refine slot_hit (N := 135) ?_ (by rfl); (repeat (refine sz_put ?_)); assumption; done) | (apply slot_miss; focus rfl))); all_goals assumption) (fun ev hk hv0 w hS => ?_) ?_; rotate_left; focus (obtain ⟨j0, j1, j2⟩ := hS; go_simp; rfl)); (refine wt_move 2 5 rfl rfl (by kernel_rfl) (by kernel_rfl) (by kernel_rfl) (by kernel_rfl) (fun _ _ _ h => h) rfl hS0 (by (repeat (first | (refine slot_hit (N := 135) ?_ (by rfl); (repeat (refine sz_put ?_)); assumption; done) | (apply slot_miss; focus rfl))); all_goals assumption) rfl ?_); (refine wt_take1 3 1 (v := ?_) rfl rfl (by kernel_rfl) (by kernel_rfl) (by kernel_rfl) (by kernel_rfl) (fun _ _ _ h => h) rfl hS0 (by (repeat (first | (refine slot_hit (N := 135) ?_ (by rfl); (repeat (refine sz_put ?_)); assumption; done) | (apply slot_miss; focus rfl))); all_goals assumption) (fun ev hk hv0 w hS => ?_) ?_; rotate_left; focus (obtain ⟨j0, j1, j2⟩ := hS; go_simp; rfl)); (refine wt_take1 4 105 (v := ?_) rfl rfl (by kernel_rfl) (by kernel_rfl) (by kernel_rfl) (by kernel_rfl) (fun _ _ _ h => h) rfl hS0 (by (repeat (first | (refine slot_hit (N := 135) ?_ (by rfl); (repeat (refine sz_put ?_)); assumption; done) | (apply slot_miss; focus rfl))); all_goals assumption) (fun ev hk hv0 w hS => ?_) ?_; rotate_left; focus (obtain ⟨j0, j1, j2⟩ := hS; go_simp; rfl)); (refine wt_move 5 12 rfl rfl (by kernel_rfl) (by kernel_rfl) (by kernel_rfl) (by kernel_rfl) (fun _ _ _ h => h) rfl hS0 (by (repeat (first | (refine slot_hit (N := 135) ?_ (by rfl); (repeat (refine sz_put ?_)); assumption; done) | (apply slot_miss; focus rfl))); all_goals assumption) rfl ?_); (refine wt_take2 6 106 107 (v := ?_) rfl rfl (by kernel_rfl) (by kernel_rfl) (by kernel_rfl) (by kernel_rfl) (fun _ _ _ h => h) rfl hS0 (by (repeat (first | (refine slot_hit (N := 135) ?_ (by rfl); (repeat (refine sz_put ?_)); assumption; done) | (apply slot_miss; focus rfl))); all_goals assumption) (by (repeat (first | (refine slot_hit (N := 135) ?_ (by rfl); (repeat (refine sz_put ?_)); assumption; done) | (apply slot_miss; focus rfl))); all_goals assumption) (fun ev hk hv0 hv1 w hS => ?_) ?_; rotate_left; focus (obtain ⟨j0, j1, j2⟩ := hS; go_simp; rfl)); (refine wt_take1 7 108 (v := ?_) rfl rfl (by kernel_rfl) (by kernel_rfl) (by kernel_rfl) (by kernel_rfl) (fun _ _ _ h => h) rfl hS0 (by (repeat (first | (refine slot_hit (N := 135) ?_ (by rfl); (repeat (refine sz_put ?_)); assumption; done) | (apply slot_miss; focus rfl))); all_goals assumption) (fun ev hk hv0 w hS => ?_) ?_; rotate_left; focus (obtain ⟨j0, j1, j2⟩ := hS; go_simp; rfl))
              refine wt_call2 8 104 109 (by kernel_rfl) rfl rfl rfl (by (repeat (first | (refine slot_hit (N := 135) ?_ (by rfl); (repeat (refine sz_put ?_)); assumption; done) | (apply slot_miss; focus rfl))); all_goals assumption) (by (repeat (first | (refine slot_hit (N := 135) ?_ (by rfl); (repeat (refine sz_put ?_)); assumption; done) | (apply slot_miss; focus rfl))); all_goals assumption) (f := ?_) (args := ?_) (fun ev hk hkf hv0 hv1 => ?_) ?_; rotate_left 2; focus (go_simp; first | rfl | (constructor <;> rfl))
              (with_reducible refine (TO.out _ hQd).mono ?_)
              rintro e w4 ⟨rfl, hb4⟩
              have hQ4 := hQd.on hb4
              clear hS0
              have hS0 := HC.out w4 hQ4.h6 hQ4.h1 hQ4.B
              refine ⟨_, rfl, fun _ => hS0, ?_⟩
              refine wt_val1 9 110 (by kernel_rfl) rfl rfl rfl (by (repeat (first | (refine slot_hit (N := 135) ?_ (by rfl); (repeat (refine sz_put ?_)); assumption; done) | (apply slot_miss; focus rfl))); all_goals assumption) (v := ?_) (w' := ?_) (fun ev hk hv0 => ?_) ?_; rotate_left 2; focus (go_simp; first | rfl | (constructor <;> rfl))
              have hQ5 := hQ4.al (.cells #[.int .i64 (r.told (r.bd q))] 3)
              clear hS0
              have hS0 := HC.out _ hQ5.h6 hQ5.h1 hQ5.B
              refine ⟨fun _ => hS0, ?_⟩
              refine wt_append 10 103 111 (by kernel_rfl) rfl rfl rfl (by (repeat (first | (refine slot_hit (N := 135) ?_ (by rfl); (repeat (refine sz_put ?_)); assumption; done) | (apply slot_miss; focus rfl))); all_goals assumption) (by (repeat (first | (refine slot_hit (N := 135) ?_ (by rfl); (repeat (refine sz_put ?_)); assumption; done) | (apply slot_miss; focus rfl))); all_goals assumption) rfl (fun ty => app_int hQ4.o3 (by omega) (by have := hQ4.h6.lt; omega) _ rfl ty) (fun v8 w8 hG => ?_)
              obtain ⟨A8, k8, rfl, _⟩ := own_ints' hG.1
              obtain ⟨m1, m2, m3⟩ := hQ5.mid (fun x hx => own_ge3 hQ5.o3 hx) hG.2.1
              have hQ6 := hQ5.next3 hG
              clear hS0
              have hS0 := HC.out w8 m3 m2 m1
              refine ⟨fun _ => hS0, ?_⟩
              (refine wt_take1 11 6 (v := ?_) rfl rfl (by kernel_rfl) (by kernel_rfl) (by kernel_rfl) (by kernel_rfl) (fun _ _ _ h => h) rfl hS0 (by (repeat (first | (refine slot_hit (N := 135) ?_ (by rfl); (repeat (refine sz_put ?_)); assumption; done) | (apply slot_miss; focus rfl))); all_goals assumption) (fun ev hk hv0 w hS => ?_) ?_; rotate_left; focus (obtain ⟨j0, j1, j2⟩ := hS; go_simp; rfl))
              have y8 := m3.cell 3
              have yf8 := m3.fz 3
              refine wt_act2 12 113 112 (by kernel_rfl) rfl rfl rfl (by (repeat (first | (refine slot_hit (N := 135) ?_ (by rfl); (repeat (refine sz_put ?_)); assumption; done) | (apply slot_miss; focus rfl))); all_goals assumption) (by (repeat (first | (refine slot_hit (N := 135) ?_ (by rfl); (repeat (refine sz_put ?_)); assumption; done) | (apply slot_miss; focus rfl))); all_goals assumption) (w' := ?_) (fun ev hk hv0 hv1 => ?_) ?_; rotate_left; focus (go_simp; rfl)
              refine ⟨fun h => absurd h (by decide), ?_⟩
              refine wt_done (by kernel_rfl) (NoPanic.normal ?_) _
              have ha := HA.out
              subst ha
              have HQ6 := Lib.hid hQ6
              clear hS0 y8 yf8 m1 m2 m3 hG hQ5 hQ4 hb4 hQd hQ6 hs1 hs5 hs6 hs7 hZ
              go_wp2
              go_roundw
              case rel => exact ⟨q + 1, by omega, by go_num, _, HQ6.out⟩
              case measure => simp [intOf]; omega
            · obtain rfl : q = r.nb := by omega
              clear hlt hq
              go_wp2
              go_loopw [13] (fun i wr => ∃ q v, q ≤ r.nc ∧ i = .int .i64 (q : Int) ∧ Rq w wr b6 r p g mn (.slice Av r.nl kv) (.slice Au r.ord.length ku) (.slice A_3 r.nb k_3) v r.nl r.ord.length r.nb q) (fun i _ => r.nc - (intOf i).toNat)
              case atStart => exact ⟨0, _, Nat.zero_le _, rfl, HQ3.out⟩
              case round =>
                obtain ⟨q, v, hq, rfl, hQ⟩ := hrel
                obtain ⟨A_4, k_4, hv, _⟩ := own_ints' hQ.o4
                subst hv
                have HQ4 := Lib.hid hQ
                obtain ⟨x0, x1, x2, x3, x4, x5⟩ := hQ.h1.rbox
                clear hQ
                by_cases hlt : q < r.nc
                · have hq1 : (q : Int) < (r.nc : Int) := by omega
                  have hq0 : (0 : Int) ≤ (q : Int) := by omega
                  obtain ⟨a, hA, hab, hcs⟩ := (HM.out.cn.keep HQ4.out.B) (by omega)
                  have hmem : r.cn q ∈ r.uL := by unfold Rw.uL; simp only [List.mem_append]; exact Or.inl (Or.inl (Or.inr (mem_lst.2 ⟨q, hlt, rfl⟩)))
                  have TO : Hid (∀ W, Rq w W b6 r p g mn (.slice Av r.nl kv) (.slice Au r.ord.length ku) (.slice A_3 r.nb k_3) (.slice A_4 q k_4) r.nl r.ord.length r.nb q → Calls Try.prog 23 #[.slice (some ⟨g, 0, none⟩) (mn + 1) (mn + 1), .int .i64 (r.cn q)] W fun e w' => e = .returned (.int .i64 (r.told (r.cn q))) ∧ Below W.heap.size W w') := fun W hW => hW.told HK.out HMN.out H1.out hmem
                  rw [hA] at x5
                  have HC : Hid (∀ W, Has W b6 26 #[.int .i64 r.ni, .slice Av r.nl kv, .slice Au r.ord.length ku, .slice A_3 r.nb k_3, .slice A_4 q k_4] → Has W w.heap.size 32 (rc r p) → Below w.heap.size w W → W.cell? ⟨b6, 4, none⟩ = some (.slice A_4 q k_4) ∧ W.cell? ⟨w.heap.size, 5, none⟩ = some (.slice (some a) r.nc p.k5) ∧ W.cell? (a.add q) = some (.int .i64 (r.cn q))) := fun W h6 h1 hB => by
                    obtain ⟨a', hA', _, hcs'⟩ := (HM.out.cn.keep hB) (by omega)
                    rw [hA] at hA'
                    cases hA'
                    have y0 := hcs' q hlt
                    obtain ⟨_, _, _, _, z4, z5⟩ := h1.rbox
                    rw [hA] at z5
                    exact ⟨h6.cell 4, z5, y0⟩
                  clear hcs hmem
                  go_wp2
                  have hQd := HQ4.out.dn
                  refine wp_slots (fun f => Sz f 135 ∧ Slot f 1 (.pointer (some ⟨w.heap.size, 0, none⟩)) ∧ Slot f 5 (.slice (some ⟨g, 0, none⟩) (mn + 1) (mn + 1)) ∧ Slot f 6 (.pointer (some ⟨b6, 0, none⟩)) ∧ Slot f 13 (.int .i64 (q : Int))) ⟨⟨rfl, rfl⟩, ⟨rfl⟩, ⟨rfl⟩, ⟨rfl⟩, ⟨rfl⟩⟩ fun a0' hA0 hR => ?_
                  obtain ⟨hZ, hs1, hs5, hs6, hs7⟩ := hR
                  have HA := Lib.hid hA0
                  clear hA0 x0 x1 x2 x3 x4 x5
                  have hS0 := HC.out wr.drew hQd.h6 hQd.h1 hQd.B
                  refine wp_region_T (fun W : World => W.cell? ⟨b6, 4, none⟩ = some (.slice A_4 q k_4) ∧ W.cell? ⟨w.heap.size, 5, none⟩ = some (.slice (some a) r.nc p.k5) ∧ W.cell? (a.add q) = some (.int .i64 (r.cn q))) 12 (by kernel_rfl) ?_
                  refine WT.h ?_
                  (refine wt_take1 0 6 (v := ?_) rfl rfl (by kernel_rfl) (by kernel_rfl) (by kernel_rfl) (by kernel_rfl) (fun _ _ _ h => h) rfl hS0 (by (repeat (first | (refine slot_hit (N := 135) ?_ (by rfl); (repeat (refine sz_put ?_)); assumption; done) | (apply slot_miss; focus rfl))); all_goals assumption) (fun ev hk hv0 w hS => ?_) ?_; rotate_left; focus (obtain ⟨j0, j1, j2⟩ := hS; go_simp; rfl)); (refine wt_take1 1 121 (v := ?_) rfl rfl (by kernel_rfl) (by kernel_rfl) (by kernel_rfl) (by kernel_rfl) (fun _ _ _ h => h) rfl hS0 (by (repeat (first | (refine slot_hit (N := 135) ?_ (by rfl); (repeat (refine sz_put ?_)); assumption; done) | (apply slot_miss; focus rfl))); all_goals assumption) (fun ev hk hv0 w hS => ?_) ?_; rotate_left; focus (obtain ⟨j0, j1, j2⟩ := hS; go_simp; rfl)); (refine wt_move 2 5 rfl rfl (by kernel_rfl) (by kernel_rfl) (by kernel_rfl) (by kernel_rfl) (fun _ _ _ h => h) rfl hS0 (by (repeat (first | (refine slot_hit (N := 135) ?_ (by rfl); (repeat (refine sz_put ?_)); assumption; done) | (apply slot_miss; focus rfl))); all_goals assumption) rfl ?_); (refine wt_take1 3 1 (v := ?_) rfl rfl (by kernel_rfl) (by kernel_rfl) (by kernel_rfl) (by kernel_rfl) (fun _ _ _ h => h) rfl hS0 (by (repeat (first | (refine slot_hit (N := 135) ?_ (by rfl); (repeat (refine sz_put ?_)); assumption; done) | (apply slot_miss; focus rfl))); all_goals assumption) (fun ev hk hv0 w hS => ?_) ?_; rotate_left; focus (obtain ⟨j0, j1, j2⟩ := hS; go_simp; rfl)); (refine wt_take1 4 124 (v := ?_) rfl rfl (by kernel_rfl) (by kernel_rfl) (by kernel_rfl) (by kernel_rfl) (fun _ _ _ h => h) rfl hS0 (by (repeat (first | (refine slot_hit (N := 135) ?_ (by rfl); (repeat (refine sz_put ?_)); assumption; done) | (apply slot_miss; focus rfl))); all_goals assumption) (fun ev hk hv0 w hS => ?_) ?_; rotate_left; focus (obtain ⟨j0, j1, j2⟩ := hS; go_simp; rfl)); (refine wt_move 5 13 rfl rfl (by kernel_rfl) (by kernel_rfl) (by kernel_rfl) (by kernel_rfl) (fun _ _ _ h => h) rfl hS0 (by (repeat (first | (refine slot_hit (N := 135) ?_ (by rfl); (repeat (refine sz_put ?_)); assumption; done) | (apply slot_miss; focus rfl))); all_goals assumption) rfl ?_); (refine wt_take2 6 125 126 (v := ?_) rfl rfl (by kernel_rfl) (by kernel_rfl) (by kernel_rfl) (by kernel_rfl) (fun _ _ _ h => h) rfl hS0 (by (repeat (first | (refine slot_hit (N := 135) ?_ (by rfl); (repeat (refine sz_put ?_)); assumption; done) | (apply slot_miss; focus rfl))); all_goals assumption) (by (repeat (first | (refine slot_hit (N := 135) ?_ (by rfl); (repeat (refine sz_put ?_)); assumption; done) | (apply slot_miss; focus rfl))); all_goals assumption) (fun ev hk hv0 hv1 w hS => ?_) ?_; rotate_left; focus (obtain ⟨j0, j1, j2⟩ := hS; go_simp; rfl)); (refine wt_take1 7 127 (v := ?_) rfl rfl (by kernel_rfl) (by kernel_rfl) (by kernel_rfl) (by kernel_rfl) (fun _ _ _ h => h) rfl hS0 (by (repeat (first | (refine slot_hit (N := 135) ?_ (by rfl); (repeat (refine sz_put ?_)); assumption; done) | (apply slot_miss; focus rfl))); all_goals assumption) (fun ev hk hv0 w hS => ?_) ?_; rotate_left; focus (obtain ⟨j0, j1, j2⟩ := hS; go_simp; rfl))
                  refine wt_call2 8 123 128 (by kernel_rfl) rfl rfl rfl (by (repeat (first | (refine slot_hit (N := 135) ?_ (by rfl); (repeat (refine sz_put ?_)); assumption; done) | (apply slot_miss; focus rfl))); all_goals assumption) (by (repeat (first | (refine slot_hit (N := 135) ?_ (by rfl); (repeat (refine sz_put ?_)); assumption; done) | (apply slot_miss; focus rfl))); all_goals assumption) (f := ?_) (args := ?_) (fun ev hk hkf hv0 hv1 => ?_) ?_; rotate_left 2; focus (go_simp; first | rfl | (constructor <;> rfl))
                  (with_reducible refine (TO.out _ hQd).mono ?_)
                  rintro e w4 ⟨rfl, hb4⟩
                  have hQ4 := hQd.on hb4
                  clear hS0
                  have hS0 := HC.out w4 hQ4.h6 hQ4.h1 hQ4.B
                  refine ⟨_, rfl, fun _ => hS0, ?_⟩
                  refine wt_val1 9 129 (by kernel_rfl) rfl rfl rfl (by (repeat (first | (refine slot_hit (N := 135) ?_ (by rfl); (repeat (refine sz_put ?_)); assumption; done) | (apply slot_miss; focus rfl))); all_goals assumption) (v := ?_) (w' := ?_) (fun ev hk hv0 => ?_) ?_; rotate_left 2; focus (go_simp; first | rfl | (constructor <;> rfl))
                  have hQ5 := hQ4.al (.cells #[.int .i64 (r.told (r.cn q))] 3)
                  clear hS0
                  have hS0 := HC.out _ hQ5.h6 hQ5.h1 hQ5.B
                  refine ⟨fun _ => hS0, ?_⟩
                  refine wt_append 10 122 130 (by kernel_rfl) rfl rfl rfl (by (repeat (first | (refine slot_hit (N := 135) ?_ (by rfl); (repeat (refine sz_put ?_)); assumption; done) | (apply slot_miss; focus rfl))); all_goals assumption) (by (repeat (first | (refine slot_hit (N := 135) ?_ (by rfl); (repeat (refine sz_put ?_)); assumption; done) | (apply slot_miss; focus rfl))); all_goals assumption) rfl (fun ty => app_int hQ4.o4 (by omega) (by have := hQ4.h6.lt; omega) _ rfl ty) (fun v8 w8 hG => ?_)
                  obtain ⟨A8, k8, rfl, _⟩ := own_ints' hG.1
                  obtain ⟨m1, m2, m3⟩ := hQ5.mid (fun x hx => own_ge3 hQ5.o4 hx) hG.2.1
                  have hQ6 := hQ5.next4 hG
                  clear hS0
                  have hS0 := HC.out w8 m3 m2 m1
                  refine ⟨fun _ => hS0, ?_⟩
                  (refine wt_take1 11 6 (v := ?_) rfl rfl (by kernel_rfl) (by kernel_rfl) (by kernel_rfl) (by kernel_rfl) (fun _ _ _ h => h) rfl hS0 (by (repeat (first | (refine slot_hit (N := 135) ?_ (by rfl); (repeat (refine sz_put ?_)); assumption; done) | (apply slot_miss; focus rfl))); all_goals assumption) (fun ev hk hv0 w hS => ?_) ?_; rotate_left; focus (obtain ⟨j0, j1, j2⟩ := hS; go_simp; rfl))
                  have y8 := m3.cell 4
                  have yf8 := m3.fz 4
                  refine wt_act2 12 132 131 (by kernel_rfl) rfl rfl rfl (by (repeat (first | (refine slot_hit (N := 135) ?_ (by rfl); (repeat (refine sz_put ?_)); assumption; done) | (apply slot_miss; focus rfl))); all_goals assumption) (by (repeat (first | (refine slot_hit (N := 135) ?_ (by rfl); (repeat (refine sz_put ?_)); assumption; done) | (apply slot_miss; focus rfl))); all_goals assumption) (w' := ?_) (fun ev hk hv0 hv1 => ?_) ?_; rotate_left; focus (go_simp; rfl)
                  refine ⟨fun h => absurd h (by decide), ?_⟩
                  refine wt_done (by kernel_rfl) (NoPanic.normal ?_) _
                  have ha := HA.out
                  subst ha
                  have HQ6 := Lib.hid hQ6
                  clear hS0 y8 yf8 m1 m2 m3 hG hQ5 hQ4 hb4 hQd hQ6 hs1 hs5 hs6 hs7 hZ
                  go_wp2
                  go_roundw
                  case rel => exact ⟨q + 1, by omega, by go_num, _, HQ6.out⟩
                  case measure => simp [intOf]; omega
                · obtain rfl : q = r.nc := by omega
                  clear hlt hq
                  obtain ⟨z0, z1, z2, z3, z4⟩ := (show _ ∧ _ ∧ _ ∧ _ ∧ _ from HQ4.out.h2.z5.1)
                  obtain ⟨_, f0, f1, f2, f3, f4⟩ := HQ4.out.h2.z5
                  have c0 := HQ4.out.h6.cell 0
                  have c1 := HQ4.out.h6.cell 1
                  have c2 := HQ4.out.h6.cell 2
                  have c3 := HQ4.out.h6.cell 3
                  have c4 := HQ4.out.h6.cell 4
                  have hrg : g ≠ w.heap.size + 1 := by
                    obtain ⟨c, hc, _⟩ := HQ4.out.hn
                    exact Has.ne (t := 3) (cs := c) hc HQ4.out.h2 (by decide)
                  have o1 := own_put5 (.int .i64 r.ni) (.slice Av r.nl kv) (.slice Au r.ord.length ku) (.slice A_3 r.nb k_3) (.slice A_4 r.nc k_4) HQ4.out.o1 HQ4.out.h2 (by decide)
                  have o2 := own_put5 (.int .i64 r.ni) (.slice Av r.nl kv) (.slice Au r.ord.length ku) (.slice A_3 r.nb k_3) (.slice A_4 r.nc k_4) HQ4.out.o2 HQ4.out.h2 (by decide)
                  have o3 := own_put5 (.int .i64 r.ni) (.slice Av r.nl kv) (.slice Au r.ord.length ku) (.slice A_3 r.nb k_3) (.slice A_4 r.nc k_4) HQ4.out.o3 HQ4.out.h2 (by decide)
                  have o4 := own_put5 (.int .i64 r.ni) (.slice Av r.nl kv) (.slice Au r.ord.length ku) (.slice A_3 r.nb k_3) (.slice A_4 r.nc k_4) HQ4.out.o4 HQ4.out.h2 (by decide)
                  have oR := HQ4.out.hn.of_block (put5_far wr (b := w.heap.size + 1) (.int .i64 r.ni) (.slice Av r.nl kv) (.slice Au r.ord.length ku) (.slice A_3 r.nb k_3) (.slice A_4 r.nc k_4) hrg)
                  have oB := put5_below (.int .i64 r.ni) (.slice Av r.nl kv) (.slice Au r.ord.length ku) (.slice A_3 r.nb k_3) (.slice A_4 r.nc k_4) HQ4.out.B (show w.heap.size ≤ w.heap.size + 1 by omega)
                  have HF := Lib.hid (And.intro (show Mem _ _ r.cir ⟨Av, Au, A_3, A_4, kv, ku, k_3, k_4⟩ from ⟨own_pairs2 o1, own_pairs2 o2, (own_ints2 o3).1, (own_ints2 o4).1⟩) (And.intro oR oB))
                  clear o1 o2 o3 o4 oR oB hrg
                  go_wp2
                  refine bodyPost_ret (v := .tuple #[cv r.cir ⟨Av, Au, A_3, A_4, kv, ku, k_3, k_4⟩, .slice (some ⟨g, 0, none⟩) (mn + 1) (mn + 1), .int .i64 0]) (by simp [results, Try.results18, go_sem, z0, z1, z2, z3, z4]; exact ⟨rfl, rfl, rfl, rfl, rfl⟩) rfl ⟨⟨Av, Au, A_3, A_4, kv, ku, k_3, k_4⟩, g, rfl, HF.out.1, HF.out.2.1, HF.out.2.2⟩

end Go.Proofs.Ytpdfdbnmohippaa
