/- More clauses and literals: the law's walk (written by tools/unmore.py). -/
import Derived.Test.YtecmldnigohjfaaDoorUnOwn
import Derived.Test.YtecmldnigohjfaaDoorUnEnd
import Derived.Deep.DeepCutAuto
import Derived.Deep.CutBlock
namespace Go.Proofs.YtecmldnigohjfaaDoor
open Go Go.RowKit
set_option linter.unusedVariables false
set_option linter.unusedSimpArgs false

section
variable {P : Program} {ops : Array Oper} {Q : Exit → Act → World → Prop} {md : Region.Mode} {S : World → Prop} {n : Nat}
theorem wu_ways3 (i j k : Nat) {fuel : Nat} {listed : Array Bool} {a : Act} {w : World} (hr : Region.ready md ops listed = [i, j, k])
    (hi : wpOp P ops Q i (fun a' w' => (i < n → S w') ∧ WT P md ops Q S n fuel (listed.setIfInBounds i true) a' w') a w)
    (hj : wpOp P ops Q j (fun a' w' => (j < n → S w') ∧ WT P md ops Q S n fuel (listed.setIfInBounds j true) a' w') a w)
    (hk : wpOp P ops Q k (fun a' w' => (k < n → S w') ∧ WT P md ops Q S n fuel (listed.setIfInBounds k true) a' w') a w) : WT P md ops Q S n (fuel + 1) listed a w :=
  ⟨fun h0 => (by rw [hr] at h0; cases h0), fun x hx => by
    rw [hr] at hx
    rcases List.mem_cons.1 hx with rfl | hx
    · exact wpOp_mono (fun a' w' h' => ⟨h'.1, h'.2.h⟩) hi
    rcases List.mem_cons.1 hx with rfl | hx
    · exact wpOp_mono (fun a' w' h' => ⟨h'.1, h'.2.h⟩) hj
    obtain rfl : x = k := by simpa using hx
    exact wpOp_mono (fun a' w' h' => ⟨h'.1, h'.2.h⟩) hk⟩
/-- one of several, that makes memory: the world behind it a letter -/
theorem wu_val (i : Nat) {oi : Oper} {d : Nat} {v : Value} {fuel : Nat} {listed : Array Bool} {a : Act} {w w' : World} (hi : opAt ops.toList i = some oi) (hd : oi.dst = some d)
    (hw : Region.wanted oi (yielded ops a.tmps) = true) (he : ∀ ev : Operand → Value, (∀ x, ev (.const x) = x) → (execOp ev oi).run P w = .ok (.value v) w')
    (h : ∀ W1, w' = W1 → (i < n → S W1) ∧ WT P md ops Q S n fuel (listed.setIfInBounds i true) (a.put (some d) v) W1) : wpOp P ops Q i (fun a' w' => (i < n → S w') ∧ WT P md ops Q S n fuel (listed.setIfInBounds i true) a' w') a w := by
  refine wpOp_go (opAt_spec hi) hw fun K hK => ?_
  show oi.upon P a K Q _
  rw [he _ (fun _ => rfl), Oper.upon_value, hd]
  exact hK _ _ (h _ rfl)
theorem wu_val1 (i s : Nat) {oi : Oper} {d : Nat} {v u : Value} {fuel : Nat} {listed : Array Bool} {a : Act} {w w' : World} (hi : opAt ops.toList i = some oi) (hd : oi.dst = some d)
    (hw : Region.wanted oi (yielded ops a.tmps) = true) (h1 : Slot a s u) (he : ∀ ev : Operand → Value, (∀ x, ev (.const x) = x) → ev (.tmp s) = u → (execOp ev oi).run P w = .ok (.value v) w')
    (h : ∀ W1, w' = W1 → (i < n → S W1) ∧ WT P md ops Q S n fuel (listed.setIfInBounds i true) (a.put (some d) v) W1) : wpOp P ops Q i (fun a' w' => (i < n → S w') ∧ WT P md ops Q S n fuel (listed.setIfInBounds i true) a' w') a w := by
  refine wpOp_go (opAt_spec hi) hw fun K hK => ?_
  show oi.upon P a K Q _
  rw [he _ (fun _ => rfl) h1.eval, Oper.upon_value, hd]
  exact hK _ _ (h _ rfl)
theorem wu_call2 (i s t : Nat) {oi : Oper} {d : Nat} {f : FuncId} {args : Array Value} {u x : Value} {fuel : Nat} {listed : Array Bool} {a : Act} {w : World} (hi : opAt ops.toList i = some oi) (hd : oi.dst = some d)
    (hw : Region.wanted oi (yielded ops a.tmps) = true) (h1 : Slot a s u) (h2 : Slot a t x) (he : ∀ ev : Operand → Value, (∀ x, ev (.const x) = x) → (∀ f, ev (.func f) = .func (.func f) #[] #[]) → ev (.tmp s) = u → ev (.tmp t) = x → (execOp ev oi).run P w = .ok (.enter f args) w)
    (h : Calls P f args w fun e w' => ∃ v, e = .returned v ∧ (i < n → S w') ∧ WT P md ops Q S n fuel (listed.setIfInBounds i true) (a.put (some d) v) w') : wpOp P ops Q i (fun a' w' => (i < n → S w') ∧ WT P md ops Q S n fuel (listed.setIfInBounds i true) a' w') a w := by
  refine wpOp_go (opAt_spec hi) hw fun K hK => ?_
  show oi.upon P a K Q _
  rw [he _ (fun _ => rfl) (fun _ => rfl) h1.eval h2.eval, Oper.upon_enter]
  refine h.mono fun e w' => ?_
  rintro ⟨v, rfl, h1, h2⟩
  have h3 := hK _ _ ⟨h1, h2⟩
  show K (a.put oi.dst v) w'
  rw [hd]; exact h3
theorem wu_app (i s x : Nat) {oi : Oper} {d : Nat} {t : TypeId} {u y : Value} {R : Value → World → Prop} {fuel : Nat} {listed : Array Bool} {a : Act} {w : World} (hi : opAt ops.toList i = some oi) (hd : oi.dst = some d)
    (hw : Region.wanted oi (yielded ops a.tmps) = true) (h1 : Slot a s u) (h2 : Slot a x y) (ho : oi.op = .call { callee := .builtin .append, args := #[.tmp s, .tmp x], argTypes := #[t, t] })
    (hrun : ∀ ty, ∃ v' w', (Builtin.append_ #[t, t] ty #[u, y]).run P w = .ok v' w' ∧ R v' w')
    (h : ∀ v' w', R v' w' → (i < n → S w') ∧ WT P md ops Q S n fuel (listed.setIfInBounds i true) (a.put (some d) v') w') : wpOp P ops Q i (fun a' w' => (i < n → S w') ∧ WT P md ops Q S n fuel (listed.setIfInBounds i true) a' w') a w := by
  refine wpOp_go (opAt_spec hi) hw fun K hK => ?_
  obtain ⟨v', w', hrn, hR⟩ := hrun oi.type
  have h3 := hK (a.put (some d) v') w' (h v' w' hR)
  show oi.upon P a K Q _
  unfold execOp
  simp only [ho, resolve, invoke, builtin, Sem.run_bind, Sem.run_pure, Result.andThen_ok, List.map_toArray, List.map_cons, List.map_nil, h1.eval, h2.eval, hrn, Oper.upon_value, hd]
  exact h3
end

/-- the region that lays the longer list, between two of its operations -/
structure Ms (W3 : World) (cv : Value) (W : World) (o : Option (Value × List (List Int))) (g5 gx : Option Nat) : Prop where
  b : Below W3.heap.size W3 W
  ho : ∀ v M, o = some (v, M) → Oo W3.heap.size W v M
  h5 : ∀ g, g5 = some g → Has W g 22 #[cv] ∧ W3.heap.size ≤ g
  hx : ∀ g, gx = some g → Has W g 24 #[.int .i64 0, .slice none 0 0, .slice none 0 0] ∧ W3.heap.size ≤ g
  s5 : ∀ v M g, o = some (v, M) → g5 = some g → v.ownBlock ≠ some g
  sx : ∀ v M g, o = some (v, M) → gx = some g → v.ownBlock ≠ some g
section
variable {W3 W W1 : World} {cv v : Value} {M : List (List Int)} {o : Option (Value × List (List Int))} {g5 gx : Option Nat}
theorem Ms.on (h : Ms W3 cv W o g5 gx) (hb : Below W.heap.size W W1) : Ms W3 cv W1 o g5 gx :=
  ⟨bn h.b hb, fun v M e => (h.ho v M e).keep h.b.size hb, fun g e => ⟨(h.h5 g e).1.keep hb (h.h5 g e).1.lt, (h.h5 g e).2⟩, fun g e => ⟨(h.hx g e).1.keep hb (h.hx g e).1.lt, (h.hx g e).2⟩, h.s5, h.sx⟩
theorem Ms.op1 (h : Ms W3 cv W none g5 gx) (hW : W.alloc (.cells #[] 22) = W1) : Ms W3 cv W1 (some (.slice (some ⟨W.heap.size, 0, none⟩) 0 0, [])) g5 gx := by
  subst hW
  have h1 := h.on (bx_on W (.cells #[] 22))
  refine ⟨h1.b, fun v M e => ?_, h1.h5, h1.hx, fun v M g e e5 => ?_, fun v M g e ex => ?_⟩
  · injection e with e; injection e with e1 e2; subst e1 e2
    exact Oo.new (Has.new _ _ _) h.b.size
  · injection e with e; injection e with e1 e2; subst e1
    have := (h.h5 g e5).1.lt
    intro he
    have he : some W.heap.size = some g := he
    injection he with he
    omega
  · injection e with e; injection e with e1 e2; subst e1
    have := (h.hx g ex).1.lt
    intro he
    have he : some W.heap.size = some g := he
    injection he with he
    omega
theorem Ms.op5 (h : Ms W3 cv W o none gx) (hW : W.alloc (.cells #[cv] 22) = W1) : Ms W3 cv W1 o (some W.heap.size) gx := by
  subst hW
  have h1 := h.on (bx_on W (.cells #[cv] 22))
  refine ⟨h1.b, h1.ho, fun g e => ?_, h1.hx, fun v M g e e5 he => ?_, h1.sx⟩
  · injection e with e; subst e
    exact ⟨Has.new _ _ _, h.b.size⟩
  · injection e5 with e5; subst e5
    have := ((h.ho v M e).blk _ he).2
    omega
theorem Ms.op12 (h : Ms W3 cv W o g5 none) (hW : W.alloc (.cells #[.int .i64 0, .slice none 0 0, .slice none 0 0] 24) = W1) : Ms W3 cv W1 o g5 (some W.heap.size) := by
  subst hW
  have h1 := h.on (bx_on W (.cells #[.int .i64 0, .slice none 0 0, .slice none 0 0] 24))
  refine ⟨h1.b, h1.ho, h1.h5, fun g e => ?_, h1.s5, fun v M g e e5 he => ?_⟩
  · injection e with e; subst e
    exact ⟨Has.new _ _ _, h.b.size⟩
  · injection e5 with e5; subst e5
    have := ((h.ho v M e).blk _ he).2
    omega
/-- an append -/
theorem Ms.app (h : Ms W3 cv W (some (v, M)) g5 gx) {A : Option Addr} {n k : Nat} {N : List (List Int)} (hn : n = N.length) {ys : List Value} (hsrc : Src W A N.length k ys) (hrl : Rl W W3.heap.size ys N) (hle : M.length + N.length ≤ 1000000) (ty : TypeId) :
    ∃ v' w', (Builtin.append_ #[25, 25] ty #[v, .slice A n k]).run Tryd.prog W = .ok v' w' ∧ Ms W3 cv w' (some (v', M ++ N)) g5 gx := by
  have hO := h.ho v M rfl
  obtain ⟨v', w', hr, h1, h2, h3, h4⟩ := oo_run W3.heap.size v M hO A n k N hn hsrc hrl hle h.b.size ty
  refine ⟨v', w', hr, h.b.trans h2, fun v0 M0 e => ?_, fun g e => ?_, fun g e => ?_, fun v0 M0 g e e5 he => ?_, fun v0 M0 g e e5 he => ?_⟩
  · injection e with e; injection e with e1 e2; subst e1 e2; exact h1
  · exact ⟨(h3.block g (h.h5 g e).1.lt (fun hh => h.s5 v M g rfl e hh.symm)).trans (h.h5 g e).1, (h.h5 g e).2⟩
  · exact ⟨(h3.block g (h.hx g e).1.lt (fun hh => h.sx v M g rfl e hh.symm)).trans (h.hx g e).1, (h.hx g e).2⟩
  · injection e with e; injection e with e1 e2; subst e1
    rcases h4 with h4 | h4
    · rw [h4] at he; exact h.s5 v M g rfl e5 he
    · rw [h4] at he; injection he with he; have := (h.h5 g e5).1.lt; omega
  · injection e with e; injection e with e1 e2; subst e1
    rcases h4 with h4 | h4
    · rw [h4] at he; exact h.sx v M g rfl e5 he
    · rw [h4] at he; injection he with he; have := (h.hx g e5).1.lt; omega
theorem src_keep {A : Option Addr} {m k : Nat} {xs : List Value} {B : Nat} (h : Src W3 A m k xs) (hb : Below B W3 W) (hB : B = W3.heap.size) : Src W A m k xs := by
  rcases h with h | ⟨ad, e, hc⟩
  · exact Or.inl h
  · subst hB
    exact Or.inr ⟨ad, e, fun j u hu => (hb.cell (cell_lt (hc j u hu))).trans (hc j u hu)⟩
theorem Ms.op3 (h : Ms W3 cv W (some (v, M)) g5 gx) {C : Option Addr} {L : List (List Int)} {kc nl : Nat} (hC : Ill W3 W3.heap.size C L kc) (hn : nl = L.length) (hl : L.length ≤ 1000) (hM : M.length ≤ 1000) (ty : TypeId) :
    ∃ v' w', (Builtin.append_ #[25, 25] ty #[v, .slice C nl kc]).run Tryd.prog W = .ok v' w' ∧ Ms W3 cv w' (some (v', M ++ L)) g5 gx := by
  obtain ⟨xs, h1, h2⟩ := hC.rl
  exact h.app hn (src_keep h1 h.b rfl) (h2.keep h.b) (by omega) ty
theorem Ms.op6 {D : Option Addr} {c : List Int} {kd nc g : Nat} (h : Ms W3 (.slice D nc kd) W (some (v, M)) (some g) gx) (hD : Ia W3 W3.heap.size D c kd) (hn : nc = c.length) (hM : M.length ≤ 10000) (ty : TypeId) :
    ∃ v' w', (Builtin.append_ #[25, 25] ty #[v, .slice (some ⟨g, 0, none⟩) 1 1]).run Tryd.prog W = .ok v' w' ∧ Ms W3 (.slice D nc kd) w' (some (v', M ++ [c])) (some g) gx := by
  have h5 := h.h5 g rfl
  refine h.app (N := [c]) (ys := [.slice D nc kd]) rfl (Or.inr ⟨_, rfl, fun j u hu => ?_⟩) ⟨rfl, fun j hj => ?_⟩ (by simp; omega) ty
  · rcases j with _ | j
    · rw [addr_add, h5.1.cell]; exact hu
    · cases hu
  · rcases j with _ | j
    · exact ⟨D, kd, by subst hn; rfl, hD.keep h.b⟩
    · simp at hj
end

/-- of an argument with a clause more -/
structure Gx (v : Int) (t s : List Int) (L : List (List Int)) (c x : List Int) (a : Int) (y : List Int) (b : Int) (n2 nl1 : Nat) : Prop where
  okL : ∀ d ∈ L ++ [c], OkC v d
  len : nl1 = (L ++ [c]).length
  up : upR v t (L ++ [c]) = (y, b)
  hn : n2 = y.length
  n4 : n2 ≤ 4000
  sg : b < 0 → a < 0
  sm : b < 0 → prt x y = true
theorem Gx.mk' {v : Int} {t s : List Int} {L : List (List Int)} {x : List Int} {a : Int} {n n1 m nl : Nat} (h : Fx v t s L x a n n1 m nl) {c : List Int} (hc : OkC v c) : ∃ y b n2 nl1, Gx v t s L c x a y b n2 nl1 := by
  have hv0 : 0 ≤ v := by have := h.ok.1; omega
  have hL' : ∀ d ∈ L ++ [c], OkC v d := fun d hd => by
    rcases List.mem_append.1 hd with hd | hd
    · exact h.okL d hd
    · rw [List.mem_singleton.1 hd]; exact hc
  have p := fun hb => upR_mono (L := L) (L' := L ++ [c]) hL' hv0 h.ok.2.1 h.ok.2.1 (fun d hd => List.mem_append.2 (Or.inl hd)) (fun _ hl => hl) hb
  rw [h.up] at p
  exact ⟨_, _, _, _, hL', rfl, rfl, rfl, upR_len hL' h.ok.2.1 hv0 h.v4, fun hb => (p hb).1, fun hb => prt_iff.2 (p hb).2⟩
/-- with a literal more -/
structure Zx (v : Int) (t s : List Int) (L : List (List Int)) (li : Int) (x : List Int) (a : Int) (z : List Int) (d : Int) (n3 : Nat) : Prop where
  ok : OkA v (t ++ [li]) (s ++ [(t.length : Int)])
  up : upR v (t ++ [li]) L = (z, d)
  hn : n3 = z.length
  n4 : n3 ≤ 4000
  sg : d < 0 → a < 0
  sm : d < 0 → prt x z = true
theorem Zx.mk' {v : Int} {t s : List Int} {L : List (List Int)} {x : List Int} {a : Int} {n n1 m nl : Nat} (h : Fx v t s L x a n n1 m nl) {li : Int} (hl : isL v li = true) (hi : isv t li = 2) : ∃ z d n3, Zx v t s L li x a z d n3 := by
  have hv0 : 0 ≤ v := by have := h.ok.1; omega
  have ho := h.ok.decided hl (isv_none.1 hi)
  have p := fun hb => upR_mono (L := L) (L' := L) (t := t) (t' := t ++ [li]) h.okL hv0 h.ok.2.1 ho.2.1 (fun _ hd => hd) (fun l hl => List.mem_append.2 (Or.inl hl)) hb
  rw [h.up] at p
  exact ⟨_, _, _, ho, rfl, rfl, upR_len h.okL ho.2.1 hv0 h.v4, fun hb => (p hb).1, fun hb => prt_iff.2 (p hb).2⟩

section
variable {b : Nat} {W : World} {A B : Option Addr} {n k m q : Nat} {t s : List Int}
theorem Nw.withT (h : Nw b W A n k t B m q s) (hn : n ≤ 100000) (hm : m ≤ 100000) (v x : Int) :
    Calls Tryd.prog 29 #[asv v A n k B m q, .int .i64 x, .bool true] W fun e w' => ∃ A' k' B' q', e = .returned (asv v A' (n + 1) k' B' (m + 1) q') ∧ Nw W.heap.size w' A' (n + 1) k' (t ++ [x]) B' (m + 1) q' (s ++ [(n : Int)]) ∧ Below W.heap.size W w' := by
  have := h.nt
  have := h.ms
  have h1 := rWith_any v A t k B s q x W h.ti (by omega) h.si (by omega)
  rw [← h.nt, ← h.ms] at h1
  exact h1.mono fun e w' hh => hh.nw (by rw [List.length_append, ← h.nt]; rfl) (by rw [List.length_append, ← h.ms]; rfl)
end

set_option maxRecDepth 100000 in
set_option maxHeartbeats 40000000 in
theorem more15_any (v : Int) (A : Option Addr) (t : List Int) (k : Nat) (B : Option Addr) (s : List Int) (q : Nat) (C : Option Addr) (L : List (List Int)) (kc : Nat) (D : Option Addr) (c : List Int) (kd : Nat) (li : Int) (w : World) (hm0 : Ia w w.heap.size A t k) (hn0 : Ia w w.heap.size B s q) (hk0 : k ≤ 9223372036854775807 ∧ q ≤ 9223372036854775807)
    (hm1 : Ill w w.heap.size C L kc) (hk1 : kc ≤ 9223372036854775807) (hr1 : ∀ c ∈ L, (∀ x ∈ c, I64 x) ∧ c.length ≤ 9223372036854775807) (hm2 : Ia w w.heap.size D c kd) (hr2 : ∀ x ∈ c, I64 x) (hk2 : kd ≤ 9223372036854775807) (htab : Tab w.heap.size w) :
    Calls Tryd.prog 8 #[asv v A t.length k B s.length q, .slice C L.length kc, .slice D c.length kd, .int .i64 li] w fun e w' => e = .returned (.bool true) ∧ Below w.heap.size w w' := by
  have H0 := Bs.new w (.int .i64 v) (.slice A t.length k) (.slice B s.length q)
  have hb0 := bx_on w (.cells #[.int .i64 v, .slice A t.length k, .slice B s.length q] 24)
  obtain ⟨n, hn⟩ : ∃ n, n = t.length := ⟨_, rfl⟩
  obtain ⟨m, hm⟩ : ∃ m, m = s.length := ⟨_, rfl⟩
  obtain ⟨nl, hnl⟩ : ∃ m, m = L.length := ⟨_, rfl⟩
  obtain ⟨nc, hnc⟩ : ∃ m, m = c.length := ⟨_, rfl⟩
  have hc63 : c.length ≤ 9223372036854775807 := by have := hm2.c; omega
  have DA := fun (W : World) (hb : Below w.heap.size w W) => alive15_any W (htab.next hb)
  have DF := fun (W : World) (hb : Below w.heap.size w W) => fit15_any v A t k B s q C L kc W (hm0.on hb) (hn0.on hb) hk0 (hm1.on hb) hk1 hr1 hn hm hnl
  have DC := fun (W : World) (hb : Below w.heap.size w W) => rCheck_any v D c kd W (hm2.on hb) hc63 hr2
  have HB := Lib.hid (And.intro H0 hb0)
  rw [← hn, ← hm] at HB ⊢
  rw [← hnc] at DC ⊢
  rw [← hnl]
  clear hc63
  by_cases hf : ftB v t s L = true
  case neg =>
    have hf : ftB v t s L = false := by simpa using hf
    rw [hf] at DF
    clear hm0 hn0 hk0 hm1 hk1 hr1 hm2 hr2 hk2 htab hn hm hnl hnc hf H0 hb0 DC
    go_enter Tryd.func8, Tryd.ntmps8
    go_wp2_with (first
      | (go_at_call 17; (with_reducible refine (DA _ HB.out.2).mono ?_); rintro e w1 ⟨rfl, hb1⟩
         have HB1 := Lib.hid (And.intro (HB.out.1.on hb1) (bn HB.out.2 hb1))
         obtain ⟨c0, c1, c2⟩ := HB1.out.1.c
         clear hb1)
      | (go_at_call 18; (with_reducible refine (DF _ HB1.out.2).mono ?_); rintro e w2 ⟨rfl, hb2⟩
         have HB2 := Lib.hid (And.intro (HB1.out.1.on hb2) (bn HB1.out.2 hb2))
         obtain ⟨c20, c21, c22⟩ := HB2.out.1.c
         clear hb2))
    go_ret
    exact ⟨rfl, HB2.out.2⟩
  rw [hf] at DF
  by_cases hg : 40 < nc
  case pos =>
    have g40 : decide (40 < nc) = true := decide_eq_true hg
    have g40' : decide ((40 : Int) < (nc : Int)) = true := decide_eq_true (by omega)
    clear hm0 hn0 hk0 hm1 hk1 hr1 hm2 hr2 hk2 htab hn hm hnl hnc hf H0 hb0 DC hg
    go_enter Tryd.func8, Tryd.ntmps8
    go_wp2_with (first
      | (go_at_call 17; (with_reducible refine (DA _ HB.out.2).mono ?_); rintro e w1 ⟨rfl, hb1⟩
         have HB1 := Lib.hid (And.intro (HB.out.1.on hb1) (bn HB.out.2 hb1))
         obtain ⟨c0, c1, c2⟩ := HB1.out.1.c
         clear hb1)
      | (go_at_call 18; (with_reducible refine (DF _ HB1.out.2).mono ?_); rintro e w2 ⟨rfl, hb2⟩
         have HB2 := Lib.hid (And.intro (HB1.out.1.on hb2) (bn HB1.out.2 hb2))
         obtain ⟨c20, c21, c22⟩ := HB2.out.1.c
         clear hb2))
    go_ret
    exact ⟨rfl, HB2.out.2⟩
  have g40 : decide (40 < nc) = false := decide_eq_false hg
  have g40' : decide ((40 : Int) < (nc : Int)) = false := decide_eq_false (by omega)
  have hnc40 : nc ≤ 40 := by omega
  clear hg
  by_cases hg2 : 60 ≤ nl
  case pos =>
    have g60 : decide (60 ≤ nl) = true := decide_eq_true hg2
    have g60' : decide ((60 : Int) ≤ (nl : Int)) = true := decide_eq_true (by omega)
    clear hm0 hn0 hk0 hm1 hk1 hr1 hm2 hr2 hk2 htab hn hm hnl hnc hf H0 hb0 DC hg2 
    go_enter Tryd.func8, Tryd.ntmps8
    go_wp2_with (first
      | (go_at_call 17; (with_reducible refine (DA _ HB.out.2).mono ?_); rintro e w1 ⟨rfl, hb1⟩
         have HB1 := Lib.hid (And.intro (HB.out.1.on hb1) (bn HB.out.2 hb1))
         obtain ⟨c0, c1, c2⟩ := HB1.out.1.c
         clear hb1)
      | (go_at_call 18; (with_reducible refine (DF _ HB1.out.2).mono ?_); rintro e w2 ⟨rfl, hb2⟩
         have HB2 := Lib.hid (And.intro (HB1.out.1.on hb2) (bn HB1.out.2 hb2))
         obtain ⟨c20, c21, c22⟩ := HB2.out.1.c
         clear hb2))
    go_ret
    exact ⟨rfl, HB2.out.2⟩
  have g60 : decide (60 ≤ nl) = false := decide_eq_false hg2
  have g60' : decide ((60 : Int) ≤ (nl : Int)) = false := decide_eq_false (by omega)
  have hnl60 : nl < 60 := by omega
  clear hg2
  by_cases hck : ckE v c = 0
  case neg =>
    have hck2 : (ckE v c != 0) = true := by simpa using hck
    generalize ckE v c = ck at DC hck2
    clear hm0 hn0 hk0 hm1 hk1 hr1 hm2 hr2 hk2 htab hn hm hnl hnc hf H0 hb0 hck
    go_enter Tryd.func8, Tryd.ntmps8
    go_wp2_with (first
      | (go_at_call 17; (with_reducible refine (DA _ HB.out.2).mono ?_); rintro e w1 ⟨rfl, hb1⟩
         have HB1 := Lib.hid (And.intro (HB.out.1.on hb1) (bn HB.out.2 hb1))
         obtain ⟨c0, c1, c2⟩ := HB1.out.1.c
         clear hb1)
      | (go_at_call 18; (with_reducible refine (DF _ HB1.out.2).mono ?_); rintro e w2 ⟨rfl, hb2⟩
         have HB2 := Lib.hid (And.intro (HB1.out.1.on hb2) (bn HB1.out.2 hb2))
         obtain ⟨c20, c21, c22⟩ := HB2.out.1.c
         clear hb2)
      | (go_at_call 25; (with_reducible refine (DC _ HB2.out.2).mono ?_); rintro e w22 ⟨rfl, dd, rfl⟩
         have hbd := below_dn (Below.refl w2.heap.size w2) dd
         have HB22 := Lib.hid (And.intro (HB2.out.1.on hbd) (bn HB2.out.2 hbd))
         obtain ⟨c220, c221, c222⟩ := HB22.out.1.c
         clear hbd))
    go_ret
    exact ⟨rfl, HB22.out.2⟩
  rw [hck] at DC
  obtain ⟨x, a, n1, hx⟩ := Fx.mk' hf hn hm hnl
  obtain ⟨y, b, n2, nl1, hy⟩ := Gx.mk' hx (ckE_0 hck).2.2
  have hNw := Nw.arg hm0 hn0 hn hm
  have D1 := fun (W : World) (hb : Below w.heap.size w W) => (hNw.on hb).run (v := v) (by have := hx.m2; omega) hx.ok (hm1.on hb) hx.okL (by omega) (htab.next hb) (n' := n1) (by rw [hx.up]; exact hx.hn1) hnl
  have D2 := fun (W : World) (hb : Below w.heap.size w W) (C' : Option Addr) (k' : Nat) (hI : Ill W W.heap.size C' (L ++ [c]) k') => (hNw.on hb).run (v := v) (by have := hx.m2; omega) hx.ok hI hy.okL (by rw [List.length_append]; simp; omega) (htab.next hb) (n' := n2) (by rw [hy.up]; exact hy.hn) hy.len
  rw [hx.up] at D1
  rw [hy.up] at D2
  have hn1k : n1 ≤ 4000 := hx.n1k
  have hv4 : v ≤ 4000 := hx.v4
  have HX := Lib.hid (And.intro hx hy)
  have HC := Lib.hid (And.intro hm1 (And.intro hm2 (And.intro hNw (And.intro htab (And.intro hnl hnc)))))
  clear hm0 hn0 hk0 hm1 hk1 hr1 hm2 hr2 hk2 htab hn hm hnl hnc hf H0 hb0 hNw hx hy hck
  go_enter Tryd.func8, Tryd.ntmps8
  go_wp2_with (first
    | (go_at_call 17; (with_reducible refine (DA _ HB.out.2).mono ?_); rintro e w1 ⟨rfl, hb1⟩
       have HB1 := Lib.hid (And.intro (HB.out.1.on hb1) (bn HB.out.2 hb1))
       obtain ⟨c0, c1, c2⟩ := HB1.out.1.c
       clear hb1)
    | (go_at_call 18; (with_reducible refine (DF _ HB1.out.2).mono ?_); rintro e w2 ⟨rfl, hb2⟩
       have HB2 := Lib.hid (And.intro (HB1.out.1.on hb2) (bn HB1.out.2 hb2))
       obtain ⟨c20, c21, c22⟩ := HB2.out.1.c
       clear hb2)
    | (go_at_call 25; (with_reducible refine (DC _ HB2.out.2).mono ?_); rintro e w22 ⟨rfl, dd, rfl⟩
       have hbd := below_dn (Below.refl w2.heap.size w2) dd
       have HB22 := Lib.hid (And.intro (HB2.out.1.on hbd) (bn HB2.out.2 hbd))
       obtain ⟨c220, c221, c222⟩ := HB22.out.1.c
       clear hbd)
    | (go_at_call 14; (with_reducible refine (D1 _ HB22.out.2).mono ?_); rintro e w3 ⟨A3, k3, B3, q3, rfl, hN3, hb3⟩
       have hz := bx_on w3 (.cells #[.int .i64 v, .slice A3 n1 k3, .slice B3 m q3] 24)
       have HB3 := Lib.hid (And.intro ((HB22.out.1.on hb3).on hz) (And.intro (bn (bn HB22.out.2 hb3) hz) (And.intro (hN3.on hz) (Bs.new w3 (.int .i64 v) (.slice A3 n1 k3) (.slice B3 m q3)))))
       clear hN3 hb3 hz))
  clear DA DF DC D1
  generalize hW : w3.alloc (.cells #[.int .i64 v, .slice A3 n1 k3, .slice B3 m q3] 24) = W3 at HB3 ⊢
  clear hW c0 c1 c2 c20 c21 c22 c220 c221 c222 HB1 HB2 HB HB22 g40 g40' g60 g60'
  generalize hgx : w3.heap.size = gx at HB3 ⊢
  clear hgx
  go_cut [13, 14, 15] (fun u13 u14 u15 wx => ∃ gy A4 k4 B4 q4, u13 = .pointer (some ⟨gy, 0, none⟩) ∧ u14 = .int .i64 b ∧ u15 = .int .i64 0 ∧ (Below W3.heap.size W3 wx ∧ Bs gy wx (.int .i64 v) (.slice A4 n2 k4) (.slice B4 m q4) ∧ Nw 0 wx A4 n2 k4 y B4 m q4 s))
  case first =>
    have HC3 := Lib.hid (And.intro (HC.out.1.on HB3.out.2.1) (And.intro HC.out.2.2.2.2.1 (And.intro (show L.length ≤ 1000 by have := HC.out.2.2.2.2.1; omega) (And.intro (HC.out.2.1.on HB3.out.2.1) HC.out.2.2.2.2.2))))
    have HC5 := Lib.hid HX.out.2.len
    have hM : Ms W3 (.slice D nc kd) W3.drew none none none := ⟨below_dn (Below.refl _ _) 1, fun _ _ e => (by cases e), fun _ e => (by cases e), fun _ e => (by cases e), fun _ _ _ e => (by cases e), fun _ _ _ e => by cases e⟩
    have hS0 : (fun W : World => W.cell? ⟨w.heap.size, 0, none⟩ = some (.int .i64 v) ∧ W.cell? ⟨w.heap.size, 1, none⟩ = some (.slice A n k) ∧ W.cell? ⟨w.heap.size, 2, none⟩ = some (.slice B m q)) W3.drew := HB3.out.1.c
    have HSk : Hid (∀ W, Below W3.heap.size W3 W → (fun W : World => W.cell? ⟨w.heap.size, 0, none⟩ = some (.int .i64 v) ∧ W.cell? ⟨w.heap.size, 1, none⟩ = some (.slice A n k) ∧ W.cell? ⟨w.heap.size, 2, none⟩ = some (.slice B m q)) W) := Lib.hid fun W hb => (HB3.out.1.on hb).c
    refine wp_slots (fun f => Sz f 136 ∧ Slot f 1 (.slice C nl kc) ∧ Slot f 2 (.slice D nc kd) ∧ Slot f 4 (.pointer (some ⟨w.heap.size, 0, none⟩))) ⟨⟨rfl, rfl⟩, ⟨rfl⟩, ⟨rfl⟩, ⟨rfl⟩⟩ fun a0 hA0 hR => ?_
    obtain ⟨hZ, hs1, hs2, hs4⟩ := hR
    have HA := Lib.hid hA0
    clear hA0
    refine wp_region_T (fun W : World => W.cell? ⟨w.heap.size, 0, none⟩ = some (.int .i64 v) ∧ W.cell? ⟨w.heap.size, 1, none⟩ = some (.slice A n k) ∧ W.cell? ⟨w.heap.size, 2, none⟩ = some (.slice B m q)) 16 (by kernel_rfl) ?_
    refine WT.h ?_
    (refine wt_take1 0 4 (v := ?_) rfl rfl (by kernel_rfl) (by kernel_rfl) (by kernel_rfl) (by kernel_rfl) (fun _ _ _ h => h) rfl hS0 (by (repeat (first | (refine slot_hit (N := 136) ?_ (by rfl); (repeat (refine sz_put ?_)); assumption; done) | (apply slot_miss; focus rfl))); all_goals assumption) (fun ev hk hv0 w hS => ?_) ?_; rotate_left; focus (obtain ⟨j0, j1, j2⟩ := hS; go_simp; rfl)); (refine wt_move 2 1 rfl rfl (by kernel_rfl) (by kernel_rfl) (by kernel_rfl) (by kernel_rfl) (fun _ _ _ h => h) rfl hS0 (by (repeat (first | (refine slot_hit (N := 136) ?_ (by rfl); (repeat (refine sz_put ?_)); assumption; done) | (apply slot_miss; focus rfl))); all_goals assumption) rfl ?_); (refine wt_move 4 2 rfl rfl (by kernel_rfl) (by kernel_rfl) (by kernel_rfl) (by kernel_rfl) (fun _ _ _ h => h) rfl hS0 (by (repeat (first | (refine slot_hit (N := 136) ?_ (by rfl); (repeat (refine sz_put ?_)); assumption; done) | (apply slot_miss; focus rfl))); all_goals assumption) rfl ?_)
    clear hS0
    refine wu_ways3 1 5 12 (by kernel_rfl) ?_ ?_ ?_
    · skip
      refine wu_val 1 rfl rfl rfl (v := ?_) (w' := ?_) (fun ev hk => ?_) ?_; rotate_left 2; focus (go_simp; first | rfl | (constructor <;> rfl))
      intro W1 hW1
      have hM := hM.op1 hW1
      clear hW1
      refine ⟨fun _ => HSk.out _ hM.b, ?_⟩
      refine wu_ways3 3 5 12 (by kernel_rfl) ?_ ?_ ?_
      · skip
        refine wu_app 3 55 56 rfl rfl rfl (by (repeat (first | (refine slot_hit (N := 136) ?_ (by rfl); (repeat (refine sz_put ?_)); assumption; done) | (apply slot_miss; focus rfl))); all_goals assumption) (by (repeat (first | (refine slot_hit (N := 136) ?_ (by rfl); (repeat (refine sz_put ?_)); assumption; done) | (apply slot_miss; focus rfl))); all_goals assumption) rfl (fun ty => hM.op3 HC3.out.1 HC3.out.2.1 HC3.out.2.2.1 (by simp) ty) (fun v3 w33 hM => ?_)
        refine ⟨fun _ => HSk.out _ hM.b, ?_⟩
        refine ways2 5 12 (by kernel_rfl) ?_ ?_
        · skip
          refine wu_val1 5 58 rfl rfl rfl (by (repeat (first | (refine slot_hit (N := 136) ?_ (by rfl); (repeat (refine sz_put ?_)); assumption; done) | (apply slot_miss; focus rfl))); all_goals assumption) (v := ?_) (w' := ?_) (fun ev hk hv0 => ?_) ?_; rotate_left 2; focus (go_simp; first | rfl | (constructor <;> rfl))
          intro W1 hW1
          have hM := hM.op5 hW1
          clear hW1
          refine ⟨fun _ => HSk.out _ hM.b, ?_⟩
          refine ways2 6 12 (by kernel_rfl) ?_ ?_
          · skip
            refine wu_app 6 57 59 rfl rfl rfl (by (repeat (first | (refine slot_hit (N := 136) ?_ (by rfl); (repeat (refine sz_put ?_)); assumption; done) | (apply slot_miss; focus rfl))); all_goals assumption) (by (repeat (first | (refine slot_hit (N := 136) ?_ (by rfl); (repeat (refine sz_put ?_)); assumption; done) | (apply slot_miss; focus rfl))); all_goals assumption) rfl (fun ty => hM.op6 HC3.out.2.2.2.1 HC3.out.2.2.2.2 (by have := HC3.out.2.2.1; simp; omega) ty) (fun v6 w66 hM => ?_)
            refine ⟨fun _ => HSk.out _ hM.b, ?_⟩
            refine ways2 7 12 (by kernel_rfl) ?_ ?_
            · skip
              obtain ⟨A6, k6, e6, hI6⟩ := (hM.ho _ _ rfl).ill hM.b.size
              rw [List.nil_append] at e6 hI6
              rw [← HC5.out] at e6
              subst e6
              refine wu_call2 7 54 60 rfl rfl rfl (by (repeat (first | (refine slot_hit (N := 136) ?_ (by rfl); (repeat (refine sz_put ?_)); assumption; done) | (apply slot_miss; focus rfl))); all_goals assumption) (by (repeat (first | (refine slot_hit (N := 136) ?_ (by rfl); (repeat (refine sz_put ?_)); assumption; done) | (apply slot_miss; focus rfl))); all_goals assumption) (f := ?_) (args := ?_) (fun ev hk hkf hv0 hv1 => ?_) ?_; rotate_left 2; focus (go_simp; first | rfl | (constructor <;> rfl))
              refine (D2 _ (bn HB3.out.2.1 hM.b) _ _ hI6).mono ?_
              rintro e w7 ⟨A7, k7, B7, q7, rfl, hN7, hb7⟩
              have hM := hM.on hb7
              clear hI6 hb7
              refine ⟨_, rfl, fun _ => HSk.out _ hM.b, ?_⟩
              have hS0 := HSk.out _ hM.b
              (refine wt_move 8 61 rfl rfl (by kernel_rfl) (by kernel_rfl) (by kernel_rfl) (by kernel_rfl) (fun _ _ _ h => h) rfl hS0 (by (repeat (first | (refine slot_hit (N := 136) ?_ (by rfl); (repeat (refine sz_put ?_)); assumption; done) | (apply slot_miss; focus rfl))); all_goals assumption) rfl ?_); (refine wt_take1 9 53 (v := ?_) rfl rfl (by kernel_rfl) (by kernel_rfl) (by kernel_rfl) (by kernel_rfl) (fun _ _ _ h => h) rfl hS0 (by (repeat (first | (refine slot_hit (N := 136) ?_ (by rfl); (repeat (refine sz_put ?_)); assumption; done) | (apply slot_miss; focus rfl))); all_goals assumption) (fun ev hk hv0 w hS => ?_) ?_; rotate_left; focus (obtain ⟨j0, j1, j2⟩ := hS; go_simp; rfl)); (refine wt_take1 10 53 (v := ?_) rfl rfl (by kernel_rfl) (by kernel_rfl) (by kernel_rfl) (by kernel_rfl) (fun _ _ _ h => h) rfl hS0 (by (repeat (first | (refine slot_hit (N := 136) ?_ (by rfl); (repeat (refine sz_put ?_)); assumption; done) | (apply slot_miss; focus rfl))); all_goals assumption) (fun ev hk hv0 w hS => ?_) ?_; rotate_left; focus (obtain ⟨j0, j1, j2⟩ := hS; go_simp; rfl)); (refine wt_take1 11 53 (v := ?_) rfl rfl (by kernel_rfl) (by kernel_rfl) (by kernel_rfl) (by kernel_rfl) (fun _ _ _ h => h) rfl hS0 (by (repeat (first | (refine slot_hit (N := 136) ?_ (by rfl); (repeat (refine sz_put ?_)); assumption; done) | (apply slot_miss; focus rfl))); all_goals assumption) (fun ev hk hv0 w hS => ?_) ?_; rotate_left; focus (obtain ⟨j0, j1, j2⟩ := hS; go_simp; rfl))
              refine wt_one 12 (by kernel_rfl) ?_
              refine wu_val 12 rfl rfl rfl (v := ?_) (w' := ?_) (fun ev hk => ?_) ?_; rotate_left 2; focus (go_simp; first | rfl | (constructor <;> rfl))
              intro W1 hW1
              have hM := hM.op12 hW1
              have hb12 : Below w7.heap.size w7 W1 := by rw [← hW1]; exact bx_on _ _
              clear hW1
              refine ⟨fun _ => HSk.out _ hM.b, ?_⟩
              obtain ⟨hxb, hxg⟩ := hM.hx _ rfl
              obtain ⟨f0, f1, f2, e0, e1, e2⟩ := And.intro (hxb.cell 0) (And.intro (hxb.cell 1) (And.intro (hxb.cell 2) (And.intro (hxb.fz 0) (And.intro (hxb.fz 1) (hxb.fz 2)))))
              refine wt_act2 13 13 62 (by kernel_rfl) rfl rfl rfl (by (repeat (first | (refine slot_hit (N := 136) ?_ (by rfl); (repeat (refine sz_put ?_)); assumption; done) | (apply slot_miss; focus rfl))); all_goals assumption) (by (repeat (first | (refine slot_hit (N := 136) ?_ (by rfl); (repeat (refine sz_put ?_)); assumption; done) | (apply slot_miss; focus rfl))); all_goals assumption) (w' := ?_) (fun ev hk hv0 hv1 => ?_) ?_; rotate_left; focus (go_simp; rfl)
              have hB9 := st3_below hM.b hxg (.int .i64 v) (.slice A7 n2 k7) (.slice B7 m q7)
              have hS0 := HSk.out _ hB9
              unfold st3 at hS0
              refine ⟨fun _ => hS0, ?_⟩
              (refine wt_assign 14 63 rfl rfl (by kernel_rfl) (by kernel_rfl) (by kernel_rfl) (by kernel_rfl) (fun _ _ _ h => h) rfl hS0 (by (repeat (first | (refine slot_hit (N := 136) ?_ (by rfl); (repeat (refine sz_put ?_)); assumption; done) | (apply slot_miss; focus rfl))); all_goals assumption) rfl ?_); (refine wt_assign 15 64 rfl rfl (by kernel_rfl) (by kernel_rfl) (by kernel_rfl) (by kernel_rfl) (fun _ _ _ h => h) rfl hS0 (by (repeat (first | (refine slot_hit (N := 136) ?_ (by rfl); (repeat (refine sz_put ?_)); assumption; done) | (apply slot_miss; focus rfl))); all_goals assumption) rfl ?_)
              refine wt_done (by kernel_rfl) (NoPanic.normal ?_) _
              have ha := HA.out
              subst ha
              have hN9 := (hN7.on (st3_below hb12 (Nat.le_refl _) (.int .i64 v) (.slice A7 n2 k7) (.slice B7 m q7))).low (Nat.zero_le _)
              have hB0 : Bs _ _ _ _ _ := ⟨st3_has hxb (.int .i64 v) (.slice A7 n2 k7) (.slice B7 m q7)⟩
              have HU := Lib.hid (And.intro hB9 (And.intro hB0 hN9))
              unfold st3 at HU
              clear hZ hs1 hs2 hs4 hS0 hM hxb f0 f1 f2 e0 e1 e2 hN9 hN7 hB9 hB0 hxg hb12
              go_wp2
              go_meet
              exact ⟨_, _, _, _, _, rfl, rfl, rfl, HU.out⟩
            · skip
              refine wu_val 12 rfl rfl rfl (v := ?_) (w' := ?_) (fun ev hk => ?_) ?_; rotate_left 2; focus (go_simp; first | rfl | (constructor <;> rfl))
              intro W1 hW1
              have hM := hM.op12 hW1
              clear hW1
              refine ⟨fun _ => HSk.out _ hM.b, ?_⟩
              refine wt_one 7 (by kernel_rfl) ?_
              have hxlt := (hM.hx _ rfl).1.lt
              obtain ⟨A6, k6, e6, hI6⟩ := (hM.ho _ _ rfl).ill hM.b.size
              rw [List.nil_append] at e6 hI6
              rw [← HC5.out] at e6
              subst e6
              refine wu_call2 7 54 60 rfl rfl rfl (by (repeat (first | (refine slot_hit (N := 136) ?_ (by rfl); (repeat (refine sz_put ?_)); assumption; done) | (apply slot_miss; focus rfl))); all_goals assumption) (by (repeat (first | (refine slot_hit (N := 136) ?_ (by rfl); (repeat (refine sz_put ?_)); assumption; done) | (apply slot_miss; focus rfl))); all_goals assumption) (f := ?_) (args := ?_) (fun ev hk hkf hv0 hv1 => ?_) ?_; rotate_left 2; focus (go_simp; first | rfl | (constructor <;> rfl))
              refine (D2 _ (bn HB3.out.2.1 hM.b) _ _ hI6).mono ?_
              rintro e w7 ⟨A7, k7, B7, q7, rfl, hN7, hb7⟩
              have hM := hM.on hb7
              clear hI6 hb7
              refine ⟨_, rfl, fun _ => HSk.out _ hM.b, ?_⟩
              have hS0 := HSk.out _ hM.b
              (refine wt_move 8 61 rfl rfl (by kernel_rfl) (by kernel_rfl) (by kernel_rfl) (by kernel_rfl) (fun _ _ _ h => h) rfl hS0 (by (repeat (first | (refine slot_hit (N := 136) ?_ (by rfl); (repeat (refine sz_put ?_)); assumption; done) | (apply slot_miss; focus rfl))); all_goals assumption) rfl ?_); (refine wt_take1 9 53 (v := ?_) rfl rfl (by kernel_rfl) (by kernel_rfl) (by kernel_rfl) (by kernel_rfl) (fun _ _ _ h => h) rfl hS0 (by (repeat (first | (refine slot_hit (N := 136) ?_ (by rfl); (repeat (refine sz_put ?_)); assumption; done) | (apply slot_miss; focus rfl))); all_goals assumption) (fun ev hk hv0 w hS => ?_) ?_; rotate_left; focus (obtain ⟨j0, j1, j2⟩ := hS; go_simp; rfl)); (refine wt_take1 10 53 (v := ?_) rfl rfl (by kernel_rfl) (by kernel_rfl) (by kernel_rfl) (by kernel_rfl) (fun _ _ _ h => h) rfl hS0 (by (repeat (first | (refine slot_hit (N := 136) ?_ (by rfl); (repeat (refine sz_put ?_)); assumption; done) | (apply slot_miss; focus rfl))); all_goals assumption) (fun ev hk hv0 w hS => ?_) ?_; rotate_left; focus (obtain ⟨j0, j1, j2⟩ := hS; go_simp; rfl)); (refine wt_take1 11 53 (v := ?_) rfl rfl (by kernel_rfl) (by kernel_rfl) (by kernel_rfl) (by kernel_rfl) (fun _ _ _ h => h) rfl hS0 (by (repeat (first | (refine slot_hit (N := 136) ?_ (by rfl); (repeat (refine sz_put ?_)); assumption; done) | (apply slot_miss; focus rfl))); all_goals assumption) (fun ev hk hv0 w hS => ?_) ?_; rotate_left; focus (obtain ⟨j0, j1, j2⟩ := hS; go_simp; rfl))
              obtain ⟨hxb, hxg⟩ := hM.hx _ rfl
              obtain ⟨f0, f1, f2, e0, e1, e2⟩ := And.intro (hxb.cell 0) (And.intro (hxb.cell 1) (And.intro (hxb.cell 2) (And.intro (hxb.fz 0) (And.intro (hxb.fz 1) (hxb.fz 2)))))
              refine wt_act2 13 13 62 (by kernel_rfl) rfl rfl rfl (by (repeat (first | (refine slot_hit (N := 136) ?_ (by rfl); (repeat (refine sz_put ?_)); assumption; done) | (apply slot_miss; focus rfl))); all_goals assumption) (by (repeat (first | (refine slot_hit (N := 136) ?_ (by rfl); (repeat (refine sz_put ?_)); assumption; done) | (apply slot_miss; focus rfl))); all_goals assumption) (w' := ?_) (fun ev hk hv0 hv1 => ?_) ?_; rotate_left; focus (go_simp; rfl)
              have hB9 := st3_below hM.b hxg (.int .i64 v) (.slice A7 n2 k7) (.slice B7 m q7)
              have hS0 := HSk.out _ hB9
              unfold st3 at hS0
              refine ⟨fun _ => hS0, ?_⟩
              (refine wt_assign 14 63 rfl rfl (by kernel_rfl) (by kernel_rfl) (by kernel_rfl) (by kernel_rfl) (fun _ _ _ h => h) rfl hS0 (by (repeat (first | (refine slot_hit (N := 136) ?_ (by rfl); (repeat (refine sz_put ?_)); assumption; done) | (apply slot_miss; focus rfl))); all_goals assumption) rfl ?_); (refine wt_assign 15 64 rfl rfl (by kernel_rfl) (by kernel_rfl) (by kernel_rfl) (by kernel_rfl) (fun _ _ _ h => h) rfl hS0 (by (repeat (first | (refine slot_hit (N := 136) ?_ (by rfl); (repeat (refine sz_put ?_)); assumption; done) | (apply slot_miss; focus rfl))); all_goals assumption) rfl ?_)
              refine wt_done (by kernel_rfl) (NoPanic.normal ?_) _
              have ha := HA.out
              subst ha
              have hN9 := (hN7.st3 hxlt (.int .i64 v) (.slice A7 n2 k7) (.slice B7 m q7)).low (Nat.zero_le _)
              have hB0 : Bs _ _ _ _ _ := ⟨st3_has hxb (.int .i64 v) (.slice A7 n2 k7) (.slice B7 m q7)⟩
              have HU := Lib.hid (And.intro hB9 (And.intro hB0 hN9))
              unfold st3 at HU
              clear hZ hs1 hs2 hs4 hS0 hM hxb f0 f1 f2 e0 e1 e2 hN9 hN7 hB9 hB0 hxg hxlt
              go_wp2
              go_meet
              exact ⟨_, _, _, _, _, rfl, rfl, rfl, HU.out⟩
          · skip
            refine wu_val 12 rfl rfl rfl (v := ?_) (w' := ?_) (fun ev hk => ?_) ?_; rotate_left 2; focus (go_simp; first | rfl | (constructor <;> rfl))
            intro W1 hW1
            have hM := hM.op12 hW1
            clear hW1
            refine ⟨fun _ => HSk.out _ hM.b, ?_⟩
            refine wt_one 6 (by kernel_rfl) ?_
            refine wu_app 6 57 59 rfl rfl rfl (by (repeat (first | (refine slot_hit (N := 136) ?_ (by rfl); (repeat (refine sz_put ?_)); assumption; done) | (apply slot_miss; focus rfl))); all_goals assumption) (by (repeat (first | (refine slot_hit (N := 136) ?_ (by rfl); (repeat (refine sz_put ?_)); assumption; done) | (apply slot_miss; focus rfl))); all_goals assumption) rfl (fun ty => hM.op6 HC3.out.2.2.2.1 HC3.out.2.2.2.2 (by have := HC3.out.2.2.1; simp; omega) ty) (fun v6 w66 hM => ?_)
            refine ⟨fun _ => HSk.out _ hM.b, ?_⟩
            refine wt_one 7 (by kernel_rfl) ?_
            have hxlt := (hM.hx _ rfl).1.lt
            obtain ⟨A6, k6, e6, hI6⟩ := (hM.ho _ _ rfl).ill hM.b.size
            rw [List.nil_append] at e6 hI6
            rw [← HC5.out] at e6
            subst e6
            refine wu_call2 7 54 60 rfl rfl rfl (by (repeat (first | (refine slot_hit (N := 136) ?_ (by rfl); (repeat (refine sz_put ?_)); assumption; done) | (apply slot_miss; focus rfl))); all_goals assumption) (by (repeat (first | (refine slot_hit (N := 136) ?_ (by rfl); (repeat (refine sz_put ?_)); assumption; done) | (apply slot_miss; focus rfl))); all_goals assumption) (f := ?_) (args := ?_) (fun ev hk hkf hv0 hv1 => ?_) ?_; rotate_left 2; focus (go_simp; first | rfl | (constructor <;> rfl))
            refine (D2 _ (bn HB3.out.2.1 hM.b) _ _ hI6).mono ?_
            rintro e w7 ⟨A7, k7, B7, q7, rfl, hN7, hb7⟩
            have hM := hM.on hb7
            clear hI6 hb7
            refine ⟨_, rfl, fun _ => HSk.out _ hM.b, ?_⟩
            have hS0 := HSk.out _ hM.b
            (refine wt_move 8 61 rfl rfl (by kernel_rfl) (by kernel_rfl) (by kernel_rfl) (by kernel_rfl) (fun _ _ _ h => h) rfl hS0 (by (repeat (first | (refine slot_hit (N := 136) ?_ (by rfl); (repeat (refine sz_put ?_)); assumption; done) | (apply slot_miss; focus rfl))); all_goals assumption) rfl ?_); (refine wt_take1 9 53 (v := ?_) rfl rfl (by kernel_rfl) (by kernel_rfl) (by kernel_rfl) (by kernel_rfl) (fun _ _ _ h => h) rfl hS0 (by (repeat (first | (refine slot_hit (N := 136) ?_ (by rfl); (repeat (refine sz_put ?_)); assumption; done) | (apply slot_miss; focus rfl))); all_goals assumption) (fun ev hk hv0 w hS => ?_) ?_; rotate_left; focus (obtain ⟨j0, j1, j2⟩ := hS; go_simp; rfl)); (refine wt_take1 10 53 (v := ?_) rfl rfl (by kernel_rfl) (by kernel_rfl) (by kernel_rfl) (by kernel_rfl) (fun _ _ _ h => h) rfl hS0 (by (repeat (first | (refine slot_hit (N := 136) ?_ (by rfl); (repeat (refine sz_put ?_)); assumption; done) | (apply slot_miss; focus rfl))); all_goals assumption) (fun ev hk hv0 w hS => ?_) ?_; rotate_left; focus (obtain ⟨j0, j1, j2⟩ := hS; go_simp; rfl)); (refine wt_take1 11 53 (v := ?_) rfl rfl (by kernel_rfl) (by kernel_rfl) (by kernel_rfl) (by kernel_rfl) (fun _ _ _ h => h) rfl hS0 (by (repeat (first | (refine slot_hit (N := 136) ?_ (by rfl); (repeat (refine sz_put ?_)); assumption; done) | (apply slot_miss; focus rfl))); all_goals assumption) (fun ev hk hv0 w hS => ?_) ?_; rotate_left; focus (obtain ⟨j0, j1, j2⟩ := hS; go_simp; rfl))
            obtain ⟨hxb, hxg⟩ := hM.hx _ rfl
            obtain ⟨f0, f1, f2, e0, e1, e2⟩ := And.intro (hxb.cell 0) (And.intro (hxb.cell 1) (And.intro (hxb.cell 2) (And.intro (hxb.fz 0) (And.intro (hxb.fz 1) (hxb.fz 2)))))
            refine wt_act2 13 13 62 (by kernel_rfl) rfl rfl rfl (by (repeat (first | (refine slot_hit (N := 136) ?_ (by rfl); (repeat (refine sz_put ?_)); assumption; done) | (apply slot_miss; focus rfl))); all_goals assumption) (by (repeat (first | (refine slot_hit (N := 136) ?_ (by rfl); (repeat (refine sz_put ?_)); assumption; done) | (apply slot_miss; focus rfl))); all_goals assumption) (w' := ?_) (fun ev hk hv0 hv1 => ?_) ?_; rotate_left; focus (go_simp; rfl)
            have hB9 := st3_below hM.b hxg (.int .i64 v) (.slice A7 n2 k7) (.slice B7 m q7)
            have hS0 := HSk.out _ hB9
            unfold st3 at hS0
            refine ⟨fun _ => hS0, ?_⟩
            (refine wt_assign 14 63 rfl rfl (by kernel_rfl) (by kernel_rfl) (by kernel_rfl) (by kernel_rfl) (fun _ _ _ h => h) rfl hS0 (by (repeat (first | (refine slot_hit (N := 136) ?_ (by rfl); (repeat (refine sz_put ?_)); assumption; done) | (apply slot_miss; focus rfl))); all_goals assumption) rfl ?_); (refine wt_assign 15 64 rfl rfl (by kernel_rfl) (by kernel_rfl) (by kernel_rfl) (by kernel_rfl) (fun _ _ _ h => h) rfl hS0 (by (repeat (first | (refine slot_hit (N := 136) ?_ (by rfl); (repeat (refine sz_put ?_)); assumption; done) | (apply slot_miss; focus rfl))); all_goals assumption) rfl ?_)
            refine wt_done (by kernel_rfl) (NoPanic.normal ?_) _
            have ha := HA.out
            subst ha
            have hN9 := (hN7.st3 hxlt (.int .i64 v) (.slice A7 n2 k7) (.slice B7 m q7)).low (Nat.zero_le _)
            have hB0 : Bs _ _ _ _ _ := ⟨st3_has hxb (.int .i64 v) (.slice A7 n2 k7) (.slice B7 m q7)⟩
            have HU := Lib.hid (And.intro hB9 (And.intro hB0 hN9))
            unfold st3 at HU
            clear hZ hs1 hs2 hs4 hS0 hM hxb f0 f1 f2 e0 e1 e2 hN9 hN7 hB9 hB0 hxg hxlt
            go_wp2
            go_meet
            exact ⟨_, _, _, _, _, rfl, rfl, rfl, HU.out⟩
        · skip
          refine wu_val 12 rfl rfl rfl (v := ?_) (w' := ?_) (fun ev hk => ?_) ?_; rotate_left 2; focus (go_simp; first | rfl | (constructor <;> rfl))
          intro W1 hW1
          have hM := hM.op12 hW1
          clear hW1
          refine ⟨fun _ => HSk.out _ hM.b, ?_⟩
          refine wt_one 5 (by kernel_rfl) ?_
          refine wu_val1 5 58 rfl rfl rfl (by (repeat (first | (refine slot_hit (N := 136) ?_ (by rfl); (repeat (refine sz_put ?_)); assumption; done) | (apply slot_miss; focus rfl))); all_goals assumption) (v := ?_) (w' := ?_) (fun ev hk hv0 => ?_) ?_; rotate_left 2; focus (go_simp; first | rfl | (constructor <;> rfl))
          intro W1 hW1
          have hM := hM.op5 hW1
          clear hW1
          refine ⟨fun _ => HSk.out _ hM.b, ?_⟩
          refine wt_one 6 (by kernel_rfl) ?_
          refine wu_app 6 57 59 rfl rfl rfl (by (repeat (first | (refine slot_hit (N := 136) ?_ (by rfl); (repeat (refine sz_put ?_)); assumption; done) | (apply slot_miss; focus rfl))); all_goals assumption) (by (repeat (first | (refine slot_hit (N := 136) ?_ (by rfl); (repeat (refine sz_put ?_)); assumption; done) | (apply slot_miss; focus rfl))); all_goals assumption) rfl (fun ty => hM.op6 HC3.out.2.2.2.1 HC3.out.2.2.2.2 (by have := HC3.out.2.2.1; simp; omega) ty) (fun v6 w66 hM => ?_)
          refine ⟨fun _ => HSk.out _ hM.b, ?_⟩
          refine wt_one 7 (by kernel_rfl) ?_
          have hxlt := (hM.hx _ rfl).1.lt
          obtain ⟨A6, k6, e6, hI6⟩ := (hM.ho _ _ rfl).ill hM.b.size
          rw [List.nil_append] at e6 hI6
          rw [← HC5.out] at e6
          subst e6
          refine wu_call2 7 54 60 rfl rfl rfl (by (repeat (first | (refine slot_hit (N := 136) ?_ (by rfl); (repeat (refine sz_put ?_)); assumption; done) | (apply slot_miss; focus rfl))); all_goals assumption) (by (repeat (first | (refine slot_hit (N := 136) ?_ (by rfl); (repeat (refine sz_put ?_)); assumption; done) | (apply slot_miss; focus rfl))); all_goals assumption) (f := ?_) (args := ?_) (fun ev hk hkf hv0 hv1 => ?_) ?_; rotate_left 2; focus (go_simp; first | rfl | (constructor <;> rfl))
          refine (D2 _ (bn HB3.out.2.1 hM.b) _ _ hI6).mono ?_
          rintro e w7 ⟨A7, k7, B7, q7, rfl, hN7, hb7⟩
          have hM := hM.on hb7
          clear hI6 hb7
          refine ⟨_, rfl, fun _ => HSk.out _ hM.b, ?_⟩
          have hS0 := HSk.out _ hM.b
          (refine wt_move 8 61 rfl rfl (by kernel_rfl) (by kernel_rfl) (by kernel_rfl) (by kernel_rfl) (fun _ _ _ h => h) rfl hS0 (by (repeat (first | (refine slot_hit (N := 136) ?_ (by rfl); (repeat (refine sz_put ?_)); assumption; done) | (apply slot_miss; focus rfl))); all_goals assumption) rfl ?_); (refine wt_take1 9 53 (v := ?_) rfl rfl (by kernel_rfl) (by kernel_rfl) (by kernel_rfl) (by kernel_rfl) (fun _ _ _ h => h) rfl hS0 (by (repeat (first | (refine slot_hit (N := 136) ?_ (by rfl); (repeat (refine sz_put ?_)); assumption; done) | (apply slot_miss; focus rfl))); all_goals assumption) (fun ev hk hv0 w hS => ?_) ?_; rotate_left; focus (obtain ⟨j0, j1, j2⟩ := hS; go_simp; rfl)); (refine wt_take1 10 53 (v := ?_) rfl rfl (by kernel_rfl) (by kernel_rfl) (by kernel_rfl) (by kernel_rfl) (fun _ _ _ h => h) rfl hS0 (by (repeat (first | (refine slot_hit (N := 136) ?_ (by rfl); (repeat (refine sz_put ?_)); assumption; done) | (apply slot_miss; focus rfl))); all_goals assumption) (fun ev hk hv0 w hS => ?_) ?_; rotate_left; focus (obtain ⟨j0, j1, j2⟩ := hS; go_simp; rfl)); (refine wt_take1 11 53 (v := ?_) rfl rfl (by kernel_rfl) (by kernel_rfl) (by kernel_rfl) (by kernel_rfl) (fun _ _ _ h => h) rfl hS0 (by (repeat (first | (refine slot_hit (N := 136) ?_ (by rfl); (repeat (refine sz_put ?_)); assumption; done) | (apply slot_miss; focus rfl))); all_goals assumption) (fun ev hk hv0 w hS => ?_) ?_; rotate_left; focus (obtain ⟨j0, j1, j2⟩ := hS; go_simp; rfl))
          obtain ⟨hxb, hxg⟩ := hM.hx _ rfl
          obtain ⟨f0, f1, f2, e0, e1, e2⟩ := And.intro (hxb.cell 0) (And.intro (hxb.cell 1) (And.intro (hxb.cell 2) (And.intro (hxb.fz 0) (And.intro (hxb.fz 1) (hxb.fz 2)))))
          refine wt_act2 13 13 62 (by kernel_rfl) rfl rfl rfl (by (repeat (first | (refine slot_hit (N := 136) ?_ (by rfl); (repeat (refine sz_put ?_)); assumption; done) | (apply slot_miss; focus rfl))); all_goals assumption) (by (repeat (first | (refine slot_hit (N := 136) ?_ (by rfl); (repeat (refine sz_put ?_)); assumption; done) | (apply slot_miss; focus rfl))); all_goals assumption) (w' := ?_) (fun ev hk hv0 hv1 => ?_) ?_; rotate_left; focus (go_simp; rfl)
          have hB9 := st3_below hM.b hxg (.int .i64 v) (.slice A7 n2 k7) (.slice B7 m q7)
          have hS0 := HSk.out _ hB9
          unfold st3 at hS0
          refine ⟨fun _ => hS0, ?_⟩
          (refine wt_assign 14 63 rfl rfl (by kernel_rfl) (by kernel_rfl) (by kernel_rfl) (by kernel_rfl) (fun _ _ _ h => h) rfl hS0 (by (repeat (first | (refine slot_hit (N := 136) ?_ (by rfl); (repeat (refine sz_put ?_)); assumption; done) | (apply slot_miss; focus rfl))); all_goals assumption) rfl ?_); (refine wt_assign 15 64 rfl rfl (by kernel_rfl) (by kernel_rfl) (by kernel_rfl) (by kernel_rfl) (fun _ _ _ h => h) rfl hS0 (by (repeat (first | (refine slot_hit (N := 136) ?_ (by rfl); (repeat (refine sz_put ?_)); assumption; done) | (apply slot_miss; focus rfl))); all_goals assumption) rfl ?_)
          refine wt_done (by kernel_rfl) (NoPanic.normal ?_) _
          have ha := HA.out
          subst ha
          have hN9 := (hN7.st3 hxlt (.int .i64 v) (.slice A7 n2 k7) (.slice B7 m q7)).low (Nat.zero_le _)
          have hB0 : Bs _ _ _ _ _ := ⟨st3_has hxb (.int .i64 v) (.slice A7 n2 k7) (.slice B7 m q7)⟩
          have HU := Lib.hid (And.intro hB9 (And.intro hB0 hN9))
          unfold st3 at HU
          clear hZ hs1 hs2 hs4 hS0 hM hxb f0 f1 f2 e0 e1 e2 hN9 hN7 hB9 hB0 hxg hxlt
          go_wp2
          go_meet
          exact ⟨_, _, _, _, _, rfl, rfl, rfl, HU.out⟩
      · skip
        refine wu_val1 5 58 rfl rfl rfl (by (repeat (first | (refine slot_hit (N := 136) ?_ (by rfl); (repeat (refine sz_put ?_)); assumption; done) | (apply slot_miss; focus rfl))); all_goals assumption) (v := ?_) (w' := ?_) (fun ev hk hv0 => ?_) ?_; rotate_left 2; focus (go_simp; first | rfl | (constructor <;> rfl))
        intro W1 hW1
        have hM := hM.op5 hW1
        clear hW1
        refine ⟨fun _ => HSk.out _ hM.b, ?_⟩
        refine ways2 3 12 (by kernel_rfl) ?_ ?_
        · skip
          refine wu_app 3 55 56 rfl rfl rfl (by (repeat (first | (refine slot_hit (N := 136) ?_ (by rfl); (repeat (refine sz_put ?_)); assumption; done) | (apply slot_miss; focus rfl))); all_goals assumption) (by (repeat (first | (refine slot_hit (N := 136) ?_ (by rfl); (repeat (refine sz_put ?_)); assumption; done) | (apply slot_miss; focus rfl))); all_goals assumption) rfl (fun ty => hM.op3 HC3.out.1 HC3.out.2.1 HC3.out.2.2.1 (by simp) ty) (fun v3 w33 hM => ?_)
          refine ⟨fun _ => HSk.out _ hM.b, ?_⟩
          refine ways2 6 12 (by kernel_rfl) ?_ ?_
          · skip
            refine wu_app 6 57 59 rfl rfl rfl (by (repeat (first | (refine slot_hit (N := 136) ?_ (by rfl); (repeat (refine sz_put ?_)); assumption; done) | (apply slot_miss; focus rfl))); all_goals assumption) (by (repeat (first | (refine slot_hit (N := 136) ?_ (by rfl); (repeat (refine sz_put ?_)); assumption; done) | (apply slot_miss; focus rfl))); all_goals assumption) rfl (fun ty => hM.op6 HC3.out.2.2.2.1 HC3.out.2.2.2.2 (by have := HC3.out.2.2.1; simp; omega) ty) (fun v6 w66 hM => ?_)
            refine ⟨fun _ => HSk.out _ hM.b, ?_⟩
            refine ways2 7 12 (by kernel_rfl) ?_ ?_
            · skip
              obtain ⟨A6, k6, e6, hI6⟩ := (hM.ho _ _ rfl).ill hM.b.size
              rw [List.nil_append] at e6 hI6
              rw [← HC5.out] at e6
              subst e6
              refine wu_call2 7 54 60 rfl rfl rfl (by (repeat (first | (refine slot_hit (N := 136) ?_ (by rfl); (repeat (refine sz_put ?_)); assumption; done) | (apply slot_miss; focus rfl))); all_goals assumption) (by (repeat (first | (refine slot_hit (N := 136) ?_ (by rfl); (repeat (refine sz_put ?_)); assumption; done) | (apply slot_miss; focus rfl))); all_goals assumption) (f := ?_) (args := ?_) (fun ev hk hkf hv0 hv1 => ?_) ?_; rotate_left 2; focus (go_simp; first | rfl | (constructor <;> rfl))
              refine (D2 _ (bn HB3.out.2.1 hM.b) _ _ hI6).mono ?_
              rintro e w7 ⟨A7, k7, B7, q7, rfl, hN7, hb7⟩
              have hM := hM.on hb7
              clear hI6 hb7
              refine ⟨_, rfl, fun _ => HSk.out _ hM.b, ?_⟩
              have hS0 := HSk.out _ hM.b
              (refine wt_move 8 61 rfl rfl (by kernel_rfl) (by kernel_rfl) (by kernel_rfl) (by kernel_rfl) (fun _ _ _ h => h) rfl hS0 (by (repeat (first | (refine slot_hit (N := 136) ?_ (by rfl); (repeat (refine sz_put ?_)); assumption; done) | (apply slot_miss; focus rfl))); all_goals assumption) rfl ?_); (refine wt_take1 9 53 (v := ?_) rfl rfl (by kernel_rfl) (by kernel_rfl) (by kernel_rfl) (by kernel_rfl) (fun _ _ _ h => h) rfl hS0 (by (repeat (first | (refine slot_hit (N := 136) ?_ (by rfl); (repeat (refine sz_put ?_)); assumption; done) | (apply slot_miss; focus rfl))); all_goals assumption) (fun ev hk hv0 w hS => ?_) ?_; rotate_left; focus (obtain ⟨j0, j1, j2⟩ := hS; go_simp; rfl)); (refine wt_take1 10 53 (v := ?_) rfl rfl (by kernel_rfl) (by kernel_rfl) (by kernel_rfl) (by kernel_rfl) (fun _ _ _ h => h) rfl hS0 (by (repeat (first | (refine slot_hit (N := 136) ?_ (by rfl); (repeat (refine sz_put ?_)); assumption; done) | (apply slot_miss; focus rfl))); all_goals assumption) (fun ev hk hv0 w hS => ?_) ?_; rotate_left; focus (obtain ⟨j0, j1, j2⟩ := hS; go_simp; rfl)); (refine wt_take1 11 53 (v := ?_) rfl rfl (by kernel_rfl) (by kernel_rfl) (by kernel_rfl) (by kernel_rfl) (fun _ _ _ h => h) rfl hS0 (by (repeat (first | (refine slot_hit (N := 136) ?_ (by rfl); (repeat (refine sz_put ?_)); assumption; done) | (apply slot_miss; focus rfl))); all_goals assumption) (fun ev hk hv0 w hS => ?_) ?_; rotate_left; focus (obtain ⟨j0, j1, j2⟩ := hS; go_simp; rfl))
              refine wt_one 12 (by kernel_rfl) ?_
              refine wu_val 12 rfl rfl rfl (v := ?_) (w' := ?_) (fun ev hk => ?_) ?_; rotate_left 2; focus (go_simp; first | rfl | (constructor <;> rfl))
              intro W1 hW1
              have hM := hM.op12 hW1
              have hb12 : Below w7.heap.size w7 W1 := by rw [← hW1]; exact bx_on _ _
              clear hW1
              refine ⟨fun _ => HSk.out _ hM.b, ?_⟩
              obtain ⟨hxb, hxg⟩ := hM.hx _ rfl
              obtain ⟨f0, f1, f2, e0, e1, e2⟩ := And.intro (hxb.cell 0) (And.intro (hxb.cell 1) (And.intro (hxb.cell 2) (And.intro (hxb.fz 0) (And.intro (hxb.fz 1) (hxb.fz 2)))))
              refine wt_act2 13 13 62 (by kernel_rfl) rfl rfl rfl (by (repeat (first | (refine slot_hit (N := 136) ?_ (by rfl); (repeat (refine sz_put ?_)); assumption; done) | (apply slot_miss; focus rfl))); all_goals assumption) (by (repeat (first | (refine slot_hit (N := 136) ?_ (by rfl); (repeat (refine sz_put ?_)); assumption; done) | (apply slot_miss; focus rfl))); all_goals assumption) (w' := ?_) (fun ev hk hv0 hv1 => ?_) ?_; rotate_left; focus (go_simp; rfl)
              have hB9 := st3_below hM.b hxg (.int .i64 v) (.slice A7 n2 k7) (.slice B7 m q7)
              have hS0 := HSk.out _ hB9
              unfold st3 at hS0
              refine ⟨fun _ => hS0, ?_⟩
              (refine wt_assign 14 63 rfl rfl (by kernel_rfl) (by kernel_rfl) (by kernel_rfl) (by kernel_rfl) (fun _ _ _ h => h) rfl hS0 (by (repeat (first | (refine slot_hit (N := 136) ?_ (by rfl); (repeat (refine sz_put ?_)); assumption; done) | (apply slot_miss; focus rfl))); all_goals assumption) rfl ?_); (refine wt_assign 15 64 rfl rfl (by kernel_rfl) (by kernel_rfl) (by kernel_rfl) (by kernel_rfl) (fun _ _ _ h => h) rfl hS0 (by (repeat (first | (refine slot_hit (N := 136) ?_ (by rfl); (repeat (refine sz_put ?_)); assumption; done) | (apply slot_miss; focus rfl))); all_goals assumption) rfl ?_)
              refine wt_done (by kernel_rfl) (NoPanic.normal ?_) _
              have ha := HA.out
              subst ha
              have hN9 := (hN7.on (st3_below hb12 (Nat.le_refl _) (.int .i64 v) (.slice A7 n2 k7) (.slice B7 m q7))).low (Nat.zero_le _)
              have hB0 : Bs _ _ _ _ _ := ⟨st3_has hxb (.int .i64 v) (.slice A7 n2 k7) (.slice B7 m q7)⟩
              have HU := Lib.hid (And.intro hB9 (And.intro hB0 hN9))
              unfold st3 at HU
              clear hZ hs1 hs2 hs4 hS0 hM hxb f0 f1 f2 e0 e1 e2 hN9 hN7 hB9 hB0 hxg hb12
              go_wp2
              go_meet
              exact ⟨_, _, _, _, _, rfl, rfl, rfl, HU.out⟩
            · skip
              refine wu_val 12 rfl rfl rfl (v := ?_) (w' := ?_) (fun ev hk => ?_) ?_; rotate_left 2; focus (go_simp; first | rfl | (constructor <;> rfl))
              intro W1 hW1
              have hM := hM.op12 hW1
              clear hW1
              refine ⟨fun _ => HSk.out _ hM.b, ?_⟩
              refine wt_one 7 (by kernel_rfl) ?_
              have hxlt := (hM.hx _ rfl).1.lt
              obtain ⟨A6, k6, e6, hI6⟩ := (hM.ho _ _ rfl).ill hM.b.size
              rw [List.nil_append] at e6 hI6
              rw [← HC5.out] at e6
              subst e6
              refine wu_call2 7 54 60 rfl rfl rfl (by (repeat (first | (refine slot_hit (N := 136) ?_ (by rfl); (repeat (refine sz_put ?_)); assumption; done) | (apply slot_miss; focus rfl))); all_goals assumption) (by (repeat (first | (refine slot_hit (N := 136) ?_ (by rfl); (repeat (refine sz_put ?_)); assumption; done) | (apply slot_miss; focus rfl))); all_goals assumption) (f := ?_) (args := ?_) (fun ev hk hkf hv0 hv1 => ?_) ?_; rotate_left 2; focus (go_simp; first | rfl | (constructor <;> rfl))
              refine (D2 _ (bn HB3.out.2.1 hM.b) _ _ hI6).mono ?_
              rintro e w7 ⟨A7, k7, B7, q7, rfl, hN7, hb7⟩
              have hM := hM.on hb7
              clear hI6 hb7
              refine ⟨_, rfl, fun _ => HSk.out _ hM.b, ?_⟩
              have hS0 := HSk.out _ hM.b
              (refine wt_move 8 61 rfl rfl (by kernel_rfl) (by kernel_rfl) (by kernel_rfl) (by kernel_rfl) (fun _ _ _ h => h) rfl hS0 (by (repeat (first | (refine slot_hit (N := 136) ?_ (by rfl); (repeat (refine sz_put ?_)); assumption; done) | (apply slot_miss; focus rfl))); all_goals assumption) rfl ?_); (refine wt_take1 9 53 (v := ?_) rfl rfl (by kernel_rfl) (by kernel_rfl) (by kernel_rfl) (by kernel_rfl) (fun _ _ _ h => h) rfl hS0 (by (repeat (first | (refine slot_hit (N := 136) ?_ (by rfl); (repeat (refine sz_put ?_)); assumption; done) | (apply slot_miss; focus rfl))); all_goals assumption) (fun ev hk hv0 w hS => ?_) ?_; rotate_left; focus (obtain ⟨j0, j1, j2⟩ := hS; go_simp; rfl)); (refine wt_take1 10 53 (v := ?_) rfl rfl (by kernel_rfl) (by kernel_rfl) (by kernel_rfl) (by kernel_rfl) (fun _ _ _ h => h) rfl hS0 (by (repeat (first | (refine slot_hit (N := 136) ?_ (by rfl); (repeat (refine sz_put ?_)); assumption; done) | (apply slot_miss; focus rfl))); all_goals assumption) (fun ev hk hv0 w hS => ?_) ?_; rotate_left; focus (obtain ⟨j0, j1, j2⟩ := hS; go_simp; rfl)); (refine wt_take1 11 53 (v := ?_) rfl rfl (by kernel_rfl) (by kernel_rfl) (by kernel_rfl) (by kernel_rfl) (fun _ _ _ h => h) rfl hS0 (by (repeat (first | (refine slot_hit (N := 136) ?_ (by rfl); (repeat (refine sz_put ?_)); assumption; done) | (apply slot_miss; focus rfl))); all_goals assumption) (fun ev hk hv0 w hS => ?_) ?_; rotate_left; focus (obtain ⟨j0, j1, j2⟩ := hS; go_simp; rfl))
              obtain ⟨hxb, hxg⟩ := hM.hx _ rfl
              obtain ⟨f0, f1, f2, e0, e1, e2⟩ := And.intro (hxb.cell 0) (And.intro (hxb.cell 1) (And.intro (hxb.cell 2) (And.intro (hxb.fz 0) (And.intro (hxb.fz 1) (hxb.fz 2)))))
              refine wt_act2 13 13 62 (by kernel_rfl) rfl rfl rfl (by (repeat (first | (refine slot_hit (N := 136) ?_ (by rfl); (repeat (refine sz_put ?_)); assumption; done) | (apply slot_miss; focus rfl))); all_goals assumption) (by (repeat (first | (refine slot_hit (N := 136) ?_ (by rfl); (repeat (refine sz_put ?_)); assumption; done) | (apply slot_miss; focus rfl))); all_goals assumption) (w' := ?_) (fun ev hk hv0 hv1 => ?_) ?_; rotate_left; focus (go_simp; rfl)
              have hB9 := st3_below hM.b hxg (.int .i64 v) (.slice A7 n2 k7) (.slice B7 m q7)
              have hS0 := HSk.out _ hB9
              unfold st3 at hS0
              refine ⟨fun _ => hS0, ?_⟩
              (refine wt_assign 14 63 rfl rfl (by kernel_rfl) (by kernel_rfl) (by kernel_rfl) (by kernel_rfl) (fun _ _ _ h => h) rfl hS0 (by (repeat (first | (refine slot_hit (N := 136) ?_ (by rfl); (repeat (refine sz_put ?_)); assumption; done) | (apply slot_miss; focus rfl))); all_goals assumption) rfl ?_); (refine wt_assign 15 64 rfl rfl (by kernel_rfl) (by kernel_rfl) (by kernel_rfl) (by kernel_rfl) (fun _ _ _ h => h) rfl hS0 (by (repeat (first | (refine slot_hit (N := 136) ?_ (by rfl); (repeat (refine sz_put ?_)); assumption; done) | (apply slot_miss; focus rfl))); all_goals assumption) rfl ?_)
              refine wt_done (by kernel_rfl) (NoPanic.normal ?_) _
              have ha := HA.out
              subst ha
              have hN9 := (hN7.st3 hxlt (.int .i64 v) (.slice A7 n2 k7) (.slice B7 m q7)).low (Nat.zero_le _)
              have hB0 : Bs _ _ _ _ _ := ⟨st3_has hxb (.int .i64 v) (.slice A7 n2 k7) (.slice B7 m q7)⟩
              have HU := Lib.hid (And.intro hB9 (And.intro hB0 hN9))
              unfold st3 at HU
              clear hZ hs1 hs2 hs4 hS0 hM hxb f0 f1 f2 e0 e1 e2 hN9 hN7 hB9 hB0 hxg hxlt
              go_wp2
              go_meet
              exact ⟨_, _, _, _, _, rfl, rfl, rfl, HU.out⟩
          · skip
            refine wu_val 12 rfl rfl rfl (v := ?_) (w' := ?_) (fun ev hk => ?_) ?_; rotate_left 2; focus (go_simp; first | rfl | (constructor <;> rfl))
            intro W1 hW1
            have hM := hM.op12 hW1
            clear hW1
            refine ⟨fun _ => HSk.out _ hM.b, ?_⟩
            refine wt_one 6 (by kernel_rfl) ?_
            refine wu_app 6 57 59 rfl rfl rfl (by (repeat (first | (refine slot_hit (N := 136) ?_ (by rfl); (repeat (refine sz_put ?_)); assumption; done) | (apply slot_miss; focus rfl))); all_goals assumption) (by (repeat (first | (refine slot_hit (N := 136) ?_ (by rfl); (repeat (refine sz_put ?_)); assumption; done) | (apply slot_miss; focus rfl))); all_goals assumption) rfl (fun ty => hM.op6 HC3.out.2.2.2.1 HC3.out.2.2.2.2 (by have := HC3.out.2.2.1; simp; omega) ty) (fun v6 w66 hM => ?_)
            refine ⟨fun _ => HSk.out _ hM.b, ?_⟩
            refine wt_one 7 (by kernel_rfl) ?_
            have hxlt := (hM.hx _ rfl).1.lt
            obtain ⟨A6, k6, e6, hI6⟩ := (hM.ho _ _ rfl).ill hM.b.size
            rw [List.nil_append] at e6 hI6
            rw [← HC5.out] at e6
            subst e6
            refine wu_call2 7 54 60 rfl rfl rfl (by (repeat (first | (refine slot_hit (N := 136) ?_ (by rfl); (repeat (refine sz_put ?_)); assumption; done) | (apply slot_miss; focus rfl))); all_goals assumption) (by (repeat (first | (refine slot_hit (N := 136) ?_ (by rfl); (repeat (refine sz_put ?_)); assumption; done) | (apply slot_miss; focus rfl))); all_goals assumption) (f := ?_) (args := ?_) (fun ev hk hkf hv0 hv1 => ?_) ?_; rotate_left 2; focus (go_simp; first | rfl | (constructor <;> rfl))
            refine (D2 _ (bn HB3.out.2.1 hM.b) _ _ hI6).mono ?_
            rintro e w7 ⟨A7, k7, B7, q7, rfl, hN7, hb7⟩
            have hM := hM.on hb7
            clear hI6 hb7
            refine ⟨_, rfl, fun _ => HSk.out _ hM.b, ?_⟩
            have hS0 := HSk.out _ hM.b
            (refine wt_move 8 61 rfl rfl (by kernel_rfl) (by kernel_rfl) (by kernel_rfl) (by kernel_rfl) (fun _ _ _ h => h) rfl hS0 (by (repeat (first | (refine slot_hit (N := 136) ?_ (by rfl); (repeat (refine sz_put ?_)); assumption; done) | (apply slot_miss; focus rfl))); all_goals assumption) rfl ?_); (refine wt_take1 9 53 (v := ?_) rfl rfl (by kernel_rfl) (by kernel_rfl) (by kernel_rfl) (by kernel_rfl) (fun _ _ _ h => h) rfl hS0 (by (repeat (first | (refine slot_hit (N := 136) ?_ (by rfl); (repeat (refine sz_put ?_)); assumption; done) | (apply slot_miss; focus rfl))); all_goals assumption) (fun ev hk hv0 w hS => ?_) ?_; rotate_left; focus (obtain ⟨j0, j1, j2⟩ := hS; go_simp; rfl)); (refine wt_take1 10 53 (v := ?_) rfl rfl (by kernel_rfl) (by kernel_rfl) (by kernel_rfl) (by kernel_rfl) (fun _ _ _ h => h) rfl hS0 (by (repeat (first | (refine slot_hit (N := 136) ?_ (by rfl); (repeat (refine sz_put ?_)); assumption; done) | (apply slot_miss; focus rfl))); all_goals assumption) (fun ev hk hv0 w hS => ?_) ?_; rotate_left; focus (obtain ⟨j0, j1, j2⟩ := hS; go_simp; rfl)); (refine wt_take1 11 53 (v := ?_) rfl rfl (by kernel_rfl) (by kernel_rfl) (by kernel_rfl) (by kernel_rfl) (fun _ _ _ h => h) rfl hS0 (by (repeat (first | (refine slot_hit (N := 136) ?_ (by rfl); (repeat (refine sz_put ?_)); assumption; done) | (apply slot_miss; focus rfl))); all_goals assumption) (fun ev hk hv0 w hS => ?_) ?_; rotate_left; focus (obtain ⟨j0, j1, j2⟩ := hS; go_simp; rfl))
            obtain ⟨hxb, hxg⟩ := hM.hx _ rfl
            obtain ⟨f0, f1, f2, e0, e1, e2⟩ := And.intro (hxb.cell 0) (And.intro (hxb.cell 1) (And.intro (hxb.cell 2) (And.intro (hxb.fz 0) (And.intro (hxb.fz 1) (hxb.fz 2)))))
            refine wt_act2 13 13 62 (by kernel_rfl) rfl rfl rfl (by (repeat (first | (refine slot_hit (N := 136) ?_ (by rfl); (repeat (refine sz_put ?_)); assumption; done) | (apply slot_miss; focus rfl))); all_goals assumption) (by (repeat (first | (refine slot_hit (N := 136) ?_ (by rfl); (repeat (refine sz_put ?_)); assumption; done) | (apply slot_miss; focus rfl))); all_goals assumption) (w' := ?_) (fun ev hk hv0 hv1 => ?_) ?_; rotate_left; focus (go_simp; rfl)
            have hB9 := st3_below hM.b hxg (.int .i64 v) (.slice A7 n2 k7) (.slice B7 m q7)
            have hS0 := HSk.out _ hB9
            unfold st3 at hS0
            refine ⟨fun _ => hS0, ?_⟩
            (refine wt_assign 14 63 rfl rfl (by kernel_rfl) (by kernel_rfl) (by kernel_rfl) (by kernel_rfl) (fun _ _ _ h => h) rfl hS0 (by (repeat (first | (refine slot_hit (N := 136) ?_ (by rfl); (repeat (refine sz_put ?_)); assumption; done) | (apply slot_miss; focus rfl))); all_goals assumption) rfl ?_); (refine wt_assign 15 64 rfl rfl (by kernel_rfl) (by kernel_rfl) (by kernel_rfl) (by kernel_rfl) (fun _ _ _ h => h) rfl hS0 (by (repeat (first | (refine slot_hit (N := 136) ?_ (by rfl); (repeat (refine sz_put ?_)); assumption; done) | (apply slot_miss; focus rfl))); all_goals assumption) rfl ?_)
            refine wt_done (by kernel_rfl) (NoPanic.normal ?_) _
            have ha := HA.out
            subst ha
            have hN9 := (hN7.st3 hxlt (.int .i64 v) (.slice A7 n2 k7) (.slice B7 m q7)).low (Nat.zero_le _)
            have hB0 : Bs _ _ _ _ _ := ⟨st3_has hxb (.int .i64 v) (.slice A7 n2 k7) (.slice B7 m q7)⟩
            have HU := Lib.hid (And.intro hB9 (And.intro hB0 hN9))
            unfold st3 at HU
            clear hZ hs1 hs2 hs4 hS0 hM hxb f0 f1 f2 e0 e1 e2 hN9 hN7 hB9 hB0 hxg hxlt
            go_wp2
            go_meet
            exact ⟨_, _, _, _, _, rfl, rfl, rfl, HU.out⟩
        · skip
          refine wu_val 12 rfl rfl rfl (v := ?_) (w' := ?_) (fun ev hk => ?_) ?_; rotate_left 2; focus (go_simp; first | rfl | (constructor <;> rfl))
          intro W1 hW1
          have hM := hM.op12 hW1
          clear hW1
          refine ⟨fun _ => HSk.out _ hM.b, ?_⟩
          refine wt_one 3 (by kernel_rfl) ?_
          refine wu_app 3 55 56 rfl rfl rfl (by (repeat (first | (refine slot_hit (N := 136) ?_ (by rfl); (repeat (refine sz_put ?_)); assumption; done) | (apply slot_miss; focus rfl))); all_goals assumption) (by (repeat (first | (refine slot_hit (N := 136) ?_ (by rfl); (repeat (refine sz_put ?_)); assumption; done) | (apply slot_miss; focus rfl))); all_goals assumption) rfl (fun ty => hM.op3 HC3.out.1 HC3.out.2.1 HC3.out.2.2.1 (by simp) ty) (fun v3 w33 hM => ?_)
          refine ⟨fun _ => HSk.out _ hM.b, ?_⟩
          refine wt_one 6 (by kernel_rfl) ?_
          refine wu_app 6 57 59 rfl rfl rfl (by (repeat (first | (refine slot_hit (N := 136) ?_ (by rfl); (repeat (refine sz_put ?_)); assumption; done) | (apply slot_miss; focus rfl))); all_goals assumption) (by (repeat (first | (refine slot_hit (N := 136) ?_ (by rfl); (repeat (refine sz_put ?_)); assumption; done) | (apply slot_miss; focus rfl))); all_goals assumption) rfl (fun ty => hM.op6 HC3.out.2.2.2.1 HC3.out.2.2.2.2 (by have := HC3.out.2.2.1; simp; omega) ty) (fun v6 w66 hM => ?_)
          refine ⟨fun _ => HSk.out _ hM.b, ?_⟩
          refine wt_one 7 (by kernel_rfl) ?_
          have hxlt := (hM.hx _ rfl).1.lt
          obtain ⟨A6, k6, e6, hI6⟩ := (hM.ho _ _ rfl).ill hM.b.size
          rw [List.nil_append] at e6 hI6
          rw [← HC5.out] at e6
          subst e6
          refine wu_call2 7 54 60 rfl rfl rfl (by (repeat (first | (refine slot_hit (N := 136) ?_ (by rfl); (repeat (refine sz_put ?_)); assumption; done) | (apply slot_miss; focus rfl))); all_goals assumption) (by (repeat (first | (refine slot_hit (N := 136) ?_ (by rfl); (repeat (refine sz_put ?_)); assumption; done) | (apply slot_miss; focus rfl))); all_goals assumption) (f := ?_) (args := ?_) (fun ev hk hkf hv0 hv1 => ?_) ?_; rotate_left 2; focus (go_simp; first | rfl | (constructor <;> rfl))
          refine (D2 _ (bn HB3.out.2.1 hM.b) _ _ hI6).mono ?_
          rintro e w7 ⟨A7, k7, B7, q7, rfl, hN7, hb7⟩
          have hM := hM.on hb7
          clear hI6 hb7
          refine ⟨_, rfl, fun _ => HSk.out _ hM.b, ?_⟩
          have hS0 := HSk.out _ hM.b
          (refine wt_move 8 61 rfl rfl (by kernel_rfl) (by kernel_rfl) (by kernel_rfl) (by kernel_rfl) (fun _ _ _ h => h) rfl hS0 (by (repeat (first | (refine slot_hit (N := 136) ?_ (by rfl); (repeat (refine sz_put ?_)); assumption; done) | (apply slot_miss; focus rfl))); all_goals assumption) rfl ?_); (refine wt_take1 9 53 (v := ?_) rfl rfl (by kernel_rfl) (by kernel_rfl) (by kernel_rfl) (by kernel_rfl) (fun _ _ _ h => h) rfl hS0 (by (repeat (first | (refine slot_hit (N := 136) ?_ (by rfl); (repeat (refine sz_put ?_)); assumption; done) | (apply slot_miss; focus rfl))); all_goals assumption) (fun ev hk hv0 w hS => ?_) ?_; rotate_left; focus (obtain ⟨j0, j1, j2⟩ := hS; go_simp; rfl)); (refine wt_take1 10 53 (v := ?_) rfl rfl (by kernel_rfl) (by kernel_rfl) (by kernel_rfl) (by kernel_rfl) (fun _ _ _ h => h) rfl hS0 (by (repeat (first | (refine slot_hit (N := 136) ?_ (by rfl); (repeat (refine sz_put ?_)); assumption; done) | (apply slot_miss; focus rfl))); all_goals assumption) (fun ev hk hv0 w hS => ?_) ?_; rotate_left; focus (obtain ⟨j0, j1, j2⟩ := hS; go_simp; rfl)); (refine wt_take1 11 53 (v := ?_) rfl rfl (by kernel_rfl) (by kernel_rfl) (by kernel_rfl) (by kernel_rfl) (fun _ _ _ h => h) rfl hS0 (by (repeat (first | (refine slot_hit (N := 136) ?_ (by rfl); (repeat (refine sz_put ?_)); assumption; done) | (apply slot_miss; focus rfl))); all_goals assumption) (fun ev hk hv0 w hS => ?_) ?_; rotate_left; focus (obtain ⟨j0, j1, j2⟩ := hS; go_simp; rfl))
          obtain ⟨hxb, hxg⟩ := hM.hx _ rfl
          obtain ⟨f0, f1, f2, e0, e1, e2⟩ := And.intro (hxb.cell 0) (And.intro (hxb.cell 1) (And.intro (hxb.cell 2) (And.intro (hxb.fz 0) (And.intro (hxb.fz 1) (hxb.fz 2)))))
          refine wt_act2 13 13 62 (by kernel_rfl) rfl rfl rfl (by (repeat (first | (refine slot_hit (N := 136) ?_ (by rfl); (repeat (refine sz_put ?_)); assumption; done) | (apply slot_miss; focus rfl))); all_goals assumption) (by (repeat (first | (refine slot_hit (N := 136) ?_ (by rfl); (repeat (refine sz_put ?_)); assumption; done) | (apply slot_miss; focus rfl))); all_goals assumption) (w' := ?_) (fun ev hk hv0 hv1 => ?_) ?_; rotate_left; focus (go_simp; rfl)
          have hB9 := st3_below hM.b hxg (.int .i64 v) (.slice A7 n2 k7) (.slice B7 m q7)
          have hS0 := HSk.out _ hB9
          unfold st3 at hS0
          refine ⟨fun _ => hS0, ?_⟩
          (refine wt_assign 14 63 rfl rfl (by kernel_rfl) (by kernel_rfl) (by kernel_rfl) (by kernel_rfl) (fun _ _ _ h => h) rfl hS0 (by (repeat (first | (refine slot_hit (N := 136) ?_ (by rfl); (repeat (refine sz_put ?_)); assumption; done) | (apply slot_miss; focus rfl))); all_goals assumption) rfl ?_); (refine wt_assign 15 64 rfl rfl (by kernel_rfl) (by kernel_rfl) (by kernel_rfl) (by kernel_rfl) (fun _ _ _ h => h) rfl hS0 (by (repeat (first | (refine slot_hit (N := 136) ?_ (by rfl); (repeat (refine sz_put ?_)); assumption; done) | (apply slot_miss; focus rfl))); all_goals assumption) rfl ?_)
          refine wt_done (by kernel_rfl) (NoPanic.normal ?_) _
          have ha := HA.out
          subst ha
          have hN9 := (hN7.st3 hxlt (.int .i64 v) (.slice A7 n2 k7) (.slice B7 m q7)).low (Nat.zero_le _)
          have hB0 : Bs _ _ _ _ _ := ⟨st3_has hxb (.int .i64 v) (.slice A7 n2 k7) (.slice B7 m q7)⟩
          have HU := Lib.hid (And.intro hB9 (And.intro hB0 hN9))
          unfold st3 at HU
          clear hZ hs1 hs2 hs4 hS0 hM hxb f0 f1 f2 e0 e1 e2 hN9 hN7 hB9 hB0 hxg hxlt
          go_wp2
          go_meet
          exact ⟨_, _, _, _, _, rfl, rfl, rfl, HU.out⟩
      · skip
        refine wu_val 12 rfl rfl rfl (v := ?_) (w' := ?_) (fun ev hk => ?_) ?_; rotate_left 2; focus (go_simp; first | rfl | (constructor <;> rfl))
        intro W1 hW1
        have hM := hM.op12 hW1
        clear hW1
        refine ⟨fun _ => HSk.out _ hM.b, ?_⟩
        refine ways2 3 5 (by kernel_rfl) ?_ ?_
        · skip
          refine wu_app 3 55 56 rfl rfl rfl (by (repeat (first | (refine slot_hit (N := 136) ?_ (by rfl); (repeat (refine sz_put ?_)); assumption; done) | (apply slot_miss; focus rfl))); all_goals assumption) (by (repeat (first | (refine slot_hit (N := 136) ?_ (by rfl); (repeat (refine sz_put ?_)); assumption; done) | (apply slot_miss; focus rfl))); all_goals assumption) rfl (fun ty => hM.op3 HC3.out.1 HC3.out.2.1 HC3.out.2.2.1 (by simp) ty) (fun v3 w33 hM => ?_)
          refine ⟨fun _ => HSk.out _ hM.b, ?_⟩
          refine wt_one 5 (by kernel_rfl) ?_
          refine wu_val1 5 58 rfl rfl rfl (by (repeat (first | (refine slot_hit (N := 136) ?_ (by rfl); (repeat (refine sz_put ?_)); assumption; done) | (apply slot_miss; focus rfl))); all_goals assumption) (v := ?_) (w' := ?_) (fun ev hk hv0 => ?_) ?_; rotate_left 2; focus (go_simp; first | rfl | (constructor <;> rfl))
          intro W1 hW1
          have hM := hM.op5 hW1
          clear hW1
          refine ⟨fun _ => HSk.out _ hM.b, ?_⟩
          refine wt_one 6 (by kernel_rfl) ?_
          refine wu_app 6 57 59 rfl rfl rfl (by (repeat (first | (refine slot_hit (N := 136) ?_ (by rfl); (repeat (refine sz_put ?_)); assumption; done) | (apply slot_miss; focus rfl))); all_goals assumption) (by (repeat (first | (refine slot_hit (N := 136) ?_ (by rfl); (repeat (refine sz_put ?_)); assumption; done) | (apply slot_miss; focus rfl))); all_goals assumption) rfl (fun ty => hM.op6 HC3.out.2.2.2.1 HC3.out.2.2.2.2 (by have := HC3.out.2.2.1; simp; omega) ty) (fun v6 w66 hM => ?_)
          refine ⟨fun _ => HSk.out _ hM.b, ?_⟩
          refine wt_one 7 (by kernel_rfl) ?_
          have hxlt := (hM.hx _ rfl).1.lt
          obtain ⟨A6, k6, e6, hI6⟩ := (hM.ho _ _ rfl).ill hM.b.size
          rw [List.nil_append] at e6 hI6
          rw [← HC5.out] at e6
          subst e6
          refine wu_call2 7 54 60 rfl rfl rfl (by (repeat (first | (refine slot_hit (N := 136) ?_ (by rfl); (repeat (refine sz_put ?_)); assumption; done) | (apply slot_miss; focus rfl))); all_goals assumption) (by (repeat (first | (refine slot_hit (N := 136) ?_ (by rfl); (repeat (refine sz_put ?_)); assumption; done) | (apply slot_miss; focus rfl))); all_goals assumption) (f := ?_) (args := ?_) (fun ev hk hkf hv0 hv1 => ?_) ?_; rotate_left 2; focus (go_simp; first | rfl | (constructor <;> rfl))
          refine (D2 _ (bn HB3.out.2.1 hM.b) _ _ hI6).mono ?_
          rintro e w7 ⟨A7, k7, B7, q7, rfl, hN7, hb7⟩
          have hM := hM.on hb7
          clear hI6 hb7
          refine ⟨_, rfl, fun _ => HSk.out _ hM.b, ?_⟩
          have hS0 := HSk.out _ hM.b
          (refine wt_move 8 61 rfl rfl (by kernel_rfl) (by kernel_rfl) (by kernel_rfl) (by kernel_rfl) (fun _ _ _ h => h) rfl hS0 (by (repeat (first | (refine slot_hit (N := 136) ?_ (by rfl); (repeat (refine sz_put ?_)); assumption; done) | (apply slot_miss; focus rfl))); all_goals assumption) rfl ?_); (refine wt_take1 9 53 (v := ?_) rfl rfl (by kernel_rfl) (by kernel_rfl) (by kernel_rfl) (by kernel_rfl) (fun _ _ _ h => h) rfl hS0 (by (repeat (first | (refine slot_hit (N := 136) ?_ (by rfl); (repeat (refine sz_put ?_)); assumption; done) | (apply slot_miss; focus rfl))); all_goals assumption) (fun ev hk hv0 w hS => ?_) ?_; rotate_left; focus (obtain ⟨j0, j1, j2⟩ := hS; go_simp; rfl)); (refine wt_take1 10 53 (v := ?_) rfl rfl (by kernel_rfl) (by kernel_rfl) (by kernel_rfl) (by kernel_rfl) (fun _ _ _ h => h) rfl hS0 (by (repeat (first | (refine slot_hit (N := 136) ?_ (by rfl); (repeat (refine sz_put ?_)); assumption; done) | (apply slot_miss; focus rfl))); all_goals assumption) (fun ev hk hv0 w hS => ?_) ?_; rotate_left; focus (obtain ⟨j0, j1, j2⟩ := hS; go_simp; rfl)); (refine wt_take1 11 53 (v := ?_) rfl rfl (by kernel_rfl) (by kernel_rfl) (by kernel_rfl) (by kernel_rfl) (fun _ _ _ h => h) rfl hS0 (by (repeat (first | (refine slot_hit (N := 136) ?_ (by rfl); (repeat (refine sz_put ?_)); assumption; done) | (apply slot_miss; focus rfl))); all_goals assumption) (fun ev hk hv0 w hS => ?_) ?_; rotate_left; focus (obtain ⟨j0, j1, j2⟩ := hS; go_simp; rfl))
          obtain ⟨hxb, hxg⟩ := hM.hx _ rfl
          obtain ⟨f0, f1, f2, e0, e1, e2⟩ := And.intro (hxb.cell 0) (And.intro (hxb.cell 1) (And.intro (hxb.cell 2) (And.intro (hxb.fz 0) (And.intro (hxb.fz 1) (hxb.fz 2)))))
          refine wt_act2 13 13 62 (by kernel_rfl) rfl rfl rfl (by (repeat (first | (refine slot_hit (N := 136) ?_ (by rfl); (repeat (refine sz_put ?_)); assumption; done) | (apply slot_miss; focus rfl))); all_goals assumption) (by (repeat (first | (refine slot_hit (N := 136) ?_ (by rfl); (repeat (refine sz_put ?_)); assumption; done) | (apply slot_miss; focus rfl))); all_goals assumption) (w' := ?_) (fun ev hk hv0 hv1 => ?_) ?_; rotate_left; focus (go_simp; rfl)
          have hB9 := st3_below hM.b hxg (.int .i64 v) (.slice A7 n2 k7) (.slice B7 m q7)
          have hS0 := HSk.out _ hB9
          unfold st3 at hS0
          refine ⟨fun _ => hS0, ?_⟩
          (refine wt_assign 14 63 rfl rfl (by kernel_rfl) (by kernel_rfl) (by kernel_rfl) (by kernel_rfl) (fun _ _ _ h => h) rfl hS0 (by (repeat (first | (refine slot_hit (N := 136) ?_ (by rfl); (repeat (refine sz_put ?_)); assumption; done) | (apply slot_miss; focus rfl))); all_goals assumption) rfl ?_); (refine wt_assign 15 64 rfl rfl (by kernel_rfl) (by kernel_rfl) (by kernel_rfl) (by kernel_rfl) (fun _ _ _ h => h) rfl hS0 (by (repeat (first | (refine slot_hit (N := 136) ?_ (by rfl); (repeat (refine sz_put ?_)); assumption; done) | (apply slot_miss; focus rfl))); all_goals assumption) rfl ?_)
          refine wt_done (by kernel_rfl) (NoPanic.normal ?_) _
          have ha := HA.out
          subst ha
          have hN9 := (hN7.st3 hxlt (.int .i64 v) (.slice A7 n2 k7) (.slice B7 m q7)).low (Nat.zero_le _)
          have hB0 : Bs _ _ _ _ _ := ⟨st3_has hxb (.int .i64 v) (.slice A7 n2 k7) (.slice B7 m q7)⟩
          have HU := Lib.hid (And.intro hB9 (And.intro hB0 hN9))
          unfold st3 at HU
          clear hZ hs1 hs2 hs4 hS0 hM hxb f0 f1 f2 e0 e1 e2 hN9 hN7 hB9 hB0 hxg hxlt
          go_wp2
          go_meet
          exact ⟨_, _, _, _, _, rfl, rfl, rfl, HU.out⟩
        · skip
          refine wu_val1 5 58 rfl rfl rfl (by (repeat (first | (refine slot_hit (N := 136) ?_ (by rfl); (repeat (refine sz_put ?_)); assumption; done) | (apply slot_miss; focus rfl))); all_goals assumption) (v := ?_) (w' := ?_) (fun ev hk hv0 => ?_) ?_; rotate_left 2; focus (go_simp; first | rfl | (constructor <;> rfl))
          intro W1 hW1
          have hM := hM.op5 hW1
          clear hW1
          refine ⟨fun _ => HSk.out _ hM.b, ?_⟩
          refine wt_one 3 (by kernel_rfl) ?_
          refine wu_app 3 55 56 rfl rfl rfl (by (repeat (first | (refine slot_hit (N := 136) ?_ (by rfl); (repeat (refine sz_put ?_)); assumption; done) | (apply slot_miss; focus rfl))); all_goals assumption) (by (repeat (first | (refine slot_hit (N := 136) ?_ (by rfl); (repeat (refine sz_put ?_)); assumption; done) | (apply slot_miss; focus rfl))); all_goals assumption) rfl (fun ty => hM.op3 HC3.out.1 HC3.out.2.1 HC3.out.2.2.1 (by simp) ty) (fun v3 w33 hM => ?_)
          refine ⟨fun _ => HSk.out _ hM.b, ?_⟩
          refine wt_one 6 (by kernel_rfl) ?_
          refine wu_app 6 57 59 rfl rfl rfl (by (repeat (first | (refine slot_hit (N := 136) ?_ (by rfl); (repeat (refine sz_put ?_)); assumption; done) | (apply slot_miss; focus rfl))); all_goals assumption) (by (repeat (first | (refine slot_hit (N := 136) ?_ (by rfl); (repeat (refine sz_put ?_)); assumption; done) | (apply slot_miss; focus rfl))); all_goals assumption) rfl (fun ty => hM.op6 HC3.out.2.2.2.1 HC3.out.2.2.2.2 (by have := HC3.out.2.2.1; simp; omega) ty) (fun v6 w66 hM => ?_)
          refine ⟨fun _ => HSk.out _ hM.b, ?_⟩
          refine wt_one 7 (by kernel_rfl) ?_
          have hxlt := (hM.hx _ rfl).1.lt
          obtain ⟨A6, k6, e6, hI6⟩ := (hM.ho _ _ rfl).ill hM.b.size
          rw [List.nil_append] at e6 hI6
          rw [← HC5.out] at e6
          subst e6
          refine wu_call2 7 54 60 rfl rfl rfl (by (repeat (first | (refine slot_hit (N := 136) ?_ (by rfl); (repeat (refine sz_put ?_)); assumption; done) | (apply slot_miss; focus rfl))); all_goals assumption) (by (repeat (first | (refine slot_hit (N := 136) ?_ (by rfl); (repeat (refine sz_put ?_)); assumption; done) | (apply slot_miss; focus rfl))); all_goals assumption) (f := ?_) (args := ?_) (fun ev hk hkf hv0 hv1 => ?_) ?_; rotate_left 2; focus (go_simp; first | rfl | (constructor <;> rfl))
          refine (D2 _ (bn HB3.out.2.1 hM.b) _ _ hI6).mono ?_
          rintro e w7 ⟨A7, k7, B7, q7, rfl, hN7, hb7⟩
          have hM := hM.on hb7
          clear hI6 hb7
          refine ⟨_, rfl, fun _ => HSk.out _ hM.b, ?_⟩
          have hS0 := HSk.out _ hM.b
          (refine wt_move 8 61 rfl rfl (by kernel_rfl) (by kernel_rfl) (by kernel_rfl) (by kernel_rfl) (fun _ _ _ h => h) rfl hS0 (by (repeat (first | (refine slot_hit (N := 136) ?_ (by rfl); (repeat (refine sz_put ?_)); assumption; done) | (apply slot_miss; focus rfl))); all_goals assumption) rfl ?_); (refine wt_take1 9 53 (v := ?_) rfl rfl (by kernel_rfl) (by kernel_rfl) (by kernel_rfl) (by kernel_rfl) (fun _ _ _ h => h) rfl hS0 (by (repeat (first | (refine slot_hit (N := 136) ?_ (by rfl); (repeat (refine sz_put ?_)); assumption; done) | (apply slot_miss; focus rfl))); all_goals assumption) (fun ev hk hv0 w hS => ?_) ?_; rotate_left; focus (obtain ⟨j0, j1, j2⟩ := hS; go_simp; rfl)); (refine wt_take1 10 53 (v := ?_) rfl rfl (by kernel_rfl) (by kernel_rfl) (by kernel_rfl) (by kernel_rfl) (fun _ _ _ h => h) rfl hS0 (by (repeat (first | (refine slot_hit (N := 136) ?_ (by rfl); (repeat (refine sz_put ?_)); assumption; done) | (apply slot_miss; focus rfl))); all_goals assumption) (fun ev hk hv0 w hS => ?_) ?_; rotate_left; focus (obtain ⟨j0, j1, j2⟩ := hS; go_simp; rfl)); (refine wt_take1 11 53 (v := ?_) rfl rfl (by kernel_rfl) (by kernel_rfl) (by kernel_rfl) (by kernel_rfl) (fun _ _ _ h => h) rfl hS0 (by (repeat (first | (refine slot_hit (N := 136) ?_ (by rfl); (repeat (refine sz_put ?_)); assumption; done) | (apply slot_miss; focus rfl))); all_goals assumption) (fun ev hk hv0 w hS => ?_) ?_; rotate_left; focus (obtain ⟨j0, j1, j2⟩ := hS; go_simp; rfl))
          obtain ⟨hxb, hxg⟩ := hM.hx _ rfl
          obtain ⟨f0, f1, f2, e0, e1, e2⟩ := And.intro (hxb.cell 0) (And.intro (hxb.cell 1) (And.intro (hxb.cell 2) (And.intro (hxb.fz 0) (And.intro (hxb.fz 1) (hxb.fz 2)))))
          refine wt_act2 13 13 62 (by kernel_rfl) rfl rfl rfl (by (repeat (first | (refine slot_hit (N := 136) ?_ (by rfl); (repeat (refine sz_put ?_)); assumption; done) | (apply slot_miss; focus rfl))); all_goals assumption) (by (repeat (first | (refine slot_hit (N := 136) ?_ (by rfl); (repeat (refine sz_put ?_)); assumption; done) | (apply slot_miss; focus rfl))); all_goals assumption) (w' := ?_) (fun ev hk hv0 hv1 => ?_) ?_; rotate_left; focus (go_simp; rfl)
          have hB9 := st3_below hM.b hxg (.int .i64 v) (.slice A7 n2 k7) (.slice B7 m q7)
          have hS0 := HSk.out _ hB9
          unfold st3 at hS0
          refine ⟨fun _ => hS0, ?_⟩
          (refine wt_assign 14 63 rfl rfl (by kernel_rfl) (by kernel_rfl) (by kernel_rfl) (by kernel_rfl) (fun _ _ _ h => h) rfl hS0 (by (repeat (first | (refine slot_hit (N := 136) ?_ (by rfl); (repeat (refine sz_put ?_)); assumption; done) | (apply slot_miss; focus rfl))); all_goals assumption) rfl ?_); (refine wt_assign 15 64 rfl rfl (by kernel_rfl) (by kernel_rfl) (by kernel_rfl) (by kernel_rfl) (fun _ _ _ h => h) rfl hS0 (by (repeat (first | (refine slot_hit (N := 136) ?_ (by rfl); (repeat (refine sz_put ?_)); assumption; done) | (apply slot_miss; focus rfl))); all_goals assumption) rfl ?_)
          refine wt_done (by kernel_rfl) (NoPanic.normal ?_) _
          have ha := HA.out
          subst ha
          have hN9 := (hN7.st3 hxlt (.int .i64 v) (.slice A7 n2 k7) (.slice B7 m q7)).low (Nat.zero_le _)
          have hB0 : Bs _ _ _ _ _ := ⟨st3_has hxb (.int .i64 v) (.slice A7 n2 k7) (.slice B7 m q7)⟩
          have HU := Lib.hid (And.intro hB9 (And.intro hB0 hN9))
          unfold st3 at HU
          clear hZ hs1 hs2 hs4 hS0 hM hxb f0 f1 f2 e0 e1 e2 hN9 hN7 hB9 hB0 hxg hxlt
          go_wp2
          go_meet
          exact ⟨_, _, _, _, _, rfl, rfl, rfl, HU.out⟩
    · skip
      refine wu_val1 5 58 rfl rfl rfl (by (repeat (first | (refine slot_hit (N := 136) ?_ (by rfl); (repeat (refine sz_put ?_)); assumption; done) | (apply slot_miss; focus rfl))); all_goals assumption) (v := ?_) (w' := ?_) (fun ev hk hv0 => ?_) ?_; rotate_left 2; focus (go_simp; first | rfl | (constructor <;> rfl))
      intro W1 hW1
      have hM := hM.op5 hW1
      clear hW1
      refine ⟨fun _ => HSk.out _ hM.b, ?_⟩
      refine ways2 1 12 (by kernel_rfl) ?_ ?_
      · skip
        refine wu_val 1 rfl rfl rfl (v := ?_) (w' := ?_) (fun ev hk => ?_) ?_; rotate_left 2; focus (go_simp; first | rfl | (constructor <;> rfl))
        intro W1 hW1
        have hM := hM.op1 hW1
        clear hW1
        refine ⟨fun _ => HSk.out _ hM.b, ?_⟩
        refine ways2 3 12 (by kernel_rfl) ?_ ?_
        · skip
          refine wu_app 3 55 56 rfl rfl rfl (by (repeat (first | (refine slot_hit (N := 136) ?_ (by rfl); (repeat (refine sz_put ?_)); assumption; done) | (apply slot_miss; focus rfl))); all_goals assumption) (by (repeat (first | (refine slot_hit (N := 136) ?_ (by rfl); (repeat (refine sz_put ?_)); assumption; done) | (apply slot_miss; focus rfl))); all_goals assumption) rfl (fun ty => hM.op3 HC3.out.1 HC3.out.2.1 HC3.out.2.2.1 (by simp) ty) (fun v3 w33 hM => ?_)
          refine ⟨fun _ => HSk.out _ hM.b, ?_⟩
          refine ways2 6 12 (by kernel_rfl) ?_ ?_
          · skip
            refine wu_app 6 57 59 rfl rfl rfl (by (repeat (first | (refine slot_hit (N := 136) ?_ (by rfl); (repeat (refine sz_put ?_)); assumption; done) | (apply slot_miss; focus rfl))); all_goals assumption) (by (repeat (first | (refine slot_hit (N := 136) ?_ (by rfl); (repeat (refine sz_put ?_)); assumption; done) | (apply slot_miss; focus rfl))); all_goals assumption) rfl (fun ty => hM.op6 HC3.out.2.2.2.1 HC3.out.2.2.2.2 (by have := HC3.out.2.2.1; simp; omega) ty) (fun v6 w66 hM => ?_)
            refine ⟨fun _ => HSk.out _ hM.b, ?_⟩
            refine ways2 7 12 (by kernel_rfl) ?_ ?_
            · skip
              obtain ⟨A6, k6, e6, hI6⟩ := (hM.ho _ _ rfl).ill hM.b.size
              rw [List.nil_append] at e6 hI6
              rw [← HC5.out] at e6
              subst e6
              refine wu_call2 7 54 60 rfl rfl rfl (by (repeat (first | (refine slot_hit (N := 136) ?_ (by rfl); (repeat (refine sz_put ?_)); assumption; done) | (apply slot_miss; focus rfl))); all_goals assumption) (by (repeat (first | (refine slot_hit (N := 136) ?_ (by rfl); (repeat (refine sz_put ?_)); assumption; done) | (apply slot_miss; focus rfl))); all_goals assumption) (f := ?_) (args := ?_) (fun ev hk hkf hv0 hv1 => ?_) ?_; rotate_left 2; focus (go_simp; first | rfl | (constructor <;> rfl))
              refine (D2 _ (bn HB3.out.2.1 hM.b) _ _ hI6).mono ?_
              rintro e w7 ⟨A7, k7, B7, q7, rfl, hN7, hb7⟩
              have hM := hM.on hb7
              clear hI6 hb7
              refine ⟨_, rfl, fun _ => HSk.out _ hM.b, ?_⟩
              have hS0 := HSk.out _ hM.b
              (refine wt_move 8 61 rfl rfl (by kernel_rfl) (by kernel_rfl) (by kernel_rfl) (by kernel_rfl) (fun _ _ _ h => h) rfl hS0 (by (repeat (first | (refine slot_hit (N := 136) ?_ (by rfl); (repeat (refine sz_put ?_)); assumption; done) | (apply slot_miss; focus rfl))); all_goals assumption) rfl ?_); (refine wt_take1 9 53 (v := ?_) rfl rfl (by kernel_rfl) (by kernel_rfl) (by kernel_rfl) (by kernel_rfl) (fun _ _ _ h => h) rfl hS0 (by (repeat (first | (refine slot_hit (N := 136) ?_ (by rfl); (repeat (refine sz_put ?_)); assumption; done) | (apply slot_miss; focus rfl))); all_goals assumption) (fun ev hk hv0 w hS => ?_) ?_; rotate_left; focus (obtain ⟨j0, j1, j2⟩ := hS; go_simp; rfl)); (refine wt_take1 10 53 (v := ?_) rfl rfl (by kernel_rfl) (by kernel_rfl) (by kernel_rfl) (by kernel_rfl) (fun _ _ _ h => h) rfl hS0 (by (repeat (first | (refine slot_hit (N := 136) ?_ (by rfl); (repeat (refine sz_put ?_)); assumption; done) | (apply slot_miss; focus rfl))); all_goals assumption) (fun ev hk hv0 w hS => ?_) ?_; rotate_left; focus (obtain ⟨j0, j1, j2⟩ := hS; go_simp; rfl)); (refine wt_take1 11 53 (v := ?_) rfl rfl (by kernel_rfl) (by kernel_rfl) (by kernel_rfl) (by kernel_rfl) (fun _ _ _ h => h) rfl hS0 (by (repeat (first | (refine slot_hit (N := 136) ?_ (by rfl); (repeat (refine sz_put ?_)); assumption; done) | (apply slot_miss; focus rfl))); all_goals assumption) (fun ev hk hv0 w hS => ?_) ?_; rotate_left; focus (obtain ⟨j0, j1, j2⟩ := hS; go_simp; rfl))
              refine wt_one 12 (by kernel_rfl) ?_
              refine wu_val 12 rfl rfl rfl (v := ?_) (w' := ?_) (fun ev hk => ?_) ?_; rotate_left 2; focus (go_simp; first | rfl | (constructor <;> rfl))
              intro W1 hW1
              have hM := hM.op12 hW1
              have hb12 : Below w7.heap.size w7 W1 := by rw [← hW1]; exact bx_on _ _
              clear hW1
              refine ⟨fun _ => HSk.out _ hM.b, ?_⟩
              obtain ⟨hxb, hxg⟩ := hM.hx _ rfl
              obtain ⟨f0, f1, f2, e0, e1, e2⟩ := And.intro (hxb.cell 0) (And.intro (hxb.cell 1) (And.intro (hxb.cell 2) (And.intro (hxb.fz 0) (And.intro (hxb.fz 1) (hxb.fz 2)))))
              refine wt_act2 13 13 62 (by kernel_rfl) rfl rfl rfl (by (repeat (first | (refine slot_hit (N := 136) ?_ (by rfl); (repeat (refine sz_put ?_)); assumption; done) | (apply slot_miss; focus rfl))); all_goals assumption) (by (repeat (first | (refine slot_hit (N := 136) ?_ (by rfl); (repeat (refine sz_put ?_)); assumption; done) | (apply slot_miss; focus rfl))); all_goals assumption) (w' := ?_) (fun ev hk hv0 hv1 => ?_) ?_; rotate_left; focus (go_simp; rfl)
              have hB9 := st3_below hM.b hxg (.int .i64 v) (.slice A7 n2 k7) (.slice B7 m q7)
              have hS0 := HSk.out _ hB9
              unfold st3 at hS0
              refine ⟨fun _ => hS0, ?_⟩
              (refine wt_assign 14 63 rfl rfl (by kernel_rfl) (by kernel_rfl) (by kernel_rfl) (by kernel_rfl) (fun _ _ _ h => h) rfl hS0 (by (repeat (first | (refine slot_hit (N := 136) ?_ (by rfl); (repeat (refine sz_put ?_)); assumption; done) | (apply slot_miss; focus rfl))); all_goals assumption) rfl ?_); (refine wt_assign 15 64 rfl rfl (by kernel_rfl) (by kernel_rfl) (by kernel_rfl) (by kernel_rfl) (fun _ _ _ h => h) rfl hS0 (by (repeat (first | (refine slot_hit (N := 136) ?_ (by rfl); (repeat (refine sz_put ?_)); assumption; done) | (apply slot_miss; focus rfl))); all_goals assumption) rfl ?_)
              refine wt_done (by kernel_rfl) (NoPanic.normal ?_) _
              have ha := HA.out
              subst ha
              have hN9 := (hN7.on (st3_below hb12 (Nat.le_refl _) (.int .i64 v) (.slice A7 n2 k7) (.slice B7 m q7))).low (Nat.zero_le _)
              have hB0 : Bs _ _ _ _ _ := ⟨st3_has hxb (.int .i64 v) (.slice A7 n2 k7) (.slice B7 m q7)⟩
              have HU := Lib.hid (And.intro hB9 (And.intro hB0 hN9))
              unfold st3 at HU
              clear hZ hs1 hs2 hs4 hS0 hM hxb f0 f1 f2 e0 e1 e2 hN9 hN7 hB9 hB0 hxg hb12
              go_wp2
              go_meet
              exact ⟨_, _, _, _, _, rfl, rfl, rfl, HU.out⟩
            · skip
              refine wu_val 12 rfl rfl rfl (v := ?_) (w' := ?_) (fun ev hk => ?_) ?_; rotate_left 2; focus (go_simp; first | rfl | (constructor <;> rfl))
              intro W1 hW1
              have hM := hM.op12 hW1
              clear hW1
              refine ⟨fun _ => HSk.out _ hM.b, ?_⟩
              refine wt_one 7 (by kernel_rfl) ?_
              have hxlt := (hM.hx _ rfl).1.lt
              obtain ⟨A6, k6, e6, hI6⟩ := (hM.ho _ _ rfl).ill hM.b.size
              rw [List.nil_append] at e6 hI6
              rw [← HC5.out] at e6
              subst e6
              refine wu_call2 7 54 60 rfl rfl rfl (by (repeat (first | (refine slot_hit (N := 136) ?_ (by rfl); (repeat (refine sz_put ?_)); assumption; done) | (apply slot_miss; focus rfl))); all_goals assumption) (by (repeat (first | (refine slot_hit (N := 136) ?_ (by rfl); (repeat (refine sz_put ?_)); assumption; done) | (apply slot_miss; focus rfl))); all_goals assumption) (f := ?_) (args := ?_) (fun ev hk hkf hv0 hv1 => ?_) ?_; rotate_left 2; focus (go_simp; first | rfl | (constructor <;> rfl))
              refine (D2 _ (bn HB3.out.2.1 hM.b) _ _ hI6).mono ?_
              rintro e w7 ⟨A7, k7, B7, q7, rfl, hN7, hb7⟩
              have hM := hM.on hb7
              clear hI6 hb7
              refine ⟨_, rfl, fun _ => HSk.out _ hM.b, ?_⟩
              have hS0 := HSk.out _ hM.b
              (refine wt_move 8 61 rfl rfl (by kernel_rfl) (by kernel_rfl) (by kernel_rfl) (by kernel_rfl) (fun _ _ _ h => h) rfl hS0 (by (repeat (first | (refine slot_hit (N := 136) ?_ (by rfl); (repeat (refine sz_put ?_)); assumption; done) | (apply slot_miss; focus rfl))); all_goals assumption) rfl ?_); (refine wt_take1 9 53 (v := ?_) rfl rfl (by kernel_rfl) (by kernel_rfl) (by kernel_rfl) (by kernel_rfl) (fun _ _ _ h => h) rfl hS0 (by (repeat (first | (refine slot_hit (N := 136) ?_ (by rfl); (repeat (refine sz_put ?_)); assumption; done) | (apply slot_miss; focus rfl))); all_goals assumption) (fun ev hk hv0 w hS => ?_) ?_; rotate_left; focus (obtain ⟨j0, j1, j2⟩ := hS; go_simp; rfl)); (refine wt_take1 10 53 (v := ?_) rfl rfl (by kernel_rfl) (by kernel_rfl) (by kernel_rfl) (by kernel_rfl) (fun _ _ _ h => h) rfl hS0 (by (repeat (first | (refine slot_hit (N := 136) ?_ (by rfl); (repeat (refine sz_put ?_)); assumption; done) | (apply slot_miss; focus rfl))); all_goals assumption) (fun ev hk hv0 w hS => ?_) ?_; rotate_left; focus (obtain ⟨j0, j1, j2⟩ := hS; go_simp; rfl)); (refine wt_take1 11 53 (v := ?_) rfl rfl (by kernel_rfl) (by kernel_rfl) (by kernel_rfl) (by kernel_rfl) (fun _ _ _ h => h) rfl hS0 (by (repeat (first | (refine slot_hit (N := 136) ?_ (by rfl); (repeat (refine sz_put ?_)); assumption; done) | (apply slot_miss; focus rfl))); all_goals assumption) (fun ev hk hv0 w hS => ?_) ?_; rotate_left; focus (obtain ⟨j0, j1, j2⟩ := hS; go_simp; rfl))
              obtain ⟨hxb, hxg⟩ := hM.hx _ rfl
              obtain ⟨f0, f1, f2, e0, e1, e2⟩ := And.intro (hxb.cell 0) (And.intro (hxb.cell 1) (And.intro (hxb.cell 2) (And.intro (hxb.fz 0) (And.intro (hxb.fz 1) (hxb.fz 2)))))
              refine wt_act2 13 13 62 (by kernel_rfl) rfl rfl rfl (by (repeat (first | (refine slot_hit (N := 136) ?_ (by rfl); (repeat (refine sz_put ?_)); assumption; done) | (apply slot_miss; focus rfl))); all_goals assumption) (by (repeat (first | (refine slot_hit (N := 136) ?_ (by rfl); (repeat (refine sz_put ?_)); assumption; done) | (apply slot_miss; focus rfl))); all_goals assumption) (w' := ?_) (fun ev hk hv0 hv1 => ?_) ?_; rotate_left; focus (go_simp; rfl)
              have hB9 := st3_below hM.b hxg (.int .i64 v) (.slice A7 n2 k7) (.slice B7 m q7)
              have hS0 := HSk.out _ hB9
              unfold st3 at hS0
              refine ⟨fun _ => hS0, ?_⟩
              (refine wt_assign 14 63 rfl rfl (by kernel_rfl) (by kernel_rfl) (by kernel_rfl) (by kernel_rfl) (fun _ _ _ h => h) rfl hS0 (by (repeat (first | (refine slot_hit (N := 136) ?_ (by rfl); (repeat (refine sz_put ?_)); assumption; done) | (apply slot_miss; focus rfl))); all_goals assumption) rfl ?_); (refine wt_assign 15 64 rfl rfl (by kernel_rfl) (by kernel_rfl) (by kernel_rfl) (by kernel_rfl) (fun _ _ _ h => h) rfl hS0 (by (repeat (first | (refine slot_hit (N := 136) ?_ (by rfl); (repeat (refine sz_put ?_)); assumption; done) | (apply slot_miss; focus rfl))); all_goals assumption) rfl ?_)
              refine wt_done (by kernel_rfl) (NoPanic.normal ?_) _
              have ha := HA.out
              subst ha
              have hN9 := (hN7.st3 hxlt (.int .i64 v) (.slice A7 n2 k7) (.slice B7 m q7)).low (Nat.zero_le _)
              have hB0 : Bs _ _ _ _ _ := ⟨st3_has hxb (.int .i64 v) (.slice A7 n2 k7) (.slice B7 m q7)⟩
              have HU := Lib.hid (And.intro hB9 (And.intro hB0 hN9))
              unfold st3 at HU
              clear hZ hs1 hs2 hs4 hS0 hM hxb f0 f1 f2 e0 e1 e2 hN9 hN7 hB9 hB0 hxg hxlt
              go_wp2
              go_meet
              exact ⟨_, _, _, _, _, rfl, rfl, rfl, HU.out⟩
          · skip
            refine wu_val 12 rfl rfl rfl (v := ?_) (w' := ?_) (fun ev hk => ?_) ?_; rotate_left 2; focus (go_simp; first | rfl | (constructor <;> rfl))
            intro W1 hW1
            have hM := hM.op12 hW1
            clear hW1
            refine ⟨fun _ => HSk.out _ hM.b, ?_⟩
            refine wt_one 6 (by kernel_rfl) ?_
            refine wu_app 6 57 59 rfl rfl rfl (by (repeat (first | (refine slot_hit (N := 136) ?_ (by rfl); (repeat (refine sz_put ?_)); assumption; done) | (apply slot_miss; focus rfl))); all_goals assumption) (by (repeat (first | (refine slot_hit (N := 136) ?_ (by rfl); (repeat (refine sz_put ?_)); assumption; done) | (apply slot_miss; focus rfl))); all_goals assumption) rfl (fun ty => hM.op6 HC3.out.2.2.2.1 HC3.out.2.2.2.2 (by have := HC3.out.2.2.1; simp; omega) ty) (fun v6 w66 hM => ?_)
            refine ⟨fun _ => HSk.out _ hM.b, ?_⟩
            refine wt_one 7 (by kernel_rfl) ?_
            have hxlt := (hM.hx _ rfl).1.lt
            obtain ⟨A6, k6, e6, hI6⟩ := (hM.ho _ _ rfl).ill hM.b.size
            rw [List.nil_append] at e6 hI6
            rw [← HC5.out] at e6
            subst e6
            refine wu_call2 7 54 60 rfl rfl rfl (by (repeat (first | (refine slot_hit (N := 136) ?_ (by rfl); (repeat (refine sz_put ?_)); assumption; done) | (apply slot_miss; focus rfl))); all_goals assumption) (by (repeat (first | (refine slot_hit (N := 136) ?_ (by rfl); (repeat (refine sz_put ?_)); assumption; done) | (apply slot_miss; focus rfl))); all_goals assumption) (f := ?_) (args := ?_) (fun ev hk hkf hv0 hv1 => ?_) ?_; rotate_left 2; focus (go_simp; first | rfl | (constructor <;> rfl))
            refine (D2 _ (bn HB3.out.2.1 hM.b) _ _ hI6).mono ?_
            rintro e w7 ⟨A7, k7, B7, q7, rfl, hN7, hb7⟩
            have hM := hM.on hb7
            clear hI6 hb7
            refine ⟨_, rfl, fun _ => HSk.out _ hM.b, ?_⟩
            have hS0 := HSk.out _ hM.b
            (refine wt_move 8 61 rfl rfl (by kernel_rfl) (by kernel_rfl) (by kernel_rfl) (by kernel_rfl) (fun _ _ _ h => h) rfl hS0 (by (repeat (first | (refine slot_hit (N := 136) ?_ (by rfl); (repeat (refine sz_put ?_)); assumption; done) | (apply slot_miss; focus rfl))); all_goals assumption) rfl ?_); (refine wt_take1 9 53 (v := ?_) rfl rfl (by kernel_rfl) (by kernel_rfl) (by kernel_rfl) (by kernel_rfl) (fun _ _ _ h => h) rfl hS0 (by (repeat (first | (refine slot_hit (N := 136) ?_ (by rfl); (repeat (refine sz_put ?_)); assumption; done) | (apply slot_miss; focus rfl))); all_goals assumption) (fun ev hk hv0 w hS => ?_) ?_; rotate_left; focus (obtain ⟨j0, j1, j2⟩ := hS; go_simp; rfl)); (refine wt_take1 10 53 (v := ?_) rfl rfl (by kernel_rfl) (by kernel_rfl) (by kernel_rfl) (by kernel_rfl) (fun _ _ _ h => h) rfl hS0 (by (repeat (first | (refine slot_hit (N := 136) ?_ (by rfl); (repeat (refine sz_put ?_)); assumption; done) | (apply slot_miss; focus rfl))); all_goals assumption) (fun ev hk hv0 w hS => ?_) ?_; rotate_left; focus (obtain ⟨j0, j1, j2⟩ := hS; go_simp; rfl)); (refine wt_take1 11 53 (v := ?_) rfl rfl (by kernel_rfl) (by kernel_rfl) (by kernel_rfl) (by kernel_rfl) (fun _ _ _ h => h) rfl hS0 (by (repeat (first | (refine slot_hit (N := 136) ?_ (by rfl); (repeat (refine sz_put ?_)); assumption; done) | (apply slot_miss; focus rfl))); all_goals assumption) (fun ev hk hv0 w hS => ?_) ?_; rotate_left; focus (obtain ⟨j0, j1, j2⟩ := hS; go_simp; rfl))
            obtain ⟨hxb, hxg⟩ := hM.hx _ rfl
            obtain ⟨f0, f1, f2, e0, e1, e2⟩ := And.intro (hxb.cell 0) (And.intro (hxb.cell 1) (And.intro (hxb.cell 2) (And.intro (hxb.fz 0) (And.intro (hxb.fz 1) (hxb.fz 2)))))
            refine wt_act2 13 13 62 (by kernel_rfl) rfl rfl rfl (by (repeat (first | (refine slot_hit (N := 136) ?_ (by rfl); (repeat (refine sz_put ?_)); assumption; done) | (apply slot_miss; focus rfl))); all_goals assumption) (by (repeat (first | (refine slot_hit (N := 136) ?_ (by rfl); (repeat (refine sz_put ?_)); assumption; done) | (apply slot_miss; focus rfl))); all_goals assumption) (w' := ?_) (fun ev hk hv0 hv1 => ?_) ?_; rotate_left; focus (go_simp; rfl)
            have hB9 := st3_below hM.b hxg (.int .i64 v) (.slice A7 n2 k7) (.slice B7 m q7)
            have hS0 := HSk.out _ hB9
            unfold st3 at hS0
            refine ⟨fun _ => hS0, ?_⟩
            (refine wt_assign 14 63 rfl rfl (by kernel_rfl) (by kernel_rfl) (by kernel_rfl) (by kernel_rfl) (fun _ _ _ h => h) rfl hS0 (by (repeat (first | (refine slot_hit (N := 136) ?_ (by rfl); (repeat (refine sz_put ?_)); assumption; done) | (apply slot_miss; focus rfl))); all_goals assumption) rfl ?_); (refine wt_assign 15 64 rfl rfl (by kernel_rfl) (by kernel_rfl) (by kernel_rfl) (by kernel_rfl) (fun _ _ _ h => h) rfl hS0 (by (repeat (first | (refine slot_hit (N := 136) ?_ (by rfl); (repeat (refine sz_put ?_)); assumption; done) | (apply slot_miss; focus rfl))); all_goals assumption) rfl ?_)
            refine wt_done (by kernel_rfl) (NoPanic.normal ?_) _
            have ha := HA.out
            subst ha
            have hN9 := (hN7.st3 hxlt (.int .i64 v) (.slice A7 n2 k7) (.slice B7 m q7)).low (Nat.zero_le _)
            have hB0 : Bs _ _ _ _ _ := ⟨st3_has hxb (.int .i64 v) (.slice A7 n2 k7) (.slice B7 m q7)⟩
            have HU := Lib.hid (And.intro hB9 (And.intro hB0 hN9))
            unfold st3 at HU
            clear hZ hs1 hs2 hs4 hS0 hM hxb f0 f1 f2 e0 e1 e2 hN9 hN7 hB9 hB0 hxg hxlt
            go_wp2
            go_meet
            exact ⟨_, _, _, _, _, rfl, rfl, rfl, HU.out⟩
        · skip
          refine wu_val 12 rfl rfl rfl (v := ?_) (w' := ?_) (fun ev hk => ?_) ?_; rotate_left 2; focus (go_simp; first | rfl | (constructor <;> rfl))
          intro W1 hW1
          have hM := hM.op12 hW1
          clear hW1
          refine ⟨fun _ => HSk.out _ hM.b, ?_⟩
          refine wt_one 3 (by kernel_rfl) ?_
          refine wu_app 3 55 56 rfl rfl rfl (by (repeat (first | (refine slot_hit (N := 136) ?_ (by rfl); (repeat (refine sz_put ?_)); assumption; done) | (apply slot_miss; focus rfl))); all_goals assumption) (by (repeat (first | (refine slot_hit (N := 136) ?_ (by rfl); (repeat (refine sz_put ?_)); assumption; done) | (apply slot_miss; focus rfl))); all_goals assumption) rfl (fun ty => hM.op3 HC3.out.1 HC3.out.2.1 HC3.out.2.2.1 (by simp) ty) (fun v3 w33 hM => ?_)
          refine ⟨fun _ => HSk.out _ hM.b, ?_⟩
          refine wt_one 6 (by kernel_rfl) ?_
          refine wu_app 6 57 59 rfl rfl rfl (by (repeat (first | (refine slot_hit (N := 136) ?_ (by rfl); (repeat (refine sz_put ?_)); assumption; done) | (apply slot_miss; focus rfl))); all_goals assumption) (by (repeat (first | (refine slot_hit (N := 136) ?_ (by rfl); (repeat (refine sz_put ?_)); assumption; done) | (apply slot_miss; focus rfl))); all_goals assumption) rfl (fun ty => hM.op6 HC3.out.2.2.2.1 HC3.out.2.2.2.2 (by have := HC3.out.2.2.1; simp; omega) ty) (fun v6 w66 hM => ?_)
          refine ⟨fun _ => HSk.out _ hM.b, ?_⟩
          refine wt_one 7 (by kernel_rfl) ?_
          have hxlt := (hM.hx _ rfl).1.lt
          obtain ⟨A6, k6, e6, hI6⟩ := (hM.ho _ _ rfl).ill hM.b.size
          rw [List.nil_append] at e6 hI6
          rw [← HC5.out] at e6
          subst e6
          refine wu_call2 7 54 60 rfl rfl rfl (by (repeat (first | (refine slot_hit (N := 136) ?_ (by rfl); (repeat (refine sz_put ?_)); assumption; done) | (apply slot_miss; focus rfl))); all_goals assumption) (by (repeat (first | (refine slot_hit (N := 136) ?_ (by rfl); (repeat (refine sz_put ?_)); assumption; done) | (apply slot_miss; focus rfl))); all_goals assumption) (f := ?_) (args := ?_) (fun ev hk hkf hv0 hv1 => ?_) ?_; rotate_left 2; focus (go_simp; first | rfl | (constructor <;> rfl))
          refine (D2 _ (bn HB3.out.2.1 hM.b) _ _ hI6).mono ?_
          rintro e w7 ⟨A7, k7, B7, q7, rfl, hN7, hb7⟩
          have hM := hM.on hb7
          clear hI6 hb7
          refine ⟨_, rfl, fun _ => HSk.out _ hM.b, ?_⟩
          have hS0 := HSk.out _ hM.b
          (refine wt_move 8 61 rfl rfl (by kernel_rfl) (by kernel_rfl) (by kernel_rfl) (by kernel_rfl) (fun _ _ _ h => h) rfl hS0 (by (repeat (first | (refine slot_hit (N := 136) ?_ (by rfl); (repeat (refine sz_put ?_)); assumption; done) | (apply slot_miss; focus rfl))); all_goals assumption) rfl ?_); (refine wt_take1 9 53 (v := ?_) rfl rfl (by kernel_rfl) (by kernel_rfl) (by kernel_rfl) (by kernel_rfl) (fun _ _ _ h => h) rfl hS0 (by (repeat (first | (refine slot_hit (N := 136) ?_ (by rfl); (repeat (refine sz_put ?_)); assumption; done) | (apply slot_miss; focus rfl))); all_goals assumption) (fun ev hk hv0 w hS => ?_) ?_; rotate_left; focus (obtain ⟨j0, j1, j2⟩ := hS; go_simp; rfl)); (refine wt_take1 10 53 (v := ?_) rfl rfl (by kernel_rfl) (by kernel_rfl) (by kernel_rfl) (by kernel_rfl) (fun _ _ _ h => h) rfl hS0 (by (repeat (first | (refine slot_hit (N := 136) ?_ (by rfl); (repeat (refine sz_put ?_)); assumption; done) | (apply slot_miss; focus rfl))); all_goals assumption) (fun ev hk hv0 w hS => ?_) ?_; rotate_left; focus (obtain ⟨j0, j1, j2⟩ := hS; go_simp; rfl)); (refine wt_take1 11 53 (v := ?_) rfl rfl (by kernel_rfl) (by kernel_rfl) (by kernel_rfl) (by kernel_rfl) (fun _ _ _ h => h) rfl hS0 (by (repeat (first | (refine slot_hit (N := 136) ?_ (by rfl); (repeat (refine sz_put ?_)); assumption; done) | (apply slot_miss; focus rfl))); all_goals assumption) (fun ev hk hv0 w hS => ?_) ?_; rotate_left; focus (obtain ⟨j0, j1, j2⟩ := hS; go_simp; rfl))
          obtain ⟨hxb, hxg⟩ := hM.hx _ rfl
          obtain ⟨f0, f1, f2, e0, e1, e2⟩ := And.intro (hxb.cell 0) (And.intro (hxb.cell 1) (And.intro (hxb.cell 2) (And.intro (hxb.fz 0) (And.intro (hxb.fz 1) (hxb.fz 2)))))
          refine wt_act2 13 13 62 (by kernel_rfl) rfl rfl rfl (by (repeat (first | (refine slot_hit (N := 136) ?_ (by rfl); (repeat (refine sz_put ?_)); assumption; done) | (apply slot_miss; focus rfl))); all_goals assumption) (by (repeat (first | (refine slot_hit (N := 136) ?_ (by rfl); (repeat (refine sz_put ?_)); assumption; done) | (apply slot_miss; focus rfl))); all_goals assumption) (w' := ?_) (fun ev hk hv0 hv1 => ?_) ?_; rotate_left; focus (go_simp; rfl)
          have hB9 := st3_below hM.b hxg (.int .i64 v) (.slice A7 n2 k7) (.slice B7 m q7)
          have hS0 := HSk.out _ hB9
          unfold st3 at hS0
          refine ⟨fun _ => hS0, ?_⟩
          (refine wt_assign 14 63 rfl rfl (by kernel_rfl) (by kernel_rfl) (by kernel_rfl) (by kernel_rfl) (fun _ _ _ h => h) rfl hS0 (by (repeat (first | (refine slot_hit (N := 136) ?_ (by rfl); (repeat (refine sz_put ?_)); assumption; done) | (apply slot_miss; focus rfl))); all_goals assumption) rfl ?_); (refine wt_assign 15 64 rfl rfl (by kernel_rfl) (by kernel_rfl) (by kernel_rfl) (by kernel_rfl) (fun _ _ _ h => h) rfl hS0 (by (repeat (first | (refine slot_hit (N := 136) ?_ (by rfl); (repeat (refine sz_put ?_)); assumption; done) | (apply slot_miss; focus rfl))); all_goals assumption) rfl ?_)
          refine wt_done (by kernel_rfl) (NoPanic.normal ?_) _
          have ha := HA.out
          subst ha
          have hN9 := (hN7.st3 hxlt (.int .i64 v) (.slice A7 n2 k7) (.slice B7 m q7)).low (Nat.zero_le _)
          have hB0 : Bs _ _ _ _ _ := ⟨st3_has hxb (.int .i64 v) (.slice A7 n2 k7) (.slice B7 m q7)⟩
          have HU := Lib.hid (And.intro hB9 (And.intro hB0 hN9))
          unfold st3 at HU
          clear hZ hs1 hs2 hs4 hS0 hM hxb f0 f1 f2 e0 e1 e2 hN9 hN7 hB9 hB0 hxg hxlt
          go_wp2
          go_meet
          exact ⟨_, _, _, _, _, rfl, rfl, rfl, HU.out⟩
      · skip
        refine wu_val 12 rfl rfl rfl (v := ?_) (w' := ?_) (fun ev hk => ?_) ?_; rotate_left 2; focus (go_simp; first | rfl | (constructor <;> rfl))
        intro W1 hW1
        have hM := hM.op12 hW1
        clear hW1
        refine ⟨fun _ => HSk.out _ hM.b, ?_⟩
        refine wt_one 1 (by kernel_rfl) ?_
        refine wu_val 1 rfl rfl rfl (v := ?_) (w' := ?_) (fun ev hk => ?_) ?_; rotate_left 2; focus (go_simp; first | rfl | (constructor <;> rfl))
        intro W1 hW1
        have hM := hM.op1 hW1
        clear hW1
        refine ⟨fun _ => HSk.out _ hM.b, ?_⟩
        refine wt_one 3 (by kernel_rfl) ?_
        refine wu_app 3 55 56 rfl rfl rfl (by (repeat (first | (refine slot_hit (N := 136) ?_ (by rfl); (repeat (refine sz_put ?_)); assumption; done) | (apply slot_miss; focus rfl))); all_goals assumption) (by (repeat (first | (refine slot_hit (N := 136) ?_ (by rfl); (repeat (refine sz_put ?_)); assumption; done) | (apply slot_miss; focus rfl))); all_goals assumption) rfl (fun ty => hM.op3 HC3.out.1 HC3.out.2.1 HC3.out.2.2.1 (by simp) ty) (fun v3 w33 hM => ?_)
        refine ⟨fun _ => HSk.out _ hM.b, ?_⟩
        refine wt_one 6 (by kernel_rfl) ?_
        refine wu_app 6 57 59 rfl rfl rfl (by (repeat (first | (refine slot_hit (N := 136) ?_ (by rfl); (repeat (refine sz_put ?_)); assumption; done) | (apply slot_miss; focus rfl))); all_goals assumption) (by (repeat (first | (refine slot_hit (N := 136) ?_ (by rfl); (repeat (refine sz_put ?_)); assumption; done) | (apply slot_miss; focus rfl))); all_goals assumption) rfl (fun ty => hM.op6 HC3.out.2.2.2.1 HC3.out.2.2.2.2 (by have := HC3.out.2.2.1; simp; omega) ty) (fun v6 w66 hM => ?_)
        refine ⟨fun _ => HSk.out _ hM.b, ?_⟩
        refine wt_one 7 (by kernel_rfl) ?_
        have hxlt := (hM.hx _ rfl).1.lt
        obtain ⟨A6, k6, e6, hI6⟩ := (hM.ho _ _ rfl).ill hM.b.size
        rw [List.nil_append] at e6 hI6
        rw [← HC5.out] at e6
        subst e6
        refine wu_call2 7 54 60 rfl rfl rfl (by (repeat (first | (refine slot_hit (N := 136) ?_ (by rfl); (repeat (refine sz_put ?_)); assumption; done) | (apply slot_miss; focus rfl))); all_goals assumption) (by (repeat (first | (refine slot_hit (N := 136) ?_ (by rfl); (repeat (refine sz_put ?_)); assumption; done) | (apply slot_miss; focus rfl))); all_goals assumption) (f := ?_) (args := ?_) (fun ev hk hkf hv0 hv1 => ?_) ?_; rotate_left 2; focus (go_simp; first | rfl | (constructor <;> rfl))
        refine (D2 _ (bn HB3.out.2.1 hM.b) _ _ hI6).mono ?_
        rintro e w7 ⟨A7, k7, B7, q7, rfl, hN7, hb7⟩
        have hM := hM.on hb7
        clear hI6 hb7
        refine ⟨_, rfl, fun _ => HSk.out _ hM.b, ?_⟩
        have hS0 := HSk.out _ hM.b
        (refine wt_move 8 61 rfl rfl (by kernel_rfl) (by kernel_rfl) (by kernel_rfl) (by kernel_rfl) (fun _ _ _ h => h) rfl hS0 (by (repeat (first | (refine slot_hit (N := 136) ?_ (by rfl); (repeat (refine sz_put ?_)); assumption; done) | (apply slot_miss; focus rfl))); all_goals assumption) rfl ?_); (refine wt_take1 9 53 (v := ?_) rfl rfl (by kernel_rfl) (by kernel_rfl) (by kernel_rfl) (by kernel_rfl) (fun _ _ _ h => h) rfl hS0 (by (repeat (first | (refine slot_hit (N := 136) ?_ (by rfl); (repeat (refine sz_put ?_)); assumption; done) | (apply slot_miss; focus rfl))); all_goals assumption) (fun ev hk hv0 w hS => ?_) ?_; rotate_left; focus (obtain ⟨j0, j1, j2⟩ := hS; go_simp; rfl)); (refine wt_take1 10 53 (v := ?_) rfl rfl (by kernel_rfl) (by kernel_rfl) (by kernel_rfl) (by kernel_rfl) (fun _ _ _ h => h) rfl hS0 (by (repeat (first | (refine slot_hit (N := 136) ?_ (by rfl); (repeat (refine sz_put ?_)); assumption; done) | (apply slot_miss; focus rfl))); all_goals assumption) (fun ev hk hv0 w hS => ?_) ?_; rotate_left; focus (obtain ⟨j0, j1, j2⟩ := hS; go_simp; rfl)); (refine wt_take1 11 53 (v := ?_) rfl rfl (by kernel_rfl) (by kernel_rfl) (by kernel_rfl) (by kernel_rfl) (fun _ _ _ h => h) rfl hS0 (by (repeat (first | (refine slot_hit (N := 136) ?_ (by rfl); (repeat (refine sz_put ?_)); assumption; done) | (apply slot_miss; focus rfl))); all_goals assumption) (fun ev hk hv0 w hS => ?_) ?_; rotate_left; focus (obtain ⟨j0, j1, j2⟩ := hS; go_simp; rfl))
        obtain ⟨hxb, hxg⟩ := hM.hx _ rfl
        obtain ⟨f0, f1, f2, e0, e1, e2⟩ := And.intro (hxb.cell 0) (And.intro (hxb.cell 1) (And.intro (hxb.cell 2) (And.intro (hxb.fz 0) (And.intro (hxb.fz 1) (hxb.fz 2)))))
        refine wt_act2 13 13 62 (by kernel_rfl) rfl rfl rfl (by (repeat (first | (refine slot_hit (N := 136) ?_ (by rfl); (repeat (refine sz_put ?_)); assumption; done) | (apply slot_miss; focus rfl))); all_goals assumption) (by (repeat (first | (refine slot_hit (N := 136) ?_ (by rfl); (repeat (refine sz_put ?_)); assumption; done) | (apply slot_miss; focus rfl))); all_goals assumption) (w' := ?_) (fun ev hk hv0 hv1 => ?_) ?_; rotate_left; focus (go_simp; rfl)
        have hB9 := st3_below hM.b hxg (.int .i64 v) (.slice A7 n2 k7) (.slice B7 m q7)
        have hS0 := HSk.out _ hB9
        unfold st3 at hS0
        refine ⟨fun _ => hS0, ?_⟩
        (refine wt_assign 14 63 rfl rfl (by kernel_rfl) (by kernel_rfl) (by kernel_rfl) (by kernel_rfl) (fun _ _ _ h => h) rfl hS0 (by (repeat (first | (refine slot_hit (N := 136) ?_ (by rfl); (repeat (refine sz_put ?_)); assumption; done) | (apply slot_miss; focus rfl))); all_goals assumption) rfl ?_); (refine wt_assign 15 64 rfl rfl (by kernel_rfl) (by kernel_rfl) (by kernel_rfl) (by kernel_rfl) (fun _ _ _ h => h) rfl hS0 (by (repeat (first | (refine slot_hit (N := 136) ?_ (by rfl); (repeat (refine sz_put ?_)); assumption; done) | (apply slot_miss; focus rfl))); all_goals assumption) rfl ?_)
        refine wt_done (by kernel_rfl) (NoPanic.normal ?_) _
        have ha := HA.out
        subst ha
        have hN9 := (hN7.st3 hxlt (.int .i64 v) (.slice A7 n2 k7) (.slice B7 m q7)).low (Nat.zero_le _)
        have hB0 : Bs _ _ _ _ _ := ⟨st3_has hxb (.int .i64 v) (.slice A7 n2 k7) (.slice B7 m q7)⟩
        have HU := Lib.hid (And.intro hB9 (And.intro hB0 hN9))
        unfold st3 at HU
        clear hZ hs1 hs2 hs4 hS0 hM hxb f0 f1 f2 e0 e1 e2 hN9 hN7 hB9 hB0 hxg hxlt
        go_wp2
        go_meet
        exact ⟨_, _, _, _, _, rfl, rfl, rfl, HU.out⟩
    · skip
      refine wu_val 12 rfl rfl rfl (v := ?_) (w' := ?_) (fun ev hk => ?_) ?_; rotate_left 2; focus (go_simp; first | rfl | (constructor <;> rfl))
      intro W1 hW1
      have hM : Ms W3 (.slice D nc kd) W1 none none (some W3.heap.size) := hM.op12 hW1
      clear hW1
      refine ⟨fun _ => HSk.out _ hM.b, ?_⟩
      refine ways2 1 5 (by kernel_rfl) ?_ ?_
      · skip
        refine wu_val 1 rfl rfl rfl (v := ?_) (w' := ?_) (fun ev hk => ?_) ?_; rotate_left 2; focus (go_simp; first | rfl | (constructor <;> rfl))
        intro W1 hW1
        have hM := hM.op1 hW1
        clear hW1
        refine ⟨fun _ => HSk.out _ hM.b, ?_⟩
        refine ways2 3 5 (by kernel_rfl) ?_ ?_
        · skip
          refine wu_app 3 55 56 rfl rfl rfl (by (repeat (first | (refine slot_hit (N := 136) ?_ (by rfl); (repeat (refine sz_put ?_)); assumption; done) | (apply slot_miss; focus rfl))); all_goals assumption) (by (repeat (first | (refine slot_hit (N := 136) ?_ (by rfl); (repeat (refine sz_put ?_)); assumption; done) | (apply slot_miss; focus rfl))); all_goals assumption) rfl (fun ty => hM.op3 HC3.out.1 HC3.out.2.1 HC3.out.2.2.1 (by simp) ty) (fun v3 w33 hM => ?_)
          refine ⟨fun _ => HSk.out _ hM.b, ?_⟩
          refine wt_one 5 (by kernel_rfl) ?_
          refine wu_val1 5 58 rfl rfl rfl (by (repeat (first | (refine slot_hit (N := 136) ?_ (by rfl); (repeat (refine sz_put ?_)); assumption; done) | (apply slot_miss; focus rfl))); all_goals assumption) (v := ?_) (w' := ?_) (fun ev hk hv0 => ?_) ?_; rotate_left 2; focus (go_simp; first | rfl | (constructor <;> rfl))
          intro W1 hW1
          have hM := hM.op5 hW1
          clear hW1
          refine ⟨fun _ => HSk.out _ hM.b, ?_⟩
          refine wt_one 6 (by kernel_rfl) ?_
          refine wu_app 6 57 59 rfl rfl rfl (by (repeat (first | (refine slot_hit (N := 136) ?_ (by rfl); (repeat (refine sz_put ?_)); assumption; done) | (apply slot_miss; focus rfl))); all_goals assumption) (by (repeat (first | (refine slot_hit (N := 136) ?_ (by rfl); (repeat (refine sz_put ?_)); assumption; done) | (apply slot_miss; focus rfl))); all_goals assumption) rfl (fun ty => hM.op6 HC3.out.2.2.2.1 HC3.out.2.2.2.2 (by have := HC3.out.2.2.1; simp; omega) ty) (fun v6 w66 hM => ?_)
          refine ⟨fun _ => HSk.out _ hM.b, ?_⟩
          refine wt_one 7 (by kernel_rfl) ?_
          have hxlt := (hM.hx _ rfl).1.lt
          obtain ⟨A6, k6, e6, hI6⟩ := (hM.ho _ _ rfl).ill hM.b.size
          rw [List.nil_append] at e6 hI6
          rw [← HC5.out] at e6
          subst e6
          refine wu_call2 7 54 60 rfl rfl rfl (by (repeat (first | (refine slot_hit (N := 136) ?_ (by rfl); (repeat (refine sz_put ?_)); assumption; done) | (apply slot_miss; focus rfl))); all_goals assumption) (by (repeat (first | (refine slot_hit (N := 136) ?_ (by rfl); (repeat (refine sz_put ?_)); assumption; done) | (apply slot_miss; focus rfl))); all_goals assumption) (f := ?_) (args := ?_) (fun ev hk hkf hv0 hv1 => ?_) ?_; rotate_left 2; focus (go_simp; first | rfl | (constructor <;> rfl))
          refine (D2 _ (bn HB3.out.2.1 hM.b) _ _ hI6).mono ?_
          rintro e w7 ⟨A7, k7, B7, q7, rfl, hN7, hb7⟩
          have hM := hM.on hb7
          clear hI6 hb7
          refine ⟨_, rfl, fun _ => HSk.out _ hM.b, ?_⟩
          have hS0 := HSk.out _ hM.b
          (refine wt_move 8 61 rfl rfl (by kernel_rfl) (by kernel_rfl) (by kernel_rfl) (by kernel_rfl) (fun _ _ _ h => h) rfl hS0 (by (repeat (first | (refine slot_hit (N := 136) ?_ (by rfl); (repeat (refine sz_put ?_)); assumption; done) | (apply slot_miss; focus rfl))); all_goals assumption) rfl ?_); (refine wt_take1 9 53 (v := ?_) rfl rfl (by kernel_rfl) (by kernel_rfl) (by kernel_rfl) (by kernel_rfl) (fun _ _ _ h => h) rfl hS0 (by (repeat (first | (refine slot_hit (N := 136) ?_ (by rfl); (repeat (refine sz_put ?_)); assumption; done) | (apply slot_miss; focus rfl))); all_goals assumption) (fun ev hk hv0 w hS => ?_) ?_; rotate_left; focus (obtain ⟨j0, j1, j2⟩ := hS; go_simp; rfl)); (refine wt_take1 10 53 (v := ?_) rfl rfl (by kernel_rfl) (by kernel_rfl) (by kernel_rfl) (by kernel_rfl) (fun _ _ _ h => h) rfl hS0 (by (repeat (first | (refine slot_hit (N := 136) ?_ (by rfl); (repeat (refine sz_put ?_)); assumption; done) | (apply slot_miss; focus rfl))); all_goals assumption) (fun ev hk hv0 w hS => ?_) ?_; rotate_left; focus (obtain ⟨j0, j1, j2⟩ := hS; go_simp; rfl)); (refine wt_take1 11 53 (v := ?_) rfl rfl (by kernel_rfl) (by kernel_rfl) (by kernel_rfl) (by kernel_rfl) (fun _ _ _ h => h) rfl hS0 (by (repeat (first | (refine slot_hit (N := 136) ?_ (by rfl); (repeat (refine sz_put ?_)); assumption; done) | (apply slot_miss; focus rfl))); all_goals assumption) (fun ev hk hv0 w hS => ?_) ?_; rotate_left; focus (obtain ⟨j0, j1, j2⟩ := hS; go_simp; rfl))
          obtain ⟨hxb, hxg⟩ := hM.hx _ rfl
          obtain ⟨f0, f1, f2, e0, e1, e2⟩ := And.intro (hxb.cell 0) (And.intro (hxb.cell 1) (And.intro (hxb.cell 2) (And.intro (hxb.fz 0) (And.intro (hxb.fz 1) (hxb.fz 2)))))
          refine wt_act2 13 13 62 (by kernel_rfl) rfl rfl rfl (by (repeat (first | (refine slot_hit (N := 136) ?_ (by rfl); (repeat (refine sz_put ?_)); assumption; done) | (apply slot_miss; focus rfl))); all_goals assumption) (by (repeat (first | (refine slot_hit (N := 136) ?_ (by rfl); (repeat (refine sz_put ?_)); assumption; done) | (apply slot_miss; focus rfl))); all_goals assumption) (w' := ?_) (fun ev hk hv0 hv1 => ?_) ?_; rotate_left; focus (go_simp; rfl)
          have hB9 := st3_below hM.b hxg (.int .i64 v) (.slice A7 n2 k7) (.slice B7 m q7)
          have hS0 := HSk.out _ hB9
          unfold st3 at hS0
          refine ⟨fun _ => hS0, ?_⟩
          (refine wt_assign 14 63 rfl rfl (by kernel_rfl) (by kernel_rfl) (by kernel_rfl) (by kernel_rfl) (fun _ _ _ h => h) rfl hS0 (by (repeat (first | (refine slot_hit (N := 136) ?_ (by rfl); (repeat (refine sz_put ?_)); assumption; done) | (apply slot_miss; focus rfl))); all_goals assumption) rfl ?_); (refine wt_assign 15 64 rfl rfl (by kernel_rfl) (by kernel_rfl) (by kernel_rfl) (by kernel_rfl) (fun _ _ _ h => h) rfl hS0 (by (repeat (first | (refine slot_hit (N := 136) ?_ (by rfl); (repeat (refine sz_put ?_)); assumption; done) | (apply slot_miss; focus rfl))); all_goals assumption) rfl ?_)
          refine wt_done (by kernel_rfl) (NoPanic.normal ?_) _
          have ha := HA.out
          subst ha
          have hN9 := (hN7.st3 hxlt (.int .i64 v) (.slice A7 n2 k7) (.slice B7 m q7)).low (Nat.zero_le _)
          have hB0 : Bs _ _ _ _ _ := ⟨st3_has hxb (.int .i64 v) (.slice A7 n2 k7) (.slice B7 m q7)⟩
          have HU := Lib.hid (And.intro hB9 (And.intro hB0 hN9))
          unfold st3 at HU
          clear hZ hs1 hs2 hs4 hS0 hM hxb f0 f1 f2 e0 e1 e2 hN9 hN7 hB9 hB0 hxg hxlt
          go_wp2
          go_meet
          exact ⟨_, _, _, _, _, rfl, rfl, rfl, HU.out⟩
        · skip
          refine wu_val1 5 58 rfl rfl rfl (by (repeat (first | (refine slot_hit (N := 136) ?_ (by rfl); (repeat (refine sz_put ?_)); assumption; done) | (apply slot_miss; focus rfl))); all_goals assumption) (v := ?_) (w' := ?_) (fun ev hk hv0 => ?_) ?_; rotate_left 2; focus (go_simp; first | rfl | (constructor <;> rfl))
          intro W1 hW1
          have hM := hM.op5 hW1
          clear hW1
          refine ⟨fun _ => HSk.out _ hM.b, ?_⟩
          refine wt_one 3 (by kernel_rfl) ?_
          refine wu_app 3 55 56 rfl rfl rfl (by (repeat (first | (refine slot_hit (N := 136) ?_ (by rfl); (repeat (refine sz_put ?_)); assumption; done) | (apply slot_miss; focus rfl))); all_goals assumption) (by (repeat (first | (refine slot_hit (N := 136) ?_ (by rfl); (repeat (refine sz_put ?_)); assumption; done) | (apply slot_miss; focus rfl))); all_goals assumption) rfl (fun ty => hM.op3 HC3.out.1 HC3.out.2.1 HC3.out.2.2.1 (by simp) ty) (fun v3 w33 hM => ?_)
          refine ⟨fun _ => HSk.out _ hM.b, ?_⟩
          refine wt_one 6 (by kernel_rfl) ?_
          refine wu_app 6 57 59 rfl rfl rfl (by (repeat (first | (refine slot_hit (N := 136) ?_ (by rfl); (repeat (refine sz_put ?_)); assumption; done) | (apply slot_miss; focus rfl))); all_goals assumption) (by (repeat (first | (refine slot_hit (N := 136) ?_ (by rfl); (repeat (refine sz_put ?_)); assumption; done) | (apply slot_miss; focus rfl))); all_goals assumption) rfl (fun ty => hM.op6 HC3.out.2.2.2.1 HC3.out.2.2.2.2 (by have := HC3.out.2.2.1; simp; omega) ty) (fun v6 w66 hM => ?_)
          refine ⟨fun _ => HSk.out _ hM.b, ?_⟩
          refine wt_one 7 (by kernel_rfl) ?_
          have hxlt := (hM.hx _ rfl).1.lt
          obtain ⟨A6, k6, e6, hI6⟩ := (hM.ho _ _ rfl).ill hM.b.size
          rw [List.nil_append] at e6 hI6
          rw [← HC5.out] at e6
          subst e6
          refine wu_call2 7 54 60 rfl rfl rfl (by (repeat (first | (refine slot_hit (N := 136) ?_ (by rfl); (repeat (refine sz_put ?_)); assumption; done) | (apply slot_miss; focus rfl))); all_goals assumption) (by (repeat (first | (refine slot_hit (N := 136) ?_ (by rfl); (repeat (refine sz_put ?_)); assumption; done) | (apply slot_miss; focus rfl))); all_goals assumption) (f := ?_) (args := ?_) (fun ev hk hkf hv0 hv1 => ?_) ?_; rotate_left 2; focus (go_simp; first | rfl | (constructor <;> rfl))
          refine (D2 _ (bn HB3.out.2.1 hM.b) _ _ hI6).mono ?_
          rintro e w7 ⟨A7, k7, B7, q7, rfl, hN7, hb7⟩
          have hM := hM.on hb7
          clear hI6 hb7
          refine ⟨_, rfl, fun _ => HSk.out _ hM.b, ?_⟩
          have hS0 := HSk.out _ hM.b
          (refine wt_move 8 61 rfl rfl (by kernel_rfl) (by kernel_rfl) (by kernel_rfl) (by kernel_rfl) (fun _ _ _ h => h) rfl hS0 (by (repeat (first | (refine slot_hit (N := 136) ?_ (by rfl); (repeat (refine sz_put ?_)); assumption; done) | (apply slot_miss; focus rfl))); all_goals assumption) rfl ?_); (refine wt_take1 9 53 (v := ?_) rfl rfl (by kernel_rfl) (by kernel_rfl) (by kernel_rfl) (by kernel_rfl) (fun _ _ _ h => h) rfl hS0 (by (repeat (first | (refine slot_hit (N := 136) ?_ (by rfl); (repeat (refine sz_put ?_)); assumption; done) | (apply slot_miss; focus rfl))); all_goals assumption) (fun ev hk hv0 w hS => ?_) ?_; rotate_left; focus (obtain ⟨j0, j1, j2⟩ := hS; go_simp; rfl)); (refine wt_take1 10 53 (v := ?_) rfl rfl (by kernel_rfl) (by kernel_rfl) (by kernel_rfl) (by kernel_rfl) (fun _ _ _ h => h) rfl hS0 (by (repeat (first | (refine slot_hit (N := 136) ?_ (by rfl); (repeat (refine sz_put ?_)); assumption; done) | (apply slot_miss; focus rfl))); all_goals assumption) (fun ev hk hv0 w hS => ?_) ?_; rotate_left; focus (obtain ⟨j0, j1, j2⟩ := hS; go_simp; rfl)); (refine wt_take1 11 53 (v := ?_) rfl rfl (by kernel_rfl) (by kernel_rfl) (by kernel_rfl) (by kernel_rfl) (fun _ _ _ h => h) rfl hS0 (by (repeat (first | (refine slot_hit (N := 136) ?_ (by rfl); (repeat (refine sz_put ?_)); assumption; done) | (apply slot_miss; focus rfl))); all_goals assumption) (fun ev hk hv0 w hS => ?_) ?_; rotate_left; focus (obtain ⟨j0, j1, j2⟩ := hS; go_simp; rfl))
          obtain ⟨hxb, hxg⟩ := hM.hx _ rfl
          obtain ⟨f0, f1, f2, e0, e1, e2⟩ := And.intro (hxb.cell 0) (And.intro (hxb.cell 1) (And.intro (hxb.cell 2) (And.intro (hxb.fz 0) (And.intro (hxb.fz 1) (hxb.fz 2)))))
          refine wt_act2 13 13 62 (by kernel_rfl) rfl rfl rfl (by (repeat (first | (refine slot_hit (N := 136) ?_ (by rfl); (repeat (refine sz_put ?_)); assumption; done) | (apply slot_miss; focus rfl))); all_goals assumption) (by (repeat (first | (refine slot_hit (N := 136) ?_ (by rfl); (repeat (refine sz_put ?_)); assumption; done) | (apply slot_miss; focus rfl))); all_goals assumption) (w' := ?_) (fun ev hk hv0 hv1 => ?_) ?_; rotate_left; focus (go_simp; rfl)
          have hB9 := st3_below hM.b hxg (.int .i64 v) (.slice A7 n2 k7) (.slice B7 m q7)
          have hS0 := HSk.out _ hB9
          unfold st3 at hS0
          refine ⟨fun _ => hS0, ?_⟩
          (refine wt_assign 14 63 rfl rfl (by kernel_rfl) (by kernel_rfl) (by kernel_rfl) (by kernel_rfl) (fun _ _ _ h => h) rfl hS0 (by (repeat (first | (refine slot_hit (N := 136) ?_ (by rfl); (repeat (refine sz_put ?_)); assumption; done) | (apply slot_miss; focus rfl))); all_goals assumption) rfl ?_); (refine wt_assign 15 64 rfl rfl (by kernel_rfl) (by kernel_rfl) (by kernel_rfl) (by kernel_rfl) (fun _ _ _ h => h) rfl hS0 (by (repeat (first | (refine slot_hit (N := 136) ?_ (by rfl); (repeat (refine sz_put ?_)); assumption; done) | (apply slot_miss; focus rfl))); all_goals assumption) rfl ?_)
          refine wt_done (by kernel_rfl) (NoPanic.normal ?_) _
          have ha := HA.out
          subst ha
          have hN9 := (hN7.st3 hxlt (.int .i64 v) (.slice A7 n2 k7) (.slice B7 m q7)).low (Nat.zero_le _)
          have hB0 : Bs _ _ _ _ _ := ⟨st3_has hxb (.int .i64 v) (.slice A7 n2 k7) (.slice B7 m q7)⟩
          have HU := Lib.hid (And.intro hB9 (And.intro hB0 hN9))
          unfold st3 at HU
          clear hZ hs1 hs2 hs4 hS0 hM hxb f0 f1 f2 e0 e1 e2 hN9 hN7 hB9 hB0 hxg hxlt
          go_wp2
          go_meet
          exact ⟨_, _, _, _, _, rfl, rfl, rfl, HU.out⟩
      · skip
        refine wu_val1 5 58 rfl rfl rfl (by (repeat (first | (refine slot_hit (N := 136) ?_ (by rfl); (repeat (refine sz_put ?_)); assumption; done) | (apply slot_miss; focus rfl))); all_goals assumption) (v := ?_) (w' := ?_) (fun ev hk hv0 => ?_) ?_; rotate_left 2; focus (go_simp; first | rfl | (constructor <;> rfl))
        intro W1 hW1
        have hM := hM.op5 hW1
        clear hW1
        refine ⟨fun _ => HSk.out _ hM.b, ?_⟩
        refine wt_one 1 (by kernel_rfl) ?_
        refine wu_val 1 rfl rfl rfl (v := ?_) (w' := ?_) (fun ev hk => ?_) ?_; rotate_left 2; focus (go_simp; first | rfl | (constructor <;> rfl))
        intro W1 hW1
        have hM := hM.op1 hW1
        clear hW1
        refine ⟨fun _ => HSk.out _ hM.b, ?_⟩
        refine wt_one 3 (by kernel_rfl) ?_
        refine wu_app 3 55 56 rfl rfl rfl (by (repeat (first | (refine slot_hit (N := 136) ?_ (by rfl); (repeat (refine sz_put ?_)); assumption; done) | (apply slot_miss; focus rfl))); all_goals assumption) (by (repeat (first | (refine slot_hit (N := 136) ?_ (by rfl); (repeat (refine sz_put ?_)); assumption; done) | (apply slot_miss; focus rfl))); all_goals assumption) rfl (fun ty => hM.op3 HC3.out.1 HC3.out.2.1 HC3.out.2.2.1 (by simp) ty) (fun v3 w33 hM => ?_)
        refine ⟨fun _ => HSk.out _ hM.b, ?_⟩
        refine wt_one 6 (by kernel_rfl) ?_
        refine wu_app 6 57 59 rfl rfl rfl (by (repeat (first | (refine slot_hit (N := 136) ?_ (by rfl); (repeat (refine sz_put ?_)); assumption; done) | (apply slot_miss; focus rfl))); all_goals assumption) (by (repeat (first | (refine slot_hit (N := 136) ?_ (by rfl); (repeat (refine sz_put ?_)); assumption; done) | (apply slot_miss; focus rfl))); all_goals assumption) rfl (fun ty => hM.op6 HC3.out.2.2.2.1 HC3.out.2.2.2.2 (by have := HC3.out.2.2.1; simp; omega) ty) (fun v6 w66 hM => ?_)
        refine ⟨fun _ => HSk.out _ hM.b, ?_⟩
        refine wt_one 7 (by kernel_rfl) ?_
        have hxlt := (hM.hx _ rfl).1.lt
        obtain ⟨A6, k6, e6, hI6⟩ := (hM.ho _ _ rfl).ill hM.b.size
        rw [List.nil_append] at e6 hI6
        rw [← HC5.out] at e6
        subst e6
        refine wu_call2 7 54 60 rfl rfl rfl (by (repeat (first | (refine slot_hit (N := 136) ?_ (by rfl); (repeat (refine sz_put ?_)); assumption; done) | (apply slot_miss; focus rfl))); all_goals assumption) (by (repeat (first | (refine slot_hit (N := 136) ?_ (by rfl); (repeat (refine sz_put ?_)); assumption; done) | (apply slot_miss; focus rfl))); all_goals assumption) (f := ?_) (args := ?_) (fun ev hk hkf hv0 hv1 => ?_) ?_; rotate_left 2; focus (go_simp; first | rfl | (constructor <;> rfl))
        refine (D2 _ (bn HB3.out.2.1 hM.b) _ _ hI6).mono ?_
        rintro e w7 ⟨A7, k7, B7, q7, rfl, hN7, hb7⟩
        have hM := hM.on hb7
        clear hI6 hb7
        refine ⟨_, rfl, fun _ => HSk.out _ hM.b, ?_⟩
        have hS0 := HSk.out _ hM.b
        (refine wt_move 8 61 rfl rfl (by kernel_rfl) (by kernel_rfl) (by kernel_rfl) (by kernel_rfl) (fun _ _ _ h => h) rfl hS0 (by (repeat (first | (refine slot_hit (N := 136) ?_ (by rfl); (repeat (refine sz_put ?_)); assumption; done) | (apply slot_miss; focus rfl))); all_goals assumption) rfl ?_); (refine wt_take1 9 53 (v := ?_) rfl rfl (by kernel_rfl) (by kernel_rfl) (by kernel_rfl) (by kernel_rfl) (fun _ _ _ h => h) rfl hS0 (by (repeat (first | (refine slot_hit (N := 136) ?_ (by rfl); (repeat (refine sz_put ?_)); assumption; done) | (apply slot_miss; focus rfl))); all_goals assumption) (fun ev hk hv0 w hS => ?_) ?_; rotate_left; focus (obtain ⟨j0, j1, j2⟩ := hS; go_simp; rfl)); (refine wt_take1 10 53 (v := ?_) rfl rfl (by kernel_rfl) (by kernel_rfl) (by kernel_rfl) (by kernel_rfl) (fun _ _ _ h => h) rfl hS0 (by (repeat (first | (refine slot_hit (N := 136) ?_ (by rfl); (repeat (refine sz_put ?_)); assumption; done) | (apply slot_miss; focus rfl))); all_goals assumption) (fun ev hk hv0 w hS => ?_) ?_; rotate_left; focus (obtain ⟨j0, j1, j2⟩ := hS; go_simp; rfl)); (refine wt_take1 11 53 (v := ?_) rfl rfl (by kernel_rfl) (by kernel_rfl) (by kernel_rfl) (by kernel_rfl) (fun _ _ _ h => h) rfl hS0 (by (repeat (first | (refine slot_hit (N := 136) ?_ (by rfl); (repeat (refine sz_put ?_)); assumption; done) | (apply slot_miss; focus rfl))); all_goals assumption) (fun ev hk hv0 w hS => ?_) ?_; rotate_left; focus (obtain ⟨j0, j1, j2⟩ := hS; go_simp; rfl))
        obtain ⟨hxb, hxg⟩ := hM.hx _ rfl
        obtain ⟨f0, f1, f2, e0, e1, e2⟩ := And.intro (hxb.cell 0) (And.intro (hxb.cell 1) (And.intro (hxb.cell 2) (And.intro (hxb.fz 0) (And.intro (hxb.fz 1) (hxb.fz 2)))))
        refine wt_act2 13 13 62 (by kernel_rfl) rfl rfl rfl (by (repeat (first | (refine slot_hit (N := 136) ?_ (by rfl); (repeat (refine sz_put ?_)); assumption; done) | (apply slot_miss; focus rfl))); all_goals assumption) (by (repeat (first | (refine slot_hit (N := 136) ?_ (by rfl); (repeat (refine sz_put ?_)); assumption; done) | (apply slot_miss; focus rfl))); all_goals assumption) (w' := ?_) (fun ev hk hv0 hv1 => ?_) ?_; rotate_left; focus (go_simp; rfl)
        have hB9 := st3_below hM.b hxg (.int .i64 v) (.slice A7 n2 k7) (.slice B7 m q7)
        have hS0 := HSk.out _ hB9
        unfold st3 at hS0
        refine ⟨fun _ => hS0, ?_⟩
        (refine wt_assign 14 63 rfl rfl (by kernel_rfl) (by kernel_rfl) (by kernel_rfl) (by kernel_rfl) (fun _ _ _ h => h) rfl hS0 (by (repeat (first | (refine slot_hit (N := 136) ?_ (by rfl); (repeat (refine sz_put ?_)); assumption; done) | (apply slot_miss; focus rfl))); all_goals assumption) rfl ?_); (refine wt_assign 15 64 rfl rfl (by kernel_rfl) (by kernel_rfl) (by kernel_rfl) (by kernel_rfl) (fun _ _ _ h => h) rfl hS0 (by (repeat (first | (refine slot_hit (N := 136) ?_ (by rfl); (repeat (refine sz_put ?_)); assumption; done) | (apply slot_miss; focus rfl))); all_goals assumption) rfl ?_)
        refine wt_done (by kernel_rfl) (NoPanic.normal ?_) _
        have ha := HA.out
        subst ha
        have hN9 := (hN7.st3 hxlt (.int .i64 v) (.slice A7 n2 k7) (.slice B7 m q7)).low (Nat.zero_le _)
        have hB0 : Bs _ _ _ _ _ := ⟨st3_has hxb (.int .i64 v) (.slice A7 n2 k7) (.slice B7 m q7)⟩
        have HU := Lib.hid (And.intro hB9 (And.intro hB0 hN9))
        unfold st3 at HU
        clear hZ hs1 hs2 hs4 hS0 hM hxb f0 f1 f2 e0 e1 e2 hN9 hN7 hB9 hB0 hxg hxlt
        go_wp2
        go_meet
        exact ⟨_, _, _, _, _, rfl, rfl, rfl, HU.out⟩
  case rest =>
    obtain ⟨gy, A4, k4, B4, q4, rfl, rfl, rfl, hU⟩ := hcut
    obtain ⟨wa, hwa⟩ : ∃ wa, wa = wc := ⟨_, rfl⟩
    subst hwa
    have HU := Lib.hid (And.intro (HB3.out.1.on hU.1) (And.intro (bn HB3.out.2.1 hU.1) (And.intro (HB3.out.2.2.1.on hU.1) (And.intro (HB3.out.2.2.2.on hU.1) (And.intro hU.2.1 hU.2.2)))))
    clear hU D2
    obtain ⟨c30, c31, c32⟩ := HU.out.1.c
    obtain ⟨d30, d31, d32⟩ := HU.out.2.2.2.1.c
    obtain ⟨e30, e31, e32⟩ := HU.out.2.2.2.2.1.c
    have DL := fun (W : World) => rLit_any v li (by have := HX.out.1.ok.1; omega) W
    have DP := rPart_any A3 x k3 A4 y k4 wa.heap.size wa HU.out.2.2.1.ti (by have := HX.out.1.hn1; omega) HU.out.2.2.2.2.2.ti (by have := HX.out.2.hn; have := HX.out.2.n4; omega)
    rw [← HX.out.1.hn1, ← HX.out.2.hn] at DP
    by_cases hbn : b < 0
    case pos =>
      have han := HX.out.2.sg hbn
      have b1 : decide (b < 0) = true := decide_eq_true (by omega)
      have b2 : decide (0 ≤ b) = false := decide_eq_false (by omega)
      have a1 : decide (a < 0) = true := decide_eq_true (by omega)
      have a2 : decide (0 ≤ a) = false := decide_eq_false (by omega)
      rw [HX.out.2.sm (by omega)] at DP
      cases hlit : isL v li with
      | false =>
        rw [hlit] at DL
        clear hlit
        go_wp2_with (first
          | (go_at_call 26; (with_reducible refine DP.mono ?_); rintro e wz ⟨rfl, rfl⟩)
          | (go_at_call 27; (with_reducible refine (DL _).mono ?_); rintro e wz ⟨rfl, rfl⟩))
        go_ret
        exact ⟨rfl, HU.out.2.1⟩
      | true =>
        rw [hlit] at DL
        have DI := fun (W : World) (hb : Below wa.heap.size wa W) => rIs_any v v hv4 A t k B m q li W ((HC.out.2.2.1.on (bn HU.out.2.1 hb)).ti) (by have := HX.out.1.hn; have := HX.out.1.n2; omega) HX.out.1.ok.2.1 hlit
        rw [← HX.out.1.hn] at DI
        by_cases his : isv t li = 2
        case neg =>
          have hi2 : (isv t li != 2) = true := by simpa using his
          generalize isv t li = iz at DI hi2
          clear hlit his
          go_wp2_with (first
            | (go_at_call 26; (with_reducible refine DP.mono ?_); rintro e wz ⟨rfl, rfl⟩)
            | (go_at_call 27; (with_reducible refine (DL _).mono ?_); rintro e wz ⟨rfl, rfl⟩)
            | (go_at_call 28; (with_reducible refine (DI _ (Below.refl _ _)).mono ?_); rintro e w4 ⟨rfl, hb4⟩
               have HU4 := Lib.hid (And.intro (HU.out.1.on hb4) (And.intro (bn HU.out.2.1 hb4) (And.intro (HU.out.2.2.1.on hb4) (HU.out.2.2.2.1.on hb4))))
               obtain ⟨c40, c41, c42⟩ := HU4.out.1.c
               clear hb4))
          go_ret
          exact ⟨rfl, HU4.out.2.1⟩
        rw [his] at DI
        obtain ⟨z, d, n3, hz⟩ := Zx.mk' HX.out.1 hlit his
        have HZ := Lib.hid hz
        have DW := fun (W : World) (hb : Below w.heap.size w W) => (HC.out.2.2.1.on hb).withT (by have := HX.out.1.n2; omega) (by have := HX.out.1.m2; omega) v li
        have D3 := fun (b0 : Nat) (A' : Option Addr) (k' : Nat) (B' : Option Addr) (q' : Nat) (W : World) (hb : Below w.heap.size w W) (h : Nw b0 W A' (n + 1) k' (t ++ [li]) B' (m + 1) q' (s ++ [(n : Int)])) => h.run (v := v) (by have := HX.out.1.m2; omega) (by have := hz.ok; rw [← HX.out.1.hn] at this; exact this) (HC.out.1.on hb) HX.out.1.okL (by have := HC.out.2.2.2.2.1; omega) (HC.out.2.2.2.1.next hb) (n' := n3) (by rw [hz.up]; exact hz.hn) HC.out.2.2.2.2.1
        rw [hz.up] at D3
        have hsg := hz.sg
        have hsm := hz.sm
        clear hz hlit his
        by_cases hd : d < 0
        case pos =>
          have d1 : decide (d < 0) = true := decide_eq_true (by omega)
          have d2 : decide (0 ≤ d) = false := decide_eq_false (by omega)
          have hpz := hsm hd
          clear hsg hsm hd
          go_wp2_with (first
            | (go_at_call 26; (with_reducible refine DP.mono ?_); rintro e wz ⟨rfl, rfl⟩)
            | (go_at_call 27; (with_reducible refine (DL _).mono ?_); rintro e wz ⟨rfl, rfl⟩)
            | (go_at_call 28; (with_reducible refine (DI _ (Below.refl _ _)).mono ?_); rintro e w4 ⟨rfl, hb4⟩
               have HU4 := Lib.hid (And.intro (HU.out.1.on hb4) (And.intro (bn HU.out.2.1 hb4) (And.intro (HU.out.2.2.1.on hb4) (HU.out.2.2.2.1.on hb4))))
               obtain ⟨c40, c41, c42⟩ := HU4.out.1.c
               clear hb4)
            | (go_at_call 29; (with_reducible refine (DW _ HU4.out.2.1).mono ?_); rintro e w5 ⟨A5, k5, B5, q5, rfl, hN5, hb5⟩
               have HU5 := Lib.hid (And.intro (bn HU4.out.2.1 hb5) (And.intro (HU4.out.2.2.1.on hb5) (And.intro (HU4.out.2.2.2.on hb5) hN5)))
               clear hN5 hb5)
            | (go_at_call 14; (with_reducible refine (D3 _ _ _ _ _ _ HU5.out.1 HU5.out.2.2.2).mono ?_); rintro e w6 ⟨A6, k6, B6, q6, rfl, hN6, hb6⟩
               have hz := bx_on w6 (.cells #[.int .i64 v, .slice A6 n3 k6, .slice B6 (m + 1) q6] 24)
               have HU6 := Lib.hid (And.intro (bn (bn HU5.out.1 hb6) hz) (And.intro ((HU5.out.2.1.on hb6).on hz) (And.intro ((HU5.out.2.2.1.on hb6).on hz) (And.intro (hN6.on hz) (Bs.new w6 (.int .i64 v) (.slice A6 n3 k6) (.slice B6 (m + 1) q6))))))
               obtain ⟨c60, c61, c62⟩ := HU6.out.2.2.1.c
               obtain ⟨d60, d61, d62⟩ := HU6.out.2.2.2.2.c
               have DQ := rPart_any A3 x k3 A6 z k6 _ _ HU6.out.2.1.ti (by have := HX.out.1.hn1; omega) HU6.out.2.2.2.1.ti (by have := HZ.out.hn; have := HZ.out.n4; omega)
               rw [← HX.out.1.hn1, ← HZ.out.hn] at DQ
               rw [hpz] at DQ
               clear hN6 hb6 hz)
            | (go_at_call 26; (with_reducible refine DQ.mono ?_); rintro e wz ⟨rfl, rfl⟩))
          go_ret
          exact ⟨rfl, HU6.out.1⟩
        case neg =>
          have d1 : decide (d < 0) = false := decide_eq_false (by omega)
          have d2 : decide (0 ≤ d) = true := decide_eq_true (by omega)
          clear hsg hsm hd
          go_wp2_with (first
            | (go_at_call 26; (with_reducible refine DP.mono ?_); rintro e wz ⟨rfl, rfl⟩)
            | (go_at_call 27; (with_reducible refine (DL _).mono ?_); rintro e wz ⟨rfl, rfl⟩)
            | (go_at_call 28; (with_reducible refine (DI _ (Below.refl _ _)).mono ?_); rintro e w4 ⟨rfl, hb4⟩
               have HU4 := Lib.hid (And.intro (HU.out.1.on hb4) (And.intro (bn HU.out.2.1 hb4) (And.intro (HU.out.2.2.1.on hb4) (HU.out.2.2.2.1.on hb4))))
               obtain ⟨c40, c41, c42⟩ := HU4.out.1.c
               clear hb4)
            | (go_at_call 29; (with_reducible refine (DW _ HU4.out.2.1).mono ?_); rintro e w5 ⟨A5, k5, B5, q5, rfl, hN5, hb5⟩
               have HU5 := Lib.hid (And.intro (bn HU4.out.2.1 hb5) (And.intro (HU4.out.2.2.1.on hb5) (And.intro (HU4.out.2.2.2.on hb5) hN5)))
               clear hN5 hb5)
            | (go_at_call 14; (with_reducible refine (D3 _ _ _ _ _ _ HU5.out.1 HU5.out.2.2.2).mono ?_); rintro e w6 ⟨A6, k6, B6, q6, rfl, hN6, hb6⟩
               have hz := bx_on w6 (.cells #[.int .i64 v, .slice A6 n3 k6, .slice B6 (m + 1) q6] 24)
               have HU6 := Lib.hid (And.intro (bn (bn HU5.out.1 hb6) hz) (And.intro ((HU5.out.2.1.on hb6).on hz) (And.intro ((HU5.out.2.2.1.on hb6).on hz) (And.intro (hN6.on hz) (Bs.new w6 (.int .i64 v) (.slice A6 n3 k6) (.slice B6 (m + 1) q6))))))
               obtain ⟨c60, c61, c62⟩ := HU6.out.2.2.1.c
               obtain ⟨d60, d61, d62⟩ := HU6.out.2.2.2.2.c
               have DQ := rPart_any A3 x k3 A6 z k6 _ _ HU6.out.2.1.ti (by have := HX.out.1.hn1; omega) HU6.out.2.2.2.1.ti (by have := HZ.out.hn; have := HZ.out.n4; omega)
               rw [← HX.out.1.hn1, ← HZ.out.hn] at DQ
               clear hN6 hb6 hz))
          go_ret
          exact ⟨rfl, HU6.out.1⟩
    case neg =>
      by_cases han : a < 0
      case pos =>
        have b1 : decide (b < 0) = false := decide_eq_false (by omega)
        have b2 : decide (0 ≤ b) = true := decide_eq_true (by omega)
        have a1 : decide (a < 0) = true := decide_eq_true (by omega)
        have a2 : decide (0 ≤ a) = false := decide_eq_false (by omega)
        cases hlit : isL v li with
        | false =>
          rw [hlit] at DL
          clear hlit
          go_wp2_with (first
            | (go_at_call 27; (with_reducible refine (DL _).mono ?_); rintro e wz ⟨rfl, rfl⟩))
          go_ret
          exact ⟨rfl, HU.out.2.1⟩
        | true =>
          rw [hlit] at DL
          have DI := fun (W : World) (hb : Below wa.heap.size wa W) => rIs_any v v hv4 A t k B m q li W ((HC.out.2.2.1.on (bn HU.out.2.1 hb)).ti) (by have := HX.out.1.hn; have := HX.out.1.n2; omega) HX.out.1.ok.2.1 hlit
          rw [← HX.out.1.hn] at DI
          by_cases his : isv t li = 2
          case neg =>
            have hi2 : (isv t li != 2) = true := by simpa using his
            generalize isv t li = iz at DI hi2
            clear hlit his
            go_wp2_with (first
              | (go_at_call 27; (with_reducible refine (DL _).mono ?_); rintro e wz ⟨rfl, rfl⟩)
              | (go_at_call 28; (with_reducible refine (DI _ (Below.refl _ _)).mono ?_); rintro e w4 ⟨rfl, hb4⟩
                 have HU4 := Lib.hid (And.intro (HU.out.1.on hb4) (And.intro (bn HU.out.2.1 hb4) (And.intro (HU.out.2.2.1.on hb4) (HU.out.2.2.2.1.on hb4))))
                 obtain ⟨c40, c41, c42⟩ := HU4.out.1.c
                 clear hb4))
            go_ret
            exact ⟨rfl, HU4.out.2.1⟩
          rw [his] at DI
          obtain ⟨z, d, n3, hz⟩ := Zx.mk' HX.out.1 hlit his
          have HZ := Lib.hid hz
          have DW := fun (W : World) (hb : Below w.heap.size w W) => (HC.out.2.2.1.on hb).withT (by have := HX.out.1.n2; omega) (by have := HX.out.1.m2; omega) v li
          have D3 := fun (b0 : Nat) (A' : Option Addr) (k' : Nat) (B' : Option Addr) (q' : Nat) (W : World) (hb : Below w.heap.size w W) (h : Nw b0 W A' (n + 1) k' (t ++ [li]) B' (m + 1) q' (s ++ [(n : Int)])) => h.run (v := v) (by have := HX.out.1.m2; omega) (by have := hz.ok; rw [← HX.out.1.hn] at this; exact this) (HC.out.1.on hb) HX.out.1.okL (by have := HC.out.2.2.2.2.1; omega) (HC.out.2.2.2.1.next hb) (n' := n3) (by rw [hz.up]; exact hz.hn) HC.out.2.2.2.2.1
          rw [hz.up] at D3
          have hsg := hz.sg
          have hsm := hz.sm
          clear hz hlit his
          by_cases hd : d < 0
          case pos =>
            have d1 : decide (d < 0) = true := decide_eq_true (by omega)
            have d2 : decide (0 ≤ d) = false := decide_eq_false (by omega)
            have hpz := hsm hd
            clear hsg hsm hd
            go_wp2_with (first
              | (go_at_call 27; (with_reducible refine (DL _).mono ?_); rintro e wz ⟨rfl, rfl⟩)
              | (go_at_call 28; (with_reducible refine (DI _ (Below.refl _ _)).mono ?_); rintro e w4 ⟨rfl, hb4⟩
                 have HU4 := Lib.hid (And.intro (HU.out.1.on hb4) (And.intro (bn HU.out.2.1 hb4) (And.intro (HU.out.2.2.1.on hb4) (HU.out.2.2.2.1.on hb4))))
                 obtain ⟨c40, c41, c42⟩ := HU4.out.1.c
                 clear hb4)
              | (go_at_call 29; (with_reducible refine (DW _ HU4.out.2.1).mono ?_); rintro e w5 ⟨A5, k5, B5, q5, rfl, hN5, hb5⟩
                 have HU5 := Lib.hid (And.intro (bn HU4.out.2.1 hb5) (And.intro (HU4.out.2.2.1.on hb5) (And.intro (HU4.out.2.2.2.on hb5) hN5)))
                 clear hN5 hb5)
              | (go_at_call 14; (with_reducible refine (D3 _ _ _ _ _ _ HU5.out.1 HU5.out.2.2.2).mono ?_); rintro e w6 ⟨A6, k6, B6, q6, rfl, hN6, hb6⟩
                 have hz := bx_on w6 (.cells #[.int .i64 v, .slice A6 n3 k6, .slice B6 (m + 1) q6] 24)
                 have HU6 := Lib.hid (And.intro (bn (bn HU5.out.1 hb6) hz) (And.intro ((HU5.out.2.1.on hb6).on hz) (And.intro ((HU5.out.2.2.1.on hb6).on hz) (And.intro (hN6.on hz) (Bs.new w6 (.int .i64 v) (.slice A6 n3 k6) (.slice B6 (m + 1) q6))))))
                 obtain ⟨c60, c61, c62⟩ := HU6.out.2.2.1.c
                 obtain ⟨d60, d61, d62⟩ := HU6.out.2.2.2.2.c
                 have DQ := rPart_any A3 x k3 A6 z k6 _ _ HU6.out.2.1.ti (by have := HX.out.1.hn1; omega) HU6.out.2.2.2.1.ti (by have := HZ.out.hn; have := HZ.out.n4; omega)
                 rw [← HX.out.1.hn1, ← HZ.out.hn] at DQ
                 rw [hpz] at DQ
                 clear hN6 hb6 hz)
              | (go_at_call 26; (with_reducible refine DQ.mono ?_); rintro e wz ⟨rfl, rfl⟩))
            go_ret
            exact ⟨rfl, HU6.out.1⟩
          case neg =>
            have d1 : decide (d < 0) = false := decide_eq_false (by omega)
            have d2 : decide (0 ≤ d) = true := decide_eq_true (by omega)
            clear hsg hsm hd
            go_wp2_with (first
              | (go_at_call 27; (with_reducible refine (DL _).mono ?_); rintro e wz ⟨rfl, rfl⟩)
              | (go_at_call 28; (with_reducible refine (DI _ (Below.refl _ _)).mono ?_); rintro e w4 ⟨rfl, hb4⟩
                 have HU4 := Lib.hid (And.intro (HU.out.1.on hb4) (And.intro (bn HU.out.2.1 hb4) (And.intro (HU.out.2.2.1.on hb4) (HU.out.2.2.2.1.on hb4))))
                 obtain ⟨c40, c41, c42⟩ := HU4.out.1.c
                 clear hb4)
              | (go_at_call 29; (with_reducible refine (DW _ HU4.out.2.1).mono ?_); rintro e w5 ⟨A5, k5, B5, q5, rfl, hN5, hb5⟩
                 have HU5 := Lib.hid (And.intro (bn HU4.out.2.1 hb5) (And.intro (HU4.out.2.2.1.on hb5) (And.intro (HU4.out.2.2.2.on hb5) hN5)))
                 clear hN5 hb5)
              | (go_at_call 14; (with_reducible refine (D3 _ _ _ _ _ _ HU5.out.1 HU5.out.2.2.2).mono ?_); rintro e w6 ⟨A6, k6, B6, q6, rfl, hN6, hb6⟩
                 have hz := bx_on w6 (.cells #[.int .i64 v, .slice A6 n3 k6, .slice B6 (m + 1) q6] 24)
                 have HU6 := Lib.hid (And.intro (bn (bn HU5.out.1 hb6) hz) (And.intro ((HU5.out.2.1.on hb6).on hz) (And.intro ((HU5.out.2.2.1.on hb6).on hz) (And.intro (hN6.on hz) (Bs.new w6 (.int .i64 v) (.slice A6 n3 k6) (.slice B6 (m + 1) q6))))))
                 obtain ⟨c60, c61, c62⟩ := HU6.out.2.2.1.c
                 obtain ⟨d60, d61, d62⟩ := HU6.out.2.2.2.2.c
                 have DQ := rPart_any A3 x k3 A6 z k6 _ _ HU6.out.2.1.ti (by have := HX.out.1.hn1; omega) HU6.out.2.2.2.1.ti (by have := HZ.out.hn; have := HZ.out.n4; omega)
                 rw [← HX.out.1.hn1, ← HZ.out.hn] at DQ
                 clear hN6 hb6 hz))
            go_ret
            exact ⟨rfl, HU6.out.1⟩
      case neg =>
        have b1 : decide (b < 0) = false := decide_eq_false (by omega)
        have b2 : decide (0 ≤ b) = true := decide_eq_true (by omega)
        have a1 : decide (a < 0) = false := decide_eq_false (by omega)
        have a2 : decide (0 ≤ a) = true := decide_eq_true (by omega)
        cases hlit : isL v li with
        | false =>
          rw [hlit] at DL
          clear hlit
          go_wp2_with (first
            | (go_at_call 27; (with_reducible refine (DL _).mono ?_); rintro e wz ⟨rfl, rfl⟩))
          go_ret
          exact ⟨rfl, HU.out.2.1⟩
        | true =>
          rw [hlit] at DL
          have DI := fun (W : World) (hb : Below wa.heap.size wa W) => rIs_any v v hv4 A t k B m q li W ((HC.out.2.2.1.on (bn HU.out.2.1 hb)).ti) (by have := HX.out.1.hn; have := HX.out.1.n2; omega) HX.out.1.ok.2.1 hlit
          rw [← HX.out.1.hn] at DI
          by_cases his : isv t li = 2
          case neg =>
            have hi2 : (isv t li != 2) = true := by simpa using his
            generalize isv t li = iz at DI hi2
            clear hlit his
            go_wp2_with (first
              | (go_at_call 27; (with_reducible refine (DL _).mono ?_); rintro e wz ⟨rfl, rfl⟩)
              | (go_at_call 28; (with_reducible refine (DI _ (Below.refl _ _)).mono ?_); rintro e w4 ⟨rfl, hb4⟩
                 have HU4 := Lib.hid (And.intro (HU.out.1.on hb4) (And.intro (bn HU.out.2.1 hb4) (And.intro (HU.out.2.2.1.on hb4) (HU.out.2.2.2.1.on hb4))))
                 obtain ⟨c40, c41, c42⟩ := HU4.out.1.c
                 clear hb4))
            go_ret
            exact ⟨rfl, HU4.out.2.1⟩
          rw [his] at DI
          obtain ⟨z, d, n3, hz⟩ := Zx.mk' HX.out.1 hlit his
          have HZ := Lib.hid hz
          have DW := fun (W : World) (hb : Below w.heap.size w W) => (HC.out.2.2.1.on hb).withT (by have := HX.out.1.n2; omega) (by have := HX.out.1.m2; omega) v li
          have D3 := fun (b0 : Nat) (A' : Option Addr) (k' : Nat) (B' : Option Addr) (q' : Nat) (W : World) (hb : Below w.heap.size w W) (h : Nw b0 W A' (n + 1) k' (t ++ [li]) B' (m + 1) q' (s ++ [(n : Int)])) => h.run (v := v) (by have := HX.out.1.m2; omega) (by have := hz.ok; rw [← HX.out.1.hn] at this; exact this) (HC.out.1.on hb) HX.out.1.okL (by have := HC.out.2.2.2.2.1; omega) (HC.out.2.2.2.1.next hb) (n' := n3) (by rw [hz.up]; exact hz.hn) HC.out.2.2.2.2.1
          rw [hz.up] at D3
          have hsg := hz.sg
          have hsm := hz.sm
          clear hz hlit his
          by_cases hd : d < 0
          case pos =>
            exact absurd (hsg hd) (by omega)
          case neg =>
            have d1 : decide (d < 0) = false := decide_eq_false (by omega)
            have d2 : decide (0 ≤ d) = true := decide_eq_true (by omega)
            clear hsg hsm hd
            go_wp2_with (first
              | (go_at_call 27; (with_reducible refine (DL _).mono ?_); rintro e wz ⟨rfl, rfl⟩)
              | (go_at_call 28; (with_reducible refine (DI _ (Below.refl _ _)).mono ?_); rintro e w4 ⟨rfl, hb4⟩
                 have HU4 := Lib.hid (And.intro (HU.out.1.on hb4) (And.intro (bn HU.out.2.1 hb4) (And.intro (HU.out.2.2.1.on hb4) (HU.out.2.2.2.1.on hb4))))
                 obtain ⟨c40, c41, c42⟩ := HU4.out.1.c
                 clear hb4)
              | (go_at_call 29; (with_reducible refine (DW _ HU4.out.2.1).mono ?_); rintro e w5 ⟨A5, k5, B5, q5, rfl, hN5, hb5⟩
                 have HU5 := Lib.hid (And.intro (bn HU4.out.2.1 hb5) (And.intro (HU4.out.2.2.1.on hb5) (And.intro (HU4.out.2.2.2.on hb5) hN5)))
                 clear hN5 hb5)
              | (go_at_call 14; (with_reducible refine (D3 _ _ _ _ _ _ HU5.out.1 HU5.out.2.2.2).mono ?_); rintro e w6 ⟨A6, k6, B6, q6, rfl, hN6, hb6⟩
                 have hz := bx_on w6 (.cells #[.int .i64 v, .slice A6 n3 k6, .slice B6 (m + 1) q6] 24)
                 have HU6 := Lib.hid (And.intro (bn (bn HU5.out.1 hb6) hz) (And.intro ((HU5.out.2.1.on hb6).on hz) (And.intro ((HU5.out.2.2.1.on hb6).on hz) (And.intro (hN6.on hz) (Bs.new w6 (.int .i64 v) (.slice A6 n3 k6) (.slice B6 (m + 1) q6))))))
                 obtain ⟨c60, c61, c62⟩ := HU6.out.2.2.1.c
                 obtain ⟨d60, d61, d62⟩ := HU6.out.2.2.2.2.c
                 have DQ := rPart_any A3 x k3 A6 z k6 _ _ HU6.out.2.1.ti (by have := HX.out.1.hn1; omega) HU6.out.2.2.2.1.ti (by have := HZ.out.hn; have := HZ.out.n4; omega)
                 rw [← HX.out.1.hn1, ← HZ.out.hn] at DQ
                 clear hN6 hb6 hz))
            go_ret
            exact ⟨rfl, HU6.out.1⟩

end Go.Proofs.YtecmldnigohjfaaDoor
