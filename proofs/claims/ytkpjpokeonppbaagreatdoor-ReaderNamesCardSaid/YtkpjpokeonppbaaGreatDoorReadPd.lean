/- The faults of all lines of a text, one kind behind the other: how raw's calls make up the answer. -/
import Derived.Test.YtkpjpokeonppbaaGreatDoorReadPa
import Derived.Test.YtkpjpokeonppbaaGreatDoorReadPb
import Derived.Test.YtkpjpokeonppbaaGreatDoorOrderProg9
import Derived.Test.YtkpjpokeonppbaaGreatDoorOrderPk
import Derived.Test.YtkpjpokeonppbaaGreatDoorGatesFrame
import Derived.Shelf.Vars
import Derived.Stop.LaidErr
import Derived.LaidMore
import Derived.LaidSub
import Derived.Lib.LaidTab
import Derived.Handed
namespace Go.Proofs.YtkpjpokeonppbaaGreatDoor
open Go Go.RowKit
set_option linter.unusedVariables false
set_option linter.unusedSimpArgs false

theorem flt_back {f : Nat × Int} {i m c : Nat} (h : flt6 f i m c = (0, 0)) : f = (0, 0) := by
  unfold flt6 at h
  by_cases e : f = (0, 0)
  · exact e
  · rw [if_neg e] at h; exact h
theorem flt_stay {f : Nat × Int} {i m c : Nat} (h : f ≠ (0, 0)) : flt6 f i m c = f := by
  unfold flt6; rw [if_neg h]
theorem fltZ_back {L : List (List UInt8)} {f : Nat × Int} {i : Nat} (h : fltZ L f i = (0, 0)) : f = (0, 0) := by
  unfold fltZ at h
  by_cases e : f = (0, 0)
  · exact e
  · rw [if_neg e] at h; exact h
theorem fltZ_stay {L : List (List UInt8)} {f : Nat × Int} {i : Nat} (h : f ≠ (0, 0)) : fltZ L f i = f := by
  unfold fltZ; rw [if_neg h]
/-- all kinds, one behind the other -/
theorem raw_flt {L : List (List UInt8)} {n : Ct} (hn : n = ctO (hdr L).2) {f1 f2 f3 f4 f5 f6 f7 f8 : Nat × Int} {i2 i3 i4 i5 i6 i7 : Nat}
    (h1 : f1 = if (hdr L).1 = 0 then (0, 0) else (1, (hdr L).1))
    (h2 : f2 = flt6 f1 1 (hld (fun j => (gL (lnA L (1 + j))).isSome) n.i) n.i) (k2 : f2 = (0, 0) → i2 = 1 + n.i)
    (h3 : f3 = flt6 f2 i2 (hld (fun j => (gT (lnA L (i2 + j))).isSome) n.l) n.l) (k3 : f3 = (0, 0) → i3 = i2 + n.l)
    (h4 : f4 = flt6 f3 i3 (hld (fun j => (gL (lnA L (i3 + j))).isSome) n.o) n.o) (k4 : f4 = (0, 0) → i4 = i3 + n.o)
    (h5 : f5 = flt6 f4 i4 (hld (fun j => (gL (lnA L (i4 + j))).isSome) n.b) n.b) (k5 : f5 = (0, 0) → i5 = i4 + n.b)
    (h6 : f6 = flt6 f5 i5 (hld (fun j => (gL (lnA L (i5 + j))).isSome) n.c) n.c) (k6 : f6 = (0, 0) → i6 = i5 + n.c)
    (h7 : f7 = flt6 f6 i6 (hld (fun j => (gG (lnA L (i6 + j))).isSome) n.a) n.a) (k7 : f7 = (0, 0) → i7 = i6 + n.a)
    (h8 : f8 = fltZ L f7 i7) :
    ltF L = (f8.2, f8.1) ∧ (f8 = (0, 0) → (hdr L).1 = 0 ∧ (f2 = (0, 0) ∧ f3 = (0, 0) ∧ f4 = (0, 0) ∧ f5 = (0, 0) ∧ f6 = (0, 0) ∧ f7 = (0, 0)) ∧ i2 = n.p2 ∧ i3 = n.p3 ∧ i4 = n.p4 ∧ i5 = n.p5 ∧ i6 = n.p6 ∧ i7 = n.p7) := by
  have e2 : n.p2 = 1 + n.i := rfl
  have e3 : n.p3 = 1 + n.i + n.l := rfl
  have e4 : n.p4 = 1 + n.i + n.l + n.o := rfl
  have e5 : n.p5 = 1 + n.i + n.l + n.o + n.b := rfl
  have e6 : n.p6 = 1 + n.i + n.l + n.o + n.b + n.c := rfl
  have e7 : n.p7 = 1 + n.i + n.l + n.o + n.b + n.c + n.a := rfl
  by_cases h0 : (hdr L).1 = 0
  · rw [if_pos h0] at h1
    subst h1
    have s2 := (CC.start L n).step (c := n.i) (ok := fun s => (gL s).isSome) (Nat.le_refl 1) (by omega) (fun j hj => okL_1 hj) h2 k2
    have s3 := s2.step (c := n.l) (ok := fun s => (gT s).isSome) (by omega) (by omega) (fun j hj => okL_2 hj) h3 k3
    have s4 := s3.step (c := n.o) (ok := fun s => (gL s).isSome) (by omega) (by omega) (fun j hj => okL_3 (by omega) (by omega)) h4 k4
    have s5 := s4.step (c := n.b) (ok := fun s => (gL s).isSome) (by omega) (by omega) (fun j hj => okL_3 (by omega) (by omega)) h5 k5
    have s6 := s5.step (c := n.c) (ok := fun s => (gL s).isSome) (by omega) (by omega) (fun j hj => okL_3 (by omega) (by omega)) h6 k6
    have s7 := s6.step (c := n.a) (ok := fun s => (gG s).isSome) (by omega) (by omega) (fun j hj => okL_6) h7 k7
    have s8 : CC L (ctO (hdr L).2) f7 i7 (ctO (hdr L).2).p7 := by rw [← hn]; exact s7
    obtain ⟨r1, r2⟩ := CC.last h0 s8 h8
    refine ⟨r1, fun hz => ?_⟩
    have z7 := (r2 hz).1
    have z6 : f6 = (0, 0) := flt_back (h7.symm.trans z7)
    have z5 : f5 = (0, 0) := flt_back (h6.symm.trans z6)
    have z4 : f4 = (0, 0) := flt_back (h5.symm.trans z5)
    have z3 : f3 = (0, 0) := flt_back (h4.symm.trans z4)
    have z2 : f2 = (0, 0) := flt_back (h3.symm.trans z3)
    have j2 := k2 z2
    have j3 := k3 z3
    have j4 := k4 z4
    have j5 := k5 z5
    have j6 := k6 z6
    have j7 := k7 z7
    exact ⟨h0, ⟨z2, z3, z4, z5, z6, z7⟩, by omega, by omega, by omega, by omega, by omega, by omega⟩
  · rw [if_neg h0] at h1
    have hne : f1 ≠ (0, 0) := by rw [h1]; intro e; exact absurd (congrArg Prod.fst e) (by simp)
    rw [flt_stay hne] at h2
    subst h2
    rw [flt_stay hne] at h3
    subst h3
    rw [flt_stay hne] at h4
    subst h4
    rw [flt_stay hne] at h5
    subst h5
    rw [flt_stay hne] at h6
    subst h6
    rw [flt_stay hne] at h7
    subst h7
    rw [fltZ_stay hne] at h8
    subst h8
    refine ⟨?_, fun h => absurd h hne⟩
    unfold ltF
    rw [if_pos h0, h1]

end Go.Proofs.YtkpjpokeonppbaaGreatDoor

namespace Go.Proofs.YtkpjpokeonppbaaGreatDoor
open Go Go.RowKit
set_option linter.unusedVariables false
set_option linter.unusedSimpArgs false

theorem Env.dn {B : Nat} {w : World} (h : Env B w) (n : Nat) : Env B (w.drewN n) := h.on (below_dn (Below.refl _ _) n)
theorem Has.far6r {w : World} {g b : Nat} {t : TypeId} {cs : Array Value} (h : Has w g t cs) (hne : g ≠ b) (v0 v1 v2 v3 v4 v5 : Value) : Has ((((((w.setCell ⟨b, 0, none⟩ v0).setCell ⟨b, 1, none⟩ v1).setCell ⟨b, 2, none⟩ v2).setCell ⟨b, 3, none⟩ v3).setCell ⟨b, 4, none⟩ v4).setCell ⟨b, 5, none⟩ v5) g t cs :=
  (((((h.far (q := ⟨b, 0, none⟩) hne v0).far (q := ⟨b, 1, none⟩) hne v1).far (q := ⟨b, 2, none⟩) hne v2).far (q := ⟨b, 3, none⟩) hne v3).far (q := ⟨b, 4, none⟩) hne v4).far (q := ⟨b, 5, none⟩) hne v5
/-- raw's boxes: the text's (b), the pointer's (g), the result's (g + 1), the counts' (h), the raw circuit's (r) -/
structure RB (B : Nat) (w W : World) (b : Nat) (A : Option Addr) (k : Nat) (L : List (List UInt8)) (i : Nat) (f : Nat × Int) (g h r : Nat) (ys rs : Array Value) : Prop where
  t : Tx W b A k L i f
  p : Has W g 94 #[.pointer (some ⟨b, 0, none⟩)]
  z : Has W (g + 1) 26 zr
  c : Has W h 96 ys
  rb : Has W r 26 rs
  G : w.grownBy W (some b)
  o : b < g ∧ g + 1 < h ∧ h < r
  E : Env B W
  s : ∀ a, A = some a → a.block < g
  F : f = (0, 0) ∨ 0 < f.1
theorem RB.call {B : Nat} {w W W' : World} {b : Nat} {A : Option Addr} {k : Nat} {L : List (List UInt8)} {i : Nat} {f : Nat × Int} {g h r : Nat} {ys rs : Array Value} (H : RB B w W b A k L i f g h r ys rs) (hB : B ≤ w.heap.size) (hb : B ≤ b) {c m : Nat} {R : World → Value → Prop} {e : Ending} (hE : EachIs W b A k L i f c m R e W') :
    ∃ A' n' k' i' f', e = .returned (.slice A' n' k') ∧ i' ≤ i + c ∧ f' = flt6 f i m c ∧ (f' = (0, 0) → i' = i + c ∧ R W' (.slice A' n' k')) ∧ RB B w W' b A k L i' f' g h r ys rs ∧ W.grownBy W' (some b) := by
  obtain ⟨⟨v, i', rfl, ⟨A', n', k', rfl⟩, hi, hT, hR⟩, hG⟩ := hE
  obtain ⟨o1, o2, o3⟩ := H.o
  refine ⟨A', n', k', i', flt6 f i m c, rfl, hi, rfl, hR, ⟨hT, H.p.keepg hG (by intro e; injection e; omega), H.z.keepg hG (by intro e; injection e; omega), H.c.keepg hG (by intro e; injection e; omega), H.rb.keepg hG (by intro e; injection e; omega), grown_trans H.G hG, H.o, ?_, H.s, flt_or H.F i m c⟩, hG⟩
  exact grown_env H.E (Nat.le_trans hB H.G.size) hb hG
theorem RB.set {B : Nat} {w W : World} {b : Nat} {A : Option Addr} {k : Nat} {L : List (List UInt8)} {i : Nat} {f : Nat × Int} {g h r : Nat} {ys rs : Array Value} (H : RB B w W b A k L i f g h r ys rs) (hg : g = w.heap.size) (hb : B ≤ b) (j : Nat) (v : Value) : RB B w (W.setCell ⟨r, j, none⟩ v) b A k L i f g h r ys (rs.setIfInBounds j v) := by
  obtain ⟨o1, o2, o3⟩ := H.o
  have hp := grown_put W r j v
  refine ⟨H.t.app hp (base := g) (fun x e => by injection e; omega) (by omega) H.s, H.p.far (by show g ≠ r; omega) v, H.z.far (by show g + 1 ≠ r; omega) v, H.c.far (by show h ≠ r; omega) v, H.rb.set j v, grown_app H.G hp (fun x e => by injection e; omega), H.o, ?_, H.s, H.F⟩
  exact H.E.on ((Below.refl B W).setCell (show B ≤ r by omega) v)
theorem RB.lits {B : Nat} {w W : World} {b : Nat} {A : Option Addr} {k : Nat} {L : List (List UInt8)} {i : Nat} {f : Nat × Int} {g h r : Nat} {ys rs : Array Value} (H : RB B w W b A k L i f g h r ys rs) (hg : g = w.heap.size) (hb : B ≤ b) (c : Nat) (x : Int) (hx : x = c) (hc : c ≤ 1000) (hi : i ≤ 20000) (hL : L.length ≤ 60000) (hLn : ∀ j, (lnA L j).length ≤ 100000) :
    Calls Tryz.prog 50 #[.int .i64 x, .pointer (some ⟨g, 0, none⟩)] W
      (EachIs W b A k L i f c (hld (fun j => (gL (lnA L (i + j))).isSome) c) (fun w' v => w'.ownsRow W.heap.size 3 1 v c (intL (fun t => (nm (lnA L (i + t)) 0 : Int)) c))) :=
  lits_any c x hx hc W H.t H.F hi (by omega) hLn H.E hb (fun a ha => by have := H.s a ha; have := H.p.lt; omega) (H.p.cell 0)
theorem RB.trips {B : Nat} {w W : World} {b : Nat} {A : Option Addr} {k : Nat} {L : List (List UInt8)} {i : Nat} {f : Nat × Int} {g h r : Nat} {ys rs : Array Value} (H : RB B w W b A k L i f g h r ys rs) (hg : g = w.heap.size) (hb : B ≤ b) (c : Nat) (x : Int) (hx : x = c) (hc : c ≤ 1000) (hi : i ≤ 20000) (hL : L.length ≤ 60000) (hLn : ∀ j, (lnA L j).length ≤ 100000) :
    Calls Tryz.prog 53 #[.pointer (some ⟨b, 0, none⟩), .int .i64 x, .func (.func 54) #[] #[]] W
      (EachIs W b A k L i f c (hld (fun j => (gT (lnA L (i + j))).isSome) c) (fun w' v => w'.ownsRow W.heap.size 32 3 v c (tripL (fun t => (nm (lnA L (i + t)) 0 : Int)) (fun t => (nm (lnA L (i + t)) 1 : Int)) (fun t => (rs3 (lnA L (i + t)) : Int)) c))) :=
  eachT_any c x hx hc W H.t H.F hi (by omega) hLn H.E hb (fun a ha => by have := H.s a ha; have := H.p.lt; omega)
theorem RB.gates {B : Nat} {w W : World} {b : Nat} {A : Option Addr} {k : Nat} {L : List (List UInt8)} {i : Nat} {f : Nat × Int} {g h r : Nat} {ys rs : Array Value} (H : RB B w W b A k L i f g h r ys rs) (hg : g = w.heap.size) (hb : B ≤ b) (c : Nat) (x : Int) (hx : x = c) (hc : c ≤ 1000) (hi : i ≤ 20000) (hL : L.length ≤ 60000) (hLn : ∀ j, (lnA L j).length ≤ 100000) :
    Calls Tryz.prog 53 #[.pointer (some ⟨b, 0, none⟩), .int .i64 x, .func (.func 55) #[] #[]] W
      (EachIs W b A k L i f c (hld (fun j => (gG (lnA L (i + j))).isSome) c) (fun w' v => w'.ownsRow W.heap.size 32 3 v c (tripL (fun t => (nm (lnA L (i + t)) 0 : Int)) (fun t => (nm (lnA L (i + t)) 1 : Int)) (fun t => (nm (lnA L (i + t)) 2 : Int)) c))) :=
  eachG_any c x hx hc W H.t H.F hi (by omega) hLn H.E hb (fun a ha => by have := H.s a ha; have := H.p.lt; omega)
/-- a list that a call made, later -/
theorem own_far1 {W : World} {base size n r : Nat} {e : TypeId} {v : Value} {xs : List Value} (h : W.ownsRow base e size v n xs) (hr : r < base) (j : Nat) (u : Value) : (W.setCell ⟨r, j, none⟩ u).ownsRow base e size v n xs := own_far h (grown_put W r j u) hr

/-- all its lists lie from block B on -/
def Hi (p : Rp) (B : Nat) : Prop := (∀ a, p.A1 = some a → B ≤ a.block) ∧ (∀ a, p.A2 = some a → B ≤ a.block) ∧ (∀ a, p.A3 = some a → B ≤ a.block) ∧ (∀ a, p.A4 = some a → B ≤ a.block) ∧ ∀ a, p.A5 = some a → B ≤ a.block
theorem Hi.far {p : Rp} {B b : Nat} (h : Hi p B) (hb : b < B) : Far p b := ⟨fun a ha => by have := h.1 a ha; omega, fun a ha => by have := h.2.1 a ha; omega, fun a ha => by have := h.2.2.1 a ha; omega, fun a ha => by have := h.2.2.2.1 a ha; omega, fun a ha => by have := h.2.2.2.2 a ha; omega⟩
/-- behind raw -/
structure RalIs (w : World) (b : Nat) (A : Option Addr) (k : Nat) (L : List (List UInt8)) (e : Ending) (w' : World) : Prop where
  ex : ∃ s p f i', e = .returned (rv s p) ∧ Tx w' b A k L i' f ∧ ltF L = (f.2, f.1) ∧ (f = (0, 0) ∨ 0 < f.1) ∧ (f = (0, 0) → s = rdR L (ctO (hdr L).2) ∧ RMem w' w'.heap.size s p ∧ RNils s p ∧ Hi p w.heap.size)
  g : w.grownBy w' (some b)

/-- a list that counts where there is no fault -/
def OwnF (W : World) (b r : Nat) (f : Nat × Int) (ty : TypeId) (size : Nat) (v : Value) (n : Nat) (xs : List Value) : Prop := f = (0, 0) → ∃ base, r < base ∧ b < base ∧ W.ownsRow base ty size v n xs
theorem OwnF.set {W : World} {b r : Nat} {f : Nat × Int} {ty : TypeId} {size : Nat} {v : Value} {n : Nat} {xs : List Value} (h : OwnF W b r f ty size v n xs) (j : Nat) (u : Value) : OwnF (W.setCell ⟨r, j, none⟩ u) b r f ty size v n xs := fun hf => by
  obtain ⟨base, h1, h2, h3⟩ := h hf
  exact ⟨base, h1, h2, own_far1 h3 h1 j u⟩
theorem OwnF.call {W W' : World} {b r : Nat} {f f' : Nat × Int} {ty : TypeId} {size : Nat} {v : Value} {n : Nat} {xs : List Value} (h : OwnF W b r f ty size v n xs) (hg : W.grownBy W' (some b)) {i m c : Nat} (hf : f' = flt6 f i m c) : OwnF W' b r f' ty size v n xs := fun hz => by
  obtain ⟨base, h1, h2, h3⟩ := h (flt_back (hf.symm.trans hz))
  exact ⟨base, h1, h2, own_far h3 hg h2⟩
theorem OwnF.last {W W' : World} {b r : Nat} {f f' : Nat × Int} {ty : TypeId} {size : Nat} {v : Value} {n : Nat} {xs : List Value} (h : OwnF W b r f ty size v n xs) (hg : W.grownBy W' (some b)) {L : List (List UInt8)} {i : Nat} (hf : f' = fltZ L f i) : OwnF W' b r f' ty size v n xs := fun hz => by
  obtain ⟨base, h1, h2, h3⟩ := h (fltZ_back (hf.symm.trans hz))
  exact ⟨base, h1, h2, own_far h3 hg h2⟩
theorem OwnF.made {W W' : World} {b r : Nat} {f : Nat × Int} {ty : TypeId} {size : Nat} {v : Value} {n i i' c : Nat} {xs : List Value} (h : f = (0, 0) → i' = i + c ∧ W'.ownsRow W.heap.size ty size v n xs) (hr : r < W.heap.size) (hb : b < W.heap.size) : OwnF W' b r f ty size v n xs := fun hz => ⟨_, hr, hb, (h hz).2⟩
theorem RB.lts {B : Nat} {w W : World} {b : Nat} {A : Option Addr} {k : Nat} {L : List (List UInt8)} {i : Nat} {f : Nat × Int} {g h r : Nat} {ys rs : Array Value} (H : RB B w W b A k L i f g h r ys rs) : r < W.heap.size ∧ b < W.heap.size := ⟨H.rb.lt, H.t.h.lt⟩
theorem RB.beh {B : Nat} {w W W' : World} {b : Nat} {A : Option Addr} {k : Nat} {L : List (List UInt8)} {i : Nat} {f : Nat × Int} {g h r : Nat} {ys rs : Array Value} (H : RB B w W b A k L i f g h r ys rs) (hB : B ≤ w.heap.size) (hb : B ≤ b) {e : Ending} (hE : BehIs W b A k L i f e W') :
    ∃ i' f', e = .returned (.tuple #[]) ∧ f' = fltZ L f i ∧ RB B w W' b A k L i' f' g h r ys rs ∧ W.grownBy W' (some b) := by
  obtain ⟨rfl, ⟨i', hT⟩, hG⟩ := hE
  obtain ⟨o1, o2, o3⟩ := H.o
  refine ⟨i', fltZ L f i, rfl, rfl, ⟨hT, H.p.keepg hG (by intro e; injection e; omega), H.z.keepg hG (by intro e; injection e; omega), H.c.keepg hG (by intro e; injection e; omega), H.rb.keepg hG (by intro e; injection e; omega), grown_trans H.G hG, H.o, ?_, H.s, ?_⟩, hG⟩
  · exact grown_env H.E (Nat.le_trans hB H.G.size) hb hG
  · unfold fltZ
    by_cases h0 : f = (0, 0)
    · rw [if_pos h0]
      split
      · right; assumption
      · left; rfl
    · rw [if_neg h0]; exact H.F
/-- what the first line may tell -/
theorem ct_le (L : List (List UInt8)) : (ctO (hdr L).2).m ≤ 1000 ∧ (ctO (hdr L).2).i ≤ 1000 ∧ (ctO (hdr L).2).l ≤ 1000 ∧ (ctO (hdr L).2).o ≤ 1000 ∧ (ctO (hdr L).2).a ≤ 1000 ∧ (ctO (hdr L).2).b ≤ 1000 ∧ (ctO (hdr L).2).c ≤ 1000 := by
  have hz : (ctO []).m ≤ 1000 ∧ (ctO []).i ≤ 1000 ∧ (ctO []).l ≤ 1000 ∧ (ctO []).o ≤ 1000 ∧ (ctO []).a ≤ 1000 ∧ (ctO []).b ≤ 1000 ∧ (ctO []).c ≤ 1000 := by decide
  rw [hdr_one]
  unfold hdr1
  split
  · split
    · exact hz
    · next n _ =>
      split
      · next h =>
        split
        · exact hz
        · have h2 : ∀ i, i < 7 → n.getD i 0 ≤ 1000 := fun i hi => Nat.le_of_ble_eq_true (List.all_eq_true.1 h i (List.mem_range.2 hi))
          exact ⟨h2 0 (by decide), h2 1 (by decide), h2 2 (by decide), h2 3 (by decide), h2 4 (by decide), h2 5 (by decide), h2 6 (by decide)⟩
      · exact hz
  · exact hz
theorem sl_eq {A A' : Option Addr} {n n' k k' : Nat} (h : Value.slice A n k = .slice A' n' k') : A = A' ∧ n = n' ∧ k = k' := by cases h; exact ⟨rfl, rfl, rfl⟩
theorem OwnF.ints {W : World} {b r : Nat} {f : Nat × Int} {ty : TypeId} {A : Option Addr} {m k n : Nat} {x : Nat → Int} (h : OwnF W b r f ty 1 (.slice A m k) n (intL x n)) (hf : f = (0, 0)) : m = n ∧ IntsAt W W.heap.size A n x ∧ (A = none → n = 0 ∧ k = 0) ∧ ∀ a, A = some a → r < a.block := by
  obtain ⟨base, h1, h2, h3⟩ := h hf
  obtain ⟨A', k', e, hI, hN, hF⟩ := own_ints' h3
  obtain ⟨rfl, rfl, rfl⟩ := sl_eq e
  exact ⟨rfl, hI, hN, fun a ha => by have := hF a ha; omega⟩
theorem OwnF.trips {W : World} {b r : Nat} {f : Nat × Int} {ty : TypeId} {A : Option Addr} {m k n : Nat} {x y z : Nat → Int} (h : OwnF W b r f ty 3 (.slice A m k) n (tripL x y z n)) (hf : f = (0, 0)) : m = n ∧ TripsAt W W.heap.size A n x y z ∧ (A = none → n = 0 ∧ k = 0) ∧ ∀ a, A = some a → r < a.block := by
  obtain ⟨base, h1, h2, h3⟩ := h hf
  obtain ⟨A', k', e, hI, hN, hF⟩ := own_trips h3
  obtain ⟨rfl, rfl, rfl⟩ := sl_eq e
  exact ⟨rfl, hI, hN, fun a ha => by have := hF a ha; omega⟩
/-- all that is read, at the end -/
theorem raw_end {W : World} {b r g : Nat} {L : List (List UInt8)} {n : Ct} (hn : n = ctO (hdr L).2) (hgr : g + 1 < r) {f1 f2 f3 f4 f5 f6 f7 f8 : Nat × Int} {i2 i3 i4 i5 i6 i7 : Nat}
    (h1 : f1 = fstF L)
    (h2 : f2 = flt6 f1 1 (hld (fun j => (gL (lnA L (1 + j))).isSome) n.i) n.i) (k2 : f2 = (0, 0) → i2 = 1 + n.i)
    (h3 : f3 = flt6 f2 i2 (hld (fun j => (gT (lnA L (i2 + j))).isSome) n.l) n.l) (k3 : f3 = (0, 0) → i3 = i2 + n.l)
    (h4 : f4 = flt6 f3 i3 (hld (fun j => (gL (lnA L (i3 + j))).isSome) n.o) n.o) (k4 : f4 = (0, 0) → i4 = i3 + n.o)
    (h5 : f5 = flt6 f4 i4 (hld (fun j => (gL (lnA L (i4 + j))).isSome) n.b) n.b) (k5 : f5 = (0, 0) → i5 = i4 + n.b)
    (h6 : f6 = flt6 f5 i5 (hld (fun j => (gL (lnA L (i5 + j))).isSome) n.c) n.c) (k6 : f6 = (0, 0) → i6 = i5 + n.c)
    (h7 : f7 = flt6 f6 i6 (hld (fun j => (gG (lnA L (i6 + j))).isSome) n.a) n.a) (k7 : f7 = (0, 0) → i7 = i6 + n.a)
    (h8 : f8 = fltZ L f7 i7) {A1 A2 A3 A4 A5 A6 : Option Addr} {n1 n2 n3 n4 n5 n6 q1 q2 q3 q4 q5 q6 : Nat}
    (O1 : OwnF W b r f8 3 1 (.slice A1 n1 q1) n.i (intL (fun t => (nm (lnA L (1 + t)) 0 : Int)) n.i))
    (O2 : OwnF W b r f8 32 3 (.slice A2 n2 q2) n.l (tripL (fun t => (nm (lnA L (i2 + t)) 0 : Int)) (fun t => (nm (lnA L (i2 + t)) 1 : Int)) (fun t => (rs3 (lnA L (i2 + t)) : Int)) n.l))
    (O3 : OwnF W b r f8 3 1 (.slice A3 n3 q3) n.o (intL (fun t => (nm (lnA L (i3 + t)) 0 : Int)) n.o))
    (O4 : OwnF W b r f8 3 1 (.slice A4 n4 q4) n.b (intL (fun t => (nm (lnA L (i4 + t)) 0 : Int)) n.b))
    (O5 : OwnF W b r f8 3 1 (.slice A5 n5 q5) n.c (intL (fun t => (nm (lnA L (i5 + t)) 0 : Int)) n.c))
    (O6 : OwnF W b r f8 32 3 (.slice A6 n6 q6) n.a (tripL (fun t => (nm (lnA L (i6 + t)) 0 : Int)) (fun t => (nm (lnA L (i6 + t)) 1 : Int)) (fun t => (nm (lnA L (i6 + t)) 2 : Int)) n.a))
    {A9 : Option Addr} {n9 q9 : Nat} (hz : Value.slice A9 n9 q9 = if n.b = 0 then .slice A3 n3 q3 else .slice A4 n4 q4) {y0 : Int} (hy0 : y0 = n.m) :
    ltF L = (f8.2, f8.1) ∧ ∃ s p, Value.agg #[.int .i64 y0, .slice A1 n1 q1, .slice A2 n2 q2, .slice A6 n6 q6, .slice A9 n9 q9, .slice A5 n5 q5] = rv s p ∧ (f8 = (0, 0) → s = rdR L n ∧ RMem W W.heap.size s p ∧ RNils s p ∧ Hi p (g + 2)) := by
  obtain ⟨r1, r2⟩ := raw_flt hn h1 h2 k2 h3 k3 h4 k4 h5 k5 h6 k6 h7 k7 h8
  refine ⟨r1, ?_⟩
  by_cases h0 : f8 = (0, 0)
  · obtain ⟨_, _, e2, e3, e4, e5, e6, e7⟩ := r2 h0
    rw [e2] at O2
    rw [e3] at O3
    rw [e4] at O4
    rw [e5] at O5
    rw [e6] at O6
    obtain ⟨m1, I1, N1, F1⟩ := O1.ints h0
    obtain ⟨m2, I2, N2, F2⟩ := O2.trips h0
    obtain ⟨m3, I3, N3, F3⟩ := O3.ints h0
    obtain ⟨m4, I4, N4, F4⟩ := O4.ints h0
    obtain ⟨m5, I5, N5, F5⟩ := O5.ints h0
    obtain ⟨m6, I6, N6, F6⟩ := O6.trips h0
    have h9 : n9 = (if n.b = 0 then n.o else n.b) ∧ IntsAt W W.heap.size A9 (if n.b = 0 then n.o else n.b) (fun t => (nm (lnA L ((if n.b = 0 then n.p3 else n.p4) + t)) 0 : Int)) ∧ (A9 = none → (if n.b = 0 then n.o else n.b) = 0 ∧ q9 = 0) ∧ ∀ a, A9 = some a → r < a.block := by
      by_cases hb : n.b = 0
      · rw [if_pos hb] at hz
        obtain ⟨rfl, rfl, rfl⟩ := sl_eq hz
        simp only [if_pos hb]
        exact ⟨m3, I3, N3, F3⟩
      · rw [if_neg hb] at hz
        obtain ⟨rfl, rfl, rfl⟩ := sl_eq hz
        simp only [if_neg hb]
        exact ⟨m4, I4, N4, F4⟩
    obtain ⟨e9, I9, N9, F9⟩ := h9
    refine ⟨rdR L n, ⟨A1, A2, A6, A9, A5, q1, q2, q6, q9, q5⟩, ?_, fun _ => ⟨rfl, ⟨I1, I2, I6, I9, I5⟩, ⟨N1, N2, N6, N9, N5⟩, ⟨fun a ha => by have := F1 a ha; omega, fun a ha => by have := F2 a ha; omega, fun a ha => by have := F6 a ha; omega, fun a ha => by have := F9 a ha; omega, fun a ha => by have := F5 a ha; omega⟩⟩⟩
    rw [hy0, e9, m1, m2, m5, m6]
    rfl
  · exact ⟨⟨y0, n1, n2, n6, n9, n5, fun _ => 0, fun _ => 0, fun _ => 0, fun _ => 0, fun _ => 0, fun _ => 0, fun _ => 0, fun _ => 0, fun _ => 0⟩, ⟨A1, A2, A6, A9, A5, q1, q2, q6, q9, q5⟩, rfl, fun h => absurd h h0⟩
theorem sets6_grown (W : World) (r : Nat) (v0 v1 v2 v3 v4 v5 : Value) : W.grownBy ((((((W.setCell ⟨r, 0, none⟩ v0).setCell ⟨r, 1, none⟩ v1).setCell ⟨r, 2, none⟩ v2).setCell ⟨r, 3, none⟩ v3).setCell ⟨r, 4, none⟩ v4).setCell ⟨r, 5, none⟩ v5) (some r) :=
  grown_trans (grown_trans (grown_trans (grown_trans (grown_trans (grown_put W r 0 _) (grown_put _ r 1 _)) (grown_put _ r 2 _)) (grown_put _ r 3 _)) (grown_put _ r 4 _)) (grown_put _ r 5 _)
/-- the result's box is set -/
theorem raw_fin {B : Nat} {w W : World} {b : Nat} {A : Option Addr} {k : Nat} {L : List (List UInt8)} {i : Nat} {f : Nat × Int} {g h r : Nat} {ys rs : Array Value} (H : RB B w W b A k L i f g h r ys rs) (hg : g = w.heap.size) {v : Value} (hx : ltF L = (f.2, f.1) ∧ ∃ s p, v = rv s p ∧ (f = (0, 0) → s = rdR L (ctO (hdr L).2) ∧ RMem W W.heap.size s p ∧ RNils s p ∧ Hi p (g + 2))) (v0 v1 v2 v3 v4 v5 : Value) :
    RalIs w b A k L (.returned v) ((((((W.setCell ⟨g + 1, 0, none⟩ v0).setCell ⟨g + 1, 1, none⟩ v1).setCell ⟨g + 1, 2, none⟩ v2).setCell ⟨g + 1, 3, none⟩ v3).setCell ⟨g + 1, 4, none⟩ v4).setCell ⟨g + 1, 5, none⟩ v5) := by
  obtain ⟨h1, s, p, hv, h2⟩ := hx
  obtain ⟨o1, o2, o3⟩ := H.o
  have hp := sets6_grown W (g + 1) v0 v1 v2 v3 v4 v5
  refine ⟨⟨s, p, f, i, by rw [hv], H.t.app hp (base := g) (fun x e => by injection e; omega) (by omega) H.s, h1, H.F, fun h0 => ?_⟩, grown_app H.G hp (fun x e => by injection e; omega)⟩
  obtain ⟨a, b, c, d⟩ := h2 h0
  exact ⟨a, b.set6 (d.far (by omega)) v0 v1 v2 v3 v4 v5, c, fun a ha => by have := d.1 a ha; omega, fun a ha => by have := d.2.1 a ha; omega, fun a ha => by have := d.2.2.1 a ha; omega, fun a ha => by have := d.2.2.2.1 a ha; omega, fun a ha => by have := d.2.2.2.2 a ha; omega⟩
theorem raw_ret {W : World} {q : Nat} (h : Has W q 26 zr) (v0 v1 v2 v3 v4 v5 : Value) (t : Array Value) (ht : t[2]? = some (.pointer (some ⟨q, 0, none⟩))) :
    (results Tryz.f28 t).run Tryz.prog ((((((W.setCell ⟨q, 0, none⟩ v0).setCell ⟨q, 1, none⟩ v1).setCell ⟨q, 2, none⟩ v2).setCell ⟨q, 3, none⟩ v3).setCell ⟨q, 4, none⟩ v4).setCell ⟨q, 5, none⟩ v5) = .ok (.agg #[v0, v1, v2, v3, v4, v5]) ((((((W.setCell ⟨q, 0, none⟩ v0).setCell ⟨q, 1, none⟩ v1).setCell ⟨q, 2, none⟩ v2).setCell ⟨q, 3, none⟩ v3).setCell ⟨q, 4, none⟩ v4).setCell ⟨q, 5, none⟩ v5) := by
  have hH2 := (((((h.set 0 v0).set 1 v1).set 2 v2).set 3 v3).set 4 v4).set 5 v5
  have d0 := hH2.cell 0
  have d1 := hH2.cell 1
  have d2 := hH2.cell 2
  have d3 := hH2.cell 3
  have d4 := hH2.cell 4
  have d5 := hH2.cell 5
  simp [zr] at d0 d1 d2 d3 d4 d5
  simp [results, Tryz.results28, go_sem, ht, d0, d1, d2, d3, d4, d5]

end Go.Proofs.YtkpjpokeonppbaaGreatDoor

namespace Go.Proofs.YtkpjpokeonppbaaGreatDoor
open Go Go.RowKit
set_option linter.unusedVariables false
set_option linter.unusedSimpArgs false

set_option maxRecDepth 100000 in
set_option maxHeartbeats 40000000 in
theorem raw_any {B b : Nat} {A : Option Addr} {k : Nat} {L : List (List UInt8)} (w : World) (hT : Tx w b A k L 0 (0, 0)) (hL : L.length ≤ 60000) (hLn : ∀ j, (lnA L j).length ≤ 100000) (hE : Env B w) (hB : B ≤ b) (hA : ∀ a, A = some a → a.block < w.heap.size) :
    Calls Tryz.prog 28 #[.pointer (some ⟨b, 0, none⟩)] w (RalIs w b A k L) := by
  have hbl := hT.h.lt
  obtain ⟨g, hg⟩ : ∃ g, g = w.heap.size := ⟨_, rfl⟩
  have hB2 : Below w.heap.size w ((w.alloc (.cells #[.pointer (some ⟨b, 0, none⟩)] 94)).alloc (.cells #[.int .i64 0, .slice none 0 0, .slice none 0 0, .slice none 0 0, .slice none 0 0, .slice none 0 0] 26)) := ((Below.refl _ _).alloc (Nat.le_refl _) _).alloc (by simp) _
  have hp2 : Has ((w.alloc (.cells #[.pointer (some ⟨b, 0, none⟩)] 94)).alloc (.cells #[.int .i64 0, .slice none 0 0, .slice none 0 0, .slice none 0 0, .slice none 0 0, .slice none 0 0] 26)) g 94 #[.pointer (some ⟨b, 0, none⟩)] := by rw [hg]; exact (Has.new _ _ _).al _
  have hz2 : Has ((w.alloc (.cells #[.pointer (some ⟨b, 0, none⟩)] 94)).alloc (.cells #[.int .i64 0, .slice none 0 0, .slice none 0 0, .slice none 0 0, .slice none 0 0, .slice none 0 0] 26)) (g + 1) 26 zr := Has.new' _ _ (by simp [hg])
  have hT2 := hT.step hB2
  have hBw : B ≤ w.heap.size := by omega
  have hE2 := hE.next hBw hB2
  have hct := ct_le L
  have hF := first_any _ hT2 (by omega) hLn hE2 hB (fun a ha => by have := hA a ha; have := hB2.size; omega)
  obtain ⟨n, hn⟩ : ∃ n, n = ctO (hdr L).2 := ⟨_, rfl⟩
  obtain ⟨f1, hf1⟩ : ∃ f1, f1 = fstF L := ⟨_, rfl⟩
  rw [← hn] at hct hF
  rw [← hf1] at hF
  obtain ⟨y0, hy0⟩ : ∃ y, y = ((n.m : Nat) : Int) := ⟨_, rfl⟩
  obtain ⟨y1, hy1⟩ : ∃ y, y = ((n.i : Nat) : Int) := ⟨_, rfl⟩
  obtain ⟨y2, hy2⟩ : ∃ y, y = ((n.l : Nat) : Int) := ⟨_, rfl⟩
  obtain ⟨y3, hy3⟩ : ∃ y, y = ((n.o : Nat) : Int) := ⟨_, rfl⟩
  obtain ⟨y4, hy4⟩ : ∃ y, y = ((n.a : Nat) : Int) := ⟨_, rfl⟩
  obtain ⟨y5, hy5⟩ : ∃ y, y = ((n.b : Nat) : Int) := ⟨_, rfl⟩
  obtain ⟨y6, hy6⟩ : ∃ y, y = ((n.c : Nat) : Int) := ⟨_, rfl⟩
  have hV : ctV n = .agg #[.int .i64 y0, .int .i64 y1, .int .i64 y2, .int .i64 y3, .int .i64 y4, .int .i64 y5, .int .i64 y6] := by rw [hy0, hy1, hy2, hy3, hy4, hy5, hy6]
  rw [hV] at hF
  have DF := Lib.hid hF
  have HF1 := Lib.hid hf1
  have HN := Lib.hid hn
  have HFO : Hid (f1 = (0, 0) ∨ 0 < f1.1) := Lib.hid (by
    rw [hf1]; unfold fstF
    split
    · left; rfl
    · right; exact Nat.one_pos)
  have HY := Lib.hid (And.intro hy0 (And.intro hy1 (And.intro hy2 (And.intro hy3 (And.intro hy4 (And.intro hy5 hy6))))))
  have HCT := Lib.hid hct
  have HLn := Lib.hid hLn
  have HA := Lib.hid hA
  have HE := Lib.hid hE
  have HB := Lib.hid (And.intro hB hBw)
  have HL := Lib.hid hL
  have HG := Lib.hid hg
  have HP2 := Lib.hid (And.intro hB2 (And.intro hp2 hz2))
  have Hbl : Hid (b < g) := Lib.hid (by omega)
  clear hT hL hLn hE hB hA hbl hB2 hp2 hz2 hT2 hBw hE2 hct hF hn hf1 hV hy0 hy1 hy2 hy3 hy4 hy5 hy6
  go_enter Tryz.func28, Tryz.ntmps28
  go_upto_region 3 with (go_at_call 49; (with_reducible refine DF.out.mono ?_); rintro e w1 ⟨rfl, hT1, hg1⟩; have HT1 := Lib.hid hT1; have HG1 := Lib.hid hg1; clear hT1 hg1)
  have hh0 := (HP2.out.2.1.keepg HG1.out (by have := Hbl.out; intro e; injection e; omega))
  have hh1 := (HP2.out.2.2.keepg HG1.out (by have := Hbl.out; intro e; injection e; omega))
  have hG0 := Lib.hid (grown_trans (grown_of HP2.out.1) HG1.out)
  have HH := Lib.hid (And.intro hh0 hh1)
  clear hh0 hh1
  obtain ⟨h, hh⟩ : ∃ h, h = w1.heap.size := ⟨_, rfl⟩
  have x0 : (w1.alloc (.cells #[.int .i64 y0, .int .i64 y1, .int .i64 y2, .int .i64 y3, .int .i64 y4, .int .i64 y5, .int .i64 y6] 96)).cell? ⟨h, 0, none⟩ = some (.int .i64 y0) := by rw [hh]; exact (Has.new w1 96 #[.int .i64 y0, .int .i64 y1, .int .i64 y2, .int .i64 y3, .int .i64 y4, .int .i64 y5, .int .i64 y6]).cell 0
  have HHH := Lib.hid hh
  rw [← hh, ← hg]
  clear hh hg
  go_upto_region 4 with fail
  have H4 : Hid (RB B w ((w1.alloc (.cells #[.int .i64 y0, .int .i64 y1, .int .i64 y2, .int .i64 y3, .int .i64 y4, .int .i64 y5, .int .i64 y6] 96)).alloc (.cells #[.int .i64 y0, .slice none 0 0, .slice none 0 0, .slice none 0 0, .slice none 0 0, .slice none 0 0] 26)) b A k L 1 f1 g h (h + 1) #[.int .i64 y0, .int .i64 y1, .int .i64 y2, .int .i64 y3, .int .i64 y4, .int .i64 y5, .int .i64 y6] #[.int .i64 y0, .slice none 0 0, .slice none 0 0, .slice none 0 0, .slice none 0 0, .slice none 0 0]) := Lib.hid (by
    have e0 := HHH.out
    have e1 := HH.out.2.lt
    have e2 := Hbl.out
    refine ⟨(HT1.out.al _).al _, (HH.out.1.al _).al _, (HH.out.2.al _).al _, ?_, ?_, grown_trans (grown_trans hG0.out (grown_al6 _ _ _)) (grown_al6 _ _ _), by omega, ?_, fun a ha => by have := HA.out a ha; have := HG.out; omega, HFO.out⟩
    · rw [e0]; exact (Has.new _ _ _).al _
    · exact Has.new' _ _ (by simp; omega)
    · exact grown_env HE.out HB.out.2 HB.out.1 (grown_trans (grown_trans hG0.out (grown_al6 _ _ _)) (grown_al6 _ _ _)))
  obtain ⟨r, hr⟩ : ∃ r, r = h + 1 := ⟨_, rfl⟩
  obtain ⟨W4, hW4⟩ : ∃ W4, W4 = (w1.alloc (.cells #[.int .i64 y0, .int .i64 y1, .int .i64 y2, .int .i64 y3, .int .i64 y4, .int .i64 y5, .int .i64 y6] 96)).alloc (.cells #[.int .i64 y0, .slice none 0 0, .slice none 0 0, .slice none 0 0, .slice none 0 0, .slice none 0 0] 26) := ⟨_, rfl⟩
  try simp only [World.size_alloc]
  rw [← HHH.out]
  rw [← hW4, ← hr] at H4 ⊢
  clear hW4 hr x0 HHH HH HT1 HG1 hG0 HP2 DF
  -- region 4
  have hI4 : 1 ≤ 20000 := by have hc := HCT.out;  omega
  have D4 := Lib.hid (H4.out.lits HG.out HB.out.1 n.i y1 HY.out.2.1 HCT.out.2.1 hI4 HL.out HLn.out)
  have p4 : W4.cell? ⟨g, 0, none⟩ = some (.pointer (some ⟨b, 0, none⟩)) := H4.out.p.cell 0
  have c4 : W4.cell? ⟨h, 1, none⟩ = some (.int .i64 y1) := H4.out.c.cell 1
  clear hI4
  go_upto_region 5 with (go_at_call 50; (with_reducible refine D4.out.mono ?_); intro e w5 hE; obtain ⟨A1, n1, q1, i2, f2, rfl, hi, hf, hk, hR, hgr⟩ := H4.out.call HB.out.2 HB.out.1 hE; have HI2 := Lib.hid hi; have HF2 := Lib.hid hf; have HK2 := Lib.hid (fun hz => (hk hz).1); have HM1 : Hid (OwnF w5 b r f2 _ _ (.slice A1 n1 q1) _ _) := Lib.hid (OwnF.made hk H4.out.lts.1 H4.out.lts.2); have HR5 := Lib.hid hR; have HGR5 := Lib.hid hgr; clear hE hi hf hk hR hgr; have x5 : w5.cell? ⟨r, 1, none⟩ = some (.slice none 0 0) := HR5.out.rb.cell 1; have z5 : w5.frozen? ⟨r, 1, none⟩ = false := HR5.out.rb.fz 1; clear p4 c4)
  obtain ⟨W5, hW5⟩ : ∃ W, W = w5.setCell ⟨r, 1, none⟩ (.slice A1 n1 q1) := ⟨_, rfl⟩
  have H5 : Hid (RB B w W5 b A k L i2 f2 g h r #[.int .i64 y0, .int .i64 y1, .int .i64 y2, .int .i64 y3, .int .i64 y4, .int .i64 y5, .int .i64 y6] #[(.int .i64 y0), .slice A1 n1 q1, .slice none 0 0, .slice none 0 0, .slice none 0 0, .slice none 0 0]) := Lib.hid (by rw [hW5]; exact HR5.out.set HG.out HB.out.1 1 _)
  have O1_5 := Lib.hid (HM1.out.set 1 (.slice A1 n1 q1))
  rw [← hW5] at O1_5 ⊢
  clear hW5 x5 z5 HR5 HGR5 HM1 D4 H4 
  -- region 5
  have hI5 : i2 ≤ 20000 := by have hc := HCT.out; have hi2 := HI2.out; omega
  have D5 := Lib.hid (H5.out.trips HG.out HB.out.1 n.l y2 HY.out.2.2.1 HCT.out.2.2.1 hI5 HL.out HLn.out)
  have p5 : W5.cell? ⟨g, 0, none⟩ = some (.pointer (some ⟨b, 0, none⟩)) := H5.out.p.cell 0
  have c5 : W5.cell? ⟨h, 2, none⟩ = some (.int .i64 y2) := H5.out.c.cell 2
  clear hI5
  go_upto_region 6 with (go_at_call 53; (with_reducible refine D5.out.mono ?_); intro e w6 hE; obtain ⟨A2, n2, q2, i3, f3, rfl, hi, hf, hk, hR, hgr⟩ := H5.out.call HB.out.2 HB.out.1 hE; have HI3 := Lib.hid hi; have HF3 := Lib.hid hf; have HK3 := Lib.hid (fun hz => (hk hz).1); have HM2 : Hid (OwnF w6 b r f3 _ _ (.slice A2 n2 q2) _ _) := Lib.hid (OwnF.made hk H5.out.lts.1 H5.out.lts.2); have HR6 := Lib.hid hR; have HGR6 := Lib.hid hgr; clear hE hi hf hk hR hgr; have x6 : w6.cell? ⟨r, 2, none⟩ = some (.slice none 0 0) := HR6.out.rb.cell 2; have z6 : w6.frozen? ⟨r, 2, none⟩ = false := HR6.out.rb.fz 2; clear p5 c5)
  obtain ⟨W6, hW6⟩ : ∃ W, W = w6.setCell ⟨r, 2, none⟩ (.slice A2 n2 q2) := ⟨_, rfl⟩
  have H6 : Hid (RB B w W6 b A k L i3 f3 g h r #[.int .i64 y0, .int .i64 y1, .int .i64 y2, .int .i64 y3, .int .i64 y4, .int .i64 y5, .int .i64 y6] #[(.int .i64 y0), .slice A1 n1 q1, .slice A2 n2 q2, .slice none 0 0, .slice none 0 0, .slice none 0 0]) := Lib.hid (by rw [hW6]; exact HR6.out.set HG.out HB.out.1 2 _)
  have O1_6 := Lib.hid ((O1_5.out.call HGR6.out HF3.out).set 2 (.slice A2 n2 q2))
  have O2_6 := Lib.hid (HM2.out.set 2 (.slice A2 n2 q2))
  rw [← hW6] at O1_6 O2_6 ⊢
  clear hW6 x6 z6 HR6 HGR6 HM2 D5 H5 O1_5
  -- region 6
  have hI6 : i3 ≤ 20000 := by have hc := HCT.out; have hi2 := HI2.out; have hi3 := HI3.out; omega
  have D6 := Lib.hid (H6.out.lits HG.out HB.out.1 n.o y3 HY.out.2.2.2.1 HCT.out.2.2.2.1 hI6 HL.out HLn.out)
  have p6 : W6.cell? ⟨g, 0, none⟩ = some (.pointer (some ⟨b, 0, none⟩)) := H6.out.p.cell 0
  have c6 : W6.cell? ⟨h, 3, none⟩ = some (.int .i64 y3) := H6.out.c.cell 3
  clear hI6
  go_upto_region 7 with (go_at_call 50; (with_reducible refine D6.out.mono ?_); intro e w7 hE; obtain ⟨A3, n3, q3, i4, f4, rfl, hi, hf, hk, hR, hgr⟩ := H6.out.call HB.out.2 HB.out.1 hE; have HI4 := Lib.hid hi; have HF4 := Lib.hid hf; have HK4 := Lib.hid (fun hz => (hk hz).1); have HM3 : Hid (OwnF w7 b r f4 _ _ (.slice A3 n3 q3) _ _) := Lib.hid (OwnF.made hk H6.out.lts.1 H6.out.lts.2); have HR7 := Lib.hid hR; have HGR7 := Lib.hid hgr; clear hE hi hf hk hR hgr; clear p6 c6)
  have H7 := HR7
  have O1_7 := Lib.hid (O1_6.out.call HGR7.out HF4.out)
  have O2_7 := Lib.hid (O2_6.out.call HGR7.out HF4.out)
  have O3_7 := HM3
  clear HR7 HGR7 HM3 D6 H6 O1_6 O2_6
  -- region 7
  have hI7 : i4 ≤ 20000 := by have hc := HCT.out; have hi2 := HI2.out; have hi3 := HI3.out; have hi4 := HI4.out; omega
  have D7 := Lib.hid (H7.out.lits HG.out HB.out.1 n.b y5 HY.out.2.2.2.2.2.1 HCT.out.2.2.2.2.2.1 hI7 HL.out HLn.out)
  have p7 : w7.cell? ⟨g, 0, none⟩ = some (.pointer (some ⟨b, 0, none⟩)) := H7.out.p.cell 0
  have c7 : w7.cell? ⟨h, 5, none⟩ = some (.int .i64 y5) := H7.out.c.cell 5
  clear hI7
  go_upto_region 8 with (go_at_call 50; (with_reducible refine D7.out.mono ?_); intro e w8 hE; obtain ⟨A4, n4, q4, i5, f5, rfl, hi, hf, hk, hR, hgr⟩ := H7.out.call HB.out.2 HB.out.1 hE; have HI5 := Lib.hid hi; have HF5 := Lib.hid hf; have HK5 := Lib.hid (fun hz => (hk hz).1); have HM4 : Hid (OwnF w8 b r f5 _ _ (.slice A4 n4 q4) _ _) := Lib.hid (OwnF.made hk H7.out.lts.1 H7.out.lts.2); have HR8 := Lib.hid hR; have HGR8 := Lib.hid hgr; clear hE hi hf hk hR hgr; have x8 : w8.cell? ⟨r, 4, none⟩ = some (.slice none 0 0) := HR8.out.rb.cell 4; have z8 : w8.frozen? ⟨r, 4, none⟩ = false := HR8.out.rb.fz 4; clear p7 c7)
  obtain ⟨W8, hW8⟩ : ∃ W, W = w8.setCell ⟨r, 4, none⟩ (.slice A4 n4 q4) := ⟨_, rfl⟩
  have H8 : Hid (RB B w W8 b A k L i5 f5 g h r #[.int .i64 y0, .int .i64 y1, .int .i64 y2, .int .i64 y3, .int .i64 y4, .int .i64 y5, .int .i64 y6] #[(.int .i64 y0), .slice A1 n1 q1, .slice A2 n2 q2, .slice none 0 0, .slice A4 n4 q4, .slice none 0 0]) := Lib.hid (by rw [hW8]; exact HR8.out.set HG.out HB.out.1 4 _)
  have O1_8 := Lib.hid ((O1_7.out.call HGR8.out HF5.out).set 4 (.slice A4 n4 q4))
  have O2_8 := Lib.hid ((O2_7.out.call HGR8.out HF5.out).set 4 (.slice A4 n4 q4))
  have O3_8 := Lib.hid ((O3_7.out.call HGR8.out HF5.out).set 4 (.slice A4 n4 q4))
  have O4_8 := Lib.hid (HM4.out.set 4 (.slice A4 n4 q4))
  rw [← hW8] at O1_8 O2_8 O3_8 O4_8 ⊢
  clear hW8 x8 z8 HR8 HGR8 HM4 D7 H7 O1_7 O2_7 O3_7
  -- region 8
  have hI8 : i5 ≤ 20000 := by have hc := HCT.out; have hi2 := HI2.out; have hi3 := HI3.out; have hi4 := HI4.out; have hi5 := HI5.out; omega
  have D8 := Lib.hid (H8.out.lits HG.out HB.out.1 n.c y6 HY.out.2.2.2.2.2.2 HCT.out.2.2.2.2.2.2 hI8 HL.out HLn.out)
  have p8 : W8.cell? ⟨g, 0, none⟩ = some (.pointer (some ⟨b, 0, none⟩)) := H8.out.p.cell 0
  have c8 : W8.cell? ⟨h, 6, none⟩ = some (.int .i64 y6) := H8.out.c.cell 6
  clear hI8
  go_upto_region 9 with (go_at_call 50; (with_reducible refine D8.out.mono ?_); intro e w9 hE; obtain ⟨A5, n5, q5, i6, f6, rfl, hi, hf, hk, hR, hgr⟩ := H8.out.call HB.out.2 HB.out.1 hE; have HI6 := Lib.hid hi; have HF6 := Lib.hid hf; have HK6 := Lib.hid (fun hz => (hk hz).1); have HM5 : Hid (OwnF w9 b r f6 _ _ (.slice A5 n5 q5) _ _) := Lib.hid (OwnF.made hk H8.out.lts.1 H8.out.lts.2); have HR9 := Lib.hid hR; have HGR9 := Lib.hid hgr; clear hE hi hf hk hR hgr; have x9 : w9.cell? ⟨r, 5, none⟩ = some (.slice none 0 0) := HR9.out.rb.cell 5; have z9 : w9.frozen? ⟨r, 5, none⟩ = false := HR9.out.rb.fz 5; clear p8 c8)
  obtain ⟨W9, hW9⟩ : ∃ W, W = w9.setCell ⟨r, 5, none⟩ (.slice A5 n5 q5) := ⟨_, rfl⟩
  have H9 : Hid (RB B w W9 b A k L i6 f6 g h r #[.int .i64 y0, .int .i64 y1, .int .i64 y2, .int .i64 y3, .int .i64 y4, .int .i64 y5, .int .i64 y6] #[(.int .i64 y0), .slice A1 n1 q1, .slice A2 n2 q2, .slice none 0 0, .slice A4 n4 q4, .slice A5 n5 q5]) := Lib.hid (by rw [hW9]; exact HR9.out.set HG.out HB.out.1 5 _)
  have O1_9 := Lib.hid ((O1_8.out.call HGR9.out HF6.out).set 5 (.slice A5 n5 q5))
  have O2_9 := Lib.hid ((O2_8.out.call HGR9.out HF6.out).set 5 (.slice A5 n5 q5))
  have O3_9 := Lib.hid ((O3_8.out.call HGR9.out HF6.out).set 5 (.slice A5 n5 q5))
  have O4_9 := Lib.hid ((O4_8.out.call HGR9.out HF6.out).set 5 (.slice A5 n5 q5))
  have O5_9 := Lib.hid (HM5.out.set 5 (.slice A5 n5 q5))
  rw [← hW9] at O1_9 O2_9 O3_9 O4_9 O5_9 ⊢
  clear hW9 x9 z9 HR9 HGR9 HM5 D8 H8 O1_8 O2_8 O3_8 O4_8
  -- region 9
  have hI9 : i6 ≤ 20000 := by have hc := HCT.out; have hi2 := HI2.out; have hi3 := HI3.out; have hi4 := HI4.out; have hi5 := HI5.out; have hi6 := HI6.out; omega
  have D9 := Lib.hid (H9.out.gates HG.out HB.out.1 n.a y4 HY.out.2.2.2.2.1 HCT.out.2.2.2.2.1 hI9 HL.out HLn.out)
  have p9 : W9.cell? ⟨g, 0, none⟩ = some (.pointer (some ⟨b, 0, none⟩)) := H9.out.p.cell 0
  have c9 : W9.cell? ⟨h, 4, none⟩ = some (.int .i64 y4) := H9.out.c.cell 4
  clear hI9
  go_upto_region 10 with (go_at_call 53; (with_reducible refine D9.out.mono ?_); intro e w10 hE; obtain ⟨A6, n6, q6, i7, f7, rfl, hi, hf, hk, hR, hgr⟩ := H9.out.call HB.out.2 HB.out.1 hE; have HI7 := Lib.hid hi; have HF7 := Lib.hid hf; have HK7 := Lib.hid (fun hz => (hk hz).1); have HM6 : Hid (OwnF w10 b r f7 _ _ (.slice A6 n6 q6) _ _) := Lib.hid (OwnF.made hk H9.out.lts.1 H9.out.lts.2); have HR10 := Lib.hid hR; have HGR10 := Lib.hid hgr; clear hE hi hf hk hR hgr; have x10 : w10.cell? ⟨r, 3, none⟩ = some (.slice none 0 0) := HR10.out.rb.cell 3; have z10 : w10.frozen? ⟨r, 3, none⟩ = false := HR10.out.rb.fz 3; clear p9 c9)
  obtain ⟨W10, hW10⟩ : ∃ W, W = w10.setCell ⟨r, 3, none⟩ (.slice A6 n6 q6) := ⟨_, rfl⟩
  have H10 : Hid (RB B w W10 b A k L i7 f7 g h r #[.int .i64 y0, .int .i64 y1, .int .i64 y2, .int .i64 y3, .int .i64 y4, .int .i64 y5, .int .i64 y6] #[(.int .i64 y0), .slice A1 n1 q1, .slice A2 n2 q2, .slice A6 n6 q6, .slice A4 n4 q4, .slice A5 n5 q5]) := Lib.hid (by rw [hW10]; exact HR10.out.set HG.out HB.out.1 3 _)
  have O1_10 := Lib.hid ((O1_9.out.call HGR10.out HF7.out).set 3 (.slice A6 n6 q6))
  have O2_10 := Lib.hid ((O2_9.out.call HGR10.out HF7.out).set 3 (.slice A6 n6 q6))
  have O3_10 := Lib.hid ((O3_9.out.call HGR10.out HF7.out).set 3 (.slice A6 n6 q6))
  have O4_10 := Lib.hid ((O4_9.out.call HGR10.out HF7.out).set 3 (.slice A6 n6 q6))
  have O5_10 := Lib.hid ((O5_9.out.call HGR10.out HF7.out).set 3 (.slice A6 n6 q6))
  have O6_10 := Lib.hid (HM6.out.set 3 (.slice A6 n6 q6))
  rw [← hW10] at O1_10 O2_10 O3_10 O4_10 O5_10 O6_10 ⊢
  clear hW10 x10 z10 HR10 HGR10 HM6 D9 H9 O1_9 O2_9 O3_9 O4_9 O5_9
  -- region 10
  have D10 := Lib.hid (behind_any W10 H10.out.t H10.out.F (by have hc := HCT.out; have hi2 := HI2.out; have hi3 := HI3.out; have hi4 := HI4.out; have hi5 := HI5.out; have hi6 := HI6.out; have hi7 := HI7.out; omega) HL.out HLn.out)
  have p10 : W10.cell? ⟨g, 0, none⟩ = some (.pointer (some ⟨b, 0, none⟩)) := H10.out.p.cell 0
  go_upto_region 11 with (go_at_call 56; (with_reducible refine D10.out.mono ?_); intro e w11 hE; obtain ⟨i8, f8, rfl, hf, hR, hgr⟩ := H10.out.beh HB.out.2 HB.out.1 hE; have HF8 := Lib.hid hf; have H11 := Lib.hid hR; have HGR11 := Lib.hid hgr; clear hE hf hR hgr p10)
  have P1 := Lib.hid (O1_10.out.last HGR11.out HF8.out)
  have P2 := Lib.hid (O2_10.out.last HGR11.out HF8.out)
  have P3 := Lib.hid (O3_10.out.last HGR11.out HF8.out)
  have P4 := Lib.hid (O4_10.out.last HGR11.out HF8.out)
  have P5 := Lib.hid (O5_10.out.last HGR11.out HF8.out)
  have P6 := Lib.hid (O6_10.out.last HGR11.out HF8.out)
  clear HGR11 D10 H10 O1_10 O2_10 O3_10 O4_10 O5_10 O6_10
  have c11 : w11.cell? ⟨h, 5, none⟩ = some (.int .i64 y5) := H11.out.c.cell 5
  have hy5 : y5 = (n.b : Int) := HY.out.2.2.2.2.2.1
  have Hy5 := Lib.hid hy5
  clear hy5
  by_cases e5 : y5 = 0
  · have e5' : (y5 == 0) = true := by simpa using e5
    have Hn : Hid (n.b = 0) := Lib.hid (by have := Hy5.out; omega)
    clear e5
    have z11 := H11.out.rb.fz 4
    have x11 : w11.cell? ⟨r, 4, none⟩ = some (.slice A4 n4 q4) := H11.out.rb.cell 4
    go_upto_region 13 with fail
    obtain ⟨W, hW⟩ : ∃ W, W = w11.setCell ⟨r, 4, none⟩ (.slice A3 n3 q3) := ⟨_, rfl⟩
    have H13 : Hid (RB B w W b A k L i8 f8 g h r #[.int .i64 y0, .int .i64 y1, .int .i64 y2, .int .i64 y3, .int .i64 y4, .int .i64 y5, .int .i64 y6] #[.int .i64 y0, .slice A1 n1 q1, .slice A2 n2 q2, .slice A6 n6 q6, .slice A3 n3 q3, .slice A5 n5 q5]) := Lib.hid (by rw [hW]; exact H11.out.set HG.out HB.out.1 4 _)
    have Q1 := P1.out.set 4 (.slice A3 n3 q3)
    have Q2 := P2.out.set 4 (.slice A3 n3 q3)
    have Q3 := P3.out.set 4 (.slice A3 n3 q3)
    have Q4 := P4.out.set 4 (.slice A3 n3 q3)
    have Q5 := P5.out.set 4 (.slice A3 n3 q3)
    have Q6 := P6.out.set 4 (.slice A3 n3 q3)
    rw [← hW] at Q1 Q2 Q3 Q4 Q5 Q6 ⊢
    have HX := Lib.hid (raw_end (g := g) HN.out (by have := H13.out.o; omega) HF1.out HF2.out HK2.out HF3.out HK3.out HF4.out HK4.out HF5.out HK5.out HF6.out HK6.out HF7.out HK7.out HF8.out Q1 Q2 Q3 Q4 Q5 Q6 (A9 := A3) (n9 := n3) (q9 := q3) (by rw [if_pos Hn.out]) HY.out.1)
    rw [HN.out] at HX
    clear hW Q1 Q2 Q3 Q4 Q5 Q6 P1 P2 P3 P4 P5 P6 H11 x11 z11 c11 HF1 HF2 HF3 HF4 HF5 HF6 HF7 HF8 HK2 HK3 HK4 HK5 HK6 HK7 HI2 HI3 HI4 HI5 HI6 HI7 HCT HLn HA HE HFO
    have r0 : W.cell? ⟨r, 0, none⟩ = some (.int .i64 y0) := H13.out.rb.cell 0
    have d0 := H13.out.z.cell 0
    have u0 := H13.out.z.fz 0
    have r1 : W.cell? ⟨r, 1, none⟩ = some (.slice A1 n1 q1) := H13.out.rb.cell 1
    have d1 := H13.out.z.cell 1
    have u1 := H13.out.z.fz 1
    have r2 : W.cell? ⟨r, 2, none⟩ = some (.slice A2 n2 q2) := H13.out.rb.cell 2
    have d2 := H13.out.z.cell 2
    have u2 := H13.out.z.fz 2
    have r3 : W.cell? ⟨r, 3, none⟩ = some (.slice A6 n6 q6) := H13.out.rb.cell 3
    have d3 := H13.out.z.cell 3
    have u3 := H13.out.z.fz 3
    have r4 : W.cell? ⟨r, 4, none⟩ = some (.slice A3 n3 q3) := H13.out.rb.cell 4
    have d4 := H13.out.z.cell 4
    have u4 := H13.out.z.fz 4
    have r5 : W.cell? ⟨r, 5, none⟩ = some (.slice A5 n5 q5) := H13.out.rb.cell 5
    have d5 := H13.out.z.cell 5
    have u5 := H13.out.z.fz 5
    simp only [zr, List.getElem?_toArray, List.getElem?_cons_zero, List.getElem?_cons_succ] at d0 d1 d2 d3 d4 d5
    go_wp2
    exact bodyPost_ret (v := .agg #[.int .i64 y0, .slice A1 n1 q1, .slice A2 n2 q2, .slice A6 n6 q6, .slice A3 n3 q3, .slice A5 n5 q5]) (raw_ret H13.out.z (.int .i64 y0) (.slice A1 n1 q1) (.slice A2 n2 q2) (.slice A6 n6 q6) (.slice A3 n3 q3) (.slice A5 n5 q5) _ rfl) rfl (raw_fin H13.out HG.out HX.out (.int .i64 y0) (.slice A1 n1 q1) (.slice A2 n2 q2) (.slice A6 n6 q6) (.slice A3 n3 q3) (.slice A5 n5 q5))
  · have e5' : (y5 == 0) = false := by simpa using e5
    have Hn : Hid (¬ n.b = 0) := Lib.hid (by have := Hy5.out; omega)
    clear e5
    go_upto_region 13 with fail
    have HX := Lib.hid (raw_end (g := g) HN.out (by have := H11.out.o; omega) HF1.out HF2.out HK2.out HF3.out HK3.out HF4.out HK4.out HF5.out HK5.out HF6.out HK6.out HF7.out HK7.out HF8.out P1.out P2.out P3.out P4.out P5.out P6.out (A9 := A4) (n9 := n4) (q9 := q4) (by rw [if_neg Hn.out]) HY.out.1)
    rw [HN.out] at HX
    have H13 := H11
    clear P1 P2 P3 P4 P5 P6 H11 c11 HF1 HF2 HF3 HF4 HF5 HF6 HF7 HF8 HK2 HK3 HK4 HK5 HK6 HK7 HI2 HI3 HI4 HI5 HI6 HI7 HCT HLn HA HE HFO
    have r0 : w11.cell? ⟨r, 0, none⟩ = some (.int .i64 y0) := H13.out.rb.cell 0
    have d0 := H13.out.z.cell 0
    have u0 := H13.out.z.fz 0
    have r1 : w11.cell? ⟨r, 1, none⟩ = some (.slice A1 n1 q1) := H13.out.rb.cell 1
    have d1 := H13.out.z.cell 1
    have u1 := H13.out.z.fz 1
    have r2 : w11.cell? ⟨r, 2, none⟩ = some (.slice A2 n2 q2) := H13.out.rb.cell 2
    have d2 := H13.out.z.cell 2
    have u2 := H13.out.z.fz 2
    have r3 : w11.cell? ⟨r, 3, none⟩ = some (.slice A6 n6 q6) := H13.out.rb.cell 3
    have d3 := H13.out.z.cell 3
    have u3 := H13.out.z.fz 3
    have r4 : w11.cell? ⟨r, 4, none⟩ = some (.slice A4 n4 q4) := H13.out.rb.cell 4
    have d4 := H13.out.z.cell 4
    have u4 := H13.out.z.fz 4
    have r5 : w11.cell? ⟨r, 5, none⟩ = some (.slice A5 n5 q5) := H13.out.rb.cell 5
    have d5 := H13.out.z.cell 5
    have u5 := H13.out.z.fz 5
    simp only [zr, List.getElem?_toArray, List.getElem?_cons_zero, List.getElem?_cons_succ] at d0 d1 d2 d3 d4 d5
    go_wp2
    exact bodyPost_ret (v := .agg #[.int .i64 y0, .slice A1 n1 q1, .slice A2 n2 q2, .slice A6 n6 q6, .slice A4 n4 q4, .slice A5 n5 q5]) (raw_ret H13.out.z (.int .i64 y0) (.slice A1 n1 q1) (.slice A2 n2 q2) (.slice A6 n6 q6) (.slice A4 n4 q4) (.slice A5 n5 q5) _ rfl) rfl (raw_fin H13.out HG.out HX.out (.int .i64 y0) (.slice A1 n1 q1) (.slice A2 n2 q2) (.slice A6 n6 q6) (.slice A4 n4 q4) (.slice A5 n5 q5))

end Go.Proofs.YtkpjpokeonppbaaGreatDoor

namespace Go.Proofs.YtkpjpokeonppbaaGreatDoor
open Go Go.RowKit
set_option linter.unusedVariables false
set_option linter.unusedSimpArgs false

/-- the lines of a text in memory -/
def LinesIs (L : List (List UInt8)) (w : World) (e : Ending) (w' : World) : Prop := ∃ A k, e = .returned (.slice A L.length k) ∧ StrsAt w' w'.heap.size A L.length (lnA L) ∧ (∀ a, A = some a → a.block < w'.heap.size) ∧ Below w.heap.size w w'

set_option maxRecDepth 100000 in
set_option maxHeartbeats 4000000 in
theorem linesOf_in (l : List UInt8) (hl : l.length ≤ 100000) (B : Nat) (w : World) (hE : Env B w) : Calls Tryz.prog 27 #[.string (str l)] w (LinesIs (lno l) w) := by
  have D := Lib.hid (pSplit_any l 10 hl B w hE)
  have hne := pcs_ne 10 l
  obtain ⟨m, hm⟩ : ∃ m, (pcs 10 l).length = m + 1 := ⟨(pcs 10 l).length - 1, by have := List.length_pos_iff.2 hne; omega⟩
  have hlast : (pcs 10 l).getLast? = some ((pcs 10 l).getD m []) := by
    rw [List.getLast?_eq_getElem?, hm, Nat.add_sub_cancel, List.getD_eq_getElem?_getD, List.getElem?_eq_getElem (by omega)]; rfl
  obtain ⟨p, hp⟩ : ∃ p, p = (pcs 10 l).getD m [] := ⟨_, rfl⟩
  have HM := Lib.hid hm
  have HP := Lib.hid hp
  have HLA := Lib.hid hlast
  have HLB : Hid ((pcs 10 l).length ≤ 100001) := Lib.hid (by
    rw [pcs_len]
    have h1 := List.length_filter_le (fun x => x == (10 : UInt8)) l
    omega)
  have hm0 : (0 : Int) ≤ (m : Int) := by omega
  have hm2 : (m : Int) < (m : Int) + 1 := by omega
  clear hne hm hlast hp hE
  by_cases hz : p = []
  · have e1 : ((str p).toList == ([] : List UInt8)) = true := by rw [str_list, hz]; rfl
    have e2 : (str p).toList = [] := by rw [str_list, hz]
    have HE : Hid (lno l = (pcs 10 l).dropLast) := Lib.hid (by unfold lno; rw [if_pos (by rw [HLA.out, ← HP.out, hz])])
    clear hz
    go_enter Tryz.func27, Tryz.ntmps27
    go_wp2_with (go_at_call 48; (with_reducible refine D.out.mono ?_); rintro e w1 ⟨v, rfl, ho1, hb1⟩; obtain ⟨A, k, rfl, hA, hz1, hk, hz2⟩ := own_strs ho1 rfl; have hml := HLB.out; rw [HM.out] at hA hk hml ⊢; obtain ⟨a0, rfl, hab, hcs⟩ := hA (by omega); have y0 : w1.cell? (a0.add m) = some (.string (str ((pcs 10 l).getD m []))) := hcs m (by omega); rw [← HP.out] at y0; have HA := Lib.hid hA; have hk1 : (m : Int) + 1 ≤ (k : Int) := (by omega); have hm3 : (m : Int) ≤ (k : Int) := (by omega); clear ho1 hk hA hcs hz1 hz2)
    go_ret
    have hlen : (lno l).length = m := by rw [HE.out, List.length_dropLast, HM.out]; omega
    refine ⟨some a0, k, by rw [hlen]; rfl, ?_, (fun a h => by cases h; exact hab), hb1⟩
    rw [hlen]
    refine (HA.out.first (Nat.le_succ m)).congr fun j hj => ?_
    unfold lnA
    rw [HE.out, List.getD_eq_getElem?_getD, List.getD_eq_getElem?_getD, List.getElem?_dropLast, if_pos (by rw [HM.out]; omega)]
  · have e1 : ((str p).toList == ([] : List UInt8)) = false := by
      rw [str_list]; simpa using hz
    have HE : Hid (lno l = pcs 10 l) := Lib.hid (by unfold lno; rw [if_neg (by rw [HLA.out, ← HP.out]; simpa using hz)])
    clear hz
    go_enter Tryz.func27, Tryz.ntmps27
    go_wp2_with (go_at_call 48; (with_reducible refine D.out.mono ?_); rintro e w1 ⟨v, rfl, ho1, hb1⟩; obtain ⟨A, k, rfl, hA, hz1, hk, hz2⟩ := own_strs ho1 rfl; have hml := HLB.out; rw [HM.out] at hA hk hml ⊢; obtain ⟨a0, rfl, hab, hcs⟩ := hA (by omega); have y0 : w1.cell? (a0.add m) = some (.string (str ((pcs 10 l).getD m []))) := hcs m (by omega); rw [← HP.out] at y0; have HA := Lib.hid hA; have hk1 : (m : Int) + 1 ≤ (k : Int) := (by omega); have hm3 : (m : Int) ≤ (k : Int) := (by omega); clear ho1 hk hA hcs hz1 hz2)
    go_ret
    refine ⟨some a0, k, by rw [HE.out, HM.out]; rfl, ?_, (fun a h => by cases h; exact hab), hb1⟩
    rw [HE.out, HM.out]
    exact HA.out

/-- what Raw returns -/
structure RdIs (l : List UInt8) (w : World) (e : Ending) (w' : World) : Prop where
  ex : ∃ p, e = .returned (.tuple #[rv (rdW l) p, .int .i64 (rdN l : Int), .int .i64 (rdE l)]) ∧ RMem w' w'.heap.size (rdW l) p ∧ RNils (rdW l) p
  b : Below w.heap.size w w'
theorem i64_nm (s : List UInt8) (k : Nat) : I64 (nm s k : Int) := by have := nm_le s k; unfold I64; omega
theorem i64_rs (s : List UInt8) : I64 (rs3 s : Int) := by have := rs3_le s; unfold I64; omega
theorem rd_sm (L : List (List UInt8)) : RSm (rdR L (ctO (hdr L).2)) := by
  have h := ct_le L
  refine ⟨?_, ?_, ?_, ?_, ?_, ?_, fun j _ => i64_nm _ _, fun j _ => i64_nm _ _, fun j _ => i64_nm _ _, fun j _ => i64_rs _, fun j _ => i64_nm _ _, fun j _ => i64_nm _ _, fun j _ => i64_nm _ _, fun j _ => i64_nm _ _, fun j _ => i64_nm _ _⟩
  · show I64 (((ctO (hdr L).2).m : Nat) : Int); unfold I64; omega
  · show (ctO (hdr L).2).i ≤ 2000; omega
  · show (ctO (hdr L).2).l ≤ 1000; omega
  · show (ctO (hdr L).2).a ≤ 1000; omega
  · show (if (ctO (hdr L).2).b = 0 then (ctO (hdr L).2).o else (ctO (hdr L).2).b) ≤ 1000; split <;> omega
  · show (ctO (hdr L).2).c ≤ 1000; omega
theorem hdr_ne (L : List (List UInt8)) : (hdr L).1 = 0 ∨ (hdr L).1 = 12 ∨ (hdr L).1 = 16 ∨ (hdr L).1 = 47 := by
  rw [hdr_one]
  unfold hdr1
  repeat' split
  all_goals simp
/-- a fault has an error and a line -/
theorem ltF_ne (L : List (List UInt8)) : ltF L = (0, 0) ∨ ((ltF L).1 ≠ 0 ∧ 0 < (ltF L).2) := by
  unfold ltF
  split
  · next h => exact Or.inr ⟨h, Nat.one_pos⟩
  · split
    · exact Or.inr ⟨(by show (12 : Int) ≠ 0; decide), (by show 0 < _ + 2; omega)⟩
    · split
      · next h => exact Or.inr ⟨(by show (38 : Int) ≠ 0; decide), h⟩
      · exact Or.inl rfl
theorem lno_len (l : List UInt8) : (lno l).length ≤ l.length + 1 := by
  have h1 := List.length_filter_le (fun x => x == (10 : UInt8)) l
  have h2 := pcs_len 10 l
  unfold lno
  split
  · rw [List.length_dropLast]; omega
  · omega
theorem lno_short (l : List UInt8) (j : Nat) : (lnA (lno l) j).length ≤ l.length := by
  have key : ∀ p ∈ lno l, p.length ≤ l.length := fun p hp => by
    refine pcs_short 10 l p ?_
    unfold lno at hp
    split at hp
    · exact List.dropLast_subset _ hp
    · exact hp
  unfold lnA
  rw [List.getD_eq_getElem?_getD]
  cases e : (lno l)[j]? with
  | none => exact Nat.zero_le _
  | some x => exact key x (List.mem_of_getElem? e)
/-- no raw circuit -/
def zp : Rp := ⟨none, none, none, none, none, 0, 0, 0, 0, 0⟩
theorem z_mem (w : World) (B : Nat) : RMem w B zRw zp := ⟨fun h => absurd h (Nat.not_lt_zero _), fun h => absurd h (Nat.not_lt_zero _), fun h => absurd h (Nat.not_lt_zero _), fun h => absurd h (Nat.not_lt_zero _), fun h => absurd h (Nat.not_lt_zero _)⟩
theorem z_nils : RNils zRw zp := ⟨fun _ => ⟨rfl, rfl⟩, fun _ => ⟨rfl, rfl⟩, fun _ => ⟨rfl, rfl⟩, fun _ => ⟨rfl, rfl⟩, fun _ => ⟨rfl, rfl⟩⟩
/-- an error: nothing is read -/
theorem RdIs.no {l : List UInt8} {w w' : World} {x : Int} {N : Int} (hE : rdE l = x) (hx : x ≠ 0) (hN : N = (rdN l : Int)) (hb : Below w.heap.size w w') : RdIs l w (.returned (.tuple #[.agg #[.int .i64 0, .slice none 0 0, .slice none 0 0, .slice none 0 0, .slice none 0 0, .slice none 0 0], .int .i64 N, .int .i64 x])) w' := by
  refine ⟨⟨zp, ?_, ?_, ?_⟩, hb⟩
  · unfold rdW
    rw [hE, if_neg hx, hN]; rfl
  · unfold rdW
    rw [hE, if_neg hx]; exact z_mem _ _
  · unfold rdW
    rw [hE, if_neg hx]; exact z_nils
theorem RdIs.yes {l : List UInt8} {w w' : World} {p : Rp} (hE : rdE l = 0) (hN : rdN l = 0) (hm : RMem w' w'.heap.size (rdR (lno l) (ctO (hdr (lno l)).2)) p) (hn : RNils (rdR (lno l) (ctO (hdr (lno l)).2)) p) (hb : Below w.heap.size w w') : RdIs l w (.returned (.tuple #[rv (rdR (lno l) (ctO (hdr (lno l)).2)) p, .int .i64 0, .int .i64 0])) w' := by
  refine ⟨⟨p, ?_, ?_, ?_⟩, hb⟩
  · unfold rdW
    rw [hE, if_pos rfl, hN]; rfl
  · unfold rdW
    rw [hE, if_pos rfl]; exact hm
  · unfold rdW
    rw [hE, if_pos rfl]; exact hn
theorem rd_res {W : World} {q : Nat} {v0 v1 v2 v3 v4 v5 : Value} (h : Has W q 26 #[v0, v1, v2, v3, v4, v5]) (x y : Value) (t : Array Value) (ht : t[2]? = some (.pointer (some ⟨q, 0, none⟩))) (hx : t[3]? = some x) (hy : t[4]? = some y) :
    (results Tryz.f10 t).run Tryz.prog W = .ok (.tuple #[.agg #[v0, v1, v2, v3, v4, v5], x, y]) W := by
  have d0 := h.cell 0
  have d1 := h.cell 1
  have d2 := h.cell 2
  have d3 := h.cell 3
  have d4 := h.cell 4
  have d5 := h.cell 5
  simp at d0 d1 d2 d3 d4 d5
  simp [results, Tryz.results10, go_sem, ht, hx, hy, d0, d1, d2, d3, d4, d5]
theorem Has.six {W : World} {q : Nat} (h : Has W q 26 zr) (v0 v1 v2 v3 v4 v5 : Value) : Has ((((((W.setCell ⟨q, 0, none⟩ v0).setCell ⟨q, 1, none⟩ v1).setCell ⟨q, 2, none⟩ v2).setCell ⟨q, 3, none⟩ v3).setCell ⟨q, 4, none⟩ v4).setCell ⟨q, 5, none⟩ v5) q 26 #[v0, v1, v2, v3, v4, v5] :=
  (((((h.set 0 v0).set 1 v1).set 2 v2).set 3 v3).set 4 v4).set 5 v5

end Go.Proofs.YtkpjpokeonppbaaGreatDoor

namespace Go.Proofs.YtkpjpokeonppbaaGreatDoor
open Go Go.RowKit
set_option linter.unusedVariables false
set_option linter.unusedSimpArgs false

set_option maxRecDepth 100000 in
set_option maxHeartbeats 16000000 in
theorem pRaw_any (l : List UInt8) (hl : l.length ≤ 100000) (B : Nat) (w : World) (hE : Env B w) (hB : B ≤ w.heap.size) : Calls Tryz.prog 10 #[.string (str l)] w (RdIs l w) := by
  have k0 : ∀ W : World, (Builtin.len_ #[9] 3 #[.string (str l)]).run Tryz.prog W = .ok (.int .i64 (l.length : Int)) W := fun W => str_len Tryz.underlying9 l W
  have hb0 : Below w.heap.size w (w.alloc (.cells #[.int .i64 0, .slice none 0 0, .slice none 0 0, .slice none 0 0, .slice none 0 0, .slice none 0 0] 26)) := (Below.refl _ _).alloc (Nat.le_refl _) _
  have hH0 : Has (w.alloc (.cells #[.int .i64 0, .slice none 0 0, .slice none 0 0, .slice none 0 0, .slice none 0 0, .slice none 0 0] 26)) w.heap.size 26 zr := Has.new _ _ _
  obtain ⟨m, hmm⟩ : ∃ m : Int, m = (l.length : Int) := ⟨_, rfl⟩
  rw [← hmm] at k0
  by_cases hm : 40000 < l.length
  · have e0 : decide ((40000 : Int) < m) = true := decide_eq_true (by omega)
    have HR : Hid (rdE l = 4 ∧ rdN l = 0) := Lib.hid ⟨by unfold rdE; rw [if_pos hm], by unfold rdN; rw [if_pos hm]⟩
    have HH := Lib.hid (And.intro hb0 hH0)
    clear hm hE hb0 hH0 hl hmm
    go_enter Tryz.func10, Tryz.ntmps10
    go_wp2
    exact bodyPost_ret (v := .tuple #[.agg #[.int .i64 0, .slice none 0 0, .slice none 0 0, .slice none 0 0, .slice none 0 0, .slice none 0 0], .int .i64 0, .int .i64 4]) (rd_res HH.out.2 _ _ _ rfl rfl rfl) rfl (RdIs.no HR.out.1 (by decide) (by rw [HR.out.2]; rfl) HH.out.1)
  · have e0 : decide ((40000 : Int) < m) = false := decide_eq_false (by omega)
    have hl4 : l.length ≤ 40000 := by omega
    have hne := ltF_ne (lno l)
    have HR : Hid (rdE l = (if (ltF (lno l)).1 ≠ 0 then (ltF (lno l)).1 else (rdR (lno l) (ctO (hdr (lno l)).2)).chk) ∧ rdN l = (if (ltF (lno l)).1 ≠ 0 then (ltF (lno l)).2 else 0)) := Lib.hid ⟨by unfold rdE; rw [if_neg hm], by unfold rdN; rw [if_neg hm]⟩
    have hLl := lno_len l
    have hLs := lno_short l
    have D := Lib.hid (linesOf_in l hl B _ (hE.next hB hb0))
    have HS := Lib.hid (rd_sm (lno l))
    have HNE := Lib.hid hne
    obtain ⟨L, hL⟩ : ∃ L, L = lno l := ⟨_, rfl⟩
    rw [← hL] at hLl hLs D
    have HLL := Lib.hid hL
    have HL := Lib.hid (And.intro hLl hLs)
    have HE := Lib.hid (And.intro hE hB)
    have HH := Lib.hid (And.intro hb0 hH0)
    have HL4 := Lib.hid hl4
    clear hm hE hb0 hH0 hne hLl hLs hL hl4 hl hmm
    go_enter Tryz.func10, Tryz.ntmps10
    go_upto_region 4 with (go_at_call 27; (with_reducible refine D.out.mono ?_); rintro e w1 ⟨A, k, rfl, hs, ha, hb1⟩; have HS1 := Lib.hid hs; have HA1 := Lib.hid ha; have HB1 := Lib.hid hb1; clear hs ha hb1)
    obtain ⟨b, hb⟩ : ∃ b, b = w1.heap.size := ⟨_, rfl⟩
    obtain ⟨W3, hW3⟩ : ∃ W3, W3 = w1.alloc (.cells #[.slice A L.length k, .int .i64 0, .int .i64 0, .int .i64 0] 66) := ⟨_, rfl⟩
    have hB3 : Below w.heap.size w W3 := by rw [hW3]; exact (Below.step HH.out.1 HH.out.1.size HB1.out).alloc (Below.step HH.out.1 HH.out.1.size HB1.out).size _
    have hH3 : Has W3 w.heap.size 26 zr := by rw [hW3]; exact (HH.out.2.keep HB1.out HH.out.2.lt).al _
    have hT3 : Tx W3 b A k L 0 (0, 0) := by
      rw [hW3, hb]
      exact ⟨Has.new _ _ _, HS1.out.to ((Below.refl _ _).alloc (Nat.le_refl _) _) (by simp), fun _ a ha => by have := HA1.out a ha; omega⟩
    have hA3 : ∀ a, A = some a → a.block < W3.heap.size := fun a ha => by have := HA1.out a ha; rw [hW3]; simp; omega
    have hbb : B ≤ b ∧ w.heap.size < b := by have := HE.out.2; have := HB1.out.size; have h9 := HH.out.2.lt; omega
    have DR := Lib.hid (raw_any W3 hT3 (by have := HL.out.1; have := HL4.out; omega) (fun j => by have := HL.out.2 j; have := HL4.out; omega) (HE.out.1.next HE.out.2 hB3) hbb.1 hA3)
    have H3 := Lib.hid (And.intro hB3 hH3)
    have Hbb := Lib.hid hbb
    rw [← hW3, ← hb]
    clear hW3 hb hB3 hH3 hT3 hA3 hbb HS1 HA1 HB1 D HH
    go_upto_region 5 with (go_at_call 28; (with_reducible refine DR.out.mono ?_); rintro e w4 ⟨⟨s, p, f, i, rfl, hT4, hlt, hfo, hyes⟩, hg4⟩; have HT4 := Lib.hid hT4; have HLT := Lib.hid hlt; have HFO := Lib.hid hfo; have HYE := Lib.hid hyes; have HG4 := Lib.hid hg4; clear hT4 hlt hfo hyes hg4)
    obtain ⟨r, hr⟩ : ∃ r, r = w4.heap.size := ⟨_, rfl⟩
    obtain ⟨W5, hW5⟩ : ∃ W5, W5 = w4.alloc (.cells (rc s p) 26) := ⟨_, rfl⟩
    have hT5 : Tx W5 b A k L i f := by rw [hW5]; exact HT4.out.al _
    have hB45 : Below w4.heap.size w4 W5 := by rw [hW5]; exact (Below.refl _ _).alloc (Nat.le_refl _) _
    have hH4 : Has w4 w.heap.size 26 zr := H3.out.2.keepg HG4.out (by intro e; injection e; have := Hbb.out; omega)
    have hH5 : Has W5 w.heap.size 26 zr := hH4.keep hB45 hH4.lt
    have hR5 : Has W5 r 26 (rc s p) := by rw [hW5, hr]; exact Has.new _ _ _
    have hG5 : Below w.heap.size w W5 := Below.step (H3.out.1.grown HG4.out H3.out.1.size (fun k hk => by cases hk; have := Hbb.out; omega)) (Nat.le_trans H3.out.1.size HG4.out.size) hB45
    have hgr : w.heap.size < r := by rw [hr]; exact hH4.lt
    have HYE5 : Hid (f = (0, 0) → s = rdR L (ctO (hdr L).2) ∧ RMem W5 W5.heap.size s p ∧ RNils s p ∧ Far p w.heap.size) := Lib.hid fun h0 => by
      obtain ⟨a1, a2, a3, a4⟩ := HYE.out h0
      exact ⟨a1, a2.to hB45 hB45.size, a3, a4.far H3.out.2.lt⟩
    have HW := Lib.hid (And.intro hG5 (And.intro hH5 hgr))
    have HB5 := Lib.hid hB45
    have HX5 := Lib.hid (And.intro hT5 hR5)
    change Code.wp _ _ _ _ (w4.alloc (.cells (rc s p) 26))
    rw [← hW5, ← hr]
    clear hW5 hr hT5 hB45 hH4 hH5 hR5 hG5 hgr HYE HT4 HG4 H3 DR
    rcases HFO.out with hf0 | hf1
    · obtain ⟨hs, hm5, hn5, hf5⟩ := HYE5.out hf0
      have y2 : W5.cell? ⟨b, 2, none⟩ = some (.int .i64 0) := by have := HX5.out.1.h.cell 2; rw [hf0] at this; exact this
      have y3 : W5.cell? ⟨b, 3, none⟩ = some (.int .i64 0) := by have := HX5.out.1.h.cell 3; rw [hf0] at this; exact this
      have hl0 : ltF (lno l) = (0, 0) := by rw [← HLL.out, HLT.out, hf0]
      have hsl : s = rdR (lno l) (ctO (hdr (lno l)).2) := by rw [hs, HLL.out]
      have hr1 := HR.out.1
      have hr2 := HR.out.2
      rw [hl0, if_neg (by simp), ← hsl] at hr1
      rw [hl0, if_neg (by simp)] at hr2
      have DC := pCheck_any s p W5 (by rw [hsl]; exact HS.out) hm5 hn5
      obtain ⟨x, hx⟩ : ∃ x, x = s.chk := ⟨_, rfl⟩
      rw [← hx] at DC hr1
      have D5 := Lib.hid DC
      have HRX := Lib.hid (And.intro hr1 hr2)
      have HSL := Lib.hid hsl
      have HM5 := Lib.hid (And.intro hm5 (And.intro hn5 hf5))
      have r0 : W5.cell? ⟨r, 0, none⟩ = some (.int .i64 s.m) := HX5.out.2.cell 0
      have r1 : W5.cell? ⟨r, 1, none⟩ = some (.slice p.A1 s.ni p.k1) := HX5.out.2.cell 1
      have r2 : W5.cell? ⟨r, 2, none⟩ = some (.slice p.A2 s.nl p.k2) := HX5.out.2.cell 2
      have r3 : W5.cell? ⟨r, 3, none⟩ = some (.slice p.A3 s.na p.k3) := HX5.out.2.cell 3
      have r4 : W5.cell? ⟨r, 4, none⟩ = some (.slice p.A4 s.nb p.k4) := HX5.out.2.cell 4
      have r5 : W5.cell? ⟨r, 5, none⟩ = some (.slice p.A5 s.nc p.k5) := HX5.out.2.cell 5
      clear hf0 hs hm5 hn5 hf5 hl0 hsl hr1 hr2 DC hx HYE5 HLT HFO HR HNE
      by_cases h0 : x = 0
      · have e1 : (x != 0) = false := by simpa using h0
        have HX0 := Lib.hid h0
        clear h0
        go_wp2_with (go_at_call 21; (with_reducible refine D5.out.mono ?_); rintro e w6 ⟨rfl, hb6⟩; have hH6 := HW.out.2.1.keep hb6 HW.out.2.1.lt; have hR6 := HX5.out.2.keep hb6 HX5.out.2.lt; have H6 := Lib.hid (And.intro hH6 hb6); have r0 : w6.cell? ⟨r, 0, none⟩ = some (.int .i64 s.m) := hR6.cell 0; have r1 : w6.cell? ⟨r, 1, none⟩ = some (.slice p.A1 s.ni p.k1) := hR6.cell 1; have r2 : w6.cell? ⟨r, 2, none⟩ = some (.slice p.A2 s.nl p.k2) := hR6.cell 2; have r3 : w6.cell? ⟨r, 3, none⟩ = some (.slice p.A3 s.na p.k3) := hR6.cell 3; have r4 : w6.cell? ⟨r, 4, none⟩ = some (.slice p.A4 s.nb p.k4) := hR6.cell 4; have r5 : w6.cell? ⟨r, 5, none⟩ = some (.slice p.A5 s.nc p.k5) := hR6.cell 5; have d0 : w6.cell? ⟨w.heap.size, 0, none⟩ = some (.int .i64 0) := hH6.cell 0; have u0 : w6.frozen? ⟨w.heap.size, 0, none⟩ = false := hH6.fz 0; have d1 : w6.cell? ⟨w.heap.size, 1, none⟩ = some (.slice none 0 0) := hH6.cell 1; have u1 : w6.frozen? ⟨w.heap.size, 1, none⟩ = false := hH6.fz 1; have d2 : w6.cell? ⟨w.heap.size, 2, none⟩ = some (.slice none 0 0) := hH6.cell 2; have u2 : w6.frozen? ⟨w.heap.size, 2, none⟩ = false := hH6.fz 2; have d3 : w6.cell? ⟨w.heap.size, 3, none⟩ = some (.slice none 0 0) := hH6.cell 3; have u3 : w6.frozen? ⟨w.heap.size, 3, none⟩ = false := hH6.fz 3; have d4 : w6.cell? ⟨w.heap.size, 4, none⟩ = some (.slice none 0 0) := hH6.cell 4; have u4 : w6.frozen? ⟨w.heap.size, 4, none⟩ = false := hH6.fz 4; have d5 : w6.cell? ⟨w.heap.size, 5, none⟩ = some (.slice none 0 0) := hH6.cell 5; have u5 : w6.frozen? ⟨w.heap.size, 5, none⟩ = false := hH6.fz 5; clear hH6 hR6 hb6)
        refine bodyPost_ret (v := .tuple #[.agg #[.int .i64 s.m, .slice p.A1 s.ni p.k1, .slice p.A2 s.nl p.k2, .slice p.A3 s.na p.k3, .slice p.A4 s.nb p.k4, .slice p.A5 s.nc p.k5], .int .i64 0, .int .i64 0]) (rd_res (H6.out.1.six (.int .i64 s.m) (.slice p.A1 s.ni p.k1) (.slice p.A2 s.nl p.k2) (.slice p.A3 s.na p.k3) (.slice p.A4 s.nb p.k4) (.slice p.A5 s.nc p.k5)) _ _ _ rfl rfl rfl) rfl ?_
        have hB6 := below_set6 (Below.step HW.out.1 HW.out.1.size H6.out.2) (Nat.le_refl _) (.int .i64 s.m) (.slice p.A1 s.ni p.k1) (.slice p.A2 s.nl p.k2) (.slice p.A3 s.na p.k3) (.slice p.A4 s.nb p.k4) (.slice p.A5 s.nc p.k5)
        have hM6 := (HM5.out.1.to H6.out.2 H6.out.2.size).set6 HM5.out.2.2 (.int .i64 s.m) (.slice p.A1 s.ni p.k1) (.slice p.A2 s.nl p.k2) (.slice p.A3 s.na p.k3) (.slice p.A4 s.nb p.k4) (.slice p.A5 s.nc p.k5)
        have hN6 := HM5.out.2.1
        have e9 := HSL.out
        subst e9
        exact RdIs.yes (by rw [HRX.out.1, HX0.out]) HRX.out.2 hM6 hN6 hB6
      · have e1 : (x != 0) = true := by simpa using h0
        have HX0 := Lib.hid h0
        clear h0
        go_wp2_with (go_at_call 21; (with_reducible refine D5.out.mono ?_); rintro e w6 ⟨rfl, hb6⟩; have hH6 := HW.out.2.1.keep hb6 HW.out.2.1.lt; have H6 := Lib.hid (And.intro hH6 hb6); have d0 : w6.cell? ⟨w.heap.size, 0, none⟩ = some (.int .i64 0) := hH6.cell 0; have u0 : w6.frozen? ⟨w.heap.size, 0, none⟩ = false := hH6.fz 0; have d1 : w6.cell? ⟨w.heap.size, 1, none⟩ = some (.slice none 0 0) := hH6.cell 1; have u1 : w6.frozen? ⟨w.heap.size, 1, none⟩ = false := hH6.fz 1; have d2 : w6.cell? ⟨w.heap.size, 2, none⟩ = some (.slice none 0 0) := hH6.cell 2; have u2 : w6.frozen? ⟨w.heap.size, 2, none⟩ = false := hH6.fz 2; have d3 : w6.cell? ⟨w.heap.size, 3, none⟩ = some (.slice none 0 0) := hH6.cell 3; have u3 : w6.frozen? ⟨w.heap.size, 3, none⟩ = false := hH6.fz 3; have d4 : w6.cell? ⟨w.heap.size, 4, none⟩ = some (.slice none 0 0) := hH6.cell 4; have u4 : w6.frozen? ⟨w.heap.size, 4, none⟩ = false := hH6.fz 4; have d5 : w6.cell? ⟨w.heap.size, 5, none⟩ = some (.slice none 0 0) := hH6.cell 5; have u5 : w6.frozen? ⟨w.heap.size, 5, none⟩ = false := hH6.fz 5; clear hH6 hb6)
        refine bodyPost_ret (v := .tuple #[.agg #[.int .i64 0, .slice none 0 0, .slice none 0 0, .slice none 0 0, .slice none 0 0, .slice none 0 0], .int .i64 0, .int .i64 x]) (rd_res (H6.out.1.six (.int .i64 0) (.slice none 0 0) (.slice none 0 0) (.slice none 0 0) (.slice none 0 0) (.slice none 0 0)) _ _ _ rfl rfl rfl) rfl ?_
        exact RdIs.no HRX.out.1 HX0.out (by rw [HRX.out.2]; rfl) (below_set6 (Below.step HW.out.1 HW.out.1.size H6.out.2) (Nat.le_refl _) (.int .i64 0) (.slice none 0 0) (.slice none 0 0) (.slice none 0 0) (.slice none 0 0) (.slice none 0 0))
    · obtain ⟨fy, fx⟩ := f
      have hlt := HLT.out
      rw [HLL.out] at hlt
      have hne := HNE.out
      rw [hlt] at hne
      have hx0 : fx ≠ 0 := by
        rcases hne with h | h
        · have := congrArg Prod.snd h; dsimp only at this hf1; omega
        · exact h.1
      have hr1 := HR.out.1
      have hr2 := HR.out.2
      rw [hlt, if_pos hx0] at hr1 hr2
      have y2 : W5.cell? ⟨b, 2, none⟩ = some (.int .i64 (fy : Int)) := HX5.out.1.h.cell 2
      have y3 : W5.cell? ⟨b, 3, none⟩ = some (.int .i64 fx) := HX5.out.1.h.cell 3
      have hyn : ((fy : Int) == 0) = false := by dsimp only at hf1; simp; omega
      have HRX := Lib.hid (And.intro hr1 (And.intro hr2 hx0))
      have d0 : W5.cell? ⟨w.heap.size, 0, none⟩ = some (.int .i64 0) := HW.out.2.1.cell 0
      have u0 : W5.frozen? ⟨w.heap.size, 0, none⟩ = false := HW.out.2.1.fz 0
      have d1 : W5.cell? ⟨w.heap.size, 1, none⟩ = some (.slice none 0 0) := HW.out.2.1.cell 1
      have u1 : W5.frozen? ⟨w.heap.size, 1, none⟩ = false := HW.out.2.1.fz 1
      have d2 : W5.cell? ⟨w.heap.size, 2, none⟩ = some (.slice none 0 0) := HW.out.2.1.cell 2
      have u2 : W5.frozen? ⟨w.heap.size, 2, none⟩ = false := HW.out.2.1.fz 2
      have d3 : W5.cell? ⟨w.heap.size, 3, none⟩ = some (.slice none 0 0) := HW.out.2.1.cell 3
      have u3 : W5.frozen? ⟨w.heap.size, 3, none⟩ = false := HW.out.2.1.fz 3
      have d4 : W5.cell? ⟨w.heap.size, 4, none⟩ = some (.slice none 0 0) := HW.out.2.1.cell 4
      have u4 : W5.frozen? ⟨w.heap.size, 4, none⟩ = false := HW.out.2.1.fz 4
      have d5 : W5.cell? ⟨w.heap.size, 5, none⟩ = some (.slice none 0 0) := HW.out.2.1.cell 5
      have u5 : W5.frozen? ⟨w.heap.size, 5, none⟩ = false := HW.out.2.1.fz 5
      clear hf1 hlt hne hx0 hr1 hr2 HYE5 HLT HFO HR HNE
      go_upto_region 6 with fail
      have hS0 : (fun w' : World => w'.cell? ⟨b, 2, none⟩ = some (.int .i64 (fy : Int)) ∧ w'.cell? ⟨b, 3, none⟩ = some (.int .i64 fx)) W5.drew := ⟨y2, y3⟩
      refine wp_slots (fun f => Sz f 34 ∧ Slot f 2 (.pointer (some ⟨w.heap.size, 0, none⟩)) ∧ Slot f 5 (.pointer (some ⟨b, 0, none⟩))) ⟨⟨rfl, rfl⟩, ⟨rfl⟩, ⟨rfl⟩⟩ fun a0 hA0 hR => ?_
      obtain ⟨hZ, hs2, hs5⟩ := hR
      have HA := Lib.hid hA0
      clear hA0
      refine wp_region_T (fun w' : World => w'.cell? ⟨b, 2, none⟩ = some (.int .i64 (fy : Int)) ∧ w'.cell? ⟨b, 3, none⟩ = some (.int .i64 fx)) 10 (by kernel_rfl) ?_
      refine WT.h ?_
      (refine wt_take0 0  (v := ?_) rfl rfl (by kernel_rfl) (by kernel_rfl) (by kernel_rfl) (by kernel_rfl) (fun _ _ _ h => h) rfl hS0  (fun ev hk  w hS => ?_) ?_; rotate_left; focus (obtain ⟨j2, j3⟩ := hS; go_simp; rfl)); (refine wt_take1 1 5 (v := ?_) rfl rfl (by kernel_rfl) (by kernel_rfl) (by kernel_rfl) (by kernel_rfl) (fun _ _ _ h => h) rfl hS0 (by (repeat (first | (refine slot_hit (N := 34) ?_ (by rfl); (repeat (refine sz_put ?_)); assumption; done) | (apply slot_miss; focus rfl))); all_goals assumption) (fun ev hk hv0 w hS => ?_) ?_; rotate_left; focus (obtain ⟨j2, j3⟩ := hS; go_simp; rfl)); (refine wt_take1 2 21 (v := ?_) rfl rfl (by kernel_rfl) (by kernel_rfl) (by kernel_rfl) (by kernel_rfl) (fun _ _ _ h => h) rfl hS0 (by (repeat (first | (refine slot_hit (N := 34) ?_ (by rfl); (repeat (refine sz_put ?_)); assumption; done) | (apply slot_miss; focus rfl))); all_goals assumption) (fun ev hk hv0 w hS => ?_) ?_; rotate_left; focus (obtain ⟨j2, j3⟩ := hS; go_simp; rfl)); (refine wt_take1 3 22 (v := ?_) rfl rfl (by kernel_rfl) (by kernel_rfl) (by kernel_rfl) (by kernel_rfl) (fun _ _ _ h => h) rfl hS0 (by (repeat (first | (refine slot_hit (N := 34) ?_ (by rfl); (repeat (refine sz_put ?_)); assumption; done) | (apply slot_miss; focus rfl))); all_goals assumption) (fun ev hk hv0 w hS => ?_) ?_; rotate_left; focus (obtain ⟨j2, j3⟩ := hS; go_simp; rfl)); (refine wt_take1 4 5 (v := ?_) rfl rfl (by kernel_rfl) (by kernel_rfl) (by kernel_rfl) (by kernel_rfl) (fun _ _ _ h => h) rfl hS0 (by (repeat (first | (refine slot_hit (N := 34) ?_ (by rfl); (repeat (refine sz_put ?_)); assumption; done) | (apply slot_miss; focus rfl))); all_goals assumption) (fun ev hk hv0 w hS => ?_) ?_; rotate_left; focus (obtain ⟨j2, j3⟩ := hS; go_simp; rfl)); (refine wt_take1 5 24 (v := ?_) rfl rfl (by kernel_rfl) (by kernel_rfl) (by kernel_rfl) (by kernel_rfl) (fun _ _ _ h => h) rfl hS0 (by (repeat (first | (refine slot_hit (N := 34) ?_ (by rfl); (repeat (refine sz_put ?_)); assumption; done) | (apply slot_miss; focus rfl))); all_goals assumption) (fun ev hk hv0 w hS => ?_) ?_; rotate_left; focus (obtain ⟨j2, j3⟩ := hS; go_simp; rfl)); (refine wt_take1 6 25 (v := ?_) rfl rfl (by kernel_rfl) (by kernel_rfl) (by kernel_rfl) (by kernel_rfl) (fun _ _ _ h => h) rfl hS0 (by (repeat (first | (refine slot_hit (N := 34) ?_ (by rfl); (repeat (refine sz_put ?_)); assumption; done) | (apply slot_miss; focus rfl))); all_goals assumption) (fun ev hk hv0 w hS => ?_) ?_; rotate_left; focus (obtain ⟨j2, j3⟩ := hS; go_simp; rfl))
      refine wt_act2 7 2 20 (by kernel_rfl) rfl rfl rfl (by (repeat (first | (refine slot_hit (N := 34) ?_ (by rfl); (repeat (refine sz_put ?_)); assumption; done) | (apply slot_miss; focus rfl))); all_goals assumption) (by (repeat (first | (refine slot_hit (N := 34) ?_ (by rfl); (repeat (refine sz_put ?_)); assumption; done) | (apply slot_miss; focus rfl))); all_goals assumption) (w' := ?_) (fun ev hk hv0 hv1 => ?_) ?_; rotate_left; focus (go_simp; rfl)
      have hF6 := HX5.out.1.h.far6r (b := w.heap.size) (by have := Hbb.out; omega) (.int .i64 0) (.slice none 0 0) (.slice none 0 0) (.slice none 0 0) (.slice none 0 0) (.slice none 0 0)
      obtain ⟨W6, hW6⟩ : ∃ W6, W6 = ((((((W5.setCell ⟨w.heap.size, 0, none⟩ (.int .i64 0)).setCell ⟨w.heap.size, 1, none⟩ (.slice none 0 0)).setCell ⟨w.heap.size, 2, none⟩ (.slice none 0 0)).setCell ⟨w.heap.size, 3, none⟩ (.slice none 0 0)).setCell ⟨w.heap.size, 4, none⟩ (.slice none 0 0)).setCell ⟨w.heap.size, 5, none⟩ (.slice none 0 0)) := ⟨_, rfl⟩
      have c2 : W6.cell? ⟨b, 2, none⟩ = some (.int .i64 (fy : Int)) := by rw [hW6]; exact hF6.cell 2
      have c3 : W6.cell? ⟨b, 3, none⟩ = some (.int .i64 fx) := by rw [hW6]; exact hF6.cell 3
      have hX6 : Has W6 w.heap.size 26 zr := by rw [hW6]; exact HW.out.2.1.six (.int .i64 0) (.slice none 0 0) (.slice none 0 0) (.slice none 0 0) (.slice none 0 0) (.slice none 0 0)
      have hB6 : Below w.heap.size w W6 := by rw [hW6]; exact below_set6 HW.out.1 (Nat.le_refl _) (.int .i64 0) (.slice none 0 0) (.slice none 0 0) (.slice none 0 0) (.slice none 0 0) (.slice none 0 0)
      have H6 := Lib.hid (And.intro hX6 hB6)
      rw [← hW6]
      clear hS0 hW6 hX6 hB6 hF6
      have hS0 : (fun w' : World => w'.cell? ⟨b, 2, none⟩ = some (.int .i64 (fy : Int)) ∧ w'.cell? ⟨b, 3, none⟩ = some (.int .i64 fx)) W6.drew := ⟨c2, c3⟩
      refine ⟨fun _ => hS0, ?_⟩
      (refine wt_assign 8 23 rfl rfl (by kernel_rfl) (by kernel_rfl) (by kernel_rfl) (by kernel_rfl) (fun _ _ _ h => h) rfl hS0 (by (repeat (first | (refine slot_hit (N := 34) ?_ (by rfl); (repeat (refine sz_put ?_)); assumption; done) | (apply slot_miss; focus rfl))); all_goals assumption) rfl ?_); (refine wt_assign 9 26 rfl rfl (by kernel_rfl) (by kernel_rfl) (by kernel_rfl) (by kernel_rfl) (fun _ _ _ h => h) rfl hS0 (by (repeat (first | (refine slot_hit (N := 34) ?_ (by rfl); (repeat (refine sz_put ?_)); assumption; done) | (apply slot_miss; focus rfl))); all_goals assumption) rfl ?_)
      refine wt_done (by kernel_rfl) (NoPanic.normal ?_) _
      have ha := HA.out
      subst ha
      go_wp2
      refine bodyPost_ret (v := .tuple #[.agg #[.int .i64 0, .slice none 0 0, .slice none 0 0, .slice none 0 0, .slice none 0 0, .slice none 0 0], .int .i64 (fy : Int), .int .i64 fx]) (rd_res (W := W6.drew) H6.out.1 _ _ _ rfl rfl rfl) rfl ?_
      exact RdIs.no HRX.out.1 HRX.out.2.2 (by rw [HRX.out.2.1]) (below_dn H6.out.2 1)

end Go.Proofs.YtkpjpokeonppbaaGreatDoor

namespace Go.Proofs.YtkpjpokeonppbaaGreatDoor
open Go Go.RowKit
set_option linter.unusedVariables false
set_option linter.unusedSimpArgs false

/-- the circuit that is read -/
def rdC (l : List UInt8) : Cr := if rdE l = 0 then (rdW l).oc else zeC
/-- what Circuit returns -/
structure RcIs (l : List UInt8) (w : World) (e : Ending) (w' : World) : Prop where
  ex : ∃ p, e = .returned (.tuple #[cv (rdC l) p, .int .i64 (rdN l : Int), .int .i64 (rdE l)]) ∧ Mem w' w'.heap.size (rdC l) p ∧ Nils (rdC l) p
  b : Below w.heap.size w w'
theorem z_sm : RSm zRw := ⟨ze_i, by decide, by decide, by decide, by decide, by decide, fun _ _ => ze_i, fun _ _ => ze_i, fun _ _ => ze_i, fun _ _ => ze_i, fun _ _ => ze_i, fun _ _ => ze_i, fun _ _ => ze_i, fun _ _ => ze_i, fun _ _ => ze_i⟩
theorem rdW_sm (l : List UInt8) : RSm (rdW l) := by
  unfold rdW
  split
  · exact rd_sm _
  · exact z_sm
/-- what is read without an error is right -/
theorem rd_good {l : List UInt8} (h : rdE l = 0) : (rdW l).chk = 0 ∧ rdN l = 0 := by
  unfold rdW
  rw [if_pos h]
  unfold rdE at h
  unfold rdN
  split at h
  · exact absurd h (by decide)
  · next h4 =>
    rw [if_neg h4]
    split at h
    · next h0 => exact absurd h h0
    · next h0 => exact ⟨h, by rw [if_neg h0]⟩
theorem sets5_below {B : Nat} {w W : World} {b : Nat} (h : Below B w W) (hb : B ≤ b) (v0 v1 v2 v3 v4 : Value) : Below B w (((((W.setCell ⟨b, 0, none⟩ v0).setCell ⟨b, 1, none⟩ v1).setCell ⟨b, 2, none⟩ v2).setCell ⟨b, 3, none⟩ v3).setCell ⟨b, 4, none⟩ v4) :=
  ((((h.setCell hb v0).setCell hb v1).setCell hb v2).setCell hb v3).setCell hb v4
theorem rc_res {W : World} {q : Nat} {v0 v1 v2 v3 v4 : Value} (h : Has W q 41 #[v0, v1, v2, v3, v4]) (x y : Value) (t : Array Value) (ht : t[2]? = some (.pointer (some ⟨q, 0, none⟩))) (hx : t[3]? = some x) (hy : t[4]? = some y) :
    (results Tryz.f16 t).run Tryz.prog W = .ok (.tuple #[.agg #[v0, v1, v2, v3, v4], x, y]) W := by
  have d0 := h.cell 0
  have d1 := h.cell 1
  have d2 := h.cell 2
  have d3 := h.cell 3
  have d4 := h.cell 4
  simp at d0 d1 d2 d3 d4
  simp [results, Tryz.results16, go_sem, ht, hx, hy, d0, d1, d2, d3, d4]
theorem Has.five {W : World} {q : Nat} (h : Has W q 41 zc) (v0 v1 v2 v3 v4 : Value) : Has (((((W.setCell ⟨q, 0, none⟩ v0).setCell ⟨q, 1, none⟩ v1).setCell ⟨q, 2, none⟩ v2).setCell ⟨q, 3, none⟩ v3).setCell ⟨q, 4, none⟩ v4) q 41 #[v0, v1, v2, v3, v4] :=
  ((((h.set 0 v0).set 1 v1).set 2 v2).set 3 v3).set 4 v4
theorem PairsAt.by {w w' : World} {A : Option Addr} {n : Nat} {f g : Nat → Int} {r : Option Nat} (h : PairsAt w w.heap.size A n f g) (hg : w.grownBy w' r) (hr : ∀ a, A = some a → some a.block ≠ r) : PairsAt w' w'.heap.size A n f g := fun hn => by
  obtain ⟨a, e, hl, hc⟩ := h hn
  have hne := hr a e
  refine ⟨a, e, Nat.lt_of_lt_of_le hl hg.size, fun j hj => ?_⟩
  rw [World.cell?_of_block (w := w) (hg.block (a.add (j * 2)).block (by rw [add_block]; exact hl) (by rw [add_block]; exact hne)), World.cell?_of_block (w := w) (a := ⟨(a.add (j * 2)).block, (a.add (j * 2)).off + 1, none⟩) (hg.block (a.add (j * 2)).block (by rw [add_block]; exact hl) (by rw [add_block]; exact hne))]
  exact hc j hj
theorem Mem.by {w w' : World} {c : Cr} {p : Pl} {r : Option Nat} (h : Mem w w.heap.size c p) (hg : w.grownBy w' r) (hr : ∀ a, (p.A1 = some a ∨ p.A2 = some a ∨ p.A3 = some a ∨ p.A4 = some a) → some a.block ≠ r) : Mem w' w'.heap.size c p :=
  ⟨h.la.by hg fun a e => hr a (Or.inl e), h.an.by hg fun a e => hr a (Or.inr (Or.inl e)), h.bd.by hg fun _ a e => hr a (Or.inr (Or.inr (Or.inl e))), h.cn.by hg fun _ a e => hr a (Or.inr (Or.inr (Or.inr e)))⟩
theorem sets5_grown (W : World) (r : Nat) (v0 v1 v2 v3 v4 : Value) : W.grownBy (((((W.setCell ⟨r, 0, none⟩ v0).setCell ⟨r, 1, none⟩ v1).setCell ⟨r, 2, none⟩ v2).setCell ⟨r, 3, none⟩ v3).setCell ⟨r, 4, none⟩ v4) (some r) :=
  grown_trans (grown_trans (grown_trans (grown_trans (grown_put W r 0 _) (grown_put _ r 1 _)) (grown_put _ r 2 _)) (grown_put _ r 3 _)) (grown_put _ r 4 _)
theorem ze_nils : Nils zeC ⟨none, none, none, none, 0, 0, 0, 0⟩ := ⟨fun _ => ⟨rfl, rfl⟩, fun _ => ⟨rfl, rfl⟩, fun _ => ⟨rfl, rfl⟩, fun _ => ⟨rfl, rfl⟩⟩

set_option maxRecDepth 100000 in
set_option maxHeartbeats 16000000 in
theorem pCirc_any (l : List UInt8) (hl : l.length ≤ 100000) (B : Nat) (w : World) (hE : Env B w) (hB : B ≤ w.heap.size) : Calls Tryz.prog 16 #[.string (str l)] w (RcIs l w) := by
  have hb0 : Below w.heap.size w (w.alloc (.cells #[.int .i64 0, .slice none 0 0, .slice none 0 0, .slice none 0 0, .slice none 0 0] 41)) := (Below.refl _ _).alloc (Nat.le_refl _) _
  have hH0 : Has (w.alloc (.cells #[.int .i64 0, .slice none 0 0, .slice none 0 0, .slice none 0 0, .slice none 0 0] 41)) w.heap.size 41 zc := Has.new _ _ _
  have D := Lib.hid (pRaw_any l hl B _ (hE.next hB hb0) (Nat.le_trans hB hb0.size))
  have HS := Lib.hid (rdW_sm l)
  have HC : Hid (rdC l = if rdE l = 0 then (rdW l).oc else zeC) := Lib.hid rfl
  have HG : Hid (rdE l = 0 → (rdW l).chk = 0 ∧ rdN l = 0) := Lib.hid rd_good
  have DX : Hid (∀ e w', RdIs l (w.alloc (.cells #[.int .i64 0, .slice none 0 0, .slice none 0 0, .slice none 0 0, .slice none 0 0] 41)) e w' → ∃ p, e = .returned (.tuple #[rv (rdW l) p, .int .i64 (rdN l : Int), .int .i64 (rdE l)]) ∧ RMem w' w'.heap.size (rdW l) p ∧ RNils (rdW l) p ∧ Below (w.alloc (.cells #[.int .i64 0, .slice none 0 0, .slice none 0 0, .slice none 0 0, .slice none 0 0] 41)).heap.size (w.alloc (.cells #[.int .i64 0, .slice none 0 0, .slice none 0 0, .slice none 0 0, .slice none 0 0] 41)) w') := Lib.hid fun e w' ⟨⟨p, a, b, c⟩, d⟩ => ⟨p, a, b, c, d⟩
  obtain ⟨C, hC⟩ : ∃ C, C = rdC l := ⟨_, rfl⟩
  obtain ⟨s, hs⟩ : ∃ s, s = rdW l := ⟨_, rfl⟩
  obtain ⟨x, hx⟩ : ∃ x, x = rdE l := ⟨_, rfl⟩
  obtain ⟨N, hN⟩ : ∃ N, N = (rdN l : Int) := ⟨_, rfl⟩
  rw [← hs, ← hx, ← hN] at DX
  rw [← hs] at HS
  rw [← hC, ← hs, ← hx] at HC
  have HG2 : Hid (x = 0 → s.chk = 0 ∧ N = 0) := Lib.hid (by rw [hx, hs, hN]; intro h; obtain ⟨a, b⟩ := rd_good h; exact ⟨a, by rw [b]; rfl⟩)
  have HQ := Lib.hid (And.intro hC (And.intro hx hN))
  have HH := Lib.hid (And.intro hb0 hH0)
  clear hE hB hb0 hH0 hC hs hx hN HG hl
  by_cases h0 : x = 0
  · have e0 : (x != 0) = false := by simpa using h0
    have HG3 := Lib.hid (HG2.out h0)
    have HC2 : Hid (C = s.oc) := Lib.hid (by rw [HC.out, if_pos h0])
    have HX := Lib.hid h0
    clear h0
    go_enter Tryz.func16, Tryz.ntmps16
    go_upto_region 4 with (go_at_call 10; (with_reducible refine D.out.mono ?_); intro e w1 hx1; obtain ⟨p, rfl, hm, hn, hb1⟩ := DX.out _ _ hx1; have HM1 := Lib.hid (And.intro hm hn); have HB1 := Lib.hid hb1; clear hx1 hm hn hb1)
    obtain ⟨r, hr⟩ : ∃ r, r = w1.heap.size := ⟨_, rfl⟩
    obtain ⟨W3, hW3⟩ : ∃ W3, W3 = w1.alloc (.cells (rc s p) 26) := ⟨_, rfl⟩
    have hb3 : Below w1.heap.size w1 W3 := by rw [hW3]; exact (Below.refl _ _).alloc (Nat.le_refl _) _
    have hR3 : Has W3 r 26 (rc s p) := by rw [hW3, hr]; exact Has.new _ _ _
    have hH3 : Has W3 w.heap.size 41 zc := (HH.out.2.keep HB1.out HH.out.2.lt).keep hb3 (HH.out.2.keep HB1.out HH.out.2.lt).lt
    have hB3 : Below w.heap.size w W3 := Below.step (Below.step HH.out.1 HH.out.1.size HB1.out) (Below.step HH.out.1 HH.out.1.size HB1.out).size hb3
    have hsm := Rw.chk_parts HG3.out.1
    have DC := Lib.hid (circ_yes s p W3 s.m.toNat (by omega) HS.out (HM1.out.1.to hb3 hb3.size) HM1.out.2 HG3.out.1)
    have HCU : Hid (C = s.cir.cut) := Lib.hid (by rw [HC2.out, Rw.oc_yes HG3.out.1])
    have hw3 := hH3.lt
    have HLT3 := Lib.hid hw3
    have H3 := Lib.hid (And.intro hH3 hB3)
    have r0 : W3.cell? ⟨r, 0, none⟩ = some (.int .i64 s.m) := hR3.cell 0
    have r1 : W3.cell? ⟨r, 1, none⟩ = some (.slice p.A1 s.ni p.k1) := hR3.cell 1
    have r2 : W3.cell? ⟨r, 2, none⟩ = some (.slice p.A2 s.nl p.k2) := hR3.cell 2
    have r3 : W3.cell? ⟨r, 3, none⟩ = some (.slice p.A3 s.na p.k3) := hR3.cell 3
    have r4 : W3.cell? ⟨r, 4, none⟩ = some (.slice p.A4 s.nb p.k4) := hR3.cell 4
    have r5 : W3.cell? ⟨r, 5, none⟩ = some (.slice p.A5 s.nc p.k5) := hR3.cell 5
    change Code.wp _ _ _ _ (w1.alloc (.cells (rc s p) 26))
    rw [← hW3, ← hr]
    clear hW3 hr hb3 hR3 hH3 hB3 HM1 HB1 D DX HH hsm hw3
    go_upto_region 5 with (go_at_call 24; (with_reducible refine DC.out.mono ?_); intro e w4 hx4; obtain ⟨q, gg, rfl, hm4, hn4, _, hb4, _, hf4⟩ := hx4; have HM4 := Lib.hid (And.intro hm4 (And.intro hn4 hf4)); have HB4 := Lib.hid hb4; clear hm4 hn4 hf4 hb4)
    obtain ⟨W5, hW5⟩ : ∃ W5, W5 = w4.alloc (.cells #[.int .i64 s.cir.i, .slice q.A1 s.cir.nl q.k1, .slice q.A2 s.cir.na q.k2, .slice q.A3 s.cir.nb q.k3, .slice q.A4 s.cir.nc q.k4] 41) := ⟨_, rfl⟩
    obtain ⟨e5, hr5⟩ : ∃ e5, e5 = w4.heap.size := ⟨_, rfl⟩
    have hb5 : Below w4.heap.size w4 W5 := by rw [hW5]; exact (Below.refl _ _).alloc (Nat.le_refl _) _
    have hR5 : Has W5 e5 41 #[.int .i64 s.cir.i, .slice q.A1 s.cir.nl q.k1, .slice q.A2 s.cir.na q.k2, .slice q.A3 s.cir.nb q.k3, .slice q.A4 s.cir.nc q.k4] := by rw [hW5, hr5]; exact Has.new _ _ _
    have hH4 := H3.out.1.keep HB4.out H3.out.1.lt
    have hH5 : Has W5 w.heap.size 41 zc := hH4.keep hb5 hH4.lt
    have hB5 : Below w.heap.size w W5 := Below.step (Below.step H3.out.2 H3.out.2.size HB4.out) (Below.step H3.out.2 H3.out.2.size HB4.out).size hb5
    have hM5 : Mem W5 W5.heap.size s.cir q := HM4.out.1.to hb5 hb5.size
    have H5 := Lib.hid (And.intro hH5 (And.intro hB5 hM5))
    have y0 : W5.cell? ⟨e5, 0, none⟩ = some (.int .i64 s.cir.i) := hR5.cell 0
    have y1 : W5.cell? ⟨e5, 1, none⟩ = some (.slice q.A1 s.cir.nl q.k1) := hR5.cell 1
    have y2 : W5.cell? ⟨e5, 2, none⟩ = some (.slice q.A2 s.cir.na q.k2) := hR5.cell 2
    have y3 : W5.cell? ⟨e5, 3, none⟩ = some (.slice q.A3 s.cir.nb q.k3) := hR5.cell 3
    have y4 : W5.cell? ⟨e5, 4, none⟩ = some (.slice q.A4 s.cir.nc q.k4) := hR5.cell 4
    have d0 : W5.cell? ⟨w.heap.size, 0, none⟩ = some (.int .i64 0) := hH5.cell 0
    have u0 : W5.frozen? ⟨w.heap.size, 0, none⟩ = false := hH5.fz 0
    have d1 : W5.cell? ⟨w.heap.size, 1, none⟩ = some (.slice none 0 0) := hH5.cell 1
    have u1 : W5.frozen? ⟨w.heap.size, 1, none⟩ = false := hH5.fz 1
    have d2 : W5.cell? ⟨w.heap.size, 2, none⟩ = some (.slice none 0 0) := hH5.cell 2
    have u2 : W5.frozen? ⟨w.heap.size, 2, none⟩ = false := hH5.fz 2
    have d3 : W5.cell? ⟨w.heap.size, 3, none⟩ = some (.slice none 0 0) := hH5.cell 3
    have u3 : W5.frozen? ⟨w.heap.size, 3, none⟩ = false := hH5.fz 3
    have d4 : W5.cell? ⟨w.heap.size, 4, none⟩ = some (.slice none 0 0) := hH5.cell 4
    have u4 : W5.frozen? ⟨w.heap.size, 4, none⟩ = false := hH5.fz 4
    rw [← hW5, ← hr5]
    clear hW5 hr5 hb5 hR5 hH4 hH5 hB5 hM5 r0 r1 r2 r3 r4 r5
    go_wp2
    refine bodyPost_ret (v := .tuple #[.agg #[.int .i64 s.cir.i, .slice q.A1 s.cir.nl q.k1, .slice q.A2 s.cir.na q.k2, .slice q.A3 s.cir.nb q.k3, .slice q.A4 s.cir.nc q.k4], .int .i64 0, .int .i64 0]) (rc_res (H5.out.1.five (.int .i64 s.cir.i) (.slice q.A1 s.cir.nl q.k1) (.slice q.A2 s.cir.na q.k2) (.slice q.A3 s.cir.nb q.k3) (.slice q.A4 s.cir.nc q.k4)) _ _ _ rfl rfl rfl) rfl ?_
    have hg5 := sets5_grown W5 w.heap.size (.int .i64 s.cir.i) (.slice q.A1 s.cir.nl q.k1) (.slice q.A2 s.cir.na q.k2) (.slice q.A3 s.cir.nb q.k3) (.slice q.A4 s.cir.nc q.k4)
    have hm5 := H5.out.2.2.by hg5 fun a ha => by have := HM4.out.2.2 a ha; have := HLT3.out; intro e; injection e; omega
    have hbl := sets5_below H5.out.2.1 (Nat.le_refl _) (.int .i64 s.cir.i) (.slice q.A1 s.cir.nl q.k1) (.slice q.A2 s.cir.na q.k2) (.slice q.A3 s.cir.nb q.k3) (.slice q.A4 s.cir.nc q.k4)
    refine ⟨⟨q, ?_, ?_, ?_⟩, hbl⟩
    · rw [← HQ.out.1, ← HQ.out.2.1, ← HQ.out.2.2, HX.out, HG3.out.2, HCU.out]; rfl
    · rw [← HQ.out.1, HCU.out]; exact Cr.cut_mem hm5
    · rw [← HQ.out.1, HCU.out]; exact Cr.cut_nils HM4.out.2.1
  · have e0 : (x != 0) = true := by simpa using h0
    have HC2 : Hid (C = zeC) := Lib.hid (by rw [HC.out, if_neg h0])
    clear h0
    go_enter Tryz.func16, Tryz.ntmps16
    go_upto_region 3 with (go_at_call 10; (with_reducible refine D.out.mono ?_); intro e w1 hx1; obtain ⟨p, rfl, hm, hn, hb1⟩ := DX.out _ _ hx1; have hH1 := HH.out.2.keep hb1 HH.out.2.lt; have HB1 := Lib.hid (And.intro hb1 hH1); clear hx1 hm hn hb1 hH1)
    obtain ⟨W3, hW3⟩ : ∃ W3, W3 = w1.alloc (.cells (rc s p) 26) := ⟨_, rfl⟩
    have hb3 : Below w1.heap.size w1 W3 := by rw [hW3]; exact (Below.refl _ _).alloc (Nat.le_refl _) _
    have hH3 : Has W3 w.heap.size 41 zc := HB1.out.2.keep hb3 HB1.out.2.lt
    have hB3 : Below w.heap.size w W3 := Below.step (Below.step HH.out.1 HH.out.1.size HB1.out.1) (Below.step HH.out.1 HH.out.1.size HB1.out.1).size hb3
    have H3 := Lib.hid (And.intro hH3 hB3)
    have d0 : W3.cell? ⟨w.heap.size, 0, none⟩ = some (.int .i64 0) := hH3.cell 0
    have u0 : W3.frozen? ⟨w.heap.size, 0, none⟩ = false := hH3.fz 0
    have d1 : W3.cell? ⟨w.heap.size, 1, none⟩ = some (.slice none 0 0) := hH3.cell 1
    have u1 : W3.frozen? ⟨w.heap.size, 1, none⟩ = false := hH3.fz 1
    have d2 : W3.cell? ⟨w.heap.size, 2, none⟩ = some (.slice none 0 0) := hH3.cell 2
    have u2 : W3.frozen? ⟨w.heap.size, 2, none⟩ = false := hH3.fz 2
    have d3 : W3.cell? ⟨w.heap.size, 3, none⟩ = some (.slice none 0 0) := hH3.cell 3
    have u3 : W3.frozen? ⟨w.heap.size, 3, none⟩ = false := hH3.fz 3
    have d4 : W3.cell? ⟨w.heap.size, 4, none⟩ = some (.slice none 0 0) := hH3.cell 4
    have u4 : W3.frozen? ⟨w.heap.size, 4, none⟩ = false := hH3.fz 4
    change Code.wp _ _ _ _ (w1.alloc (.cells (rc s p) 26))
    rw [← hW3]
    clear hW3 hb3 hH3 hB3
    go_wp2
    refine bodyPost_ret (v := .tuple #[.agg #[.int .i64 0, .slice none 0 0, .slice none 0 0, .slice none 0 0, .slice none 0 0], .int .i64 N, .int .i64 x]) (rc_res (H3.out.1.five (.int .i64 0) (.slice none 0 0) (.slice none 0 0) (.slice none 0 0) (.slice none 0 0)) _ _ _ rfl rfl rfl) rfl ?_
    have hbl := sets5_below H3.out.2 (Nat.le_refl _) (.int .i64 0) (.slice none 0 0) (.slice none 0 0) (.slice none 0 0) (.slice none 0 0)
    refine ⟨⟨⟨none, none, none, none, 0, 0, 0, 0⟩, ?_, ?_, ?_⟩, hbl⟩
    · rw [← HQ.out.1, ← HQ.out.2.1, ← HQ.out.2.2, HC2.out]; rfl
    · rw [← HQ.out.1, HC2.out]; exact ze_mem _
    · rw [← HQ.out.1, HC2.out]; exact ze_nils

end Go.Proofs.YtkpjpokeonppbaaGreatDoor

namespace Go.Proofs.YtkpjpokeonppbaaGreatDoor
open Go Go.RowKit
set_option linter.unusedVariables false
set_option linter.unusedSimpArgs false

theorem rdC_no {l : List UInt8} (h : rdE l ≠ 0) : rdC l = zeC := if_neg h
theorem rdW_no {l : List UInt8} (h : rdE l ≠ 0) : rdW l = zRw := if_neg h
/-- an error, as Raw returns it -/
theorem rd_err {l : List UInt8} {x N : Int} (hx : x ≠ 0) (h1 : rdE l = x) (h2 : (rdN l : Int) = N) {w w' : World} {e : Ending} (h : RdIs l w e w') : (∃ p : Rp, e = .returned (.tuple #[.agg #[.int .i64 0, .slice p.A1 0 p.k1, .slice p.A2 0 p.k2, .slice p.A3 0 p.k3, .slice p.A4 0 p.k4, .slice p.A5 0 p.k5], .int .i64 N, .int .i64 x])) ∧ Below w.heap.size w w' := by
  obtain ⟨⟨p, he, _, _⟩, hb⟩ := h
  rw [rdW_no (by rw [h1]; exact hx), h1, h2] at he
  exact ⟨⟨p, he⟩, hb⟩
theorem rc_err {l : List UInt8} {x N : Int} (hx : x ≠ 0) (h1 : rdE l = x) (h2 : (rdN l : Int) = N) {w w' : World} {e : Ending} (h : RcIs l w e w') : (∃ p : Pl, e = .returned (.tuple #[.agg #[.int .i64 0, .slice p.A1 0 p.k1, .slice p.A2 0 p.k2, .slice p.A3 0 p.k3, .slice p.A4 0 p.k4], .int .i64 N, .int .i64 x])) ∧ Below w.heap.size w w' := by
  obtain ⟨⟨p, he, _, _⟩, hb⟩ := h
  rw [rdC_no (by rw [h1]; exact hx), h1, h2] at he
  exact ⟨⟨p, he⟩, hb⟩

set_option maxRecDepth 100000 in
set_option maxHeartbeats 4000000 in
theorem fails8_any (l : List UInt8) (hl : l.length ≤ 100000) (N x : Int) (hx : x ≠ 0) (h1 : rdE l = x) (h2 : (rdN l : Int) = N) (B : Nat) (w : World) (hE : Env B w) (hB : B ≤ w.heap.size) :
    Calls Tryz.prog 12 #[.string (str l), .int .i64 N, .int .i64 x] w fun e w' => e = .returned (.bool true) ∧ Below w.heap.size w w' := by
  have D1 := Lib.hid ((pRaw_any l hl B w hE hB).mono fun e w' h => rd_err hx h1 h2 h)
  have D2 : Hid (∀ W, Below w.heap.size w W → Calls Tryz.prog 16 #[.string (str l)] W fun e w' => (∃ p : Pl, e = .returned (.tuple #[.agg #[.int .i64 0, .slice p.A1 0 p.k1, .slice p.A2 0 p.k2, .slice p.A3 0 p.k3, .slice p.A4 0 p.k4], .int .i64 N, .int .i64 x])) ∧ Below W.heap.size W w') :=
    Lib.hid fun W hb => (pCirc_any l hl B W (hE.next hB hb) (Nat.le_trans hB hb.size)).mono fun e w' h => rc_err hx h1 h2 h
  clear hl hx h1 h2 hE hB
  go_enter Tryz.func12, Tryz.ntmps12
  go_wp2_with (go_at_call 10; (with_reducible refine D1.out.mono ?_); rintro e w1 ⟨⟨p, rfl⟩, hb1⟩; have HB1 := Lib.hid hb1; have hB2 := Lib.hid (hb1.alloc hb1.size (.cells #[.int .i64 0, .slice p.A1 0 p.k1, .slice p.A2 0 p.k2, .slice p.A3 0 p.k3, .slice p.A4 0 p.k4, .slice p.A5 0 p.k5] 26)); have hH2 := Lib.hid (Has.new w1 26 #[.int .i64 0, .slice p.A1 0 p.k1, .slice p.A2 0 p.k2, .slice p.A3 0 p.k3, .slice p.A4 0 p.k4, .slice p.A5 0 p.k5]); clear hb1)
  go_wp2_with (go_at_call 16; (with_reducible refine (D2.out _ hB2.out).mono ?_); rintro e w2 ⟨⟨q, rfl⟩, hb2⟩; have c0 : ∀ o : Obj, (w2.alloc o).cell? ⟨w1.heap.size, 0, none⟩ = some (.int .i64 0) := fun o => ((hH2.out.keep hb2 hH2.out.lt).al o).cell 0; have HB2 := Lib.hid (Below.step hB2.out hB2.out.size hb2); clear hb2)
  go_ret
  exact ⟨by simp, HB2.out.alloc HB2.out.size _⟩

/-- the chapter's circuit as text -/
def tx8 : List UInt8 := [97, 97, 103, 32, 49, 32, 48, 32, 49, 32, 48, 32, 48, 32, 49, 10, 50, 32, 51, 10, 50, 10]
theorem tx8_E : rdE tx8 = 0 := by decide +kernel
theorem tx8_N : rdN tx8 = 0 := by decide +kernel
theorem tx8_C : (rdC tx8).i = 0 ∧ (rdC tx8).nl = 1 ∧ (rdC tx8).na = 0 ∧ (rdC tx8).nb = 1 ∧ (rdC tx8).nc = 0 ∧ (rdC tx8).nx 0 = 3 ∧ (rdC tx8).rs 0 = 0 ∧ (rdC tx8).bd 0 = 2 := by decide +kernel
theorem tx8_sm : Sm (rdC tx8) := by
  unfold rdC
  rw [if_pos tx8_E]
  exact Rw.oc_sm _
theorem alv1 : rdE [97, 97, 103, 32, 49, 32, 48, 32, 49] = 12 ∧ rdN [97, 97, 103, 32, 49, 32, 48, 32, 49] = 1 := by decide +kernel
theorem alv2 : rdE [97, 97, 103, 32, 48, 32, 48, 32, 48, 32, 48, 32, 48, 32, 48, 32, 48, 32, 49] = 47 ∧ rdN [97, 97, 103, 32, 48, 32, 48, 32, 48, 32, 48, 32, 48, 32, 48, 32, 48, 32, 49] = 1 := by decide +kernel

theorem alSame8 {W : World} {A1 A2 A3 A4 : Option Addr} {k1 k2 k3 k4 b1 b2 : Nat} (hm : Mem W W.heap.size (rdC tx8) ⟨A1, A2, A3, A4, k1, k2, k3, k4⟩) (h1 : Has W b1 70 #[.int .i64 3, .int .i64 0]) (h2 : Has W b2 3 #[.int .i64 2]) :
    Calls Tryz.prog 18 #[.agg #[.int .i64 0, .slice A1 1 k1, .slice A2 0 k2, .slice A3 1 k3, .slice A4 0 k4], .agg #[.int .i64 0, .slice (some ⟨b1, 0, none⟩) 1 1, .slice none 0 0, .slice (some ⟨b2, 0, none⟩) 1 1, .slice none 0 0]] W fun e w' => e = .returned (.bool true) ∧ Below W.heap.size W w' := by
  obtain ⟨e1, e2, e3, e4, e5, e6, e7, e8⟩ := tx8_C
  have hm2 : Mem W W.heap.size (rdC tx8) ⟨some ⟨b1, 0, none⟩, none, some ⟨b2, 0, none⟩, none, 1, 0, 1, 0⟩ := by
    refine ⟨?_, ?_, ?_, ?_⟩
    · rw [e2]; exact pairs_of_has h1 (fun j hj => by rw [Nat.lt_one_iff.1 hj, e6, e7]; exact ⟨rfl, rfl⟩)
    · rw [e3]; exact fun h => absurd h (Nat.not_lt_zero _)
    · rw [e4]; exact ints_of_has h2 (fun j hj => by rw [Nat.lt_one_iff.1 hj, e8]; rfl)
    · rw [e5]; exact fun h => absurd h (Nat.not_lt_zero _)
  have h := same_self (rdC tx8) ⟨A1, A2, A3, A4, k1, k2, k3, k4⟩ ⟨some ⟨b1, 0, none⟩, none, some ⟨b2, 0, none⟩, none, 1, 0, 1, 0⟩ W tx8_sm hm hm2
  have key : ∀ (i : Int) (nl na nb nc : Nat), (rdC tx8).i = i → (rdC tx8).nl = nl → (rdC tx8).na = na → (rdC tx8).nb = nb → (rdC tx8).nc = nc →
      Calls Tryz.prog 18 #[.agg #[.int .i64 i, .slice A1 nl k1, .slice A2 na k2, .slice A3 nb k3, .slice A4 nc k4], .agg #[.int .i64 i, .slice (some ⟨b1, 0, none⟩) nl 1, .slice none na 0, .slice (some ⟨b2, 0, none⟩) nb 1, .slice none nc 0]] W fun e w' => e = .returned (.bool true) ∧ Below W.heap.size W w' := by
    rintro _ _ _ _ _ rfl rfl rfl rfl rfl
    exact h
  exact key 0 1 0 1 0 e1 e2 e3 e4 e5
/-- the circuit of the chapter's text, as it is read -/
theorem al8_circ {B : Nat} {w : World} (hE : Env B w) (hB : B ≤ w.heap.size) :
    Calls Tryz.prog 16 #[.string ⟨#[97, 97, 103, 32, 49, 32, 48, 32, 49, 32, 48, 32, 48, 32, 49, 10, 50, 32, 51, 10, 50, 10]⟩] w fun e w' => (∃ p : Pl, e = .returned (.tuple #[.agg #[.int .i64 0, .slice p.A1 1 p.k1, .slice p.A2 0 p.k2, .slice p.A3 1 p.k3, .slice p.A4 0 p.k4], .int .i64 0, .int .i64 0]) ∧ Mem w' w'.heap.size (rdC tx8) p) ∧ Below w.heap.size w w' := by
  refine (pCirc_any tx8 (by decide) B w hE hB).mono fun e w' h => ?_
  obtain ⟨⟨p, he, hm, hn⟩, hb⟩ := h
  obtain ⟨e1, e2, e3, e4, e5, e6, e7, e8⟩ := tx8_C
  refine ⟨⟨p, ?_, hm⟩, hb⟩
  have key : ∀ (i : Int) (nl na nb nc : Nat), (rdC tx8).i = i → (rdC tx8).nl = nl → (rdC tx8).na = na → (rdC tx8).nb = nb → (rdC tx8).nc = nc → cv (rdC tx8) p = .agg #[.int .i64 i, .slice p.A1 nl p.k1, .slice p.A2 na p.k2, .slice p.A3 nb p.k3, .slice p.A4 nc p.k4] := by
    rintro _ _ _ _ _ rfl rfl rfl rfl rfl
    rfl
  rw [he, tx8_E, tx8_N, key 0 1 0 1 0 e1 e2 e3 e4 e5]
  rfl

set_option maxRecDepth 100000 in
set_option maxHeartbeats 4000000 in
theorem alive8_any (B : Nat) (w : World) (hE : Env B w) (hB : B ≤ w.heap.size) : Calls Tryz.prog 14 #[] w fun e w' => e = .returned (.bool true) ∧ Below w.heap.size w w' := by
  have D1 := Lib.hid (al8_circ hE hB)
  have F1 : Hid (∀ W, Below w.heap.size w W → Calls Tryz.prog 12 #[.string ⟨#[97, 97, 103, 32, 49, 32, 48, 32, 49]⟩, .int .i64 1, .int .i64 12] W fun e w' => e = .returned (.bool true) ∧ Below W.heap.size W w') :=
    Lib.hid fun W hb => fails8_any [97, 97, 103, 32, 49, 32, 48, 32, 49] (by decide) 1 12 (by decide) alv1.1 (by rw [alv1.2]; rfl) B W (hE.next hB hb) (Nat.le_trans hB hb.size)
  have F2 : Hid (∀ W, Below w.heap.size w W → Calls Tryz.prog 12 #[.string ⟨#[97, 97, 103, 32, 48, 32, 48, 32, 48, 32, 48, 32, 48, 32, 48, 32, 48, 32, 49]⟩, .int .i64 1, .int .i64 47] W fun e w' => e = .returned (.bool true) ∧ Below W.heap.size W w') :=
    Lib.hid fun W hb => fails8_any [97, 97, 103, 32, 48, 32, 48, 32, 48, 32, 48, 32, 48, 32, 48, 32, 48, 32, 49] (by decide) 1 47 (by decide) alv2.1 (by rw [alv2.2]; rfl) B W (hE.next hB hb) (Nat.le_trans hB hb.size)
  clear hE hB
  go_enter Tryz.func14, Tryz.ntmps14
  go_wp2_with (go_at_call 16; (with_reducible refine D1.out.mono ?_); rintro e w1 ⟨⟨⟨A1, A2, A3, A4, k1, k2, k3, k4⟩, rfl, hm⟩, hb1⟩; have HM1 := Lib.hid hm; have HB1 := Lib.hid hb1; clear hm hb1)
  have h1 : Has (((w1.alloc (.cells #[.int .i64 0, .slice A1 1 k1, .slice A2 0 k2, .slice A3 1 k3, .slice A4 0 k4] 41)).alloc (.cells #[.int .i64 3, .int .i64 0] 70)).alloc (.cells #[.int .i64 2] 3)) (w1.heap.size + 1) 70 #[.int .i64 3, .int .i64 0] := (Has.new' _ _ (by simp)).al _
  have h2 : Has (((w1.alloc (.cells #[.int .i64 0, .slice A1 1 k1, .slice A2 0 k2, .slice A3 1 k3, .slice A4 0 k4] 41)).alloc (.cells #[.int .i64 3, .int .i64 0] 70)).alloc (.cells #[.int .i64 2] 3)) (w1.heap.size + 1 + 1) 3 #[.int .i64 2] := Has.new' _ _ (by simp)
  have hb3 : Below w1.heap.size w1 (((w1.alloc (.cells #[.int .i64 0, .slice A1 1 k1, .slice A2 0 k2, .slice A3 1 k3, .slice A4 0 k4] 41)).alloc (.cells #[.int .i64 3, .int .i64 0] 70)).alloc (.cells #[.int .i64 2] 3)) := ((((Below.refl _ _).alloc (Nat.le_refl _) _).alloc (by simp) _).alloc (by simp; omega) _)
  have DS := Lib.hid (alSame8 (HM1.out.to hb3 hb3.size) h1 h2)
  have HB3 := Lib.hid (Below.step HB1.out HB1.out.size hb3)
  clear h1 h2 hb3
  go_wp2_with (go_at_call 18; (with_reducible refine DS.out.mono ?_); rintro e w2 ⟨rfl, hb2⟩; have HB2 := Lib.hid (Below.step HB3.out HB3.out.size hb2); clear hb2)
  go_wp2_with (go_at_call 12; (with_reducible refine (F1.out _ HB2.out).mono ?_); rintro e w3 ⟨rfl, hb3⟩; have HB4 := Lib.hid (Below.step HB2.out HB2.out.size hb3); clear hb3)
  go_wp2_with (go_at_call 12; (with_reducible refine (F2.out _ HB4.out).mono ?_); rintro e w4 ⟨rfl, hb4⟩; have HB5 := Lib.hid (Below.step HB4.out HB4.out.size hb4); clear hb4)
  go_ret
  exact ⟨by simp, HB5.out⟩

end Go.Proofs.YtkpjpokeonppbaaGreatDoor

namespace Go.Proofs.YtkpjpokeonppbaaGreatDoor
open Go Go.RowKit
set_option linter.unusedVariables false
set_option linter.unusedSimpArgs false

/-- a contract that is shown under the world's shape and a condition of one's own -/
theorem handed_both {H : Type} {enc : TypeId × Value → H} {a : Assume} {C : Checked} {os : Os} {f : FuncId} {fn : Func} {s : ChangeSpec} {cs : List PathCond} {ap fr ho ag : Bool} {X : World → Array Value → Prop}
    (hX : ∀ (w w' : World) (xs : Array Value), w.heap = w'.heap → X w xs → X w' xs)
    (own : ownKnob C.prog.godebug = none) (started : os.Started) (ni : C.prog.inits.idxOf? f = none) (hfn : C.prog.funcs[f]? = some fn)
    (one : ∃ (w : World) (tp : Tape) (i : Input), w.os = os ∧ (w.forCall tp i).Shaped C.prog ∧ i.vars = [] ∧ Input.okWide C.prog (w.forCall tp i) .any w.heap.size f i ∧
      ((s.pre enc C.prog fn cs ap (w.forCall tp i).memory i.args ∧ X (w.forCall tp i).memory i.args) ∧ sizedMet enc C.prog fn (OpenSpec.ofChange s) ap (w.forCall tp i).memory i.args) ∧ a.holds C.prog (lone (Frame.enter C.prog f i.args .normal) [] (w.forCall tp i)))
    (go : ∀ (W : World) (base : Nat) (xs : Array Value) (ds gs : List (DataW H)) (bf : List MemPlace),
      (∀ (j : Nat) t v, fn.params[j]? = some t → xs[j]? = some v → Value.okWide C.prog W .any base t v) →
      DataW.Whole enc C.prog fn.params.toList s.vars ap W xs.toList ds gs bf →
      cs.all (PathCond.test C.prog ⟨fn.params.toList, ds, s.plain.varTypes C.prog, gs⟩) = true →
      (DataW.weightsEach C.prog (fn.params.toList ++ s.plain.varTypes C.prog) (ds ++ gs)).all (· ≤ reachBytes) = true → (W.ShapedOpen C.prog ∧ X W xs) →
      a.holds C.prog (lone (Frame.enter C.prog f xs .normal) [] W) →
      Calls C.prog f xs W fun e W' => ∃ v, e = .returned v ∧ s.post enc C.prog fn ap fr ho ag W xs v W') :
    ReturnsInHanded a C os f .any (fun w xs => (s.pre enc C.prog fn cs ap w xs ∧ X w xs) ∧ sizedMet enc C.prog fn (OpenSpec.ofChange s) ap w xs) (s.post enc C.prog fn ap fr ho ag) :=
  returnsInHanded_of_calls own started ni one fun w tp i _ shape _ ok pre hold => by
    obtain ⟨_, _, _, fn2, at2, _, _, _, _, vals⟩ := ok
    obtain rfl : fn2 = fn := Option.some.inj (at2.symm.trans hfn)
    obtain ⟨⟨⟨ds, gs, bf, whole, tests⟩, x⟩, sized⟩ := pre
    refine (go (w.forCall tp i) w.heap.size i.args ds gs bf vals (DataW.Whole.of_heap (w' := w.forCall tp i) (by rfl) whole) tests (sized.weights whole) ⟨shape, hX _ _ _ (by rfl) x⟩ hold).mono ?_
    rintro e W' ⟨v, rfl, post⟩
    exact ChangeSpec.post_blind post

theorem one_error (u : TypeId) (h : Tryz.prog.typeName? 3 u = some "*errors.errorString") : u = 195 := by
  have e : "*" ++ "errors.errorString" = "*errors.errorString" := by decide
  rw [← e] at h
  exact typeName_ptr_named (nm := "errors.errorString") (by rw [e]; kernel_rfl) (by kernel_rfl) (by decide) u h
/-- what the listed variables and the world's shape give -/
theorem env_of {L : List (String × DataW Unit)} {W : World} (hs : W.ShapedOpen Tryz.prog) (h : laidMet Tryz.prog L W)
    (e1 : (L.filter fun x => x.1 == "internal/strconv.uint64pow10") = [("internal/strconv.uint64pow10", Lib.tabData .u64 Lib.pow10Tab)])
    (e2 : (L.filter fun x => x.1 == "strconv.ErrSyntax") = [("strconv.ErrSyntax", .iface "*errors.errorString" (.ptr (.agg [.lit (.string [105, 110, 118, 97, 108, 105, 100, 32, 115, 121, 110, 116, 97, 120])])))]) : Env W.heap.size W := by
  have h1 := h.filter fun x => x.1 == "internal/strconv.uint64pow10"
  rw [e1] at h1
  have h2 := h.filter fun x => x.1 == "strconv.ErrSyntax"
  rw [e2] at h2
  obtain ⟨a0, s0, hv0, -, -, -⟩ := laid_sentinel h2 (show Tryz.prog.globalNamed "strconv.ErrSyntax" = some 4 by kernel_rfl) (show (Tryz.prog.globals[4]?).map (·.type) = some 156 by kernel_rfl) Tryz.underlying156 one_error Tryz.underlying195 Tryz.underlying197 rfl rfl Tryz.underlying9 (by kernel_rfl) (by kernel_rfl)
  have hE : W.cell? ⟨4, 0, none⟩ = some (.iface 195 (.pointer (some a0))) := by
    have := World.var?_cell (show Tryz.prog.globalNamed "strconv.ErrSyntax" = some 4 by kernel_rfl) hv0 0
    simpa using this
  obtain ⟨m, hm⟩ := cell_of_shapedOpen_int (g := 0) (t := 3) (zero := #[.int .i64 0]) (k := .i64) hs (of_decide_eq_true (by kernel_rfl)) (by kernel_rfl) rfl (by kernel_rfl) (by kernel_rfl) Tryz.underlying3
  exact ⟨Lib.tabBelow_of_tabIs (Lib.tabIs_of_head (show Tryz.prog.globalNamed "internal/strconv.uint64pow10" = some 1 by kernel_rfl) (by kernel_rfl) Tryz.underlying173 Tryz.underlying144 (by kernel_rfl) (by kernel_rfl) h1), ⟨m, hm⟩, ⟨_, _, hE⟩, cell_lt hm, cell_lt hE⟩

end Go.Proofs.YtkpjpokeonppbaaGreatDoor

namespace Go.Proofs.YtkpjpokeonppbaaGreatDoor
open Go Go.RowKit
set_option linter.unusedVariables false
set_option linter.unusedSimpArgs false

theorem hd_in4 {r : Rw} (h : Bd r) : ∀ j, j < 7 → 0 ≤ r.hd j ∧ r.hd j ≤ 9999 := fun j _ => by
  have := h.m; have := h.n; have := h.nb; have := h.nc
  unfold Rw.hd
  repeat' split
  all_goals omega
/-- the text of a right raw circuit is short -/
theorem txt_short {r : Rw} (hr : r.chk = 0) : r.txt.length ≤ 18000 := by
  have h := Bd.of hr
  have h1 := lin_len (f := r.hd) (n := 7) (hd_in4 h)
  have h2 := ech_len h.ip
  have h3 := lts_len (h := r.lb) (n := r.nl) h.ll h.la
  have h4 := ech_len h.bd
  have h5 := ech_len h.cn
  have h6 := gts_len h.gl h.ga h.gb
  have hn := h.n; have := h.nb; have := h.nc
  unfold Rw.txt
  rw [List.length_append, List.length_append, List.length_append, List.length_append, List.length_append, List.length_append]
  show 4 + _ + _ + _ + _ + _ + _ ≤ 18000
  omega
/-- it is read as it was -/
theorem back_E {r : Rw} (hr : r.chk = 0) : rdE r.txt = 0 ∧ rdN r.txt = 0 ∧ Agr (rdW r.txt) r := by
  have hb := Bn.of hr
  have hs := txt_short hr
  have e1 := back_lno hb
  have e2 := back_flt hb
  have e3 : ctO (hdr (txL r)).2 = r.ct := by rw [back_hdr hb]; exact ct_txt
  have e4 := back_agr hb
  have hE : rdE r.txt = 0 := by
    unfold rdE
    rw [if_neg (by omega), e1, e2, if_neg (by simp), e3, e4.chk]
    exact hr
  refine ⟨hE, ?_, ?_⟩
  · unfold rdN
    rw [if_neg (by omega), e1, e2, if_neg (by simp)]
  · unfold rdW
    rw [if_pos hE, e1, e3]
    exact e4

end Go.Proofs.YtkpjpokeonppbaaGreatDoor

namespace Go.Proofs.YtkpjpokeonppbaaGreatDoor
open Go Go.RowKit
set_option linter.unusedVariables false
set_option linter.unusedSimpArgs false

theorem pcs_more {r : Rw} (hb : Bn r) (s : List UInt8) : pcs 10 (r.txt ++ s) = txL r ++ pcs 10 s := by
  have hd : ∀ j, j < 7 → 0 ≤ r.hd j := fun j hj => (hd_in hb j hj).1
  have h1 : ∀ j, j < r.ni → 0 ≤ r.ip j := fun j hj => by have := hb.ip j hj; omega
  have h2 : ∀ j, j < r.nl → 0 ≤ r.ll j ∧ 0 ≤ r.la j := fun j hj => by have := hb.ll j hj; have := hb.la j hj; omega
  have h3 : ∀ j, j < r.nb → 0 ≤ r.bd j := fun j hj => (hb.bd j hj).1
  have h4 : ∀ j, j < r.nc → 0 ≤ r.cn j := fun j hj => (hb.cn j hj).1
  have h5 : ∀ j, j < r.na → 0 ≤ r.gl j ∧ 0 ≤ r.ga j ∧ 0 ≤ r.gb j := fun j hj => by have := hb.gl j hj; have := hb.ga j hj; have := hb.gb j hj; omega
  have e : r.txt ++ s = ([97, 97, 103, 32] ++ par r.hd 7) ++ 10 :: (flt (fun j => par (one (r.ip j)) 1 ++ [10]) r.ni ++ (flt (fun j => par (tri (r.ll j) (r.la j) (lt3 (r.ll j) (r.lb j))) (ltn (r.lb j)) ++ [10]) r.nl ++ (flt (fun j => par (one (r.bd j)) 1 ++ [10]) r.nb ++ (flt (fun j => par (one (r.cn j)) 1 ++ [10]) r.nc ++ (flt (fun j => par (tri (r.gl j) (r.ga j) (r.gb j)) 3 ++ [10]) r.na ++ s))))) := by
    unfold Rw.txt
    rw [ech_flt, ech_flt, ech_flt, gts_flt, lts_flt]
    simp [lin, List.append_assoc]
  have hA : ∀ x ∈ ([97, 97, 103, 32] ++ par r.hd 7 : List UInt8), x ≠ (10 : UInt8) := fun x hx => by
    rcases List.mem_append.1 hx with hx | hx
    · intro e
      subst e
      exact absurd hx (by decide)
    · exact par_no (by decide) (by decide) (fun j hj => hd j hj) x hx
  have l3 : ∀ j, j < r.nl → 0 ≤ lt3 (r.ll j) (r.lb j) := fun j hj => by unfold lt3; split; omega; exact (h2 j hj).1
  rw [e, pcs_app _ hA, pcs_flt _ _ fun j hj => one_no (h1 j hj), pcs_flt _ _ fun j hj => tri_no (h2 j hj).1 (h2 j hj).2 (l3 j hj) _, pcs_flt _ _ fun j hj => one_no (h3 j hj), pcs_flt _ _ fun j hj => one_no (h4 j hj), pcs_flt _ _ fun j hj => tri_no (h5 j hj).1 (h5 j hj).2.1 (h5 j hj).2.2 _]
  unfold txL
  simp [List.append_assoc]
/-- the lines of the text with more behind it -/
theorem lno_more {r : Rw} (hb : Bn r) (s : List UInt8) : lno (r.txt ++ s) = txL r ++ lno s := by
  have hne := pcs_ne 10 s
  have e1 : (txL r ++ pcs 10 s).getLast? = (pcs 10 s).getLast? := by
    rw [List.getLast?_append]
    cases h : (pcs 10 s).getLast? with
    | none => exact absurd (List.getLast?_eq_none_iff.1 h) hne
    | some x => rfl
  unfold lno
  rw [pcs_more hb, e1]
  split
  · rw [List.dropLast_append_of_ne_nil hne]
  · rfl
/-- a line that is not empty and has no line feed -/
theorem lno_one {s : List UInt8} (h : ∀ x ∈ s, x ≠ (10 : UInt8)) (hs : s ≠ []) : lno s = [s] := by
  unfold lno
  rw [pcs_one h, if_neg (by simpa using hs)]
theorem lnA_left {L T : List (List UInt8)} {i : Nat} (h : i < L.length) : lnA (L ++ T) i = lnA L i := by
  unfold lnA
  rw [List.getD_eq_getElem?_getD, List.getD_eq_getElem?_getD, List.getElem?_append_left h]
theorem lnA_right {L T : List (List UInt8)} (j : Nat) : lnA (L ++ T) (L.length + j) = lnA T j := by
  unfold lnA
  rw [List.getD_eq_getElem?_getD, List.getD_eq_getElem?_getD, List.getElem?_append_right (by omega), Nat.add_sub_cancel_left]
theorem hdr_left {L T : List (List UInt8)} (h : 0 < L.length) : hdr (L ++ T) = hdr L := by
  cases L with
  | nil => simp at h
  | cons s L => rfl
/-- the fault of what stands behind the gates -/
theorem tal_more (L T : List (List UInt8)) : talN (L ++ T) L.length = if 0 < talN T 0 then L.length + talN T 0 else 0 := by
  have e : gdZ (L ++ T) L.length = gdZ T 0 := by
    unfold gdZ
    rw [List.length_append, Nat.add_sub_cancel_left, Nat.sub_zero]
    congr 1
    funext j
    rw [lnA_right, Nat.zero_add]
  unfold talN
  rw [e, lnA_right, List.length_append, Nat.add_sub_cancel_left, Nat.sub_zero, Nat.zero_add]
  split
  · split
    · rfl
    · rw [if_pos (by omega)]; omega
  · rfl
theorem more_ok {r : Rw} (h : Bn r) (T : List (List UInt8)) {i : Nat} (h1 : 1 ≤ i) (h2 : i < r.ct.p7) : okL (txL r ++ T) r.ct i = true := by
  have hp7 : r.ct.p7 = 1 + r.ni + r.nl + 0 + r.nb + r.nc + r.na := rfl
  have := back_ok h h1 h2
  unfold okL at this ⊢
  rwa [lnA_left (by rw [tx_len]; omega)]
theorem more_flt {r : Rw} (h : Bn r) (T : List (List UInt8)) : ltF (txL r ++ T) = if 0 < talN T 0 then (38, (txL r).length + talN T 0) else (0, 0) := by
  have hp7 : r.ct.p7 = (txL r).length := by rw [tx_len]; show 1 + r.ni + r.nl + 0 + r.nb + r.nc + r.na = _; omega
  have hl : 0 < (txL r).length := by rw [tx_len]; omega
  unfold ltF
  rw [hdr_left hl, back_hdr h, ct_txt, gdL_all fun i h1 h2 => more_ok h T h1 h2, if_neg (by simp), if_neg (by omega), hp7, tal_more]
  by_cases e : 0 < talN T 0
  · rw [if_pos e, if_pos (by omega), if_pos e]
  · rw [if_neg e, if_neg (by omega), if_neg e]
theorem more_agr {r : Rw} (h : Bn r) (T : List (List UInt8)) : Agr (rdR (txL r ++ T) r.ct) r := by
  have hb := back_agr h
  have hl := tx_len (r := r)
  have e2 : r.ct.p2 = 1 + r.ni := rfl
  have e3 : r.ct.p3 = 1 + r.ni + r.nl := rfl
  have e4 : r.ct.p4 = 1 + r.ni + r.nl + 0 := rfl
  have e5 : r.ct.p5 = 1 + r.ni + r.nl + 0 + r.nb := rfl
  have e6 : r.ct.p6 = 1 + r.ni + r.nl + 0 + r.nb + r.nc := rfl
  have eb : (if r.ct.b = 0 then r.ct.o else r.ct.b) = r.nb := by
    show (if r.nb = 0 then 0 else r.nb) = r.nb
    split <;> omega
  refine ⟨hb.m, hb.ni, hb.nl, hb.na, hb.nb, hb.nc, fun j hj => ?_, fun j hj => ?_, fun j hj => ?_, fun j hj => ?_, fun j hj => ?_⟩
  · have hj' : j < r.ni := hj
    refine Eq.trans ?_ (hb.ip j hj)
    show ((nm (lnA (txL r ++ T) (1 + j)) 0 : Nat) : Int) = ((nm (lnA (txL r) (1 + j)) 0 : Nat) : Int)
    rw [lnA_left (by omega)]
  · have hj' : j < r.nl := hj
    have := hb.la j hj
    refine ⟨Eq.trans ?_ this.1, Eq.trans ?_ this.2.1, Eq.trans ?_ this.2.2⟩
    · show ((nm (lnA (txL r ++ T) (r.ct.p2 + j)) 0 : Nat) : Int) = ((nm (lnA (txL r) (r.ct.p2 + j)) 0 : Nat) : Int)
      rw [lnA_left (by omega)]
    · show ((nm (lnA (txL r ++ T) (r.ct.p2 + j)) 1 : Nat) : Int) = ((nm (lnA (txL r) (r.ct.p2 + j)) 1 : Nat) : Int)
      rw [lnA_left (by omega)]
    · show ((rs3 (lnA (txL r ++ T) (r.ct.p2 + j)) : Nat) : Int) = ((rs3 (lnA (txL r) (r.ct.p2 + j)) : Nat) : Int)
      rw [lnA_left (by omega)]
  · have hj' : j < r.na := hj
    have := hb.an j hj
    refine ⟨Eq.trans ?_ this.1, Eq.trans ?_ this.2.1, Eq.trans ?_ this.2.2⟩
    · show ((nm (lnA (txL r ++ T) (r.ct.p6 + j)) 0 : Nat) : Int) = ((nm (lnA (txL r) (r.ct.p6 + j)) 0 : Nat) : Int)
      rw [lnA_left (by omega)]
    · show ((nm (lnA (txL r ++ T) (r.ct.p6 + j)) 1 : Nat) : Int) = ((nm (lnA (txL r) (r.ct.p6 + j)) 1 : Nat) : Int)
      rw [lnA_left (by omega)]
    · show ((nm (lnA (txL r ++ T) (r.ct.p6 + j)) 2 : Nat) : Int) = ((nm (lnA (txL r) (r.ct.p6 + j)) 2 : Nat) : Int)
      rw [lnA_left (by omega)]
  · have hj' : j < r.nb := by rw [← eb]; exact hj
    refine Eq.trans ?_ (hb.bd j hj)
    show ((nm (lnA (txL r ++ T) ((if r.ct.b = 0 then r.ct.p3 else r.ct.p4) + j)) 0 : Nat) : Int) = ((nm (lnA (txL r) ((if r.ct.b = 0 then r.ct.p3 else r.ct.p4) + j)) 0 : Nat) : Int)
    rw [lnA_left (by split <;> omega)]
  · have hj' : j < r.nc := hj
    refine Eq.trans ?_ (hb.cn j hj)
    show ((nm (lnA (txL r ++ T) (r.ct.p5 + j)) 0 : Nat) : Int) = ((nm (lnA (txL r) (r.ct.p5 + j)) 0 : Nat) : Int)
    rw [lnA_left (by omega)]

/-- what is read of a right raw circuit's text with more behind it -/
theorem more_E {r : Rw} (hr : r.chk = 0) (s : List UInt8) (hs : (r.txt ++ s).length ≤ 40000) :
    rdE (r.txt ++ s) = (if 0 < talN (lno s) 0 then 38 else 0) ∧ rdN (r.txt ++ s) = (if 0 < talN (lno s) 0 then (txL r).length + talN (lno s) 0 else 0) ∧ (¬ 0 < talN (lno s) 0 → Agr (rdW (r.txt ++ s)) r) := by
  have hb := Bn.of hr
  have hl : 0 < (txL r).length := by rw [tx_len]; omega
  have e1 := lno_more hb s
  have e2 := more_flt hb (lno s)
  have e3 : ctO (hdr (txL r ++ lno s)).2 = r.ct := by rw [hdr_left hl, back_hdr hb]; exact ct_txt
  have e4 := more_agr hb (lno s)
  by_cases h : 0 < talN (lno s) 0
  · rw [if_pos h] at e2 ⊢
    rw [if_pos h]
    refine ⟨?_, ?_, fun hn => absurd h hn⟩
    · unfold rdE
      rw [if_neg (by omega), e1, e2, if_pos (by simp)]
    · unfold rdN
      rw [if_neg (by omega), e1, e2, if_pos (by simp)]
  · rw [if_neg h] at e2 ⊢
    rw [if_neg h]
    have hE : rdE (r.txt ++ s) = 0 := by
      unfold rdE
      rw [if_neg (by omega), e1, e2, if_neg (by simp), e3, e4.chk]
      exact hr
    refine ⟨hE, ?_, fun _ => ?_⟩
    · unfold rdN
      rw [if_neg (by omega), e1, e2, if_neg (by simp)]
    · unfold rdW
      rw [if_pos hE, e1, e3]
      exact e4
/-- one line behind it -/
theorem tal_one (s : List UInt8) : talN [s] 0 = if okZ s = true then 0 else 1 := by
  cases h : okZ s with
  | false =>
    rw [if_neg (by simp)]
    have h9 : s ≠ [99] := fun e => by rw [e] at h; exact absurd h (by decide)
    have e : gdZ [s] 0 = 0 := hld_at (by simp) (fun j hj => absurd hj (Nat.not_lt_zero _)) (by
      show (okZ s && !decide (s = [99])) = false
      rw [h]; rfl)
    unfold talN
    rw [e, if_pos (by simp), if_neg (by exact h9)]
  | true =>
    rw [if_pos rfl]
    by_cases h9 : s = [99]
    · subst h9; decide
    · have e : gdZ [s] 0 = 1 := hld_end fun j hj => by
        have hj0 : j = 0 := by simp at hj; omega
        subst hj0
        show (okZ s && !decide (s = [99])) = true
        rw [h, decide_eq_false h9]; rfl
      unfold talN
      rw [e, if_neg (by simp)]

end Go.Proofs.YtkpjpokeonppbaaGreatDoor
