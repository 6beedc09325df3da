/- The circuit of a valid circuit's raw circuit is the circuit itself. -/
import Derived.Test.YtmholdmcmbbdgaaOrderAlive
import Derived.Test.YtmholdmcmbbdgaaOrderSelf
import Derived.Test.YtmholdmcmbbdgaaOrderOf
namespace Go.Proofs.Ytmholdmcmbbdgaa
open Go Go.RowKit
set_option linter.unusedVariables false
set_option linter.unusedSimpArgs false

theorem PairsAt.congr {w : World} {B : Nat} {A : Option Addr} {n : Nat} {f g f' g' : Nat → Int} (h : PairsAt w B A n f g) (e : ∀ j, j < n → f j = f' j ∧ g j = g' j) : PairsAt w B A n f' g' := fun hn => by
  obtain ⟨a, ea, hl, hc⟩ := h hn
  exact ⟨a, ea, hl, fun j hj => by rw [← (e j hj).1, ← (e j hj).2]; exact hc j hj⟩
theorem IntsAt.congr {w : World} {B : Nat} {A : Option Addr} {n : Nat} {f f' : Nat → Int} (h : IntsAt w B A n f) (e : ∀ j, j < n → f j = f' j) : IntsAt w B A n f' := fun hn => by
  obtain ⟨a, ea, hl, hc⟩ := h hn
  exact ⟨a, ea, hl, fun j hj => by rw [← e j hj]; exact hc j hj⟩
theorem circ_self {c : Cr} {p : Rp} (w : World) (hk : c.chk = 0) (hr : RSm c.raw) (hm : RMem w w.heap.size c.raw p) (hN : RNils c.raw p) :
    Calls Try.prog 10 #[rv c.raw p] w fun e w' => ∃ p' g, e = .returned (.tuple #[cv c p', .slice (some ⟨g, 0, none⟩) (c.szN + 1) (c.szN + 1), .int .i64 0]) ∧ Mem w' w'.heap.size c p' ∧ w'.rowIs g 3 (c.szN + 1) (fun v => .int .i64 (v : Int)) ∧ Below w.heap.size w w' := by
  obtain ⟨s1, s2, s3, s4⟩ := szN_eq hk
  obtain ⟨h0, h1, h2, h3, h4, h5, h6, h7⟩ := Cr.chk_zero hk
  have h4 := of_decide_eq_true h4
  have h5 := of_decide_eq_true h5
  have h6 := of_decide_eq_true h6
  refine (circ_yes c.raw p w c.szN s1.symm hr hm hN (raw_chk hk)).mono fun e w' => ?_
  rintro ⟨p', g, he, hm', _, hR, hb, _, _⟩
  have ho := raw_ord hk
  have hol : c.raw.ord.length = c.na := by rw [ho, List.length_range]
  refine ⟨p', g, ?_, ⟨?_, ?_, ?_, ?_⟩, ?_, hb⟩
  · rw [he]
    show Ending.returned (.tuple #[.agg #[.int .i64 ((c.i.toNat : Nat) : Int), .slice p'.A1 c.nl p'.k1, .slice p'.A2 c.raw.ord.length p'.k2, .slice p'.A3 c.nb p'.k3, .slice p'.A4 c.nc p'.k4], _, _]) = _
    rw [hol, ← s2]
  · exact (show PairsAt w' w'.heap.size p'.A1 c.nl (fun j => c.raw.told (c.nx j)) c.rs from hm'.la).congr fun j hj => ⟨raw_told hk (h6 j hj).1 (h6 j hj).2.1, rfl⟩
  · have ha : PairsAt w' w'.heap.size p'.A2 c.raw.ord.length c.raw.cir.ga c.raw.cir.gb := hm'.an
    rw [hol] at ha
    refine ha.congr fun j hj => ?_
    obtain ⟨k1, k2, k3, k4, k5⟩ := gate_ok7 hk hj
    have ej : c.raw.ord.getD j 0 = j := by rw [ho, List.getD_eq_getElem?_getD, List.getElem?_range hj]; rfl
    have t1 : c.raw.told (c.ga j) = c.ga j := raw_told hk (by omega) (by unfold Cr.sz; omega)
    have t2 : c.raw.told (c.gb j) = c.gb j := raw_told hk (by omega) (by unfold Cr.sz; omega)
    show max (c.raw.told (c.ga (c.raw.ord.getD j 0))) (c.raw.told (c.gb (c.raw.ord.getD j 0))) = c.ga j ∧ min (c.raw.told (c.ga (c.raw.ord.getD j 0))) (c.raw.told (c.gb (c.raw.ord.getD j 0))) = c.gb j
    rw [ej, t1, t2]
    omega
  · exact (show IntsAt w' w'.heap.size p'.A3 c.nb (fun j => c.raw.told (c.bd j)) from hm'.bd).congr fun j hj => raw_told hk (h4 j hj).1 (h4 j hj).2
  · exact (show IntsAt w' w'.heap.size p'.A4 c.nc (fun j => c.raw.told (c.cn j)) from hm'.cn).congr fun j hj => raw_told hk (h5 j hj).1 (h5 j hj).2
  · exact hR.congr fun j hj => by rw [raw_nw hk (by omega) (by omega)]
/-- the three boxes of the law -/
def S3 (b1 b5 b3 : Nat) (c : Cr) (p q : Pl) (rp : Rp) (W : World) : Prop :=
  (W.cell? ⟨b1, 0, none⟩ = some (.int .i64 c.i) ∧ W.cell? ⟨b1, 1, none⟩ = some (.slice p.A1 c.nl p.k1) ∧ W.cell? ⟨b1, 2, none⟩ = some (.slice p.A2 c.na p.k2) ∧ W.cell? ⟨b1, 3, none⟩ = some (.slice p.A3 c.nb p.k3) ∧ W.cell? ⟨b1, 4, none⟩ = some (.slice p.A4 c.nc p.k4)) ∧
  (W.cell? ⟨b5, 0, none⟩ = some (.int .i64 c.i) ∧ W.cell? ⟨b5, 1, none⟩ = some (.slice q.A1 c.nl q.k1) ∧ W.cell? ⟨b5, 2, none⟩ = some (.slice q.A2 c.na q.k2) ∧ W.cell? ⟨b5, 3, none⟩ = some (.slice q.A3 c.nb q.k3) ∧ W.cell? ⟨b5, 4, none⟩ = some (.slice q.A4 c.nc q.k4)) ∧
  W.cell? ⟨b3, 0, none⟩ = some (.int .i64 c.sz) ∧ W.cell? ⟨b3, 1, none⟩ = some (.slice rp.A1 c.raw.ni rp.k1) ∧ W.cell? ⟨b3, 2, none⟩ = some (.slice rp.A2 c.raw.nl rp.k2) ∧ W.cell? ⟨b3, 3, none⟩ = some (.slice rp.A3 c.raw.na rp.k3) ∧ W.cell? ⟨b3, 4, none⟩ = some (.slice rp.A4 c.raw.nb rp.k4) ∧ W.cell? ⟨b3, 5, none⟩ = some (.slice rp.A5 c.raw.nc rp.k5)
/-- the boxes in a later world -/
structure H3 (w W : World) (b5 b3 : Nat) (c : Cr) (p q : Pl) (rp : Rp) : Prop where
  B : Below w.heap.size w W
  h1 : Has W w.heap.size 26 (cc c p)
  h5 : Has W b5 26 (cc c q)
  h3 : Has W b3 32 (rc c.raw rp)
  m5 : Mem W W.heap.size c q
  m3 : RMem W W.heap.size c.raw rp
theorem H3.s {w W : World} {b5 b3 : Nat} {c : Cr} {p q : Pl} {rp : Rp} (h : H3 w W b5 b3 c p q rp) : S3 w.heap.size b5 b3 c p q rp W := ⟨h.h1.box, h.h5.box, h.h3.rbox⟩
theorem H3.on {w W W' : World} {b5 b3 : Nat} {c : Cr} {p q : Pl} {rp : Rp} (h : H3 w W b5 b3 c p q rp) (hb : Below W.heap.size W W') : H3 w W' b5 b3 c p q rp :=
  ⟨Below.step h.B h.B.size hb, h.h1.keep hb h.h1.lt, h.h5.keep hb h.h5.lt, h.h3.keep hb h.h3.lt, h.m5.to hb hb.size, h.m3.to hb hb.size⟩
end Go.Proofs.Ytmholdmcmbbdgaa
