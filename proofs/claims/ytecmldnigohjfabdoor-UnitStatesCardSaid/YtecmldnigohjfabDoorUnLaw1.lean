/- The laws of unit: the examples, the guard, lists of clauses that a law lays. -/
import Derived.Test.YtecmldnigohjfabDoorUnRef
import Derived.Test.YtecmldnigohjfabDoorUnMath
import Derived.Test.YtecmldnigohjfabDoorClCut
import Derived.Test.YtecmldnigohjfabDoorAsRef
namespace Go.Proofs.YtecmldnigohjfabDoor
open Go Go.RowKit
set_option linter.unusedVariables false
set_option linter.unusedSimpArgs false

theorem upR_okL {v : Int} {t : List Int} {L : List (List Int)} (hL : ∀ c ∈ L, OkC v c) (h : OkT v t) : OkT v (upR v t L).1 := upR_ok' hL h
theorem rT_le (v : Int) (t s : List Int) (L : List (List Int)) : (rT v t s L).length ≤ 4000 := by
  unfold rT
  by_cases h : cE v t s L = 0
  · rw [if_pos h]
    obtain ⟨hO, _, hL⟩ := cE_0.1 h
    have := (upR_ok' hL hO.2.1).len (aE_v h)
    have := hO.1
    omega
  · rw [if_neg h]; simp
theorem rS_le (v : Int) (t s : List Int) (L : List (List Int)) : (rS v t s L).length ≤ s.length := by
  unfold rS
  split <;> simp
theorem RuIs.nwA {v : Int} {t s : List Int} {at_ e : Int} {w : World} {en : Ending} {w' : World} (h : RuIs v t s at_ e w en w') {n m : Nat} (hn : n = t.length) (hm : m = s.length) : ∃ A k B q, en = .returned (.tuple #[asv v A n k B m q, .int .i64 at_, .int .i64 e]) ∧ Nw w.heap.size w' A n k t B m q s ∧ Below w.heap.size w w' := by
  subst hn hm
  obtain ⟨A, k, B, q, rfl, h1, h2, h3, h4, h5⟩ := h
  exact ⟨A, k, B, q, rfl, ⟨h1, h2, rfl, rfl, h4, h5⟩, h3⟩

/-! ### lists of clauses that are laid -/
theorem Ill.row {W : World} {g : Nat} {L : List (List Int)} {cs : Array Value} {k : Nat} (h : Has W g 22 cs) (hcs : ∀ j, j < L.length → ∃ A k, cs[j]? = some (.slice A (L.getD j []).length k) ∧ Ia W W.heap.size A (L.getD j []) k) (hk : L.length ≤ k) : Ill W W.heap.size (some ⟨g, 0, none⟩) L k := by
  refine ⟨fun hn => ⟨g, 0, rfl, h.lt, fun j hj => ?_⟩, fun e => (by cases e), hk⟩
  obtain ⟨A, k', h1, h2⟩ := hcs j hj
  exact ⟨A, k', by rw [Nat.zero_add, h.cell j, h1], h2⟩
theorem ia_lit {W : World} {g : Nat} {l : List Int} {cs : Array Value} (h : Has W g 3 cs) (hcs : cs = (iC l).toArray) {n : Nat} (hn : n = l.length) : Ia W W.heap.size (some ⟨g, 0, none⟩) l n := by
  subst hcs hn
  refine ⟨fun hn => ⟨_, rfl, h.lt, fun j hj => ?_⟩, fun e => (by cases e), Nat.le_refl _⟩
  rw [show (⟨g, 0, none⟩ : Addr).add j = ⟨g, j, none⟩ by unfold Addr.add; split <;> simp_all, h.cell j]
  have := iC_at l j hj
  simpa using this
def lay1 (w : World) (a : List Value) : World := w.alloc (.cells a.toArray 3)
theorem ill2 (w : World) {a b : List Int} {ca cb : Array Value} (ha : ca = (iC a).toArray) (hb : cb = (iC b).toArray) {na nb : Nat} (hna : na = a.length) (hnb : nb = b.length) {W : World} (hW : W = ((w.alloc (.cells ca 3)).alloc (.cells cb 3)).alloc (.cells #[.slice (some ⟨w.heap.size, 0, none⟩) na na, .slice (some ⟨w.heap.size + 1, 0, none⟩) nb nb] 22)) :
    Ill W W.heap.size (some ⟨w.heap.size + 1 + 1, 0, none⟩) [a, b] 2 ∧ Below w.heap.size w W := by
  subst hW
  have h0 := ((Has.new w 3 ca).al (.cells cb 3)).al (.cells #[.slice (some ⟨w.heap.size, 0, none⟩) na na, .slice (some ⟨w.heap.size + 1, 0, none⟩) nb nb] 22)
  have h1 := (Has.new' (w.alloc (.cells ca 3)) (t := 3) (cs := cb) (w.heap.size + 1) (World.size_alloc _ _)).al (.cells #[.slice (some ⟨w.heap.size, 0, none⟩) na na, .slice (some ⟨w.heap.size + 1, 0, none⟩) nb nb] 22)
  have h2 := Has.new' ((w.alloc (.cells ca 3)).alloc (.cells cb 3)) (t := 22) (cs := #[.slice (some ⟨w.heap.size, 0, none⟩) na na, .slice (some ⟨w.heap.size + 1, 0, none⟩) nb nb]) (w.heap.size + 1 + 1) (by simp only [World.size_alloc])
  refine ⟨Ill.row h2 (fun j hj => ?_) (Nat.le_refl _), bn (bn (bx_on _ _) (bx_on _ _)) (bx_on _ _)⟩
  rcases j with _ | _ | j
  · exact ⟨_, na, by subst hna; rfl, ia_lit h0 ha hna⟩
  · exact ⟨_, nb, by subst hnb; rfl, ia_lit h1 hb hnb⟩
  · simp at hj; omega
theorem ill1 (w : World) {a : List Int} {ca : Array Value} (ha : ca = (iC a).toArray) {na : Nat} (hna : na = a.length) {W : World} (hW : W = (w.alloc (.cells ca 3)).alloc (.cells #[.slice (some ⟨w.heap.size, 0, none⟩) na na] 22)) :
    Ill W W.heap.size (some ⟨w.heap.size + 1, 0, none⟩) [a] 1 ∧ Below w.heap.size w W := by
  subst hW
  have h0 := (Has.new w 3 ca).al (.cells #[.slice (some ⟨w.heap.size, 0, none⟩) na na] 22)
  have h2 := Has.new' (w.alloc (.cells ca 3)) (t := 22) (cs := #[.slice (some ⟨w.heap.size, 0, none⟩) na na]) (w.heap.size + 1) (by simp only [World.size_alloc])
  refine ⟨Ill.row h2 (fun j hj => ?_) (Nat.le_refl _), bn (bx_on _ _) (bx_on _ _)⟩
  rcases j with _ | j
  · exact ⟨_, na, by subst hna; rfl, ia_lit h0 ha hna⟩
  · simp at hj
theorem ill3 (w : World) {a b c : List Int} {ca cb cc : Array Value} (ha : ca = (iC a).toArray) (hb : cb = (iC b).toArray) (hc : cc = (iC c).toArray) {na nb nc : Nat} (hna : na = a.length) (hnb : nb = b.length) (hnc : nc = c.length) {W : World} (hW : W = (((w.alloc (.cells ca 3)).alloc (.cells cb 3)).alloc (.cells cc 3)).alloc (.cells #[.slice (some ⟨w.heap.size, 0, none⟩) na na, .slice (some ⟨w.heap.size + 1, 0, none⟩) nb nb, .slice (some ⟨w.heap.size + 1 + 1, 0, none⟩) nc nc] 22)) :
    Ill W W.heap.size (some ⟨w.heap.size + 1 + 1 + 1, 0, none⟩) [a, b, c] 3 ∧ Below w.heap.size w W := by
  subst hW
  have h0 := (((Has.new w 3 ca).al (.cells cb 3)).al (.cells cc 3)).al (.cells #[.slice (some ⟨w.heap.size, 0, none⟩) na na, .slice (some ⟨w.heap.size + 1, 0, none⟩) nb nb, .slice (some ⟨w.heap.size + 1 + 1, 0, none⟩) nc nc] 22)
  have h1 := ((Has.new' (w.alloc (.cells ca 3)) (t := 3) (cs := cb) (w.heap.size + 1) (World.size_alloc _ _)).al (.cells cc 3)).al (.cells #[.slice (some ⟨w.heap.size, 0, none⟩) na na, .slice (some ⟨w.heap.size + 1, 0, none⟩) nb nb, .slice (some ⟨w.heap.size + 1 + 1, 0, none⟩) nc nc] 22)
  have h2 := (Has.new' ((w.alloc (.cells ca 3)).alloc (.cells cb 3)) (t := 3) (cs := cc) (w.heap.size + 1 + 1) (by simp only [World.size_alloc])).al (.cells #[.slice (some ⟨w.heap.size, 0, none⟩) na na, .slice (some ⟨w.heap.size + 1, 0, none⟩) nb nb, .slice (some ⟨w.heap.size + 1 + 1, 0, none⟩) nc nc] 22)
  have h3 := Has.new' (((w.alloc (.cells ca 3)).alloc (.cells cb 3)).alloc (.cells cc 3)) (t := 22) (cs := #[.slice (some ⟨w.heap.size, 0, none⟩) na na, .slice (some ⟨w.heap.size + 1, 0, none⟩) nb nb, .slice (some ⟨w.heap.size + 1 + 1, 0, none⟩) nc nc]) (w.heap.size + 1 + 1 + 1) (by simp only [World.size_alloc])
  refine ⟨Ill.row h3 (fun j hj => ?_) (Nat.le_refl _), bn (bn (bn (bx_on _ _) (bx_on _ _)) (bx_on _ _)) (bx_on _ _)⟩
  rcases j with _ | _ | _ | j
  · exact ⟨_, na, by subst hna; rfl, ia_lit h0 ha hna⟩
  · exact ⟨_, nb, by subst hnb; rfl, ia_lit h1 hb hnb⟩
  · exact ⟨_, nc, by subst hnc; rfl, ia_lit h2 hc hnc⟩
  · simp at hj; omega
theorem ill4 (w : World) {a b c d : List Int} {ca cb cc cd : Array Value} (ha : ca = (iC a).toArray) (hb : cb = (iC b).toArray) (hc : cc = (iC c).toArray) (hd : cd = (iC d).toArray) {na nb nc nd : Nat} (hna : na = a.length) (hnb : nb = b.length) (hnc : nc = c.length) (hnd : nd = d.length) {W : World} {cr : Array Value} (hcr : cr = #[.slice (some ⟨w.heap.size, 0, none⟩) na na, .slice (some ⟨w.heap.size + 1, 0, none⟩) nb nb, .slice (some ⟨w.heap.size + 1 + 1, 0, none⟩) nc nc, .slice (some ⟨w.heap.size + 1 + 1 + 1, 0, none⟩) nd nd])
    (hW : W = ((((w.alloc (.cells ca 3)).alloc (.cells cb 3)).alloc (.cells cc 3)).alloc (.cells cd 3)).alloc (.cells cr 22)) :
    Ill W W.heap.size (some ⟨w.heap.size + 1 + 1 + 1 + 1, 0, none⟩) [a, b, c, d] 4 ∧ Below w.heap.size w W := by
  subst hW
  have h0 := ((((Has.new w 3 ca).al (.cells cb 3)).al (.cells cc 3)).al (.cells cd 3)).al (.cells cr 22)
  have h1 := (((Has.new' (w.alloc (.cells ca 3)) (t := 3) (cs := cb) (w.heap.size + 1) (World.size_alloc _ _)).al (.cells cc 3)).al (.cells cd 3)).al (.cells cr 22)
  have h2 := ((Has.new' ((w.alloc (.cells ca 3)).alloc (.cells cb 3)) (t := 3) (cs := cc) (w.heap.size + 1 + 1) (by simp only [World.size_alloc])).al (.cells cd 3)).al (.cells cr 22)
  have h3 := (Has.new' (((w.alloc (.cells ca 3)).alloc (.cells cb 3)).alloc (.cells cc 3)) (t := 3) (cs := cd) (w.heap.size + 1 + 1 + 1) (by simp only [World.size_alloc])).al (.cells cr 22)
  have h4 := Has.new' ((((w.alloc (.cells ca 3)).alloc (.cells cb 3)).alloc (.cells cc 3)).alloc (.cells cd 3)) (t := 22) (cs := cr) (w.heap.size + 1 + 1 + 1 + 1) (by simp only [World.size_alloc])
  refine ⟨Ill.row h4 (fun j hj => ?_) (Nat.le_refl _), bn (bn (bn (bn (bx_on _ _) (bx_on _ _)) (bx_on _ _)) (bx_on _ _)) (bx_on _ _)⟩
  subst hcr
  rcases j with _ | _ | _ | _ | j
  · exact ⟨_, na, by subst hna; rfl, ia_lit h0 ha hna⟩
  · exact ⟨_, nb, by subst hnb; rfl, ia_lit h1 hb hnb⟩
  · exact ⟨_, nc, by subst hnc; rfl, ia_lit h2 hc hnc⟩
  · exact ⟨_, nd, by subst hnd; rfl, ia_lit h3 hd hnd⟩
  · simp at hj; omega

set_option maxRecDepth 100000 in
set_option maxHeartbeats 10000000 in
/-- of 2 some literals, and a false clause -/
theorem gives_any (C : Option Addr) (L : List (List Int)) (kc : Nat) (x : Int) (D : Option Addr) (wt : List Int) (kd : Nat) (w : World) (hc : Ill w w.heap.size C L kc) (hcl : L.length ≤ 100000) (hcr : ∀ c ∈ L, c.length ≤ 100000 ∧ ∀ x ∈ c, I64 x) (hd : Ia w w.heap.size D wt kd) (hdl : wt.length ≤ 1000) (htab : Tab w.heap.size w) (hE : cE 5 [2] [] L = 0) (hU : upR 5 [2] L = ([2] ++ wt, x)) {nl nw : Nat} (hnl : nl = L.length) (hnw : nw = wt.length) :
    Calls Tryd.prog 11 #[.slice C nl kc, .int .i64 x, .slice D nw kd] w fun e w' => e = .returned (.bool true) ∧ Below w.heap.size w w' := by
  have hb0 := bx_on w (.cells #[.int .i64 2] 3)
  have CR : Calls Tryd.prog 20 #[asv 5 (some ⟨w.heap.size, 0, none⟩) 1 1 none 0 0, .slice C nl kc] (w.alloc (.cells #[.int .i64 2] 3)) (RuIs 5 ([2] ++ wt) [] x 0 (w.alloc (.cells #[.int .i64 2] 3))) := by
    have h := run15_all 5 (some ⟨w.heap.size, 0, none⟩) [2] 1 none [] 0 C L kc (w.alloc (.cells #[.int .i64 2] 3)) (Ia.lit w rfl) (by simp) (by intro x hx; rw [List.mem_singleton.1 hx]; unfold I64; omega) (Ia.nil _ _) (by simp) (hc.on hb0) hcl hcr (htab.next hb0)
    rw [show rV 5 [2] [] L = 5 from if_pos hE, show rT 5 [2] [] L = [2] ++ wt by unfold rT; rw [if_pos hE, hU], show rS 5 [2] [] L = [] from if_pos hE, show rAt 5 [2] [] L = x by unfold rAt; rw [if_pos hE, hU], hE, ← hnl] at h
    exact h
  obtain ⟨n1, hn1⟩ : ∃ n, n = ([2] ++ wt : List Int).length := ⟨_, rfl⟩
  have HN := Lib.hid (And.intro hn1 (And.intro (show 0 = ([] : List Int).length from rfl) (And.intro hnw hdl)))
  have HD := Lib.hid hd
  have HB := Lib.hid hb0
  clear hc hcl hcr hd hdl htab hE hU hnl hnw hn1 hb0
  go_enter Tryd.func11, Tryd.ntmps11
  go_wp2_with (first
    | (go_at_call 20; (with_reducible refine CR.mono ?_); rintro e w1 hq1
       obtain ⟨A1, k1, B1, q1, rfl, hN1, hb1⟩ := hq1.nwA HN.out.1 HN.out.2.1
       have hz := bn (bn HB.out hb1) (bx_on w1 (.cells #[.int .i64 5, .slice A1 n1 k1, .slice B1 0 q1] 24))
       have HB1 := Lib.hid (And.intro hz (And.intro (hN1.on (bx_on w1 (.cells #[.int .i64 5, .slice A1 n1 k1, .slice B1 0 q1] 24))) (Bs.new w1 (.int .i64 5) (.slice A1 n1 k1) (.slice B1 0 q1))))
       clear hq1 hN1 hb1 hz))
  generalize hW : w1.alloc (.cells #[.int .i64 5, .slice A1 n1 k1, .slice B1 0 q1] 24) = W1 at HB1 ⊢
  clear hW CR
  have hS0 : (fun W : World => W.cell? ⟨w1.heap.size, 1, none⟩ = some (.slice A1 n1 k1) ∧ W.cell? ⟨w1.heap.size, 2, none⟩ = some (.slice B1 0 q1)) W1.drew := ⟨HB1.out.2.2.c.2.1, HB1.out.2.2.c.2.2⟩
  have HSk : Hid (∀ W, Below W1.heap.size W1 W → (fun W : World => W.cell? ⟨w1.heap.size, 1, none⟩ = some (.slice A1 n1 k1) ∧ W.cell? ⟨w1.heap.size, 2, none⟩ = some (.slice B1 0 q1)) W) := Lib.hid fun W hb => ⟨(HB1.out.2.2.on hb).c.2.1, (HB1.out.2.2.on hb).c.2.2⟩
  refine wp_slots (fun f => Sz f 39 ∧ Slot f 1 (.int .i64 x) ∧ Slot f 2 (.slice D nw kd) ∧ Slot f 7 (.pointer (some ⟨w1.heap.size, 0, none⟩)) ∧ Slot f 8 (.int .i64 x) ∧ Slot f 9 (.int .i64 0)) ⟨⟨rfl, rfl⟩, ⟨rfl⟩, ⟨rfl⟩, ⟨rfl⟩, ⟨rfl⟩, ⟨rfl⟩⟩ fun a0 hA0 hR => ?_
  obtain ⟨hZ, hs1, hs2, hs7, hs8, hs9⟩ := hR
  clear hA0
  refine wp_region_T (fun W : World => W.cell? ⟨w1.heap.size, 1, none⟩ = some (.slice A1 n1 k1) ∧ W.cell? ⟨w1.heap.size, 2, none⟩ = some (.slice B1 0 q1)) 22 (by kernel_rfl) ?_
  refine WT.h ?_
  (refine wt_move 0 9 rfl rfl (by kernel_rfl) (by kernel_rfl) (by kernel_rfl) (by kernel_rfl) (fun _ _ _ h => h) rfl hS0 (by (repeat (first | (refine slot_hit (N := 39) ?_ (by rfl); (repeat (refine sz_put ?_)); assumption; done) | (apply slot_miss; focus rfl))); all_goals assumption) rfl ?_); (refine wt_take1 1 18 (v := ?_) rfl rfl (by kernel_rfl) (by kernel_rfl) (by kernel_rfl) (by kernel_rfl) (fun _ _ _ h => h) rfl hS0 (by (repeat (first | (refine slot_hit (N := 39) ?_ (by rfl); (repeat (refine sz_put ?_)); assumption; done) | (apply slot_miss; focus rfl))); all_goals assumption) (fun ev hk hv0 w hS => ?_) ?_; rotate_left; focus (obtain ⟨c1, c2⟩ := hS; go_simp; rfl)); (refine wt_move 2 19 rfl rfl (by kernel_rfl) (by kernel_rfl) (by kernel_rfl) (by kernel_rfl) (fun _ _ _ h => h) rfl hS0 (by (repeat (first | (refine slot_hit (N := 39) ?_ (by rfl); (repeat (refine sz_put ?_)); assumption; done) | (apply slot_miss; focus rfl))); all_goals assumption) rfl ?_); (refine wt_move 3 8 rfl rfl (by kernel_rfl) (by kernel_rfl) (by kernel_rfl) (by kernel_rfl) (fun _ _ _ h => h) (wanted_of rfl rfl (by (repeat (first | (refine slot_hit (N := 39) ?_ (by rfl); (repeat (refine sz_put ?_)); assumption; done) | (apply slot_miss; focus rfl))); all_goals assumption) rfl) hS0 (by (repeat (first | (refine slot_hit (N := 39) ?_ (by rfl); (repeat (refine sz_put ?_)); assumption; done) | (apply slot_miss; focus rfl))); all_goals assumption) rfl ?_); (refine wt_move 4 1 rfl rfl (by kernel_rfl) (by kernel_rfl) (by kernel_rfl) (by kernel_rfl) (fun _ _ _ h => h) (wanted_of rfl rfl (by (repeat (first | (refine slot_hit (N := 39) ?_ (by rfl); (repeat (refine sz_put ?_)); assumption; done) | (apply slot_miss; focus rfl))); all_goals assumption) rfl) hS0 (by (repeat (first | (refine slot_hit (N := 39) ?_ (by rfl); (repeat (refine sz_put ?_)); assumption; done) | (apply slot_miss; focus rfl))); all_goals assumption) rfl ?_); (refine wt_take2 5 21 22 (v := ?_) rfl rfl (by kernel_rfl) (by kernel_rfl) (by kernel_rfl) (by kernel_rfl) (fun _ _ _ h => h) (wanted_of rfl rfl (by (repeat (first | (refine slot_hit (N := 39) ?_ (by rfl); (repeat (refine sz_put ?_)); assumption; done) | (apply slot_miss; focus rfl))); all_goals assumption) rfl) hS0 (by (repeat (first | (refine slot_hit (N := 39) ?_ (by rfl); (repeat (refine sz_put ?_)); assumption; done) | (apply slot_miss; focus rfl))); all_goals assumption) (by (repeat (first | (refine slot_hit (N := 39) ?_ (by rfl); (repeat (refine sz_put ?_)); assumption; done) | (apply slot_miss; focus rfl))); all_goals assumption) (fun ev hk hv0 hv1 w hS => ?_) ?_; rotate_left; focus (obtain ⟨c1, c2⟩ := hS; go_simp; rfl)); (refine wt_take2 6 20 23 (v := ?_) rfl rfl (by kernel_rfl) (by kernel_rfl) (by kernel_rfl) (by kernel_rfl) (fun _ _ _ h => h) rfl hS0 (by (repeat (first | (refine slot_hit (N := 39) ?_ (by rfl); (repeat (refine sz_put ?_)); assumption; done) | (apply slot_miss; focus rfl))); all_goals assumption) (by (repeat (first | (refine slot_hit (N := 39) ?_ (by rfl); (repeat (refine sz_put ?_)); assumption; done) | (apply slot_miss; focus rfl))); all_goals assumption) (fun ev hk hv0 hv1 w hS => ?_) ?_; rotate_left; focus (obtain ⟨c1, c2⟩ := hS; go_simp; rfl)); (refine wt_move 7 24 rfl rfl (by kernel_rfl) (by kernel_rfl) (by kernel_rfl) (by kernel_rfl) (fun _ _ _ h => h) rfl hS0 (by (repeat (first | (refine slot_hit (N := 39) ?_ (by rfl); (repeat (refine sz_put ?_)); assumption; done) | (apply slot_miss; focus rfl))); all_goals assumption) rfl ?_); (refine wt_take1 8 7 (v := ?_) rfl rfl (by kernel_rfl) (by kernel_rfl) (by kernel_rfl) (by kernel_rfl) (fun _ _ _ h => h) (wanted_of rfl rfl (by (repeat (first | (refine slot_hit (N := 39) ?_ (by rfl); (repeat (refine sz_put ?_)); assumption; done) | (apply slot_miss; focus rfl))); all_goals assumption) rfl) hS0 (by (repeat (first | (refine slot_hit (N := 39) ?_ (by rfl); (repeat (refine sz_put ?_)); assumption; done) | (apply slot_miss; focus rfl))); all_goals assumption) (fun ev hk hv0 w hS => ?_) ?_; rotate_left; focus (obtain ⟨c1, c2⟩ := hS; go_simp; rfl)); (refine wt_take1 9 26 (v := ?_) rfl rfl (by kernel_rfl) (by kernel_rfl) (by kernel_rfl) (by kernel_rfl) (fun _ _ _ h => h) (wanted_of rfl rfl (by (repeat (first | (refine slot_hit (N := 39) ?_ (by rfl); (repeat (refine sz_put ?_)); assumption; done) | (apply slot_miss; focus rfl))); all_goals assumption) rfl) hS0 (by (repeat (first | (refine slot_hit (N := 39) ?_ (by rfl); (repeat (refine sz_put ?_)); assumption; done) | (apply slot_miss; focus rfl))); all_goals assumption) (fun ev hk hv0 w hS => ?_) ?_; rotate_left; focus (obtain ⟨c1, c2⟩ := hS; go_simp; rfl)); (refine wt_move 11 2 rfl rfl (by kernel_rfl) (by kernel_rfl) (by kernel_rfl) (by kernel_rfl) (fun _ _ _ h => h) (wanted_of rfl rfl (by (repeat (first | (refine slot_hit (N := 39) ?_ (by rfl); (repeat (refine sz_put ?_)); assumption; done) | (apply slot_miss; focus rfl))); all_goals assumption) rfl) hS0 (by (repeat (first | (refine slot_hit (N := 39) ?_ (by rfl); (repeat (refine sz_put ?_)); assumption; done) | (apply slot_miss; focus rfl))); all_goals assumption) rfl ?_)
  refine wt_val0 10  (by kernel_rfl) rfl rfl (wanted_of rfl rfl (by (repeat (first | (refine slot_hit (N := 39) ?_ (by rfl); (repeat (refine sz_put ?_)); assumption; done) | (apply slot_miss; focus rfl))); all_goals assumption) rfl)  (v := ?_) (w' := ?_) (fun ev hk  => ?_) ?_; rotate_left 2; focus (go_simp; first | rfl | (constructor <;> rfl))
  have hb1 := bn (below_dn (Below.refl W1.heap.size W1) 1) (bx_on W1.drew (.cells #[.int .i64 2] 3))
  have hS0 := HSk.out _ hb1
  refine ⟨fun _ => hS0, ?_⟩
  have ho : Io W1.heap.size (W1.drew.alloc (.cells #[.int .i64 2] 3)) (.slice (some ⟨W1.heap.size, 0, none⟩) 1 1) [2] := Io.lit (w := W1.drew) rfl (Nat.le_refl _) (by simp)
  have hsr : Src (W1.drew.alloc (.cells #[.int .i64 2] 3)) D wt.length kd (iC wt) := ((HD.out.on HB1.out.1).on hb1).src
  refine wt_append13 12 28 29 (by kernel_rfl) rfl rfl (wanted_of rfl rfl (by (repeat (first | (refine slot_hit (N := 39) ?_ (by rfl); (repeat (refine sz_put ?_)); assumption; done) | (apply slot_miss; focus rfl))); all_goals assumption) rfl) (by (repeat (first | (refine slot_hit (N := 39) ?_ (by rfl); (repeat (refine sz_put ?_)); assumption; done) | (apply slot_miss; focus rfl))); all_goals assumption) (by (repeat (first | (refine slot_hit (N := 39) ?_ (by rfl); (repeat (refine sz_put ?_)); assumption; done) | (apply slot_miss; focus rfl))); all_goals assumption) rfl (fun ty => io_run W1.heap.size _ [2] ho D nw kd wt HN.out.2.2.1 hsr (by have := HN.out.2.2.2; simp; omega) hb1.size ty) (fun v2 w2 hG2 => ?_)
  have hb2 := hb1.trans hG2.2
  have hS0 := HSk.out _ hb2
  refine ⟨fun _ => hS0, ?_⟩
  obtain ⟨A2, k2, e2, hI2⟩ := hG2.1.at
  have hSm := rSame_any A1 ([2] ++ wt) k1 A2 ([2] ++ wt) k2 w2 (HB1.out.2.1.on hb2).ti (by have := HN.out.2.2.2; simp; omega) hI2 (by have := HN.out.2.2.2; simp; omega)
  rw [sm_self, ← HN.out.1] at hSm
  rw [← HN.out.1] at e2
  subst e2
  clear ho hsr hG2 hI2
  refine wt_call2 13 27 30 (by kernel_rfl) rfl rfl (wanted_of rfl rfl (by (repeat (first | (refine slot_hit (N := 39) ?_ (by rfl); (repeat (refine sz_put ?_)); assumption; done) | (apply slot_miss; focus rfl))); all_goals assumption) rfl) (by (repeat (first | (refine slot_hit (N := 39) ?_ (by rfl); (repeat (refine sz_put ?_)); assumption; done) | (apply slot_miss; focus rfl))); all_goals assumption) (by (repeat (first | (refine slot_hit (N := 39) ?_ (by rfl); (repeat (refine sz_put ?_)); assumption; done) | (apply slot_miss; focus rfl))); all_goals assumption) (f := ?_) (args := ?_) (fun ev hk hkf hv0 hv1 => ?_) ?_; rotate_left 2; focus (go_simp; first | rfl | (constructor <;> rfl))
  refine hSm.mono ?_
  rintro e w3 ⟨rfl, hb3⟩
  have hb3 := Below.step hb2 hb2.size hb3
  have hS0 := HSk.out _ hb3
  refine ⟨_, rfl, fun _ => hS0, ?_⟩
  (refine wt_take2 14 25 31 (v := ?_) rfl rfl (by kernel_rfl) (by kernel_rfl) (by kernel_rfl) (by kernel_rfl) (fun _ _ _ h => h) rfl hS0 (by (repeat (first | (refine slot_hit (N := 39) ?_ (by rfl); (repeat (refine sz_put ?_)); assumption; done) | (apply slot_miss; focus rfl))); all_goals assumption) (by (repeat (first | (refine slot_hit (N := 39) ?_ (by rfl); (repeat (refine sz_put ?_)); assumption; done) | (apply slot_miss; focus rfl))); all_goals assumption) (fun ev hk hv0 hv1 w hS => ?_) ?_; rotate_left; focus (obtain ⟨c1, c2⟩ := hS; go_simp; rfl)); (refine wt_move 15 32 rfl rfl (by kernel_rfl) (by kernel_rfl) (by kernel_rfl) (by kernel_rfl) (fun _ _ _ h => h) rfl hS0 (by (repeat (first | (refine slot_hit (N := 39) ?_ (by rfl); (repeat (refine sz_put ?_)); assumption; done) | (apply slot_miss; focus rfl))); all_goals assumption) rfl ?_); (refine wt_take1 16 7 (v := ?_) rfl rfl (by kernel_rfl) (by kernel_rfl) (by kernel_rfl) (by kernel_rfl) (fun _ _ _ h => h) (wanted_of rfl rfl (by (repeat (first | (refine slot_hit (N := 39) ?_ (by rfl); (repeat (refine sz_put ?_)); assumption; done) | (apply slot_miss; focus rfl))); all_goals assumption) rfl) hS0 (by (repeat (first | (refine slot_hit (N := 39) ?_ (by rfl); (repeat (refine sz_put ?_)); assumption; done) | (apply slot_miss; focus rfl))); all_goals assumption) (fun ev hk hv0 w hS => ?_) ?_; rotate_left; focus (obtain ⟨c1, c2⟩ := hS; go_simp; rfl)); (refine wt_take1 17 34 (v := ?_) rfl rfl (by kernel_rfl) (by kernel_rfl) (by kernel_rfl) (by kernel_rfl) (fun _ _ _ h => h) (wanted_of rfl rfl (by (repeat (first | (refine slot_hit (N := 39) ?_ (by rfl); (repeat (refine sz_put ?_)); assumption; done) | (apply slot_miss; focus rfl))); all_goals assumption) rfl) hS0 (by (repeat (first | (refine slot_hit (N := 39) ?_ (by rfl); (repeat (refine sz_put ?_)); assumption; done) | (apply slot_miss; focus rfl))); all_goals assumption) (fun ev hk hv0 w hS => ?_) ?_; rotate_left; focus (obtain ⟨c1, c2⟩ := hS; go_simp; rfl)); (refine wt_take1 18 35 (v := ?_) rfl rfl (by kernel_rfl) (by kernel_rfl) (by kernel_rfl) (by kernel_rfl) (fun _ _ _ h => h) (wanted_of rfl rfl (by (repeat (first | (refine slot_hit (N := 39) ?_ (by rfl); (repeat (refine sz_put ?_)); assumption; done) | (apply slot_miss; focus rfl))); all_goals assumption) rfl) hS0 (by (repeat (first | (refine slot_hit (N := 39) ?_ (by rfl); (repeat (refine sz_put ?_)); assumption; done) | (apply slot_miss; focus rfl))); all_goals assumption) (fun ev hk hv0 w hS => ?_) ?_; rotate_left; focus (obtain ⟨c1, c2⟩ := hS; go_simp; rfl)); (refine wt_take1 19 36 (v := ?_) rfl rfl (by kernel_rfl) (by kernel_rfl) (by kernel_rfl) (by kernel_rfl) (fun _ _ _ h => h) (wanted_of rfl rfl (by (repeat (first | (refine slot_hit (N := 39) ?_ (by rfl); (repeat (refine sz_put ?_)); assumption; done) | (apply slot_miss; focus rfl))); all_goals assumption) rfl) hS0 (by (repeat (first | (refine slot_hit (N := 39) ?_ (by rfl); (repeat (refine sz_put ?_)); assumption; done) | (apply slot_miss; focus rfl))); all_goals assumption) (fun ev hk hv0 w hS => ?_) ?_; rotate_left; focus (obtain ⟨c1, c2⟩ := hS; go_simp; rfl)); (refine wt_take2 20 33 37 (v := ?_) rfl rfl (by kernel_rfl) (by kernel_rfl) (by kernel_rfl) (by kernel_rfl) (fun _ _ _ h => h) rfl hS0 (by (repeat (first | (refine slot_hit (N := 39) ?_ (by rfl); (repeat (refine sz_put ?_)); assumption; done) | (apply slot_miss; focus rfl))); all_goals assumption) (by (repeat (first | (refine slot_hit (N := 39) ?_ (by rfl); (repeat (refine sz_put ?_)); assumption; done) | (apply slot_miss; focus rfl))); all_goals assumption) (fun ev hk hv0 hv1 w hS => ?_) ?_; rotate_left; focus (obtain ⟨c1, c2⟩ := hS; go_simp; rfl)); (refine wt_assign 21 38 rfl rfl (by kernel_rfl) (by kernel_rfl) (by kernel_rfl) (by kernel_rfl) (fun _ _ _ h => h) rfl hS0 (by (repeat (first | (refine slot_hit (N := 39) ?_ (by rfl); (repeat (refine sz_put ?_)); assumption; done) | (apply slot_miss; focus rfl))); all_goals assumption) rfl ?_)
  refine wt_known (N := 39) (by kernel_rfl) (by (repeat (refine sz_put ?_)); assumption) [(6, .bool true)] ⟨(by (repeat (first | (refine slot_hit (N := 39) ?_ (by rfl); (repeat (refine sz_put ?_)); assumption; done) | (apply slot_miss; focus rfl))); all_goals assumption), trivial⟩ fun fv fl hfl => ?_; obtain rfl : fl = [fv 0, fv 1, fv 2, fv 3, fv 4, fv 5, (.bool true : Value), fv 7, fv 8, fv 9, fv 10, fv 11, fv 12, fv 13, fv 14, fv 15, fv 16, fv 17, fv 18, fv 19, fv 20, fv 21, fv 22, fv 23, fv 24, fv 25, fv 26, fv 27, fv 28, fv 29, fv 30, fv 31, fv 32, fv 33, fv 34, fv 35, fv 36, fv 37, fv 38] := hfl.symm.trans (by kernel_rfl); clear hfl
  go_wp2
  go_ret
  exact ⟨rfl, bn HB1.out.1 hb3⟩

theorem cr_small {L : List (List Int)} (h : ∀ c ∈ L, c.length ≤ 1000 ∧ ∀ x ∈ c, -100000 ≤ x ∧ x ≤ 100000) : ∀ c ∈ L, c.length ≤ 100000 ∧ ∀ x ∈ c, I64 x := fun c hc => by
  obtain ⟨h1, h2⟩ := h c hc
  exact ⟨by omega, fun x hx => by have := h2 x hx; unfold I64; omega⟩
theorem ex15_1 : cE 5 [2] [] [[3, 4], [5, 6], [8, 10]] = 0 ∧ upR 5 [2] [[3, 4], [5, 6], [8, 10]] = ([2] ++ [4, 6], -1) := by decide
theorem ex15_2 : cE 5 [2] [] [[3, 4], [5, 6], [8, 10], [7, 8]] = 0 ∧ upR 5 [2] [[3, 4], [5, 6], [8, 10], [7, 8]] = ([2] ++ [4, 6, 8], -1) := by decide
theorem ex15_3 : cE 5 [2] [] [[3, 4], [3, 5], [8, 10]] = 0 ∧ upR 5 [2] [[3, 4], [3, 5], [8, 10]] = ([2] ++ [4], 1) := by decide

set_option maxRecDepth 100000 in
set_option maxHeartbeats 10000000 in
theorem alive15_any (w : World) (htab : Tab w.heap.size w) : Calls Tryd.prog 4 #[] w fun e w' => e = .returned (.bool true) ∧ Below w.heap.size w w' := by
  obtain ⟨hI1, hb1⟩ := ill3 w (a := [3, 4]) (b := [5, 6]) (c := [8, 10]) (ca := #[.int .i64 3, .int .i64 4]) (cb := #[.int .i64 5, .int .i64 6]) (cc := #[.int .i64 8, .int .i64 10]) rfl rfl rfl (na := 2) (nb := 2) (nc := 2) rfl rfl rfl rfl
  have hb1' := bx_on ((((w.alloc (.cells #[.int .i64 3, .int .i64 4] 3)).alloc (.cells #[.int .i64 5, .int .i64 6] 3)).alloc (.cells #[.int .i64 8, .int .i64 10] 3)).alloc (.cells #[.slice (some ⟨w.heap.size, 0, none⟩) 2 2, .slice (some ⟨w.heap.size + 1, 0, none⟩) 2 2, .slice (some ⟨w.heap.size + 1 + 1, 0, none⟩) 2 2] 22)) (.cells #[.int .i64 4, .int .i64 6] 3)
  have hd1 := ia_lit (Has.new' ((((w.alloc (.cells #[.int .i64 3, .int .i64 4] 3)).alloc (.cells #[.int .i64 5, .int .i64 6] 3)).alloc (.cells #[.int .i64 8, .int .i64 10] 3)).alloc (.cells #[.slice (some ⟨w.heap.size, 0, none⟩) 2 2, .slice (some ⟨w.heap.size + 1, 0, none⟩) 2 2, .slice (some ⟨w.heap.size + 1 + 1, 0, none⟩) 2 2] 22)) (t := 3) (cs := #[.int .i64 4, .int .i64 6]) (w.heap.size + 1 + 1 + 1 + 1) (by simp only [World.size_alloc])) (l := [4, 6]) rfl (n := 2) rfl
  have G1 := gives_any _ _ _ (-1) _ _ _ _ (hI1.on hb1') (by decide) (cr_small (by decide)) hd1 (by decide) (htab.next (bn hb1 hb1')) ex15_1.1 ex15_1.2 (nl := 3) (nw := 2) rfl rfl
  have HB := Lib.hid (And.intro (bn hb1 hb1') htab)
  clear hI1 hb1 hb1' hd1 htab
  go_enter Tryd.func4, Tryd.ntmps4
  go_wp2_with (first
    | (go_at_call 11; (with_reducible refine G1.mono ?_); rintro e w1 ⟨rfl, hz1⟩
       have hz1 := bn HB.out.1 hz1
       obtain ⟨hI2, hb2⟩ := ill4 w1 (a := [3, 4]) (b := [5, 6]) (c := [8, 10]) (d := [7, 8]) (ca := #[.int .i64 3, .int .i64 4]) (cb := #[.int .i64 5, .int .i64 6]) (cc := #[.int .i64 8, .int .i64 10]) (cd := #[.int .i64 7, .int .i64 8]) rfl rfl rfl rfl (na := 2) (nb := 2) (nc := 2) (nd := 2) rfl rfl rfl rfl rfl rfl
       have hb2' := bx_on (((((w1.alloc (.cells #[.int .i64 3, .int .i64 4] 3)).alloc (.cells #[.int .i64 5, .int .i64 6] 3)).alloc (.cells #[.int .i64 8, .int .i64 10] 3)).alloc (.cells #[.int .i64 7, .int .i64 8] 3)).alloc (.cells #[.slice (some ⟨w1.heap.size, 0, none⟩) 2 2, .slice (some ⟨w1.heap.size + 1, 0, none⟩) 2 2, .slice (some ⟨w1.heap.size + 1 + 1, 0, none⟩) 2 2, .slice (some ⟨w1.heap.size + 1 + 1 + 1, 0, none⟩) 2 2] 22)) (.cells #[.int .i64 4, .int .i64 6, .int .i64 8] 3)
       have hd2 := ia_lit (Has.new' (((((w1.alloc (.cells #[.int .i64 3, .int .i64 4] 3)).alloc (.cells #[.int .i64 5, .int .i64 6] 3)).alloc (.cells #[.int .i64 8, .int .i64 10] 3)).alloc (.cells #[.int .i64 7, .int .i64 8] 3)).alloc (.cells #[.slice (some ⟨w1.heap.size, 0, none⟩) 2 2, .slice (some ⟨w1.heap.size + 1, 0, none⟩) 2 2, .slice (some ⟨w1.heap.size + 1 + 1, 0, none⟩) 2 2, .slice (some ⟨w1.heap.size + 1 + 1 + 1, 0, none⟩) 2 2] 22)) (t := 3) (cs := #[.int .i64 4, .int .i64 6, .int .i64 8]) (w1.heap.size + 1 + 1 + 1 + 1 + 1) (by simp only [World.size_alloc])) (l := [4, 6, 8]) rfl (n := 3) rfl
       have G2 := gives_any _ _ _ (-1) _ _ _ _ (hI2.on hb2') (by decide) (cr_small (by decide)) hd2 (by decide) (HB.out.2.next (bn hz1 (bn hb2 hb2'))) ex15_2.1 ex15_2.2 (nl := 4) (nw := 3) rfl rfl
       have HB1 := Lib.hid (bn hz1 (bn hb2 hb2'))
       clear hI2 hb2 hb2' hd2 hz1)
    | (go_at_call 11; (with_reducible refine G2.mono ?_); rintro e w2 ⟨rfl, hz2⟩
       have hz2 := bn HB1.out hz2
       obtain ⟨hI3, hb3⟩ := ill3 w2 (a := [3, 4]) (b := [3, 5]) (c := [8, 10]) (ca := #[.int .i64 3, .int .i64 4]) (cb := #[.int .i64 3, .int .i64 5]) (cc := #[.int .i64 8, .int .i64 10]) rfl rfl rfl (na := 2) (nb := 2) (nc := 2) rfl rfl rfl rfl
       have hb3' := bx_on ((((w2.alloc (.cells #[.int .i64 3, .int .i64 4] 3)).alloc (.cells #[.int .i64 3, .int .i64 5] 3)).alloc (.cells #[.int .i64 8, .int .i64 10] 3)).alloc (.cells #[.slice (some ⟨w2.heap.size, 0, none⟩) 2 2, .slice (some ⟨w2.heap.size + 1, 0, none⟩) 2 2, .slice (some ⟨w2.heap.size + 1 + 1, 0, none⟩) 2 2] 22)) (.cells #[.int .i64 4] 3)
       have hd3 := ia_lit (Has.new' ((((w2.alloc (.cells #[.int .i64 3, .int .i64 4] 3)).alloc (.cells #[.int .i64 3, .int .i64 5] 3)).alloc (.cells #[.int .i64 8, .int .i64 10] 3)).alloc (.cells #[.slice (some ⟨w2.heap.size, 0, none⟩) 2 2, .slice (some ⟨w2.heap.size + 1, 0, none⟩) 2 2, .slice (some ⟨w2.heap.size + 1 + 1, 0, none⟩) 2 2] 22)) (t := 3) (cs := #[.int .i64 4]) (w2.heap.size + 1 + 1 + 1 + 1) (by simp only [World.size_alloc])) (l := [4]) rfl (n := 1) rfl
       have G3 := gives_any _ _ _ 1 _ _ _ _ (hI3.on hb3') (by decide) (cr_small (by decide)) hd3 (by decide) (HB.out.2.next (bn hz2 (bn hb3 hb3'))) ex15_3.1 ex15_3.2 (nl := 3) (nw := 1) rfl rfl
       have HB2 := Lib.hid (bn hz2 (bn hb3 hb3'))
       clear hI3 hb3 hb3' hd3 hz2)
    | (go_at_call 11; (with_reducible refine G3.mono ?_); rintro e w3 ⟨rfl, hz3⟩
       have HB3 := Lib.hid (bn HB2.out hz3)
       clear hz3))
  go_ret
  exact ⟨rfl, HB3.out⟩

end Go.Proofs.YtecmldnigohjfabDoor
