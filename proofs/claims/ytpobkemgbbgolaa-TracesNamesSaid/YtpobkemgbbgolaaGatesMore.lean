/- A circuit with a gate more at the end. -/
import Derived.Test.YtpobkemgbbgolaaGatesHas
import Derived.Test.YtpobkemgbbgolaaGatesTwin
import Derived.Test.YtpobkemgbbgolaaGatesAlive
namespace Go.Proofs.Ytpobkemgbbgolaa
open Go.RowKit
set_option linter.unusedVariables false

namespace Cr
/-- a gate more, of the literals a and b -/
def more (c : Cr) (a b : Int) : Cr := { c with na := c.na + 1, ga := fun j => if j = c.na then a else c.ga j, gb := fun j => if j = c.na then b else c.gb j }
variable {c : Cr} {a b : Int}
theorem more_sz : (c.more a b).sz = c.sz + 1 := by
  show c.i + c.nl + ((c.na + 1 : Nat) : Int) = c.i + c.nl + c.na + 1
  omega
theorem more_fg : (c.more a b).fg = c.fg := rfl
theorem allB_mono {m m' : Int} {f : Nat → Int} {n : Nat} (h : allB m f n = true) (hm : m ≤ m') : allB m' f n = true := decide_eq_true fun j hj => by
  have := (of_decide_eq_true h : ∀ j, j < n → _) j hj
  omega
theorem more_chk (h : c.chk = 0) (hs : c.sz < 1000) (h0 : 0 ≤ b) (h1 : b ≤ a) (h2 : a / 2 ≤ c.sz) : (c.more a b).chk = 0 := by
  obtain ⟨k1, k2, k3, k4, k5, k6, k7, k8⟩ := chk_zero h
  have e : (c.more a b).sz = c.sz + 1 := more_sz
  have hz : c.sz = c.i + c.nl + c.na := rfl
  refine chk_ok (c := c.more a b) (by show ¬ c.i < 0; omega) (by rw [e]; show ¬ (1000 < c.sz + 1 ∨ 100 < c.nb ∨ 100 < c.nc); omega) ⟨?_, ?_, ?_, ?_⟩
  · rw [e]; exact allB_mono (n := c.nb) (f := c.bd) k5 (by omega)
  · rw [e]; exact allB_mono (n := c.nc) (f := c.cn) k6 (by omega)
  · refine decide_eq_true fun j hj => ?_
    have := (of_decide_eq_true k7 : ∀ j, j < c.nl → _) j hj
    rw [e]
    show 0 ≤ c.nx j ∧ c.nx j / 2 ≤ c.sz + 1 ∧ 0 ≤ c.rs j ∧ c.rs j ≤ 2
    omega
  · refine decide_eq_true fun j hj => ?_
    show 0 ≤ (if j = c.na then b else c.gb j) ∧ (if j = c.na then b else c.gb j) ≤ (if j = c.na then a else c.ga j) ∧ (if j = c.na then a else c.ga j) / 2 ≤ c.i + c.nl + j
    have hj' : j < c.na + 1 := hj
    by_cases ej : j = c.na
    · subst ej; simp; omega
    · have := (of_decide_eq_true k8 : ∀ j, j < c.na → _) j (by omega)
      rw [if_neg ej, if_neg ej]; omega
theorem more_dpA : ∀ k, k ≤ c.na → ∀ v, (c.more a b).dpA k v = c.dpA k v
  | 0, _, v => rfl
  | k + 1, h, v => by
    have ih := more_dpA k (by omega)
    have e1 : (c.more a b).ga k = c.ga k := if_neg (by omega)
    have e2 : (c.more a b).gb k = c.gb k := if_neg (by omega)
    unfold dpA
    rw [e1, e2, more_fg, ih, ih, ih]
theorem more_dpM : ∀ k, k ≤ c.na → (c.more a b).dpM k = c.dpM k
  | 0, _ => rfl
  | k + 1, h => by
    have ih := more_dpM k (by omega)
    have e1 : (c.more a b).ga k = c.ga k := if_neg (by omega)
    have e2 : (c.more a b).gb k = c.gb k := if_neg (by omega)
    have e3 : (c.more a b).dpN k = c.dpN k := by
      unfold dpN
      rw [e1, e2, more_dpA k (by omega), more_dpA k (by omega)]
    unfold dpM
    rw [ih, e3]
theorem dpA_dpM (c : Cr) : ∀ k v, c.dpA k v ≤ c.dpM k
  | 0, v => Int.le_refl _
  | k + 1, v => by
    have ih := dpA_dpM c k v
    unfold dpA dpM
    split
    · show dpN c k ≤ _
      split <;> omega
    · split <;> omega
/-- the depth of the circuit with a gate more -/
theorem more_dpt (h : c.chk = 0) (h' : (c.more a b).chk = 0) : c.dpt ≤ (c.more a b).dpt ∧ (c.more a b).dpt ≤ c.dpt + 1 ∧ 1 ≤ (c.more a b).dpt ∧ 0 ≤ c.dpt ∧ c.dpt ≤ c.na := by
  have e1 : c.dpt = c.dpM c.na := if_pos h
  have e2 : (c.more a b).dpt = (c.more a b).dpM (c.na + 1) := if_pos h'
  have h1 := dpN_bd (c.more a b) c.na
  have h2 : (c.more a b).dpN c.na ≤ c.dpM c.na + 1 := by
    unfold dpN
    rw [more_dpA c.na (Nat.le_refl _), more_dpA c.na (Nat.le_refl _)]
    have q1 := dpA_dpM c c.na ((c.more a b).ga c.na / 2).toNat
    have q2 := dpA_dpM c c.na ((c.more a b).gb c.na / 2).toNat
    split <;> omega
  have h3 := dpM_bd c c.na
  have e3 : (c.more a b).dpM (c.na + 1) = if c.dpM c.na < (c.more a b).dpN c.na then (c.more a b).dpN c.na else c.dpM c.na := by
    conv => lhs; unfold dpM
    rw [more_dpM c.na (Nat.le_refl _)]
  rw [e1, e2, e3]
  split <;> omega
theorem cL_eq {c : Cr} {l : Int} (h : c.chk = 0) (h0 : 0 ≤ l) (hl : l / 2 ≤ c.sz) : c.cL l = cnL (c.rch l) (c.sz.toNat + 1) ∧ c.cE l = 0 := by
  have hb : litB c.sz l = true := decide_eq_true ⟨h0, hl⟩
  exact ⟨if_pos ⟨h, hb⟩, by unfold cE; rw [if_neg (by omega), if_pos hb]⟩
/-- the cone of the new gate has that of its part a in it, and more -/
theorem more_cone (h : c.chk = 0) (h' : (c.more a b).chk = 0) (h0 : 0 ≤ a) (h2 : a / 2 ≤ c.sz) :
    List.Sublist ((c.more a b).cL a) ((c.more a b).cL (2 * (c.sz + 1))) ∧ ((c.more a b).cL a).length < ((c.more a b).cL (2 * (c.sz + 1))).length ∧ (c.more a b).cE a = 0 ∧ (c.more a b).cE (2 * (c.sz + 1)) = 0 := by
  have hz := chk_zero h
  have hsz : 0 ≤ c.sz := by have : c.sz = c.i + c.nl + c.na := rfl; omega
  have e : (c.more a b).sz = c.sz + 1 := more_sz
  obtain ⟨l1, E1⟩ := cL_eq (l := a) h' h0 (by rw [e]; omega)
  obtain ⟨l2, E2⟩ := cL_eq (l := 2 * (c.sz + 1)) h' (by omega) (by rw [e]; omega)
  have er : (2 * (c.sz + 1) / 2).toNat = (c.more a b).fg + c.na := by
    have : c.sz = c.i + c.nl + c.na := rfl
    show _ = 1 + c.i.toNat + c.nl + c.na
    omega
  have eg : (c.more a b).ga c.na = a := if_pos rfl
  have sub : ∀ v, (c.more a b).rch a v = true → (c.more a b).rch (2 * (c.sz + 1)) v = true := fun v hv => by
    have k := (rch_iff h' a v).1 hv
    refine (rch_iff h' _ v).2 ?_
    have hl := Rc.left (c := c.more a b) (r := (2 * (c.sz + 1) / 2).toNat) (j := c.na) (Nat.lt_succ_self _) (er ▸ .base)
    rw [eg] at hl
    exact hl.trans k
  have eq : (c.more a b).sz.toNat + 1 = c.sz.toNat + 1 + 1 := by rw [e]; omega
  rw [l1, l2, E1, E2, eq]
  have hq : (c.more a b).rch (2 * (c.sz + 1)) (c.sz.toNat + 1) = true := by
    refine (rch_iff h' _ _).2 ?_
    have : c.sz.toNat + 1 = (2 * (c.sz + 1) / 2).toNat := by omega
    rw [this]
    exact .base
  have hq' : (c.more a b).rch a (c.sz.toNat + 1) = false := by
    cases hh : (c.more a b).rch a (c.sz.toNat + 1)
    · rfl
    · have := ((rch_iff h' a _).1 hh).le h'
      omega
  have hs := cnL_sub sub (c.sz.toNat + 1)
  rw [cnL_yes ⟨by omega, hq⟩, cnL_no (fun hh => by rw [hq'] at hh; cases hh.2)]
  exact ⟨hs.trans (List.sublist_append_left _ _), by have := hs.length_le; simp; omega, rfl, rfl⟩
theorem more_sm (hs : Sm c) (hn : c.na ≤ 900) (ha : I64 a) (hb : I64 b) : Sm (c.more a b) :=
  ⟨hs.i, hs.nl, by show c.na + 1 ≤ 1000; omega, hs.nb, hs.nc, hs.nx, hs.rs, fun j => by show I64 (if j = c.na then a else c.ga j); split; exact ha; exact hs.ga j, fun j => by show I64 (if j = c.na then b else c.gb j); split; exact hb; exact hs.gb j, hs.bd, hs.cn⟩
end Cr

theorem pairL_congr {f f' g g' : Nat → Int} : ∀ n, (∀ j, j < n → f j = f' j ∧ g j = g' j) → pairL f g n = pairL f' g' n
  | 0, _ => rfl
  | n + 1, h => by rw [pairL, pairL, pairL_congr n (fun j hj => h j (by omega)), (h n (by omega)).1, (h n (by omega)).2]
theorem pairL_more (c : Cr) (a b : Int) : pairL (c.more a b).ga (c.more a b).gb (c.na + 1) = pairL c.ga c.gb c.na ++ [.int .i64 a, .int .i64 b] := by
  rw [pairL, pairL_congr (f := (c.more a b).ga) (g := (c.more a b).gb) (f' := c.ga) (g' := c.gb) c.na (fun j hj => ⟨if_neg (by omega), if_neg (by omega)⟩)]
  have e1 : (c.more a b).ga c.na = a := if_pos rfl
  have e2 : (c.more a b).gb c.na = b := if_pos rfl
  rw [e1, e2]

theorem two_new (w : World) (x y : Value) (t : TypeId) : ∀ j u, [x, y][j]? = some u → (w.alloc (.cells #[x, y] t)).cell? ((⟨w.heap.size, 0, none⟩ : Addr).add j) = some u := fun j u h => by
  have e : (⟨w.heap.size, 0, none⟩ : Addr).add j = ⟨w.heap.size, j, none⟩ := by unfold Addr.add; split <;> simp_all
  rw [e, (Has.new w t #[x, y]).cell j]
  simpa using h
theorem own_form {w : World} {base : Nat} {e : TypeId} {size n : Nat} {v : Value} {xs : List Value} (h : w.ownsRow base e size v n xs) (hv : v ≠ .slice none 0 0) : ∃ g k, v = .slice (some ⟨g, 0, none⟩) n k := by
  rcases h.2 with ⟨h, _⟩ | ⟨g, cap, cur, rfl, _⟩
  · exact absurd h hv
  · exact ⟨g, cap, rfl⟩
/-- rows of different types lie in different blocks -/
theorem own_ne {w : World} {base base' : Nat} {e e' : TypeId} {g g' n n' k k' size size' : Nat} {xs xs' : List Value} (h : w.ownsRow base e size (.slice (some ⟨g, 0, none⟩) n k) n xs) (h' : w.ownsRow base' e' size' (.slice (some ⟨g', 0, none⟩) n' k') n' xs') (hne : e ≠ e') : g ≠ g' := by
  rcases h.2 with ⟨h, _⟩ | ⟨g1, cap, cur, hv, _, hh, _⟩
  · cases h
  · rcases h'.2 with ⟨h, _⟩ | ⟨g2, cap2, cur2, hv2, _, hh2, _⟩
    · cases h
    · cases hv; cases hv2
      exact Has.ne (cs := cur) (cs' := cur2) hh hh2 hne

/-- where the circuit with a gate more lies -/
abbrev mP (gl g gd gc K1 k K3 K4 : Nat) : Pl := ⟨some ⟨gl, 0, none⟩, some ⟨g, 0, none⟩, some ⟨gd, 0, none⟩, some ⟨gc, 0, none⟩, K1, k, K3, K4⟩
/-- behind the append and its store -/
theorem more_step {w w4 w5 : World} {base : Nat} {c : Cr} {a b : Int} {gl gn gd gc K1 K2 K3 K4 g5 k5 : Nat} {p : Pl} (hB : Below w.heap.size w w4) (hA : Has w4 w.heap.size 28 (cc c p)) (hO : OwnC w4 base c (mP gl gn gd gc K1 K2 K3 K4)) (hb : w.heap.size + 1 ≤ base)
    (hg : ((w4.alloc (.cells (cc c (mP gl gn gd gc K1 K2 K3 K4)) 28)).alloc (.cells #[.int .i64 a, .int .i64 b] 70)).grownBy w5 (some gn))
    (ho : w5.ownsRow base 70 2 (.slice (some ⟨g5, 0, none⟩) (c.na + 1) k5) (c.na + 1) (pairL c.ga c.gb c.na ++ [.int .i64 a, .int .i64 b])) (hat : g5 = gn ∨ g5 = w4.heap.size + 1 + 1) :
    (Has w5 w4.heap.size 28 (cc c (mP gl gn gd gc K1 K2 K3 K4)) ∧ Has w5 w.heap.size 28 (cc c p) ∧ Below w.heap.size w w5 ∧ w4.heap.size + 1 < w5.heap.size) ∧
    (Has (w5.setCell ⟨w4.heap.size, 2, none⟩ (.slice (some ⟨g5, 0, none⟩) (c.na + 1) k5)) w4.heap.size 28 (cc (c.more a b) (mP gl g5 gd gc K1 k5 K3 K4)) ∧ Has (w5.setCell ⟨w4.heap.size, 2, none⟩ (.slice (some ⟨g5, 0, none⟩) (c.na + 1) k5)) w.heap.size 28 (cc c p) ∧
    Below w.heap.size w (w5.setCell ⟨w4.heap.size, 2, none⟩ (.slice (some ⟨g5, 0, none⟩) (c.na + 1) k5)) ∧ Mem (w5.setCell ⟨w4.heap.size, 2, none⟩ (.slice (some ⟨g5, 0, none⟩) (c.na + 1) k5)) (w5.setCell ⟨w4.heap.size, 2, none⟩ (.slice (some ⟨g5, 0, none⟩) (c.na + 1) k5)).heap.size (c.more a b) (mP gl g5 gd gc K1 k5 K3 K4)) := by
  obtain ⟨⟨g1, e1, o1⟩, ⟨g2, e2, o2⟩, ⟨g3, e3, o3⟩, g4, e4, o4⟩ := hO
  injection e1 with e1; injection e1 with e1
  injection e2 with e2; injection e2 with e2
  injection e3 with e3; injection e3 with e3
  injection e4 with e4; injection e4 with e4
  subst e1 e2 e3 e4
  have l1 := own_lt o1
  have l2 := own_lt o2
  have l3 := own_lt o3
  have l4 := own_lt o4
  have b1 := own_ge o1
  have b2 := own_ge o2
  have b3 := own_ge o3
  have b4 := own_ge o4
  have n1 : gl ≠ gn := own_ne o1 o2 (by decide)
  have n3 : gd ≠ gn := own_ne o3 o2 (by decide)
  have n4 : gc ≠ gn := own_ne o4 o2 (by decide)
  have hs := hg.size
  simp at hs
  have al : ∀ k, k < w4.heap.size → ((w4.alloc (.cells (cc c (mP gl gn gd gc K1 K2 K3 K4)) 28)).alloc (.cells #[.int .i64 a, .int .i64 b] 70)).heap[k]? = w4.heap[k]? := fun k hk => by
    rw [Below.heap_alloc _ _ _ (by simp; omega), Below.heap_alloc _ _ _ hk]
  have old : ∀ k, k < w4.heap.size → k ≠ gn → w5.heap[k]? = w4.heap[k]? := fun k hk hne => (hg.block k (by simp; omega) (by simpa using hne)).trans (al k hk)
  have hw5 : Has w5 w4.heap.size 28 (cc c (mP gl gn gd gc K1 K2 K3 K4)) := ((Has.new w4 _ _).keep ((Below.refl (w4.heap.size + 1) _).alloc (by simp) _) (by omega)).grow hg (by omega)
  have hw : Has w5 w.heap.size 28 (cc c p) := (old _ hA.lt (by omega)).trans hA
  have hbw : Below w.heap.size w w5 := ((hB.alloc hB.size _).alloc (by have := hB.size; simp; omega) _).grown hg (by have := hB.size; simp; omega) (fun k hk => by cases hk; omega)
  have st : ∀ k, k ≠ w4.heap.size → (w5.setCell ⟨w4.heap.size, 2, none⟩ (.slice (some ⟨g5, 0, none⟩) (c.na + 1) k5)).heap[k]? = w5.heap[k]? := fun k hk => Below.heap_setCell _ _ _ _ hk
  have hws := hB.size
  rw [← pairL_more] at ho
  refine ⟨⟨hw5, hw, hbw, by omega⟩, hw5.set 2 _, (st _ (by omega)).trans hw, hbw.setCell (by simp; omega) _, ⟨own_pairs (own_keep o1 ((st _ (by omega)).trans (old _ l1 n1))) (fun _ => by simp [World.setCell]; omega), ?_, own_ints (own_keep o3 ((st _ (by omega)).trans (old _ l3 n3))) (fun _ => by simp [World.setCell]; omega), own_ints (own_keep o4 ((st _ (by omega)).trans (old _ l4 n4))) (fun _ => by simp [World.setCell]; omega)⟩⟩
  exact own_pairs (own_keep ho (st _ (by omega))) (fun _ => own_lt (own_keep ho (st _ (by omega))))

theorem check0 {c : Cr} (h : c.chk = 0) (p : Pl) (w : World) (hm : Mem w w.heap.size c p) (hs : Sm c) : Calls Try.prog 21 #[cv c p] w fun e w' => e = .returned (.int .i64 0) ∧ Below w.heap.size w w' := by
  have := gCheck_any c p w hm hs
  rwa [h] at this

theorem hat_of {g g' H H' : Nat} (h : some g = some g' ∨ some g = some H) (hH : H = H') : g = g' ∨ g = H' := by
  rcases h with h | h <;> cases h
  · exact Or.inl rfl
  · exact Or.inr hH

/-- a box that holds a circuit, while nothing old turns -/
theorem box_at {W w' : World} {b : Nat} {c : Cr} {p : Pl} (h : Has W b 28 (cc c p)) (hb : Below W.heap.size W w') : Below W.heap.size W w' ∧ w'.cell? ⟨b, 0, none⟩ = some (.int .i64 c.i) ∧ w'.cell? ⟨b, 1, none⟩ = some (.slice p.A1 c.nl p.k1) ∧ w'.cell? ⟨b, 2, none⟩ = some (.slice p.A2 c.na p.k2) ∧ w'.cell? ⟨b, 3, none⟩ = some (.slice p.A3 c.nb p.k3) ∧ w'.cell? ⟨b, 4, none⟩ = some (.slice p.A4 c.nc p.k4) :=
  ⟨hb, (h.keep hb h.lt).box⟩
