/- Variables with other numbers: the same errors, the same order of the gates, the same circuit. -/
import Derived.Test.YtpdfdbnmohippaaOrderAll
import Derived.Test.YtpdfdbnmohippaaOrderTurnedKit
import Derived.Test.YtpdfdbnmohippaaOrderTwin
import Derived.Test.YtpdfdbnmohippaaOrderRef7
import Derived.Test.YtpdfdbnmohippaaOrderCirc
import Derived.Test.YtpdfdbnmohippaaHeadTail
namespace Go.Proofs.Ytpdfdbnmohippaa
open Go.RowKit
set_option linter.unusedVariables false
set_option linter.unusedSimpArgs false

/-- numbers from 0 to m, each once, 0 at its place -/
structure Prm (m : Int) (l : Int → Int) : Prop where
  z : l 0 = 0
  r : ∀ v, 0 ≤ v → v ≤ m → 0 ≤ l v ∧ l v ≤ m
  i : ∀ v u, 0 ≤ v → v ≤ m → 0 ≤ u → u ≤ m → l v = l u → v = u
theorem Prm.id (m : Int) : Prm m (fun v => v) := ⟨rfl, fun v h1 h2 => ⟨h1, h2⟩, fun v u _ _ _ _ e => e⟩
theorem Prm.pos {m : Int} {l : Int → Int} (h : Prm m l) {v : Int} (h0 : 1 ≤ v) (h1 : v ≤ m) : 1 ≤ l v := by
  have := h.r v (by omega) h1
  have h2 : l v ≠ 0 := fun e => by have := h.i v 0 (by omega) h1 (by omega) (by omega) (e.trans h.z.symm); omega
  omega
/-- two of them exchanged -/
theorem Prm.swap {m : Int} {l : Int → Int} (h : Prm m l) {a b : Int} (ha : 1 ≤ a) (ha2 : a ≤ m) (hb : 1 ≤ b) (hb2 : b ≤ m) : Prm m (fun v => if v = b then l a else if v = a then l b else l v) := by
  refine ⟨?_, fun v h0 h1 => ?_, fun v u h0 h1 h2 h3 e => ?_⟩
  · show (if (0 : Int) = b then l a else if (0 : Int) = a then l b else l 0) = 0
    rw [if_neg (by omega), if_neg (by omega)]; exact h.z
  · show 0 ≤ (if v = b then l a else if v = a then l b else l v) ∧ (if v = b then l a else if v = a then l b else l v) ≤ m
    have h4 := h.r a (by omega) ha2
    have h5 := h.r b (by omega) hb2
    have h6 := h.r v h0 h1
    split
    · exact h4
    · split
      · exact h5
      · exact h6
  · have key : ∀ x y, 0 ≤ x → x ≤ m → 0 ≤ y → y ≤ m → (l x = l y ↔ x = y) := fun x y p q s t => ⟨h.i x y p q s t, fun e => by rw [e]⟩
    have e : (if v = b then l a else if v = a then l b else l v) = (if u = b then l a else if u = a then l b else l u) := e
    by_cases c1 : v = b <;> by_cases c2 : u = b
    · omega
    · rw [if_pos c1, if_neg c2] at e
      by_cases c4 : u = a
      · rw [if_pos c4, key a b (by omega) ha2 (by omega) hb2] at e; omega
      · rw [if_neg c4, key a u (by omega) ha2 h2 h3] at e; omega
    · rw [if_neg c1, if_pos c2] at e
      by_cases c3 : v = a
      · rw [if_pos c3, key b a (by omega) hb2 (by omega) ha2] at e; omega
      · rw [if_neg c3, key v a h0 h1 (by omega) ha2] at e; omega
    · rw [if_neg c1, if_neg c2] at e
      by_cases c3 : v = a <;> by_cases c4 : u = a
      · omega
      · rw [if_pos c3, if_neg c4, key b u (by omega) hb2 h2 h3] at e; omega
      · rw [if_neg c3, if_pos c4, key v b h0 h1 (by omega) hb2] at e; omega
      · rw [if_neg c3, if_neg c4, key v u h0 h1 h2 h3] at e; exact e

/-- a literal of the variable's new number -/
def mvl (l : Int → Int) (x : Int) : Int := 2 * l (x / 2) + x % 2
theorem mvl_half (l : Int → Int) (x : Int) : mvl l x / 2 = l (x / 2) := by unfold mvl; omega
theorem mvl_mod (l : Int → Int) (x : Int) : mvl l x % 2 = x % 2 := by unfold mvl; omega
theorem twos_map (f g : Nat → Int) (t : Int → Int) : ∀ n, twos (fun j => t (f j)) (fun j => t (g j)) n = (twos f g n).map t
  | 0 => rfl
  | n + 1 => by rw [twos, twos, twos_map f g t n, List.map_append]; rfl
theorem lst_map (f : Nat → Int) (t : Int → Int) (n : Nat) : lst (fun j => t (f j)) n = (lst f n).map t := by unfold lst; rw [List.map_map]; rfl
namespace Rw
variable {r : Rw} {l : Int → Int}
/-- a raw circuit whose variables have other numbers -/
def mv (r : Rw) (l : Int → Int) : Rw := { r with ip := fun j => mvl l (r.ip j), ll := fun j => mvl l (r.ll j), la := fun j => mvl l (r.la j), gl := fun j => mvl l (r.gl j), ga := fun j => mvl l (r.ga j), gb := fun j => mvl l (r.gb j), bd := fun j => mvl l (r.bd j), cn := fun j => mvl l (r.cn j) }
theorem mv_dL : (r.mv l).dL = r.dL.map (mvl l) := by
  unfold dL
  rw [List.map_append, List.map_append]
  show lst (fun j => mvl l (r.ip j)) r.ni ++ lst (fun j => mvl l (r.ll j)) r.nl ++ lst (fun j => mvl l (r.gl j)) r.na = _
  rw [lst_map, lst_map, lst_map]
theorem mv_uL : (r.mv l).uL = r.uL.map (mvl l) := by
  unfold uL
  rw [List.map_append, List.map_append, List.map_append]
  show lst (fun j => mvl l (r.bd j)) r.nb ++ lst (fun j => mvl l (r.cn j)) r.nc ++ lst (fun j => mvl l (r.la j)) r.nl ++ twos (fun j => mvl l (r.ga j)) (fun j => mvl l (r.gb j)) r.na = _
  rw [lst_map, lst_map, lst_map, twos_map]
theorem mv_dV : (r.mv l).dL.map (· / 2) = (r.dL.map (· / 2)).map l := by
  rw [mv_dL, List.map_map, List.map_map]
  exact List.map_congr_left fun x _ => mvl_half l x
theorem num_parts (h : r.num = true) : (∀ x ∈ r.dL, 2 ≤ x ∧ x % 2 = 0 ∧ x ≤ 2 * r.m + 1) ∧ (∀ x ∈ r.uL, 0 ≤ x ∧ x ≤ 2 * r.m + 1) ∧ ∀ x ∈ lst r.lb r.nl, 0 ≤ x ∧ x ≤ 2 := by
  unfold num at h
  simp only [Bool.and_eq_true] at h
  exact ⟨fun x hx => of_decide_eq_true (List.all_eq_true.1 h.1.1 x hx), fun x hx => of_decide_eq_true (List.all_eq_true.1 h.1.2 x hx), fun x hx => of_decide_eq_true (List.all_eq_true.1 h.2 x hx)⟩
theorem mv_num (hp : Prm r.m l) (h : r.num = true) : (r.mv l).num = true := by
  obtain ⟨a, b, c⟩ := num_parts h
  unfold num
  rw [mv_dL, mv_uL]
  simp only [Bool.and_eq_true]
  refine ⟨⟨List.all_eq_true.2 fun x hx => ?_, List.all_eq_true.2 fun x hx => ?_⟩, List.all_eq_true.2 fun x hx => decide_eq_true (c x hx)⟩
  · obtain ⟨y, hy, rfl⟩ := List.mem_map.1 hx
    have h1 := a y hy
    have h2 := hp.r (y / 2) (by omega) (by omega)
    have h3 := hp.pos (v := y / 2) (by omega) (by omega)
    refine decide_eq_true ?_
    show 2 ≤ mvl l y ∧ mvl l y % 2 = 0 ∧ mvl l y ≤ 2 * r.m + 1
    unfold mvl
    omega
  · obtain ⟨y, hy, rfl⟩ := List.mem_map.1 hx
    have h1 := b y hy
    have h2 := hp.r (y / 2) (by omega) (by omega)
    refine decide_eq_true ?_
    show 0 ≤ mvl l y ∧ mvl l y ≤ 2 * r.m + 1
    unfold mvl
    omega
theorem map_nodup {xs : List Int} {f : Int → Int} (hf : ∀ x ∈ xs, ∀ y ∈ xs, f x = f y → x = y) : (xs.map f).Nodup ↔ xs.Nodup := by
  unfold List.Nodup
  rw [List.pairwise_map]
  constructor
  · exact fun h => h.imp fun hab e => hab (by rw [e])
  · intro h
    rw [List.pairwise_iff_getElem] at h ⊢
    exact fun i j hi hj hij e => h i j hi hj hij (hf _ (List.getElem_mem hi) _ (List.getElem_mem hj) e)
theorem dV_in (h : r.num = true) {v : Int} (hv : v ∈ r.dL.map (· / 2)) : 1 ≤ v ∧ v ≤ r.m := by
  obtain ⟨x, hx, rfl⟩ := List.mem_map.1 hv
  have := (num_parts h).1 x hx
  show 1 ≤ x / 2 ∧ x / 2 ≤ r.m
  omega
theorem mem_mv {xs : List Int} (hp : Prm r.m l) (hx : ∀ v ∈ xs, 0 ≤ v ∧ v ≤ r.m) {v : Int} (h0 : 0 ≤ v) (h1 : v ≤ r.m) : l v ∈ xs.map l ↔ v ∈ xs := by
  rw [List.mem_map]
  constructor
  · rintro ⟨u, hu, e⟩
    have h2 := hx u hu
    have := hp.i u v h2.1 h2.2 h0 h1 e
    rwa [← this]
  · exact fun h => ⟨v, h, rfl⟩
theorem mv_twi (hp : Prm r.m l) (h : r.num = true) : (r.mv l).twi = r.twi := by
  unfold twi
  rw [mv_dV]
  refine decide_eq_decide.2 (not_congr (map_nodup fun x hx y hy e => ?_))
  have h1 := dV_in h hx
  have h2 := dV_in h hy
  exact hp.i x y (by omega) h1.2 (by omega) h2.2 e
theorem mv_opn (hp : Prm r.m l) (h : r.num = true) : (r.mv l).opn = r.opn := by
  unfold opn
  rw [mv_dV, mv_uL, Bool.eq_iff_iff, List.any_eq_true, List.any_eq_true]
  have key : ∀ x ∈ r.uL, ((mvl l x / 2 ≠ 0 ∧ mvl l x / 2 ∉ (r.dL.map (· / 2)).map l) ↔ (x / 2 ≠ 0 ∧ x / 2 ∉ r.dL.map (· / 2))) := fun x hx => by
    have h1 := (num_parts h).2.1 x hx
    rw [mvl_half, mem_mv hp (fun v hv => by have := dV_in h hv; omega) (by omega) (by omega)]
    refine and_congr (not_congr ⟨fun e => hp.i _ 0 (by omega) (by omega) (by omega) (by omega) (e.trans hp.z.symm), fun e => by rw [e]; exact hp.z⟩) Iff.rfl
  constructor
  · rintro ⟨y, hy, hh⟩
    obtain ⟨x, hx, rfl⟩ := List.mem_map.1 hy
    exact ⟨x, hx, decide_eq_true ((key x hx).1 (of_decide_eq_true hh))⟩
  · rintro ⟨x, hx, hh⟩
    exact ⟨_, List.mem_map.2 ⟨x, hx, rfl⟩, decide_eq_true ((key x hx).2 (of_decide_eq_true hh))⟩
theorem fnd_congr {s : Rw} {B C : Int → Bool} (hn : r.na = s.na) (h : ∀ i, i < r.na → r.may B i = s.may C i) : r.fnd B = s.fnd C := by
  rcases Nat.lt_or_ge (r.fnd B) r.na with h1 | h1
  · exact (fnd_is (by omega) ((h _ h1).symm.trans (fnd_may h1)) fun j hj => (h j (by omega)).symm.trans (fnd_min hj)).symm
  · have h2 := fnd_le (r := r) (B := B)
    have := fnd_no (r := s) (B := C) fun j hj => (h j (by omega)).symm.trans (fnd_min (r := r) (B := B) (by omega))
    omega
theorem mv_st (hp : Prm r.m l) (h : r.num = true) : ∀ k, (∀ v, 0 ≤ v → v ≤ r.m → ((r.mv l).st k).1 (l v) = (r.st k).1 v) ∧ ((r.mv l).st k).2 = (r.st k).2
  | 0 => by
    refine ⟨fun v h0 h1 => ?_, rfl⟩
    show decide (l v ∉ (lst (fun j => mvl l (r.gl j)) r.na).map (· / 2)) = decide (v ∉ (lst r.gl r.na).map (· / 2))
    have e : (lst (fun j => mvl l (r.gl j)) r.na).map (· / 2) = ((lst r.gl r.na).map (· / 2)).map l := by
      rw [lst_map, List.map_map, List.map_map]
      exact List.map_congr_left fun x _ => mvl_half l x
    rw [e]
    refine decide_eq_decide.2 (not_congr (mem_mv hp (fun u hu => ?_) h0 h1))
    obtain ⟨x, hx, rfl⟩ := List.mem_map.1 hu
    obtain ⟨j, hj, rfl⟩ := mem_lst.1 hx
    have := (num_g h hj).1
    show 0 ≤ r.gl j / 2 ∧ r.gl j / 2 ≤ r.m
    omega
  | k + 1 => by
    obtain ⟨i1, i2⟩ := mv_st hp h k
    have hm : ∀ i, i < r.na → (r.mv l).may ((r.mv l).st k).1 i = r.may (r.st k).1 i := fun i hi => by
      obtain ⟨a, b, c⟩ := num_g h hi
      show (!((r.mv l).st k).1 (mvl l (r.gl i) / 2) && ((r.mv l).st k).1 (mvl l (r.ga i) / 2) && ((r.mv l).st k).1 (mvl l (r.gb i) / 2)) = _
      rw [mvl_half, mvl_half, mvl_half, i1 _ (by omega) (by omega), i1 _ (by omega) (by omega), i1 _ (by omega) (by omega)]
      rfl
    have hf : (r.mv l).fnd ((r.mv l).st k).1 = r.fnd (r.st k).1 := fnd_congr rfl hm
    rcases Nat.lt_or_ge (r.fnd (r.st k).1) r.na with h1 | h1
    · rw [st_go h1, st_go (r := r.mv l) (by rw [hf]; exact h1), hf, i2]
      refine ⟨fun v h0 hv => ?_, rfl⟩
      have hg := (num_g h h1).1
      show (if l v = mvl l (r.gl (r.fnd (r.st k).1)) / 2 then true else ((r.mv l).st k).1 (l v)) = (if v = r.gl (r.fnd (r.st k).1) / 2 then true else (r.st k).1 v)
      rw [mvl_half, i1 v h0 hv]
      by_cases e : v = r.gl (r.fnd (r.st k).1) / 2
      · rw [if_pos (by rw [e]), if_pos e]
      · rw [if_neg (fun e2 => e (hp.i _ _ h0 hv (by omega) (by omega) e2)), if_neg e]
    · have e1 : (r.mv l).st (k + 1) = (r.mv l).st k := by rw [st, if_neg (by rw [hf]; show ¬ r.fnd (r.st k).1 < r.na; omega)]
      have e2 : r.st (k + 1) = r.st k := by rw [st, if_neg (by omega)]
      rw [e1, e2]
      exact ⟨i1, i2⟩
theorem mv_ord (hp : Prm r.m l) (h : r.num = true) : (r.mv l).ord = r.ord := (mv_st hp h r.na).2
/-- the same error -/
theorem mv_chk (hp : Prm r.m l) (h : r.num = true) : (r.mv l).chk = r.chk := by
  unfold chk
  rw [mv_num hp h, mv_twi hp h, mv_opn hp h, mv_ord hp h, h]
  rfl
theorem mv_nwk (hp : Prm r.m l) (h : r.num = true) : ∀ k, k ≤ r.oL.length → ∀ v, 0 ≤ v → v ≤ r.m → (r.mv l).nwk k (l v) = r.nwk k v
  | 0, _, v, h0, h1 => by
    show (if l v = 0 then (0 : Int) else -1) = (if v = 0 then (0 : Int) else -1)
    by_cases e : v = 0
    · rw [if_pos (by rw [e]; exact hp.z), if_pos e]
    · rw [if_neg (fun e2 => e (hp.i v 0 h0 h1 (by omega) (by omega) (e2.trans hp.z.symm))), if_neg e]
  | k + 1, hk, v, h0, h1 => by
    have ih := mv_nwk hp h k (by omega) v h0 h1
    have hb := oL_big h k (by omega)
    have eo : (r.mv l).oL.getD k 0 = mvl l (r.oL.getD k 0) := by
      have e : (r.mv l).oL = r.oL.map (mvl l) := by
        unfold oL
        rw [mv_ord hp h, List.map_append, List.map_append, List.map_map]
        show lst (fun j => mvl l (r.ip j)) r.ni ++ lst (fun j => mvl l (r.ll j)) r.nl ++ _ = _
        rw [lst_map, lst_map]
        rfl
      rw [e, List.getD_eq_getElem?_getD, List.getD_eq_getElem?_getD, List.getElem?_map, List.getElem?_eq_getElem (by omega)]
      rfl
    show (if l v = (r.mv l).oL.getD k 0 / 2 then (k : Int) + 1 else (r.mv l).nwk k (l v)) = (if v = r.oL.getD k 0 / 2 then (k : Int) + 1 else r.nwk k v)
    rw [eo, mvl_half, ih]
    by_cases e : v = r.oL.getD k 0 / 2
    · rw [if_pos (by rw [e]), if_pos e]
    · rw [if_neg (fun e2 => e (hp.i _ _ h0 h1 (by omega) (by omega) e2)), if_neg e]
theorem mv_told (hp : Prm r.m l) (h : r.num = true) {x : Int} (h0 : 0 ≤ x) (h1 : x ≤ 2 * r.m + 1) : (r.mv l).told (mvl l x) = r.told x := by
  unfold told nw
  have e : (r.mv l).oL.length = r.oL.length := by rw [oL_len, oL_len, mv_ord hp h]; rfl
  rw [e, mvl_half, mvl_mod, mv_nwk hp h _ (Nat.le_refl _) _ (by omega) (by omega)]
end Rw

end Go.Proofs.Ytpdfdbnmohippaa

namespace Go.Proofs.Ytpdfdbnmohippaa
open Go Go.RowKit
set_option linter.unusedVariables false
set_option linter.unusedSimpArgs false

set_option maxRecDepth 100000 in
set_option maxHeartbeats 8000000 in
theorem rtwin_up (r : Rw) (p : Rp) (w : World) (hs : RSm r) (hm : RMem w w.heap.size r p) (hN : RNils r p) :
    Calls Try.prog 17 #[rv r p] w fun e w' => ∃ p', e = .returned (rv r p') ∧ OwnR w' (w.heap.size + 2) r p' ∧ Below w.heap.size w w' ∧ ∃ g1 g2 g3 g4 g5, p'.A1 = some ⟨g1, 0, none⟩ ∧ p'.A2 = some ⟨g2, 0, none⟩ ∧ p'.A3 = some ⟨g3, 0, none⟩ ∧ p'.A4 = some ⟨g4, 0, none⟩ ∧ p'.A5 = some ⟨g5, 0, none⟩ ∧ g1 < g2 ∧ g2 < g3 ∧ g3 < g4 ∧ g4 < g5 := by
  have g1 := hs.ni
  have g2 := hs.nl
  have g3 := hs.na
  have g4 := hs.nb
  have g5 := hs.nc
  obtain ⟨i1, hi1, hz1, hs1, hy1⟩ := info_parts info_def
  obtain ⟨i3, hi3, hz3, hs3, hy3⟩ := info_parts info_int
  have T0 : TwR w ((w.alloc (.cells (rc r p) 32)).alloc (.cells zr 32)) (rc r p) zr := ⟨by go_grown, (Has.new _ _ _).keep ((Below.refl (w.heap.size + 1) _).alloc (by simp) _) (by omega), by simpa using Has.new (w.alloc (.cells (rc r p) 32)) 32 zr, by simp⟩
  go_enter Try.func17, Try.ntmps17
  go_wp2_with (first
    | (at_builtin
       (refine append_to_new rfl (.tmp 3) (.tmp 5) _ rfl (w.heap.size + 2) 3 i3 _ 1 8 Try.underlying24 hi3 hz3 hs3 hy3 rfl (by decide) (w.heap.size + 1 + 1) rfl (by go_size) (Has.new' _ _ (by simp)) p.A1 r.ni p.k1 (intL r.ip r.ni) rfl (intL_len _ _) ((hm.ip.keep (T0.b.alloc (by have := T0.l; omega) _)).src hN.ip) (intL_one _ _) (by simp only [maxLen]; omega) (by omega) (by go_size) ?_)
       intro g1 k1 w1 ho1 hg1 hat1
       obtain ⟨hM1, hQ1, hz1', hy1'⟩ := T0.mid hg1 (by simp)
       have T1 : TwR w (w1.setCell ⟨w.heap.size, 1, none⟩ (.slice (some ⟨g1, 0, none⟩) r.ni k1)) #[.int .i64 r.m, .slice (some ⟨g1, 0, none⟩) r.ni k1, .slice p.A2 r.nl p.k2, .slice p.A3 r.na p.k3, .slice p.A4 r.nb p.k4, .slice p.A5 r.nc p.k5] zr := T0.step hg1 (by simp) 1 (.slice (some ⟨g1, 0, none⟩) r.ni k1)
       have x11 : w1.cell? ⟨w.heap.size, 1, none⟩ = _ := hM1.cell 1
       have x12 : w1.cell? ⟨w.heap.size, 2, none⟩ = _ := hM1.cell 2
       have x13 : w1.cell? ⟨w.heap.size, 3, none⟩ = _ := hM1.cell 3
       have x14 : w1.cell? ⟨w.heap.size, 4, none⟩ = _ := hM1.cell 4
       have x15 : w1.cell? ⟨w.heap.size, 5, none⟩ = _ := hM1.cell 5
       have f11 := hM1.fz 1
       simp only [rc, List.getElem?_toArray, List.getElem?_cons_zero, List.getElem?_cons_succ] at x11 x12 x13 x14 x15)
    | (at_builtin
       (refine append_to_new rfl (.tmp 8) (.tmp 10) _ rfl (w.heap.size + 2) 41 i1 _ 3 24 Try.underlying30 hi1 hz1 hs1 hy1 rfl (by decide) w1.heap.size rfl (by go_size) (Has.new' _ _ (by simp)) p.A2 r.nl p.k2 (tripL r.ll r.la r.lb r.nl) rfl (tripL_len _ _ _ _) ((hm.la.keep (T1.b.alloc (by have := T1.l; omega) _)).src hN.la) (tripL_one _ _ _ _) (by simp only [maxLen]; omega) (by omega) (by go_size) ?_)
       intro g2 k2 w2 ho2 hg2 hat2
       obtain ⟨hM2, hQ2, hz2', hy2'⟩ := T1.mid hg2 (by simp)
       have T2 : TwR w (w2.setCell ⟨w.heap.size, 2, none⟩ (.slice (some ⟨g2, 0, none⟩) r.nl k2)) #[.int .i64 r.m, .slice (some ⟨g1, 0, none⟩) r.ni k1, .slice (some ⟨g2, 0, none⟩) r.nl k2, .slice p.A3 r.na p.k3, .slice p.A4 r.nb p.k4, .slice p.A5 r.nc p.k5] zr := T1.step hg2 (by simp) 2 (.slice (some ⟨g2, 0, none⟩) r.nl k2)
       have x21 : w2.cell? ⟨w.heap.size, 1, none⟩ = _ := hM2.cell 1
       have x22 : w2.cell? ⟨w.heap.size, 2, none⟩ = _ := hM2.cell 2
       have x23 : w2.cell? ⟨w.heap.size, 3, none⟩ = _ := hM2.cell 3
       have x24 : w2.cell? ⟨w.heap.size, 4, none⟩ = _ := hM2.cell 4
       have x25 : w2.cell? ⟨w.heap.size, 5, none⟩ = _ := hM2.cell 5
       have f22 := hM2.fz 2
       simp only [rc, List.getElem?_toArray, List.getElem?_cons_zero, List.getElem?_cons_succ] at x21 x22 x23 x24 x25)
    | (at_builtin
       (refine append_to_new rfl (.tmp 13) (.tmp 15) _ rfl (w.heap.size + 2) 41 i1 _ 3 24 Try.underlying30 hi1 hz1 hs1 hy1 rfl (by decide) w2.heap.size rfl (by go_size) (Has.new' _ _ (by simp)) p.A3 r.na p.k3 (tripL r.gl r.ga r.gb r.na) rfl (tripL_len _ _ _ _) ((hm.an.keep (T2.b.alloc (by have := T2.l; omega) _)).src hN.an) (tripL_one _ _ _ _) (by simp only [maxLen]; omega) (by omega) (by go_size) ?_)
       intro g3 k3 w3 ho3 hg3 hat3
       obtain ⟨hM3, hQ3, hz3', hy3'⟩ := T2.mid hg3 (by simp)
       have T3 : TwR w (w3.setCell ⟨w.heap.size, 3, none⟩ (.slice (some ⟨g3, 0, none⟩) r.na k3)) #[.int .i64 r.m, .slice (some ⟨g1, 0, none⟩) r.ni k1, .slice (some ⟨g2, 0, none⟩) r.nl k2, .slice (some ⟨g3, 0, none⟩) r.na k3, .slice p.A4 r.nb p.k4, .slice p.A5 r.nc p.k5] zr := T2.step hg3 (by simp) 3 (.slice (some ⟨g3, 0, none⟩) r.na k3)
       have x31 : w3.cell? ⟨w.heap.size, 1, none⟩ = _ := hM3.cell 1
       have x32 : w3.cell? ⟨w.heap.size, 2, none⟩ = _ := hM3.cell 2
       have x33 : w3.cell? ⟨w.heap.size, 3, none⟩ = _ := hM3.cell 3
       have x34 : w3.cell? ⟨w.heap.size, 4, none⟩ = _ := hM3.cell 4
       have x35 : w3.cell? ⟨w.heap.size, 5, none⟩ = _ := hM3.cell 5
       have f33 := hM3.fz 3
       simp only [rc, List.getElem?_toArray, List.getElem?_cons_zero, List.getElem?_cons_succ] at x31 x32 x33 x34 x35)
    | (at_builtin
       (refine append_to_new rfl (.tmp 18) (.tmp 20) _ rfl (w.heap.size + 2) 3 i3 _ 1 8 Try.underlying24 hi3 hz3 hs3 hy3 rfl (by decide) w3.heap.size rfl (by go_size) (Has.new' _ _ (by simp)) p.A4 r.nb p.k4 (intL r.bd r.nb) rfl (intL_len _ _) ((hm.bd.keep (T3.b.alloc (by have := T3.l; omega) _)).src hN.bd) (intL_one _ _) (by simp only [maxLen]; omega) (by omega) (by go_size) ?_)
       intro g4 k4 w4 ho4 hg4 hat4
       obtain ⟨hM4, hQ4, hz4', hy4'⟩ := T3.mid hg4 (by simp)
       have T4 : TwR w (w4.setCell ⟨w.heap.size, 4, none⟩ (.slice (some ⟨g4, 0, none⟩) r.nb k4)) #[.int .i64 r.m, .slice (some ⟨g1, 0, none⟩) r.ni k1, .slice (some ⟨g2, 0, none⟩) r.nl k2, .slice (some ⟨g3, 0, none⟩) r.na k3, .slice (some ⟨g4, 0, none⟩) r.nb k4, .slice p.A5 r.nc p.k5] zr := T3.step hg4 (by simp) 4 (.slice (some ⟨g4, 0, none⟩) r.nb k4)
       have x41 : w4.cell? ⟨w.heap.size, 1, none⟩ = _ := hM4.cell 1
       have x42 : w4.cell? ⟨w.heap.size, 2, none⟩ = _ := hM4.cell 2
       have x43 : w4.cell? ⟨w.heap.size, 3, none⟩ = _ := hM4.cell 3
       have x44 : w4.cell? ⟨w.heap.size, 4, none⟩ = _ := hM4.cell 4
       have x45 : w4.cell? ⟨w.heap.size, 5, none⟩ = _ := hM4.cell 5
       have f44 := hM4.fz 4
       simp only [rc, List.getElem?_toArray, List.getElem?_cons_zero, List.getElem?_cons_succ] at x41 x42 x43 x44 x45)
    | (at_builtin
       (refine append_to_new rfl (.tmp 23) (.tmp 25) _ rfl (w.heap.size + 2) 3 i3 _ 1 8 Try.underlying24 hi3 hz3 hs3 hy3 rfl (by decide) w4.heap.size rfl (by go_size) (Has.new' _ _ (by simp)) p.A5 r.nc p.k5 (intL r.cn r.nc) rfl (intL_len _ _) ((hm.cn.keep (T4.b.alloc (by have := T4.l; omega) _)).src hN.cn) (intL_one _ _) (by simp only [maxLen]; omega) (by omega) (by go_size) ?_)
       intro g5 k5 w5 ho5 hg5 hat5
       obtain ⟨hM5, hQ5, hz5', hy5'⟩ := T4.mid hg5 (by simp)
       have T5 : TwR w (w5.setCell ⟨w.heap.size, 5, none⟩ (.slice (some ⟨g5, 0, none⟩) r.nc k5)) #[.int .i64 r.m, .slice (some ⟨g1, 0, none⟩) r.ni k1, .slice (some ⟨g2, 0, none⟩) r.nl k2, .slice (some ⟨g3, 0, none⟩) r.na k3, .slice (some ⟨g4, 0, none⟩) r.nb k4, .slice (some ⟨g5, 0, none⟩) r.nc k5] zr := T4.step hg5 (by simp) 5 (.slice (some ⟨g5, 0, none⟩) r.nc k5)
       have x51 : w5.cell? ⟨w.heap.size, 1, none⟩ = _ := hM5.cell 1
       have x52 : w5.cell? ⟨w.heap.size, 2, none⟩ = _ := hM5.cell 2
       have x53 : w5.cell? ⟨w.heap.size, 3, none⟩ = _ := hM5.cell 3
       have x54 : w5.cell? ⟨w.heap.size, 4, none⟩ = _ := hM5.cell 4
       have x55 : w5.cell? ⟨w.heap.size, 5, none⟩ = _ := hM5.cell 5
       have f55 := hM5.fz 5
       simp only [rc, List.getElem?_toArray, List.getElem?_cons_zero, List.getElem?_cons_succ] at x51 x52 x53 x54 x55
       have x50 : w5.cell? ⟨w.heap.size, 0, none⟩ = some (.int .i64 r.m) := hM5.cell 0
       obtain ⟨⟨zz0, zz1, zz2, zz3, zz4, zz5⟩, zf0, zf1, zf2, zf3, zf4, zf5⟩ := hQ5.zr6))
  have O1 := T4.own hg5 (by simp) 5 (.slice (some ⟨g5, 0, none⟩) r.nc k5) rfl (T3.own hg4 (by simp) 4 (.slice (some ⟨g4, 0, none⟩) r.nb k4) rfl (T2.own hg3 (by simp) 3 (.slice (some ⟨g3, 0, none⟩) r.na k3) rfl (T1.own hg2 (by simp) 2 (.slice (some ⟨g2, 0, none⟩) r.nl k2) rfl (own_set (b := w.heap.size) (j := 1) (v := .slice (some ⟨g1, 0, none⟩) r.ni k1) ho1 (by omega)))))
  have O2 := T4.own hg5 (by simp) 5 (.slice (some ⟨g5, 0, none⟩) r.nc k5) rfl (T3.own hg4 (by simp) 4 (.slice (some ⟨g4, 0, none⟩) r.nb k4) rfl (T2.own hg3 (by simp) 3 (.slice (some ⟨g3, 0, none⟩) r.na k3) rfl (own_set (b := w.heap.size) (j := 2) (v := .slice (some ⟨g2, 0, none⟩) r.nl k2) ho2 (by omega))))
  have O3 := T4.own hg5 (by simp) 5 (.slice (some ⟨g5, 0, none⟩) r.nc k5) rfl (T3.own hg4 (by simp) 4 (.slice (some ⟨g4, 0, none⟩) r.nb k4) rfl (own_set (b := w.heap.size) (j := 3) (v := .slice (some ⟨g3, 0, none⟩) r.na k3) ho3 (by omega)))
  have O4 := T4.own hg5 (by simp) 5 (.slice (some ⟨g5, 0, none⟩) r.nc k5) rfl (own_set (b := w.heap.size) (j := 4) (v := .slice (some ⟨g4, 0, none⟩) r.nb k4) ho4 (by omega))
  have O5 := own_set (b := w.heap.size) (j := 5) (v := .slice (some ⟨g5, 0, none⟩) r.nc k5) ho5 (by omega)
  have u2 : g1 < g2 := by
    have hl := own_lt ho1
    rcases hat2 with e | e
    · omega
    · (try simp [World.setCell] at e); omega
  have u3 : g2 < g3 := by
    have hl := own_lt ho2
    rcases hat3 with e | e
    · omega
    · (try simp [World.setCell] at e); omega
  have u4 : g3 < g4 := by
    have hl := own_lt ho3
    rcases hat4 with e | e
    · omega
    · (try simp [World.setCell] at e); omega
  have u5 : g4 < g5 := by
    have hl := own_lt ho4
    rcases hat5 with e | e
    · omega
    · (try simp [World.setCell] at e); omega
  have HB := T5.b
  refine bodyPost_ret (v := rv r ⟨some ⟨g1, 0, none⟩, some ⟨g2, 0, none⟩, some ⟨g3, 0, none⟩, some ⟨g4, 0, none⟩, some ⟨g5, 0, none⟩, k1, k2, k3, k4, k5⟩) (by simp [results, Try.results17, go_sem, zz0, zz1, zz2, zz3, zz4, zz5]) rfl ⟨_, rfl, ⟨⟨_, rfl, ?_⟩, ⟨_, rfl, ?_⟩, ⟨_, rfl, ?_⟩, ⟨_, rfl, ?_⟩, _, rfl, ?_⟩, ?_, g1, g2, g3, g4, g5, rfl, rfl, rfl, rfl, rfl, u2, u3, u4, u5⟩
  · exact own_set (own_set (own_set (own_set (own_set (own_set O1 (by omega)) (by omega)) (by omega)) (by omega)) (by omega)) (by omega)
  · exact own_set (own_set (own_set (own_set (own_set (own_set O2 (by omega)) (by omega)) (by omega)) (by omega)) (by omega)) (by omega)
  · exact own_set (own_set (own_set (own_set (own_set (own_set O3 (by omega)) (by omega)) (by omega)) (by omega)) (by omega)) (by omega)
  · exact own_set (own_set (own_set (own_set (own_set (own_set O4 (by omega)) (by omega)) (by omega)) (by omega)) (by omega)) (by omega)
  · exact own_set (own_set (own_set (own_set (own_set (own_set O5 (by omega)) (by omega)) (by omega)) (by omega)) (by omega)) (by omega)
  · exact (((((HB.setCell (by simp) _).setCell (by simp) _).setCell (by simp) _).setCell (by simp) _).setCell (by simp) _).setCell (by simp) _


/-- a list known cell by cell -/
def Lst (W : World) (g : Nat) (t : TypeId) (n : Nat) (F : Nat → Value) : Prop := ∃ cs : Array Value, Has W g t cs ∧ ∀ j, j < n → cs[j]? = some (F j)
namespace Lst
variable {W W' : World} {g n : Nat} {t : TypeId} {F : Nat → Value}
theorem lt (h : Lst W g t n F) : g < W.heap.size := h.elim fun _ h => h.1.lt
theorem keep (h : Lst W g t n F) {B : Nat} (hb : Below B W W') (hg : g < B) : Lst W' g t n F := by obtain ⟨cs, h1, h2⟩ := h; exact ⟨cs, h1.keep hb hg, h2⟩
theorem far (h : Lst W g t n F) {b j : Nat} (hne : g ≠ b) (v : Value) : Lst (W.setCell ⟨b, j, none⟩ v) g t n F := by obtain ⟨cs, h1, h2⟩ := h; exact ⟨cs, h1.far hne v, h2⟩
theorem cell (h : Lst W g t n F) {j : Nat} (hj : j < n) : W.cell? ⟨g, j, none⟩ = some (F j) := by obtain ⟨cs, h1, h2⟩ := h; rw [h1.cell j]; exact h2 j hj
theorem fz (h : Lst W g t n F) (j : Nat) : W.frozen? ⟨g, j, none⟩ = false := by obtain ⟨cs, h1, h2⟩ := h; exact h1.fz j
theorem congr (h : Lst W g t n F) {F' : Nat → Value} (e : ∀ j, j < n → F j = F' j) : Lst W g t n F' := by obtain ⟨cs, h1, h2⟩ := h; exact ⟨cs, h1, fun j hj => by rw [h2 j hj, e j hj]⟩
theorem set (h : Lst W g t n F) (i : Nat) (v : Value) : Lst (W.setCell ⟨g, i, none⟩ v) g t n (fun j => if j = i then v else F j) := by
  obtain ⟨cs, h1, h2⟩ := h
  refine ⟨cs.setIfInBounds i v, h1.set i v, fun j hj => ?_⟩
  have h3 := h2 j hj
  obtain ⟨hjs, _⟩ := Array.getElem?_eq_some_iff.1 h3
  by_cases e : j = i
  · subst e
    rw [Array.getElem?_setIfInBounds_self_of_lt hjs]
    exact congrArg some (if_pos rfl).symm
  · rw [Array.getElem?_setIfInBounds_ne (fun h => e h.symm), h3]
    exact congrArg some (if_neg e).symm
theorem of_own {base size k m : Nat} {xs : List Value} (ho : W.ownsRow base t size (.slice (some ⟨g, 0, none⟩) m k) m xs) (hF : ∀ j, j < n → xs[j]? = some (F j)) : Lst W g t n F := by
  have hcl := fun j hj => ho.cells (g := g) rfl j _ (hF j hj)
  obtain ⟨hl, h⟩ := ho
  rcases h with ⟨h, _⟩ | ⟨g', cap, cur, hv, _, hh, _⟩
  · cases h
  · obtain rfl : g = g' := by injection hv with h1 _ _; injection h1 with h1; injection h1
    exact ⟨cur, hh, fun j hj => by
      have e1 : (⟨g, 0, none⟩ : Addr).add j = ⟨g, j, none⟩ := by unfold Addr.add; split <;> simp_all
      rw [← Has.cell (show Has W g t cur from hh) j, ← e1]; exact hcl j hj⟩
end Lst
/-- three numbers in turn -/
def trp (f g h : Nat → Int) (j : Nat) : Int := if j % 3 = 0 then f (j / 3) else if j % 3 = 1 then g (j / 3) else h (j / 3)
def upd (f : Nat → Int) (i : Nat) (x : Int) (j : Nat) : Int := if j = i then x else f j
theorem trp_0 (f g h : Nat → Int) (j : Nat) : trp f g h (j * 3) = f j := by unfold trp; rw [if_pos (by omega), Nat.mul_div_cancel _ (by omega)]
theorem trp_1 (f g h : Nat → Int) (j : Nat) : trp f g h (j * 3 + 1) = g j := by unfold trp; rw [if_neg (by omega), if_pos (by omega), show (j * 3 + 1) / 3 = j by omega]
theorem trp_2 (f g h : Nat → Int) (j : Nat) : trp f g h (j * 3 + 2) = h j := by unfold trp; rw [if_neg (by omega), if_neg (by omega), show (j * 3 + 2) / 3 = j by omega]
theorem trp_u0 (f g h : Nat → Int) (i j : Nat) (x : Int) : trp (upd f i x) g h j = if j = i * 3 then x else trp f g h j := by
  by_cases e : j = i * 3
  · rw [if_pos e, e, trp_0]; exact if_pos rfl
  · rw [if_neg e]; unfold trp upd
    by_cases h0 : j % 3 = 0
    · rw [if_pos h0, if_pos h0, if_neg (by omega)]
    · rw [if_neg h0, if_neg h0]
theorem trp_u1 (f g h : Nat → Int) (i j : Nat) (x : Int) : trp f (upd g i x) h j = if j = i * 3 + 1 then x else trp f g h j := by
  by_cases e : j = i * 3 + 1
  · rw [if_pos e, e, trp_1]; exact if_pos rfl
  · rw [if_neg e]; unfold trp upd
    by_cases h0 : j % 3 = 0
    · rw [if_pos h0, if_pos h0]
    · rw [if_neg h0, if_neg h0]
      by_cases h1 : j % 3 = 1
      · rw [if_pos h1, if_pos h1, if_neg (by omega)]
      · rw [if_neg h1, if_neg h1]
theorem trp_u2 (f g h : Nat → Int) (i j : Nat) (x : Int) : trp f g (upd h i x) j = if j = i * 3 + 2 then x else trp f g h j := by
  by_cases e : j = i * 3 + 2
  · rw [if_pos e, e, trp_2]; exact if_pos rfl
  · rw [if_neg e]; unfold trp upd
    by_cases h0 : j % 3 = 0
    · rw [if_pos h0, if_pos h0]
    · rw [if_neg h0, if_neg h0]
      by_cases h1 : j % 3 = 1
      · rw [if_pos h1, if_pos h1]
      · rw [if_neg h1, if_neg h1, if_neg (by omega)]
theorem tripL_trp (f g h : Nat → Int) (n j : Nat) (hj : j < n * 3) : (tripL f g h n)[j]? = some (.int .i64 (trp f g h j)) := by
  obtain ⟨p1, p2, p3⟩ := tripL_at f g h n (j / 3) (by omega)
  have h3 : j = j / 3 * 3 ∨ j = j / 3 * 3 + 1 ∨ j = j / 3 * 3 + 2 := by omega
  rcases h3 with e | e | e
  · rw [← e] at p1; rw [p1]; conv => rhs; rw [e, trp_0]
  · rw [← e] at p2; rw [p2]; conv => rhs; rw [e, trp_1]
  · rw [← e] at p3; rw [p3]; conv => rhs; rw [e, trp_2]
/-- a list of which the first ones are done -/
def part (F G : Nat → Int) (t : Nat) (j : Nat) : Int := if j < t then F j else G j
theorem part_0 (F G : Nat → Int) : part F G 0 = G := funext fun j => if_neg (Nat.not_lt_zero _)
theorem part_at (F G : Nat → Int) (t : Nat) : part F G t t = G t := if_neg (Nat.lt_irrefl _)
theorem part_lt (F G : Nat → Int) {t j : Nat} (h : j < t) : part F G t j = F j := if_pos h
theorem part_up (F G : Nat → Int) (t : Nat) {x : Int} (hx : x = F t) : upd (part F G t) t x = part F G (t + 1) := funext fun j => by
  unfold upd part
  by_cases e : j = t
  · subst e; rw [if_pos rfl, if_pos (Nat.lt_succ_self _)]; exact hx
  · rw [if_neg e]
    by_cases h : j < t
    · rw [if_pos h, if_pos (by omega)]
    · rw [if_neg h, if_neg (by omega)]
/-- the raw circuit of which so many are done -/
def Rw.mvp (r : Rw) (f : Int → Int) (t1 t2 t3 t4 t5 : Nat) : Rw := { r with ip := part (fun j => mvl f (r.ip j)) r.ip t1, ll := part (fun j => mvl f (r.ll j)) r.ll t2, la := part (fun j => mvl f (r.la j)) r.la t2, gl := part (fun j => mvl f (r.gl j)) r.gl t3, ga := part (fun j => mvl f (r.ga j)) r.ga t3, gb := part (fun j => mvl f (r.gb j)) r.gb t3, bd := part (fun j => mvl f (r.bd j)) r.bd t4, cn := part (fun j => mvl f (r.cn j)) r.cn t5 }
/-- the state of moved: the result's box, its own box, the five lists, the numbers -/
structure Mv (w W : World) (b5 : Nat) (s : Rw) (q : Rp) (g1 g2 g3 g4 g5 g mn : Nat) (f : Int → Int) : Prop where
  B : Below w.heap.size w W
  h4 : Has W (w.heap.size + 1) 32 zr
  h5 : Has W b5 32 (rc s q)
  lo : w.heap.size + 1 < g1 ∧ g1 < g2 ∧ g2 < g3 ∧ g3 < g4 ∧ g4 < g5 ∧ g5 < b5 ∧ g < w.heap.size
  a1 : q.A1 = some ⟨g1, 0, none⟩
  a2 : q.A2 = some ⟨g2, 0, none⟩
  a3 : q.A3 = some ⟨g3, 0, none⟩
  a4 : q.A4 = some ⟨g4, 0, none⟩
  a5 : q.A5 = some ⟨g5, 0, none⟩
  l1 : Lst W g1 3 s.ni (fun j => .int .i64 (s.ip j))
  l2 : Lst W g2 41 (s.nl * 3) (fun j => .int .i64 (trp s.ll s.la s.lb j))
  l3 : Lst W g3 41 (s.na * 3) (fun j => .int .i64 (trp s.gl s.ga s.gb j))
  l4 : Lst W g4 3 s.nb (fun j => .int .i64 (s.bd j))
  l5 : Lst W g5 3 s.nc (fun j => .int .i64 (s.cn j))
  rw : W.rowIs g 3 (mn + 1) (fun v => .int .i64 (f (v : Int)))
section
variable {w W W' : World} {b5 : Nat} {s : Rw} {q : Rp} {g1 g2 g3 g4 g5 g mn : Nat} {f : Int → Int}
theorem Mv.on (h : Mv w W b5 s q g1 g2 g3 g4 g5 g mn f) (hb : Below W.heap.size W W') : Mv w W' b5 s q g1 g2 g3 g4 g5 g mn f :=
  ⟨Below.step h.B h.B.size hb, h.h4.keep hb h.h4.lt, h.h5.keep hb h.h5.lt, h.lo, h.a1, h.a2, h.a3, h.a4, h.a5, h.l1.keep hb h.l1.lt, h.l2.keep hb h.l2.lt, h.l3.keep hb h.l3.lt, h.l4.keep hb h.l4.lt, h.l5.keep hb h.l5.lt, h.rw.of_block (hb.block g h.rw.lt)⟩
theorem Mv.dn (h : Mv w W b5 s q g1 g2 g3 g4 g5 g mn f) : Mv w W.drew b5 s q g1 g2 g3 g4 g5 g mn f := h.on (below_dn (Below.refl _ _) 1)
theorem Mv.p1 (h : Mv w W b5 s q g1 g2 g3 g4 g5 g mn f) (i : Nat) (x : Int) : Mv w (W.setCell ⟨g1, i, none⟩ (.int .i64 x)) b5 { s with ip := upd s.ip i x } q g1 g2 g3 g4 g5 g mn f := by
  have hl := h.lo
  exact ⟨h.B.setCell (show w.heap.size ≤ g1 by omega) _, h.h4.far (show w.heap.size + 1 ≠ g1 by omega) _, h.h5.far (show b5 ≠ g1 by omega) _, hl, h.a1, h.a2, h.a3, h.a4, h.a5, (h.l1.set i (.int .i64 x)).congr (fun j _ => by show (if j = i then Value.int .i64 x else .int .i64 (s.ip j)) = .int .i64 (if j = i then x else s.ip j); split <;> rfl), h.l2.far (by omega) _, h.l3.far (by omega) _, h.l4.far (by omega) _, h.l5.far (by omega) _, h.rw.of_block (Below.heap_setCell _ _ _ _ (show g ≠ g1 by omega))⟩
theorem Mv.p4 (h : Mv w W b5 s q g1 g2 g3 g4 g5 g mn f) (i : Nat) (x : Int) : Mv w (W.setCell ⟨g4, i, none⟩ (.int .i64 x)) b5 { s with bd := upd s.bd i x } q g1 g2 g3 g4 g5 g mn f := by
  have hl := h.lo
  exact ⟨h.B.setCell (show w.heap.size ≤ g4 by omega) _, h.h4.far (show w.heap.size + 1 ≠ g4 by omega) _, h.h5.far (show b5 ≠ g4 by omega) _, hl, h.a1, h.a2, h.a3, h.a4, h.a5, h.l1.far (by omega) _, h.l2.far (by omega) _, h.l3.far (by omega) _, (h.l4.set i (.int .i64 x)).congr (fun j _ => by show (if j = i then Value.int .i64 x else .int .i64 (s.bd j)) = .int .i64 (if j = i then x else s.bd j); split <;> rfl), h.l5.far (by omega) _, h.rw.of_block (Below.heap_setCell _ _ _ _ (show g ≠ g4 by omega))⟩
theorem Mv.p5 (h : Mv w W b5 s q g1 g2 g3 g4 g5 g mn f) (i : Nat) (x : Int) : Mv w (W.setCell ⟨g5, i, none⟩ (.int .i64 x)) b5 { s with cn := upd s.cn i x } q g1 g2 g3 g4 g5 g mn f := by
  have hl := h.lo
  exact ⟨h.B.setCell (show w.heap.size ≤ g5 by omega) _, h.h4.far (show w.heap.size + 1 ≠ g5 by omega) _, h.h5.far (show b5 ≠ g5 by omega) _, hl, h.a1, h.a2, h.a3, h.a4, h.a5, h.l1.far (by omega) _, h.l2.far (by omega) _, h.l3.far (by omega) _, h.l4.far (by omega) _, (h.l5.set i (.int .i64 x)).congr (fun j _ => by show (if j = i then Value.int .i64 x else .int .i64 (s.cn j)) = .int .i64 (if j = i then x else s.cn j); split <;> rfl), h.rw.of_block (Below.heap_setCell _ _ _ _ (show g ≠ g5 by omega))⟩
theorem Mv.p2 (h : Mv w W b5 s q g1 g2 g3 g4 g5 g mn f) (k : Nat) (x : Int) {u1 u2 u3 : Nat → Int} (e : ∀ j, trp u1 u2 u3 j = if j = k then x else trp s.ll s.la s.lb j) : Mv w (W.setCell ⟨g2, k, none⟩ (.int .i64 x)) b5 { s with ll := u1, la := u2, lb := u3 } q g1 g2 g3 g4 g5 g mn f := by
  have hl := h.lo
  exact ⟨h.B.setCell (show w.heap.size ≤ g2 by omega) _, h.h4.far (show w.heap.size + 1 ≠ g2 by omega) _, h.h5.far (show b5 ≠ g2 by omega) _, hl, h.a1, h.a2, h.a3, h.a4, h.a5, h.l1.far (by omega) _, (h.l2.set k (.int .i64 x)).congr (fun j _ => by show (if j = k then Value.int .i64 x else .int .i64 (trp s.ll s.la s.lb j)) = .int .i64 (trp u1 u2 u3 j); rw [e j]; split <;> rfl), h.l3.far (by omega) _, h.l4.far (by omega) _, h.l5.far (by omega) _, h.rw.of_block (Below.heap_setCell _ _ _ _ (show g ≠ g2 by omega))⟩
theorem Mv.p3 (h : Mv w W b5 s q g1 g2 g3 g4 g5 g mn f) (k : Nat) (x : Int) {u1 u2 u3 : Nat → Int} (e : ∀ j, trp u1 u2 u3 j = if j = k then x else trp s.gl s.ga s.gb j) : Mv w (W.setCell ⟨g3, k, none⟩ (.int .i64 x)) b5 { s with gl := u1, ga := u2, gb := u3 } q g1 g2 g3 g4 g5 g mn f := by
  have hl := h.lo
  exact ⟨h.B.setCell (show w.heap.size ≤ g3 by omega) _, h.h4.far (show w.heap.size + 1 ≠ g3 by omega) _, h.h5.far (show b5 ≠ g3 by omega) _, hl, h.a1, h.a2, h.a3, h.a4, h.a5, h.l1.far (by omega) _, h.l2.far (by omega) _, (h.l3.set k (.int .i64 x)).congr (fun j _ => by show (if j = k then Value.int .i64 x else .int .i64 (trp s.gl s.ga s.gb j)) = .int .i64 (trp u1 u2 u3 j); rw [e j]; split <;> rfl), h.l4.far (by omega) _, h.l5.far (by omega) _, h.rw.of_block (Below.heap_setCell _ _ _ _ (show g ≠ g3 by omega))⟩
/-- Told, by the numbers -/
theorem Mv.told (h : Mv w W b5 s q g1 g2 g3 g4 g5 g mn f) (hm : mn ≤ 1000) (hf : ∀ v : Nat, v < mn + 1 → 0 ≤ f (v : Int) ∧ f (v : Int) ≤ mn) {x : Int} (h0 : 0 ≤ x) (h1 : x ≤ 2 * mn + 1) : Calls Try.prog 23 #[.slice (some ⟨g, 0, none⟩) (mn + 1) (mn + 1), .int .i64 x] W fun e w' => e = .returned (.int .i64 (mvl f x)) ∧ Below W.heap.size W w' := by
  refine (oTold_any (some ⟨g, 0, none⟩) (mn + 1) (mn + 1) (fun v => f (v : Int)) x _ W (fun _ => ⟨_, rfl, h.rw.lt, fun j hj => by
    have e : (⟨g, 0, none⟩ : Addr).add j = ⟨g, j, none⟩ := by unfold Addr.add; split <;> simp_all
    rw [e, h.rw.cell hj]⟩) h0 (by omega) (by omega) (fun j hj => by have := hf j hj; omega)).mono fun e w' ⟨he, hb⟩ => ⟨?_, hb⟩
  rw [he]
  show Ending.returned (.int .i64 (2 * f (((x / 2).toNat : Nat) : Int) + x % 2)) = _
  rw [show (((x / 2).toNat : Nat) : Int) = x / 2 by omega]
  rfl
/-- at the end -/
theorem Mv.fin (h : Mv w W b5 s q g1 g2 g3 g4 g5 g mn f) : RMem W W.heap.size s q := by
  have hT : ∀ {gg n : Nat} {A : Option Addr} {u1 u2 u3 : Nat → Int}, A = some ⟨gg, 0, none⟩ → Lst W gg 41 (n * 3) (fun j => .int .i64 (trp u1 u2 u3 j)) → TripsAt W W.heap.size A n u1 u2 u3 := fun {gg n A u1 u2 u3} e hl hn => by
    refine ⟨_, e, hl.lt, fun j hj => ?_⟩
    have e1 : (⟨gg, 0, none⟩ : Addr).add (j * 3) = ⟨gg, j * 3, none⟩ := by unfold Addr.add; split <;> simp_all
    rw [e1]
    refine ⟨?_, ?_, ?_⟩
    · rw [hl.cell (by omega), trp_0]
    · show W.cell? ⟨gg, j * 3 + 1, none⟩ = _
      rw [hl.cell (by omega), trp_1]
    · show W.cell? ⟨gg, j * 3 + 2, none⟩ = _
      rw [hl.cell (by omega), trp_2]
  have hI : ∀ {gg n : Nat} {A : Option Addr} {u : Nat → Int}, A = some ⟨gg, 0, none⟩ → Lst W gg 3 n (fun j => .int .i64 (u j)) → IntsAt W W.heap.size A n u := fun {gg n A u} e hl hn => by
    refine ⟨_, e, hl.lt, fun j hj => ?_⟩
    have e1 : (⟨gg, 0, none⟩ : Addr).add j = ⟨gg, j, none⟩ := by unfold Addr.add; split <;> simp_all
    rw [e1]
    exact hl.cell hj
  exact ⟨hI h.a1 h.l1, hT h.a2 h.l2, hT h.a3 h.l3, hI h.a4 h.l4, hI h.a5 h.l5⟩
end
theorem IntsAt.con {w : World} {B : Nat} {A : Option Addr} {n : Nat} {f f' : Nat → Int} (h : IntsAt w B A n f) (e : ∀ j, j < n → f j = f' j) : IntsAt w B A n f' := fun hn => by
  obtain ⟨a, ea, hl, hc⟩ := h hn
  exact ⟨a, ea, hl, fun j hj => by rw [← e j hj]; exact hc j hj⟩
theorem TripsAt.con {w : World} {B : Nat} {A : Option Addr} {n : Nat} {f g h f' g' h' : Nat → Int} (hh : TripsAt w B A n f g h) (e : ∀ j, j < n → f j = f' j ∧ g j = g' j ∧ h j = h' j) : TripsAt w B A n f' g' h' := fun hn => by
  obtain ⟨a, ea, hl, hc⟩ := hh hn
  exact ⟨a, ea, hl, fun j hj => by rw [← (e j hj).1, ← (e j hj).2.1, ← (e j hj).2.2]; exact hc j hj⟩
theorem mvp_end {r : Rw} {f : Int → Int} {q : Rp} {W : World} {B : Nat} (h : RMem W B (r.mvp f r.ni r.nl r.na r.nb r.nc) q) : RMem W B (r.mv f) q :=
  ⟨IntsAt.con h.ip fun j hj => (show part (fun j => mvl f (r.ip j)) r.ip r.ni j = mvl f (r.ip j) from part_lt _ _ hj), TripsAt.con h.la fun j hj => ⟨(show part (fun j => mvl f (r.ll j)) r.ll r.nl j = mvl f (r.ll j) from part_lt _ _ hj), (show part (fun j => mvl f (r.la j)) r.la r.nl j = mvl f (r.la j) from part_lt _ _ hj), rfl⟩, TripsAt.con h.an fun j hj => ⟨(show part (fun j => mvl f (r.gl j)) r.gl r.na j = mvl f (r.gl j) from part_lt _ _ hj), (show part (fun j => mvl f (r.ga j)) r.ga r.na j = mvl f (r.ga j) from part_lt _ _ hj), (show part (fun j => mvl f (r.gb j)) r.gb r.na j = mvl f (r.gb j) from part_lt _ _ hj)⟩, IntsAt.con h.bd fun j hj => (show part (fun j => mvl f (r.bd j)) r.bd r.nb j = mvl f (r.bd j) from part_lt _ _ hj), IntsAt.con h.cn fun j hj => (show part (fun j => mvl f (r.cn j)) r.cn r.nc j = mvl f (r.cn j) from part_lt _ _ hj)⟩
theorem wpT_weak {P : Program} {md : Region.Mode} {ops : Array Oper} {Q : Exit → Act → World → Prop} {S' : World → Prop} {n n' : Nat} : ∀ (fuel : Nat) (listed : Array Bool) (a : Act) (w : World), wpT P md ops Q S' n' fuel listed a w → wpT P md ops Q (fun _ => True) n fuel listed a w
  | 0, _, _, _, h => h
  | fuel + 1, _, _, _, h => ⟨h.1, fun i hi => wpOp_mono (fun a' w' h' => ⟨fun _ => trivial, wpT_weak fuel _ a' w' h'.2⟩) (h.2 i hi)⟩
/-- from no condition at all to one -/
theorem wt_weak {P : Program} {md : Region.Mode} {ops : Array Oper} {Q : Exit → Act → World → Prop} {S' : World → Prop} {n n' fuel : Nat} {listed : Array Bool} {a : Act} {w : World} (h : WT P md ops Q S' n' fuel listed a w) : WT P md ops Q (fun _ => True) n fuel listed a w := ⟨wpT_weak fuel listed a w h.h⟩
theorem Mv.q1 {w W : World} {b5 q t2 t3 t4 t5 g1 g2 g3 g4 g5 g mn : Nat} {r : Rw} {f : Int → Int} {p : Rp} (h : Mv w W b5 (r.mvp f q t2 t3 t4 t5) p g1 g2 g3 g4 g5 g mn f) : Mv w (W.setCell ⟨g1, q, none⟩ (.int .i64 (mvl f (r.ip q)))) b5 (r.mvp f (q + 1) t2 t3 t4 t5) p g1 g2 g3 g4 g5 g mn f := by
  have h2 := h.p1 q (mvl f (r.ip q))
  rw [show upd (r.mvp f q t2 t3 t4 t5).ip q (mvl f (r.ip q)) = (r.mvp f (q + 1) t2 t3 t4 t5).ip from part_up _ _ _ rfl] at h2
  exact h2
theorem Mv.q4 {w W : World} {b5 q t1 t2 t3 t5 g1 g2 g3 g4 g5 g mn : Nat} {r : Rw} {f : Int → Int} {p : Rp} (h : Mv w W b5 (r.mvp f t1 t2 t3 q t5) p g1 g2 g3 g4 g5 g mn f) : Mv w (W.setCell ⟨g4, q, none⟩ (.int .i64 (mvl f (r.bd q)))) b5 (r.mvp f t1 t2 t3 (q + 1) t5) p g1 g2 g3 g4 g5 g mn f := by
  have h2 := h.p4 q (mvl f (r.bd q))
  rw [show upd (r.mvp f t1 t2 t3 q t5).bd q (mvl f (r.bd q)) = (r.mvp f t1 t2 t3 (q + 1) t5).bd from part_up _ _ _ rfl] at h2
  exact h2
theorem Mv.q5 {w W : World} {b5 q t1 t2 t3 t4 g1 g2 g3 g4 g5 g mn : Nat} {r : Rw} {f : Int → Int} {p : Rp} (h : Mv w W b5 (r.mvp f t1 t2 t3 t4 q) p g1 g2 g3 g4 g5 g mn f) : Mv w (W.setCell ⟨g5, q, none⟩ (.int .i64 (mvl f (r.cn q)))) b5 (r.mvp f t1 t2 t3 t4 (q + 1)) p g1 g2 g3 g4 g5 g mn f := by
  have h2 := h.p5 q (mvl f (r.cn q))
  rw [show upd (r.mvp f t1 t2 t3 t4 q).cn q (mvl f (r.cn q)) = (r.mvp f t1 t2 t3 t4 (q + 1)).cn from part_up _ _ _ rfl] at h2
  exact h2
theorem Mv.q2 {w W : World} {b5 q t1 t3 t4 t5 g1 g2 g3 g4 g5 g mn : Nat} {r : Rw} {f : Int → Int} {p : Rp} (h : Mv w W b5 (r.mvp f t1 q t3 t4 t5) p g1 g2 g3 g4 g5 g mn f) : Mv w ((W.setCell ⟨g2, q * 3, none⟩ (.int .i64 (mvl f (r.ll q)))).setCell ⟨g2, q * 3 + 1, none⟩ (.int .i64 (mvl f (r.la q)))) b5 (r.mvp f t1 (q + 1) t3 t4 t5) p g1 g2 g3 g4 g5 g mn f := by
  have h2 := (h.p2 (q * 3) (mvl f (r.ll q)) (u1 := upd (r.mvp f t1 q t3 t4 t5).ll q (mvl f (r.ll q))) (u2 := (r.mvp f t1 q t3 t4 t5).la) (u3 := (r.mvp f t1 q t3 t4 t5).lb) (fun j => trp_u0 _ _ _ _ _ _)).p2 (q * 3 + 1) (mvl f (r.la q)) (u1 := upd (r.mvp f t1 q t3 t4 t5).ll q (mvl f (r.ll q))) (u2 := upd (r.mvp f t1 q t3 t4 t5).la q (mvl f (r.la q))) (u3 := (r.mvp f t1 q t3 t4 t5).lb) (fun j => trp_u1 _ _ _ _ _ _)
  rw [show upd (r.mvp f t1 q t3 t4 t5).ll q (mvl f (r.ll q)) = (r.mvp f t1 (q + 1) t3 t4 t5).ll from part_up _ _ _ rfl, show upd (r.mvp f t1 q t3 t4 t5).la q (mvl f (r.la q)) = (r.mvp f t1 (q + 1) t3 t4 t5).la from part_up _ _ _ rfl] at h2
  exact h2
theorem Mv.q3 {w W : World} {b5 q t1 t2 t4 t5 g1 g2 g3 g4 g5 g mn : Nat} {r : Rw} {f : Int → Int} {p : Rp} (h : Mv w W b5 (r.mvp f t1 t2 q t4 t5) p g1 g2 g3 g4 g5 g mn f) : Mv w (((W.setCell ⟨g3, q * 3, none⟩ (.int .i64 (mvl f (r.gl q)))).setCell ⟨g3, q * 3 + 1, none⟩ (.int .i64 (mvl f (r.ga q)))).setCell ⟨g3, q * 3 + 2, none⟩ (.int .i64 (mvl f (r.gb q)))) b5 (r.mvp f t1 t2 (q + 1) t4 t5) p g1 g2 g3 g4 g5 g mn f := by
  have h2 := ((h.p3 (q * 3) (mvl f (r.gl q)) (u1 := upd (r.mvp f t1 t2 q t4 t5).gl q (mvl f (r.gl q))) (u2 := (r.mvp f t1 t2 q t4 t5).ga) (u3 := (r.mvp f t1 t2 q t4 t5).gb) (fun j => trp_u0 _ _ _ _ _ _)).p3 (q * 3 + 1) (mvl f (r.ga q)) (u1 := upd (r.mvp f t1 t2 q t4 t5).gl q (mvl f (r.gl q))) (u2 := upd (r.mvp f t1 t2 q t4 t5).ga q (mvl f (r.ga q))) (u3 := (r.mvp f t1 t2 q t4 t5).gb) (fun j => trp_u1 _ _ _ _ _ _)).p3 (q * 3 + 2) (mvl f (r.gb q)) (u1 := upd (r.mvp f t1 t2 q t4 t5).gl q (mvl f (r.gl q))) (u2 := upd (r.mvp f t1 t2 q t4 t5).ga q (mvl f (r.ga q))) (u3 := upd (r.mvp f t1 t2 q t4 t5).gb q (mvl f (r.gb q))) (fun j => trp_u2 _ _ _ _ _ _)
  rw [show upd (r.mvp f t1 t2 q t4 t5).gl q (mvl f (r.gl q)) = (r.mvp f t1 t2 (q + 1) t4 t5).gl from part_up _ _ _ rfl, show upd (r.mvp f t1 t2 q t4 t5).ga q (mvl f (r.ga q)) = (r.mvp f t1 t2 (q + 1) t4 t5).ga from part_up _ _ _ rfl, show upd (r.mvp f t1 t2 q t4 t5).gb q (mvl f (r.gb q)) = (r.mvp f t1 t2 (q + 1) t4 t5).gb from part_up _ _ _ rfl] at h2
  exact h2
theorem mvp_0 (r : Rw) (f : Int → Int) : r.mvp f 0 0 0 0 0 = r := by
  unfold Rw.mvp
  simp only [part_0]
/-- the literals' bounds -/
theorem lits_bd {r : Rw} (h : r.num = true) : (∀ q, q < r.ni → 0 ≤ r.ip q ∧ r.ip q ≤ 2 * r.m + 1) ∧ (∀ q, q < r.nl → (0 ≤ r.ll q ∧ r.ll q ≤ 2 * r.m + 1) ∧ (0 ≤ r.la q ∧ r.la q ≤ 2 * r.m + 1)) ∧ (∀ q, q < r.na → (0 ≤ r.gl q ∧ r.gl q ≤ 2 * r.m + 1) ∧ (0 ≤ r.ga q ∧ r.ga q ≤ 2 * r.m + 1) ∧ (0 ≤ r.gb q ∧ r.gb q ≤ 2 * r.m + 1)) ∧ (∀ q, q < r.nb → 0 ≤ r.bd q ∧ r.bd q ≤ 2 * r.m + 1) ∧ (∀ q, q < r.nc → 0 ≤ r.cn q ∧ r.cn q ≤ 2 * r.m + 1) := by
  obtain ⟨a, b, _⟩ := Rw.num_parts h
  have a' : ∀ x ∈ r.dL, 0 ≤ x ∧ x ≤ 2 * r.m + 1 := fun x hx => by have := a x hx; omega
  have d : ∀ k, k < r.ni + r.nl + r.na → r.dL.getD k 0 ∈ r.dL := fun k hk => by
    have hl : k < r.dL.length := by rw [dL_len]; exact hk
    rw [List.getD_eq_getElem?_getD, List.getElem?_eq_getElem hl]; exact List.getElem_mem hl
  refine ⟨fun q hq => ?_, fun q hq => ⟨?_, ?_⟩, fun q hq => ⟨?_, ?_, ?_⟩, fun q hq => ?_, fun q hq => ?_⟩
  · have := a' _ (d q (by omega)); rwa [Rw.dL_i r hq] at this
  · have := a' _ (d (r.ni + q) (by omega)); rwa [Rw.dL_l r hq] at this
  · exact b _ (by unfold Rw.uL; simp only [List.mem_append]; exact Or.inl (Or.inr (mem_lst.2 ⟨q, hq, rfl⟩)))
  · have := a' _ (d (r.ni + r.nl + q) (by omega)); rwa [Rw.dL_g r hq] at this
  · exact b _ (by unfold Rw.uL; simp only [List.mem_append]; exact Or.inr (mem_twos.2 ⟨q, hq, Or.inl rfl⟩))
  · exact b _ (by unfold Rw.uL; simp only [List.mem_append]; exact Or.inr (mem_twos.2 ⟨q, hq, Or.inr rfl⟩))
  · exact b _ (by unfold Rw.uL; simp only [List.mem_append]; exact Or.inl (Or.inl (Or.inl (mem_lst.2 ⟨q, hq, rfl⟩))))
  · exact b _ (by unfold Rw.uL; simp only [List.mem_append]; exact Or.inl (Or.inl (Or.inr (mem_lst.2 ⟨q, hq, rfl⟩))))
set_option maxRecDepth 100000 in
set_option maxHeartbeats 16000000 in
theorem moved_any (r : Rw) (p : Rp) (w : World) (mn g : Nat) (f : Int → Int) (hmn : r.m = mn) (h1 : mn ≤ 1000) (hs : RSm r) (hm : RMem w w.heap.size r p) (hN : RNils r p) (hnum : r.num = true) (hf : ∀ v : Nat, v < mn + 1 → 0 ≤ f (v : Int) ∧ f (v : Int) ≤ mn) (hR : w.rowIs g 3 (mn + 1) (fun v => .int .i64 (f (v : Int)))) :
    Calls Try.prog 24 #[rv r p, .slice (some ⟨g, 0, none⟩) (mn + 1) (mn + 1)] w fun e w' => ∃ p', e = .returned (rv (r.mv f) p') ∧ RMem w' w'.heap.size (r.mv f) p' ∧ RNils (r.mv f) p' ∧ Below w.heap.size w w' := by
  have g1' := hs.ni
  have g2' := hs.nl
  have g3' := hs.na
  have g4' := hs.nb
  have g5' := hs.nc
  obtain ⟨B1, B2, B3, B4, B5⟩ := lits_bd hnum
  rw [hmn] at B1 B2 B3 B4 B5
  have BD := Lib.hid (And.intro B1 (And.intro B2 (And.intro B3 (And.intro B4 B5))))
  have HF := Lib.hid hf
  have H1 := Lib.hid h1
  have hB0 : Below w.heap.size w ((w.alloc (.cells (rcL r p) 32)).alloc (.cells #[.int .i64 0, .slice none 0 0, .slice none 0 0, .slice none 0 0, .slice none 0 0, .slice none 0 0] 32)) := by go_grown
  have hX0 : Has ((w.alloc (.cells (rcL r p) 32)).alloc (.cells #[.int .i64 0, .slice none 0 0, .slice none 0 0, .slice none 0 0, .slice none 0 0, .slice none 0 0] 32)) w.heap.size 32 (rc r p) := (Has.new _ _ _).al _
  have hZ0 : Has ((w.alloc (.cells (rcL r p) 32)).alloc (.cells #[.int .i64 0, .slice none 0 0, .slice none 0 0, .slice none 0 0, .slice none 0 0, .slice none 0 0] 32)) (w.heap.size + 1) 32 zr := Has.new' _ _ (by simp)
  have hsz0 : ((w.alloc (.cells (rcL r p) 32)).alloc (.cells #[.int .i64 0, .slice none 0 0, .slice none 0 0, .slice none 0 0, .slice none 0 0, .slice none 0 0] 32)).heap.size = w.heap.size + 2 := by simp
  have H0 := Lib.hid (And.intro hB0 (And.intro hX0 (And.intro hZ0 hsz0)))
  have TW : Hid (∀ W, Below w.heap.size w W → Calls Try.prog 17 #[rv r p] W fun e w' => ∃ p', e = .returned (rv r p') ∧ OwnR w' (W.heap.size + 2) r p' ∧ Below W.heap.size W w' ∧ ∃ g1 g2 g3 g4 g5, p'.A1 = some ⟨g1, 0, none⟩ ∧ p'.A2 = some ⟨g2, 0, none⟩ ∧ p'.A3 = some ⟨g3, 0, none⟩ ∧ p'.A4 = some ⟨g4, 0, none⟩ ∧ p'.A5 = some ⟨g5, 0, none⟩ ∧ g1 < g2 ∧ g2 < g3 ∧ g3 < g4 ∧ g4 < g5) := fun W hb => rtwin_up r p W hs (hm.to hb hb.size) hN
  have HR := Lib.hid hR
  clear hB0 hX0 hZ0 hsz0 hs hm hN hnum B1 B2 B3 B4 B5 hf h1 hmn hR
  go_enter Try.func24, Try.ntmps24
  go_wp2_with (go_at_call 17; (with_reducible refine (TW.out _ H0.out.1).mono ?_); rintro e w1 ⟨⟨P1, P2, P3, P4, P5, k1, k2, k3, k4, k5⟩, rfl, hO, hb1, g1, g2, g3, g4, g5, e1, e2, e3, e4, e5, u1, u2, u3, u4⟩)
  obtain rfl : P1 = some ⟨g1, 0, none⟩ := e1
  obtain rfl : P2 = some ⟨g2, 0, none⟩ := e2
  obtain rfl : P3 = some ⟨g3, 0, none⟩ := e3
  obtain rfl : P4 = some ⟨g4, 0, none⟩ := e4
  obtain rfl : P5 = some ⟨g5, 0, none⟩ := e5
  have HQ : Hid (Mv w (w1.alloc (.cells #[.int .i64 r.m, .slice (some ⟨g1, 0, none⟩) r.ni k1, .slice (some ⟨g2, 0, none⟩) r.nl k2, .slice (some ⟨g3, 0, none⟩) r.na k3, .slice (some ⟨g4, 0, none⟩) r.nb k4, .slice (some ⟨g5, 0, none⟩) r.nc k5] 32)) w1.heap.size (r.mvp f 0 0 0 0 0) ⟨some ⟨g1, 0, none⟩, some ⟨g2, 0, none⟩, some ⟨g3, 0, none⟩, some ⟨g4, 0, none⟩, some ⟨g5, 0, none⟩, k1, k2, k3, k4, k5⟩ g1 g2 g3 g4 g5 g mn f) := Lib.hid (by
    rw [mvp_0]
    obtain ⟨⟨_, c1, o1⟩, ⟨_, c2, o2⟩, ⟨_, c3, o3⟩, ⟨_, c4, o4⟩, _, c5, o5⟩ := hO
    cases c1
    cases c2
    cases c3
    cases c4
    cases c5
    have hl5 := own_lt o5
    have hl1 : w.heap.size + 2 + 2 ≤ g1 := by have := own_block o1 g1 rfl; rwa [H0.out.2.2.2] at this
    have hB1 := Below.step H0.out.1 H0.out.1.size hb1
    have hz := H0.out.2.2.1.keep hb1 H0.out.2.2.1.lt
    have hbx : Below w1.heap.size w1 (w1.alloc (.cells #[.int .i64 r.m, .slice (some ⟨g1, 0, none⟩) r.ni k1, .slice (some ⟨g2, 0, none⟩) r.nl k2, .slice (some ⟨g3, 0, none⟩) r.na k3, .slice (some ⟨g4, 0, none⟩) r.nb k4, .slice (some ⟨g5, 0, none⟩) r.nc k5] 32)) := (Below.refl _ _).alloc (Nat.le_refl _) _
    have hg := HR.out.lt
    exact ⟨Below.step hB1 hB1.size hbx, hz.keep hbx hz.lt, Has.new w1 32 (rc r ⟨some ⟨g1, 0, none⟩, some ⟨g2, 0, none⟩, some ⟨g3, 0, none⟩, some ⟨g4, 0, none⟩, some ⟨g5, 0, none⟩, k1, k2, k3, k4, k5⟩), ⟨by omega, u1, u2, u3, u4, hl5, hg⟩, rfl, rfl, rfl, rfl, rfl, (Lst.of_own o1 (fun j hj => intL_at _ _ _ hj)).keep hbx (by omega), (Lst.of_own o2 (fun j hj => tripL_trp _ _ _ _ _ hj)).keep hbx (by omega), (Lst.of_own o3 (fun j hj => tripL_trp _ _ _ _ _ hj)).keep hbx (by omega), (Lst.of_own o4 (fun j hj => intL_at _ _ _ hj)).keep hbx (by omega), (Lst.of_own o5 (fun j hj => intL_at _ _ _ hj)).keep hbx hl5, (HR.out.of_block (hB1.block g hg)).of_block (hbx.block g (by have := hB1.size; omega))⟩)
  obtain ⟨b5, hb5⟩ : ∃ b, w1.heap.size = b := ⟨_, rfl⟩
  have HQ0 : Hid (Mv w (w1.alloc (.cells #[.int .i64 r.m, .slice (some ⟨g1, 0, none⟩) r.ni k1, .slice (some ⟨g2, 0, none⟩) r.nl k2, .slice (some ⟨g3, 0, none⟩) r.na k3, .slice (some ⟨g4, 0, none⟩) r.nb k4, .slice (some ⟨g5, 0, none⟩) r.nc k5] 32)) b5 (r.mvp f 0 0 0 0 0) ⟨some ⟨g1, 0, none⟩, some ⟨g2, 0, none⟩, some ⟨g3, 0, none⟩, some ⟨g4, 0, none⟩, some ⟨g5, 0, none⟩, k1, k2, k3, k4, k5⟩ g1 g2 g3 g4 g5 g mn f) := Lib.hid (hb5 ▸ HQ.out)
  clear HQ hO hb1 u1 u2 u3 u4
  rw [hb5]
  go_wp2
  go_loopw [6] (fun i wr => ∃ q : Nat, q ≤ r.ni ∧ i = .int .i64 (q : Int) ∧ Mv w wr b5 (r.mvp f q 0 0 0 0) ⟨some ⟨g1, 0, none⟩, some ⟨g2, 0, none⟩, some ⟨g3, 0, none⟩, some ⟨g4, 0, none⟩, some ⟨g5, 0, none⟩, k1, k2, k3, k4, k5⟩ g1 g2 g3 g4 g5 g mn f) (fun i _ => r.ni - (intOf i).toNat)
  case atStart => exact ⟨0, Nat.zero_le _, rfl, HQ0.out⟩
  case round =>
    clear HQ0
    obtain ⟨q, hq, rfl, hQ⟩ := hrel
    have HQ1 := Lib.hid hQ
    clear hQ
    obtain ⟨x0, x1, x2, x3, x4, x5⟩ := (show Has wr b5 32 (rc r ⟨some ⟨g1, 0, none⟩, some ⟨g2, 0, none⟩, some ⟨g3, 0, none⟩, some ⟨g4, 0, none⟩, some ⟨g5, 0, none⟩, k1, k2, k3, k4, k5⟩) from HQ1.out.h5).rbox
    by_cases hlt : q < r.ni
    · have hq0 : (0 : Int) ≤ (q : Int) := by omega
      have hq1 : (q : Int) < (r.ni : Int) := by omega
      have hbd := BD.out.1 q hlt
      have TA : Hid (∀ W, Mv w W b5 (r.mvp f q 0 0 0 0) ⟨some ⟨g1, 0, none⟩, some ⟨g2, 0, none⟩, some ⟨g3, 0, none⟩, some ⟨g4, 0, none⟩, some ⟨g5, 0, none⟩, k1, k2, k3, k4, k5⟩ g1 g2 g3 g4 g5 g mn f → Calls Try.prog 23 #[.slice (some ⟨g, 0, none⟩) (mn + 1) (mn + 1), .int .i64 (r.ip q)] W fun e w' => e = .returned (.int .i64 (mvl f (r.ip q))) ∧ Below W.heap.size W w') := fun W hW => hW.told H1.out HF.out hbd.1 hbd.2
      have HC : Hid (∀ W, Mv w W b5 (r.mvp f q 0 0 0 0) ⟨some ⟨g1, 0, none⟩, some ⟨g2, 0, none⟩, some ⟨g3, 0, none⟩, some ⟨g4, 0, none⟩, some ⟨g5, 0, none⟩, k1, k2, k3, k4, k5⟩ g1 g2 g3 g4 g5 g mn f → W.cell? ⟨b5, 1, none⟩ = some (.slice (some ⟨g1, 0, none⟩) r.ni k1) ∧ W.cell? ⟨g1, q, none⟩ = some (.int .i64 (r.ip q))) := fun W hW => ⟨(show Has W b5 32 (rc r ⟨some ⟨g1, 0, none⟩, some ⟨g2, 0, none⟩, some ⟨g3, 0, none⟩, some ⟨g4, 0, none⟩, some ⟨g5, 0, none⟩, k1, k2, k3, k4, k5⟩) from hW.h5).cell 1, (hW.l1.cell hlt).trans (congrArg (fun z => some (Value.int .i64 z)) (part_at (fun j => mvl f (r.ip j)) r.ip q))⟩
      clear hbd
      go_wp2
      have hQd := HQ1.out.dn
      refine wp_slots (fun f => Sz f 137 ∧ Slot f 1 (.slice (some ⟨g, 0, none⟩) (mn + 1) (mn + 1)) ∧ Slot f 5 (.pointer (some ⟨b5, 0, none⟩)) ∧ Slot f 6 (.int .i64 (q : Int))) ⟨⟨rfl, rfl⟩, ⟨rfl⟩, ⟨rfl⟩, ⟨rfl⟩⟩ fun a0' hA0 hR => ?_
      obtain ⟨hZ, hs1, hs5, hsi⟩ := hR
      have HA := Lib.hid hA0
      clear hA0 x0 x1 x2 x3 x4 x5
      have hS0 := HC.out wr.drew hQd
      refine wp_region_T (fun W : World => W.cell? ⟨b5, 1, none⟩ = some (.slice (some ⟨g1, 0, none⟩) r.ni k1) ∧ W.cell? ⟨g1, q, none⟩ = some (.int .i64 (r.ip q))) 11 (by kernel_rfl) ?_
      refine WT.h ?_
      (refine wt_take1 0 5 (v := ?_) rfl rfl (by kernel_rfl) (by kernel_rfl) (by kernel_rfl) (by kernel_rfl) (fun _ _ _ h => h) rfl hS0 (by (repeat (first | (refine slot_hit (N := 137) ?_ (by rfl); (repeat (refine sz_put ?_)); assumption; done) | (apply slot_miss; focus rfl))); all_goals assumption) (fun ev hk hv0 w hS => ?_) ?_; rotate_left; focus (obtain ⟨j0, j1⟩ := hS; go_simp; rfl)); (refine wt_take1 1 22 (v := ?_) rfl rfl (by kernel_rfl) (by kernel_rfl) (by kernel_rfl) (by kernel_rfl) (fun _ _ _ h => h) rfl hS0 (by (repeat (first | (refine slot_hit (N := 137) ?_ (by rfl); (repeat (refine sz_put ?_)); assumption; done) | (apply slot_miss; focus rfl))); all_goals assumption) (fun ev hk hv0 w hS => ?_) ?_; rotate_left; focus (obtain ⟨j0, j1⟩ := hS; go_simp; rfl)); (refine wt_move 2 6 rfl rfl (by kernel_rfl) (by kernel_rfl) (by kernel_rfl) (by kernel_rfl) (fun _ _ _ h => h) rfl hS0 (by (repeat (first | (refine slot_hit (N := 137) ?_ (by rfl); (repeat (refine sz_put ?_)); assumption; done) | (apply slot_miss; focus rfl))); all_goals assumption) rfl ?_); (refine wt_move 3 1 rfl rfl (by kernel_rfl) (by kernel_rfl) (by kernel_rfl) (by kernel_rfl) (fun _ _ _ h => h) rfl hS0 (by (repeat (first | (refine slot_hit (N := 137) ?_ (by rfl); (repeat (refine sz_put ?_)); assumption; done) | (apply slot_miss; focus rfl))); all_goals assumption) rfl ?_); (refine wt_take1 4 5 (v := ?_) rfl rfl (by kernel_rfl) (by kernel_rfl) (by kernel_rfl) (by kernel_rfl) (fun _ _ _ h => h) rfl hS0 (by (repeat (first | (refine slot_hit (N := 137) ?_ (by rfl); (repeat (refine sz_put ?_)); assumption; done) | (apply slot_miss; focus rfl))); all_goals assumption) (fun ev hk hv0 w hS => ?_) ?_; rotate_left; focus (obtain ⟨j0, j1⟩ := hS; go_simp; rfl)); (refine wt_take1 5 26 (v := ?_) rfl rfl (by kernel_rfl) (by kernel_rfl) (by kernel_rfl) (by kernel_rfl) (fun _ _ _ h => h) rfl hS0 (by (repeat (first | (refine slot_hit (N := 137) ?_ (by rfl); (repeat (refine sz_put ?_)); assumption; done) | (apply slot_miss; focus rfl))); all_goals assumption) (fun ev hk hv0 w hS => ?_) ?_; rotate_left; focus (obtain ⟨j0, j1⟩ := hS; go_simp; rfl)); (refine wt_move 6 6 rfl rfl (by kernel_rfl) (by kernel_rfl) (by kernel_rfl) (by kernel_rfl) (fun _ _ _ h => h) rfl hS0 (by (repeat (first | (refine slot_hit (N := 137) ?_ (by rfl); (repeat (refine sz_put ?_)); assumption; done) | (apply slot_miss; focus rfl))); all_goals assumption) rfl ?_); (refine wt_take2 7 27 28 (v := ?_) rfl rfl (by kernel_rfl) (by kernel_rfl) (by kernel_rfl) (by kernel_rfl) (fun _ _ _ h => h) rfl hS0 (by (repeat (first | (refine slot_hit (N := 137) ?_ (by rfl); (repeat (refine sz_put ?_)); assumption; done) | (apply slot_miss; focus rfl))); all_goals assumption) (by (repeat (first | (refine slot_hit (N := 137) ?_ (by rfl); (repeat (refine sz_put ?_)); assumption; done) | (apply slot_miss; focus rfl))); all_goals assumption) (fun ev hk hv0 hv1 w hS => ?_) ?_; rotate_left; focus (obtain ⟨j0, j1⟩ := hS; go_simp; rfl)); (refine wt_take1 8 29 (v := ?_) rfl rfl (by kernel_rfl) (by kernel_rfl) (by kernel_rfl) (by kernel_rfl) (fun _ _ _ h => h) rfl hS0 (by (repeat (first | (refine slot_hit (N := 137) ?_ (by rfl); (repeat (refine sz_put ?_)); assumption; done) | (apply slot_miss; focus rfl))); all_goals assumption) (fun ev hk hv0 w hS => ?_) ?_; rotate_left; focus (obtain ⟨j0, j1⟩ := hS; go_simp; rfl))
      refine wt_one 9 (by kernel_rfl) ?_
      refine wb_call2 9 25 30 rfl rfl rfl (by (repeat (first | (refine slot_hit (N := 137) ?_ (by rfl); (repeat (refine sz_put ?_)); assumption; done) | (apply slot_miss; focus rfl))); all_goals assumption) (by (repeat (first | (refine slot_hit (N := 137) ?_ (by rfl); (repeat (refine sz_put ?_)); assumption; done) | (apply slot_miss; focus rfl))); all_goals assumption) (f := ?_) (args := ?_) (fun ev hk hkf hv0 hv1 => ?_) ?_
      rotate_left 2
      focus (go_simp; first | rfl | (constructor <;> rfl))
      (with_reducible refine (TA.out _ hQd).mono ?_)
      rintro e Va ⟨rfl, hbVa⟩
      have hQa := hQd.on hbVa
      clear hS0
      have hS0 := HC.out Va hQa
      refine ⟨_, rfl, fun _ => hS0, ?_⟩
      (refine wt_take2 10 23 24 (v := ?_) rfl rfl (by kernel_rfl) (by kernel_rfl) (by kernel_rfl) (by kernel_rfl) (fun _ _ _ h => h) rfl hS0 (by (repeat (first | (refine slot_hit (N := 137) ?_ (by rfl); (repeat (refine sz_put ?_)); assumption; done) | (apply slot_miss; focus rfl))); all_goals assumption) (by (repeat (first | (refine slot_hit (N := 137) ?_ (by rfl); (repeat (refine sz_put ?_)); assumption; done) | (apply slot_miss; focus rfl))); all_goals assumption) (fun ev hk hv0 hv1 w hS => ?_) ?_; rotate_left; focus (obtain ⟨j0, j1⟩ := hS; go_simp; rfl))
      have y8 := hS0.2
      have yf8 := hQa.l1.fz q
      refine wt_act2 11 32 31 (by kernel_rfl) rfl rfl rfl (by (repeat (first | (refine slot_hit (N := 137) ?_ (by rfl); (repeat (refine sz_put ?_)); assumption; done) | (apply slot_miss; focus rfl))); all_goals assumption) (by (repeat (first | (refine slot_hit (N := 137) ?_ (by rfl); (repeat (refine sz_put ?_)); assumption; done) | (apply slot_miss; focus rfl))); all_goals assumption) (w' := ?_) (fun ev hk hv0 hv1 => ?_) ?_; rotate_left; focus (go_simp; rfl)
      refine ⟨fun h => absurd h (by decide), ?_⟩
      refine wt_done (by kernel_rfl) (NoPanic.normal ?_) _
      have ha := HA.out
      subst ha
      have HN := Lib.hid hQa.q1
      clear hS0 y8 yf8 hQd hQa hbVa hs1 hs5 hsi hZ HQ1
      go_wp2
      go_roundw
      case rel => exact ⟨q + 1, by omega, by go_num, HN.out⟩
      case measure => simp [intOf]; omega
    · obtain rfl : q = r.ni := by omega
      clear hlt hq
      go_wp2
      go_loopw [7] (fun i wr => ∃ q : Nat, q ≤ r.nl ∧ i = .int .i64 (q : Int) ∧ Mv w wr b5 (r.mvp f r.ni q 0 0 0) ⟨some ⟨g1, 0, none⟩, some ⟨g2, 0, none⟩, some ⟨g3, 0, none⟩, some ⟨g4, 0, none⟩, some ⟨g5, 0, none⟩, k1, k2, k3, k4, k5⟩ g1 g2 g3 g4 g5 g mn f) (fun i _ => r.nl - (intOf i).toNat)
      case atStart => exact ⟨0, Nat.zero_le _, rfl, HQ1.out⟩
      case round =>
        clear HQ1
        obtain ⟨q, hq, rfl, hQ⟩ := hrel
        have HQ2 := Lib.hid hQ
        clear hQ
        obtain ⟨x0, x1, x2, x3, x4, x5⟩ := (show Has wr b5 32 (rc r ⟨some ⟨g1, 0, none⟩, some ⟨g2, 0, none⟩, some ⟨g3, 0, none⟩, some ⟨g4, 0, none⟩, some ⟨g5, 0, none⟩, k1, k2, k3, k4, k5⟩) from HQ2.out.h5).rbox
        by_cases hlt : q < r.nl
        · have hq0 : (0 : Int) ≤ (q : Int) := by omega
          have hq1 : (q : Int) < (r.nl : Int) := by omega
          have hbd := BD.out.2.1 q hlt
          have TA : Hid (∀ W, Mv w W b5 (r.mvp f r.ni q 0 0 0) ⟨some ⟨g1, 0, none⟩, some ⟨g2, 0, none⟩, some ⟨g3, 0, none⟩, some ⟨g4, 0, none⟩, some ⟨g5, 0, none⟩, k1, k2, k3, k4, k5⟩ g1 g2 g3 g4 g5 g mn f → Calls Try.prog 23 #[.slice (some ⟨g, 0, none⟩) (mn + 1) (mn + 1), .int .i64 (r.ll q)] W fun e w' => e = .returned (.int .i64 (mvl f (r.ll q))) ∧ Below W.heap.size W w') := fun W hW => hW.told H1.out HF.out hbd.1.1 hbd.1.2
          have TB : Hid (∀ W, Mv w W b5 (r.mvp f r.ni q 0 0 0) ⟨some ⟨g1, 0, none⟩, some ⟨g2, 0, none⟩, some ⟨g3, 0, none⟩, some ⟨g4, 0, none⟩, some ⟨g5, 0, none⟩, k1, k2, k3, k4, k5⟩ g1 g2 g3 g4 g5 g mn f → Calls Try.prog 23 #[.slice (some ⟨g, 0, none⟩) (mn + 1) (mn + 1), .int .i64 (r.la q)] W fun e w' => e = .returned (.int .i64 (mvl f (r.la q))) ∧ Below W.heap.size W w') := fun W hW => hW.told H1.out HF.out hbd.2.1 hbd.2.2
          have HC : Hid (∀ W, Mv w W b5 (r.mvp f r.ni q 0 0 0) ⟨some ⟨g1, 0, none⟩, some ⟨g2, 0, none⟩, some ⟨g3, 0, none⟩, some ⟨g4, 0, none⟩, some ⟨g5, 0, none⟩, k1, k2, k3, k4, k5⟩ g1 g2 g3 g4 g5 g mn f → W.cell? ⟨g2, q * 3, none⟩ = some (.int .i64 (r.ll q)) ∧ W.cell? ⟨g2, q * 3 + 1, none⟩ = some (.int .i64 (r.la q))) := fun W hW => ⟨((hW.l2.cell (show q * 3 < r.nl * 3 by omega)).trans (congrArg (fun z => some (Value.int .i64 z)) ((trp_0 _ _ _ q).trans (part_at (fun j => mvl f (r.ll j)) r.ll q)))), ((hW.l2.cell (show q * 3 + 1 < r.nl * 3 by omega)).trans (congrArg (fun z => some (Value.int .i64 z)) ((trp_1 _ _ _ q).trans (part_at (fun j => mvl f (r.la j)) r.la q))))⟩
          clear hbd
          go_wp2
          have hQd := HQ2.out.dn
          refine wp_slots (fun f => Sz f 137 ∧ Slot f 1 (.slice (some ⟨g, 0, none⟩) (mn + 1) (mn + 1)) ∧ Slot f 8 (.pointer (some ⟨g2, q * 3, none⟩))) ⟨⟨rfl, rfl⟩, ⟨rfl⟩, ⟨rfl⟩⟩ fun a0' hA0 hR => ?_
          obtain ⟨hZ, hs1, hsi⟩ := hR
          have HA := Lib.hid hA0
          clear hA0 x0 x1 x2 x3 x4 x5
          have hS0 := HC.out wr.drew hQd
          refine wp_region_T (fun _ : World => True) 20 (by kernel_rfl) ?_
          refine WT.h ?_
          have hS1 := hS0
          clear hS0
          have hS0 : (fun _ : World => True) wr.drew := trivial
          (refine wt_move 0 8 rfl rfl (by kernel_rfl) (by kernel_rfl) (by kernel_rfl) (by kernel_rfl) (fun _ _ _ h => h) rfl hS0 (by (repeat (first | (refine slot_hit (N := 137) ?_ (by rfl); (repeat (refine sz_put ?_)); assumption; done) | (apply slot_miss; focus rfl))); all_goals assumption) rfl ?_); (refine wt_move 1 8 rfl rfl (by kernel_rfl) (by kernel_rfl) (by kernel_rfl) (by kernel_rfl) (fun _ _ _ h => h) rfl hS0 (by (repeat (first | (refine slot_hit (N := 137) ?_ (by rfl); (repeat (refine sz_put ?_)); assumption; done) | (apply slot_miss; focus rfl))); all_goals assumption) rfl ?_); (refine wt_move 2 1 rfl rfl (by kernel_rfl) (by kernel_rfl) (by kernel_rfl) (by kernel_rfl) (fun _ _ _ h => h) rfl hS0 (by (repeat (first | (refine slot_hit (N := 137) ?_ (by rfl); (repeat (refine sz_put ?_)); assumption; done) | (apply slot_miss; focus rfl))); all_goals assumption) rfl ?_); (refine wt_move 3 8 rfl rfl (by kernel_rfl) (by kernel_rfl) (by kernel_rfl) (by kernel_rfl) (fun _ _ _ h => h) rfl hS0 (by (repeat (first | (refine slot_hit (N := 137) ?_ (by rfl); (repeat (refine sz_put ?_)); assumption; done) | (apply slot_miss; focus rfl))); all_goals assumption) rfl ?_); (refine wt_take1 4 47 (v := ?_) rfl rfl (by kernel_rfl) (by kernel_rfl) (by kernel_rfl) (by kernel_rfl) (fun _ _ _ h => h) rfl hS0 (by (repeat (first | (refine slot_hit (N := 137) ?_ (by rfl); (repeat (refine sz_put ?_)); assumption; done) | (apply slot_miss; focus rfl))); all_goals assumption) (fun ev hk hv0 w hS => ?_) ?_; rotate_left; focus (obtain _ := hS; go_simp; rfl)); (refine wt_take1 5 48 (v := ?_) rfl rfl (by kernel_rfl) (by kernel_rfl) (by kernel_rfl) (by kernel_rfl) (fun _ _ _ h => h) rfl hS0 (by (repeat (first | (refine slot_hit (N := 137) ?_ (by rfl); (repeat (refine sz_put ?_)); assumption; done) | (apply slot_miss; focus rfl))); all_goals assumption) (fun ev hk hv0 w hS => ?_) ?_; rotate_left; focus (obtain _ := hS; go_simp; rfl)); (refine wt_move 8 1 rfl rfl (by kernel_rfl) (by kernel_rfl) (by kernel_rfl) (by kernel_rfl) (fun _ _ _ h => h) rfl hS0 (by (repeat (first | (refine slot_hit (N := 137) ?_ (by rfl); (repeat (refine sz_put ?_)); assumption; done) | (apply slot_miss; focus rfl))); all_goals assumption) rfl ?_); (refine wt_move 9 8 rfl rfl (by kernel_rfl) (by kernel_rfl) (by kernel_rfl) (by kernel_rfl) (fun _ _ _ h => h) rfl hS0 (by (repeat (first | (refine slot_hit (N := 137) ?_ (by rfl); (repeat (refine sz_put ?_)); assumption; done) | (apply slot_miss; focus rfl))); all_goals assumption) rfl ?_); (refine wt_take1 10 53 (v := ?_) rfl rfl (by kernel_rfl) (by kernel_rfl) (by kernel_rfl) (by kernel_rfl) (fun _ _ _ h => h) rfl hS0 (by (repeat (first | (refine slot_hit (N := 137) ?_ (by rfl); (repeat (refine sz_put ?_)); assumption; done) | (apply slot_miss; focus rfl))); all_goals assumption) (fun ev hk hv0 w hS => ?_) ?_; rotate_left; focus (obtain _ := hS; go_simp; rfl)); (refine wt_take1 11 54 (v := ?_) rfl rfl (by kernel_rfl) (by kernel_rfl) (by kernel_rfl) (by kernel_rfl) (fun _ _ _ h => h) rfl hS0 (by (repeat (first | (refine slot_hit (N := 137) ?_ (by rfl); (repeat (refine sz_put ?_)); assumption; done) | (apply slot_miss; focus rfl))); all_goals assumption) (fun ev hk hv0 w hS => ?_) ?_; rotate_left; focus (obtain _ := hS; go_simp; rfl))
          clear hS0
          have hS0 := hS1
          clear hS1
          refine wt_weak (S' := fun W : World => W.cell? ⟨g2, q * 3, none⟩ = some (.int .i64 (r.ll q)) ∧ W.cell? ⟨g2, q * 3 + 1, none⟩ = some (.int .i64 (r.la q))) (n' := 16) ?_
          (refine wt_take1 6 49 (v := ?_) rfl rfl (by kernel_rfl) (by kernel_rfl) (by kernel_rfl) (by kernel_rfl) (fun _ _ _ h => h) rfl hS0 (by (repeat (first | (refine slot_hit (N := 137) ?_ (by rfl); (repeat (refine sz_put ?_)); assumption; done) | (apply slot_miss; focus rfl))); all_goals assumption) (fun ev hk hv0 w hS => ?_) ?_; rotate_left; focus (obtain ⟨j0, j1⟩ := hS; go_simp; rfl)); (refine wt_take1 12 55 (v := ?_) rfl rfl (by kernel_rfl) (by kernel_rfl) (by kernel_rfl) (by kernel_rfl) (fun _ _ _ h => h) rfl hS0 (by (repeat (first | (refine slot_hit (N := 137) ?_ (by rfl); (repeat (refine sz_put ?_)); assumption; done) | (apply slot_miss; focus rfl))); all_goals assumption) (fun ev hk hv0 w hS => ?_) ?_; rotate_left; focus (obtain ⟨j0, j1⟩ := hS; go_simp; rfl))
          refine wt_one 7 (by kernel_rfl) ?_
          refine wb_call2 7 46 50 rfl rfl rfl (by (repeat (first | (refine slot_hit (N := 137) ?_ (by rfl); (repeat (refine sz_put ?_)); assumption; done) | (apply slot_miss; focus rfl))); all_goals assumption) (by (repeat (first | (refine slot_hit (N := 137) ?_ (by rfl); (repeat (refine sz_put ?_)); assumption; done) | (apply slot_miss; focus rfl))); all_goals assumption) (f := ?_) (args := ?_) (fun ev hk hkf hv0 hv1 => ?_) ?_
          rotate_left 2
          focus (go_simp; first | rfl | (constructor <;> rfl))
          (with_reducible refine (TA.out _ hQd).mono ?_)
          rintro e Va ⟨rfl, hbVa⟩
          have hQa := hQd.on hbVa
          clear hS0
          have hS0 := HC.out Va hQa
          refine ⟨_, rfl, fun _ => hS0, ?_⟩
          refine wt_one 13 (by kernel_rfl) ?_
          refine wb_call2 13 52 56 rfl rfl rfl (by (repeat (first | (refine slot_hit (N := 137) ?_ (by rfl); (repeat (refine sz_put ?_)); assumption; done) | (apply slot_miss; focus rfl))); all_goals assumption) (by (repeat (first | (refine slot_hit (N := 137) ?_ (by rfl); (repeat (refine sz_put ?_)); assumption; done) | (apply slot_miss; focus rfl))); all_goals assumption) (f := ?_) (args := ?_) (fun ev hk hkf hv0 hv1 => ?_) ?_
          rotate_left 2
          focus (go_simp; first | rfl | (constructor <;> rfl))
          (with_reducible refine (TB.out _ hQa).mono ?_)
          rintro e Vb ⟨rfl, hbVb⟩
          have hQb := hQa.on hbVb
          clear hS0
          have hS0 := HC.out Vb hQb
          refine ⟨_, rfl, fun _ => hS0, ?_⟩
          refine wt_val1 14 44 (by kernel_rfl) rfl rfl rfl (by (repeat (first | (refine slot_hit (N := 137) ?_ (by rfl); (repeat (refine sz_put ?_)); assumption; done) | (apply slot_miss; focus rfl))); all_goals assumption) (v := ?_) (w' := ?_) (fun ev hk hv0 => ?_) ?_; rotate_left 2; focus (go_simp; first | rfl | (constructor <;> rfl))
          refine ⟨fun _ => hS0, ?_⟩
          refine wt_val1 15 58 (by kernel_rfl) rfl rfl rfl (by (repeat (first | (refine slot_hit (N := 137) ?_ (by rfl); (repeat (refine sz_put ?_)); assumption; done) | (apply slot_miss; focus rfl))); all_goals assumption) (v := ?_) (w' := ?_) (fun ev hk hv0 => ?_) ?_; rotate_left 2; focus (go_simp; first | rfl | (constructor <;> rfl))
          refine ⟨fun _ => hS0, ?_⟩
          have y0 := hS0.1
          have yf0 := hQb.l2.fz (q * 3)
          refine wt_act2 16 59 51 (by kernel_rfl) rfl rfl rfl (by (repeat (first | (refine slot_hit (N := 137) ?_ (by rfl); (repeat (refine sz_put ?_)); assumption; done) | (apply slot_miss; focus rfl))); all_goals assumption) (by (repeat (first | (refine slot_hit (N := 137) ?_ (by rfl); (repeat (refine sz_put ?_)); assumption; done) | (apply slot_miss; focus rfl))); all_goals assumption) (w' := ?_) (fun ev hk hv0 hv1 => ?_) ?_; rotate_left; focus (go_simp; rfl)
          refine ⟨fun h => absurd h (by decide), ?_⟩
          have L0 := hQb.l2.set (q * 3) (.int .i64 (mvl f (r.ll q)))
          have y1 := (L0.cell (show q * 3 + 1 < r.nl * 3 by omega)).trans (congrArg some ((if_neg (by omega)).trans (congrArg (Value.int .i64) ((trp_1 _ _ _ q).trans (part_at (fun j => mvl f (r.la j)) r.la q)))))
          have yf1 := L0.fz (q * 3 + 1)
          refine wt_val1 17 45 (by kernel_rfl) rfl rfl rfl (by (repeat (first | (refine slot_hit (N := 137) ?_ (by rfl); (repeat (refine sz_put ?_)); assumption; done) | (apply slot_miss; focus rfl))); all_goals assumption) (v := ?_) (w' := ?_) (fun ev hk hv0 => ?_) ?_; rotate_left 2; focus (go_simp; first | rfl | (constructor <;> rfl))
          refine ⟨fun h => absurd h (by decide), ?_⟩
          refine wt_val1 18 60 (by kernel_rfl) rfl rfl rfl (by (repeat (first | (refine slot_hit (N := 137) ?_ (by rfl); (repeat (refine sz_put ?_)); assumption; done) | (apply slot_miss; focus rfl))); all_goals assumption) (v := ?_) (w' := ?_) (fun ev hk hv0 => ?_) ?_; rotate_left 2; focus (go_simp; first | rfl | (constructor <;> rfl))
          refine ⟨fun h => absurd h (by decide), ?_⟩
          refine wt_act2 19 61 57 (by kernel_rfl) rfl rfl rfl (by (repeat (first | (refine slot_hit (N := 137) ?_ (by rfl); (repeat (refine sz_put ?_)); assumption; done) | (apply slot_miss; focus rfl))); all_goals assumption) (by (repeat (first | (refine slot_hit (N := 137) ?_ (by rfl); (repeat (refine sz_put ?_)); assumption; done) | (apply slot_miss; focus rfl))); all_goals assumption) (w' := ?_) (fun ev hk hv0 hv1 => ?_) ?_; rotate_left; focus (go_simp; rfl)
          refine ⟨fun h => absurd h (by decide), ?_⟩
          refine wt_done (by kernel_rfl) (NoPanic.normal ?_) _
          have ha := HA.out
          subst ha
          have HN := Lib.hid hQb.q2
          clear hS0 hQd hQa hbVa hs1 hsi hZ HQ2
          go_wp2
          go_roundw
          case rel => exact ⟨q + 1, by omega, by go_num, HN.out⟩
          case measure => simp [intOf]; omega
        · obtain rfl : q = r.nl := by omega
          clear hlt hq
          go_wp2
          go_loopw [9] (fun i wr => ∃ q : Nat, q ≤ r.na ∧ i = .int .i64 (q : Int) ∧ Mv w wr b5 (r.mvp f r.ni r.nl q 0 0) ⟨some ⟨g1, 0, none⟩, some ⟨g2, 0, none⟩, some ⟨g3, 0, none⟩, some ⟨g4, 0, none⟩, some ⟨g5, 0, none⟩, k1, k2, k3, k4, k5⟩ g1 g2 g3 g4 g5 g mn f) (fun i _ => r.na - (intOf i).toNat)
          case atStart => exact ⟨0, Nat.zero_le _, rfl, HQ2.out⟩
          case round =>
            clear HQ2
            obtain ⟨q, hq, rfl, hQ⟩ := hrel
            have HQ3 := Lib.hid hQ
            clear hQ
            obtain ⟨x0, x1, x2, x3, x4, x5⟩ := (show Has wr b5 32 (rc r ⟨some ⟨g1, 0, none⟩, some ⟨g2, 0, none⟩, some ⟨g3, 0, none⟩, some ⟨g4, 0, none⟩, some ⟨g5, 0, none⟩, k1, k2, k3, k4, k5⟩) from HQ3.out.h5).rbox
            by_cases hlt : q < r.na
            · have hq0 : (0 : Int) ≤ (q : Int) := by omega
              have hq1 : (q : Int) < (r.na : Int) := by omega
              have hbd := BD.out.2.2.1 q hlt
              have TA : Hid (∀ W, Mv w W b5 (r.mvp f r.ni r.nl q 0 0) ⟨some ⟨g1, 0, none⟩, some ⟨g2, 0, none⟩, some ⟨g3, 0, none⟩, some ⟨g4, 0, none⟩, some ⟨g5, 0, none⟩, k1, k2, k3, k4, k5⟩ g1 g2 g3 g4 g5 g mn f → Calls Try.prog 23 #[.slice (some ⟨g, 0, none⟩) (mn + 1) (mn + 1), .int .i64 (r.gl q)] W fun e w' => e = .returned (.int .i64 (mvl f (r.gl q))) ∧ Below W.heap.size W w') := fun W hW => hW.told H1.out HF.out hbd.1.1 hbd.1.2
              have TB : Hid (∀ W, Mv w W b5 (r.mvp f r.ni r.nl q 0 0) ⟨some ⟨g1, 0, none⟩, some ⟨g2, 0, none⟩, some ⟨g3, 0, none⟩, some ⟨g4, 0, none⟩, some ⟨g5, 0, none⟩, k1, k2, k3, k4, k5⟩ g1 g2 g3 g4 g5 g mn f → Calls Try.prog 23 #[.slice (some ⟨g, 0, none⟩) (mn + 1) (mn + 1), .int .i64 (r.ga q)] W fun e w' => e = .returned (.int .i64 (mvl f (r.ga q))) ∧ Below W.heap.size W w') := fun W hW => hW.told H1.out HF.out hbd.2.1.1 hbd.2.1.2
              have TC : Hid (∀ W, Mv w W b5 (r.mvp f r.ni r.nl q 0 0) ⟨some ⟨g1, 0, none⟩, some ⟨g2, 0, none⟩, some ⟨g3, 0, none⟩, some ⟨g4, 0, none⟩, some ⟨g5, 0, none⟩, k1, k2, k3, k4, k5⟩ g1 g2 g3 g4 g5 g mn f → Calls Try.prog 23 #[.slice (some ⟨g, 0, none⟩) (mn + 1) (mn + 1), .int .i64 (r.gb q)] W fun e w' => e = .returned (.int .i64 (mvl f (r.gb q))) ∧ Below W.heap.size W w') := fun W hW => hW.told H1.out HF.out hbd.2.2.1 hbd.2.2.2
              have HC : Hid (∀ W, Mv w W b5 (r.mvp f r.ni r.nl q 0 0) ⟨some ⟨g1, 0, none⟩, some ⟨g2, 0, none⟩, some ⟨g3, 0, none⟩, some ⟨g4, 0, none⟩, some ⟨g5, 0, none⟩, k1, k2, k3, k4, k5⟩ g1 g2 g3 g4 g5 g mn f → W.cell? ⟨g3, q * 3, none⟩ = some (.int .i64 (r.gl q)) ∧ W.cell? ⟨g3, q * 3 + 1, none⟩ = some (.int .i64 (r.ga q)) ∧ W.cell? ⟨g3, q * 3 + 2, none⟩ = some (.int .i64 (r.gb q))) := fun W hW => ⟨((hW.l3.cell (show q * 3 < r.na * 3 by omega)).trans (congrArg (fun z => some (Value.int .i64 z)) ((trp_0 _ _ _ q).trans (part_at (fun j => mvl f (r.gl j)) r.gl q)))), ((hW.l3.cell (show q * 3 + 1 < r.na * 3 by omega)).trans (congrArg (fun z => some (Value.int .i64 z)) ((trp_1 _ _ _ q).trans (part_at (fun j => mvl f (r.ga j)) r.ga q)))), ((hW.l3.cell (show q * 3 + 2 < r.na * 3 by omega)).trans (congrArg (fun z => some (Value.int .i64 z)) ((trp_2 _ _ _ q).trans (part_at (fun j => mvl f (r.gb j)) r.gb q))))⟩
              clear hbd
              go_wp2
              have hQd := HQ3.out.dn
              refine wp_slots (fun f => Sz f 137 ∧ Slot f 1 (.slice (some ⟨g, 0, none⟩) (mn + 1) (mn + 1)) ∧ Slot f 10 (.pointer (some ⟨g3, q * 3, none⟩))) ⟨⟨rfl, rfl⟩, ⟨rfl⟩, ⟨rfl⟩⟩ fun a0' hA0 hR => ?_
              obtain ⟨hZ, hs1, hsi⟩ := hR
              have HA := Lib.hid hA0
              clear hA0 x0 x1 x2 x3 x4 x5
              have hS0 := HC.out wr.drew hQd
              refine wp_region_T (fun _ : World => True) 30 (by kernel_rfl) ?_
              refine WT.h ?_
              have hS1 := hS0
              clear hS0
              have hS0 : (fun _ : World => True) wr.drew := trivial
              (refine wt_move 0 10 rfl rfl (by kernel_rfl) (by kernel_rfl) (by kernel_rfl) (by kernel_rfl) (fun _ _ _ h => h) rfl hS0 (by (repeat (first | (refine slot_hit (N := 137) ?_ (by rfl); (repeat (refine sz_put ?_)); assumption; done) | (apply slot_miss; focus rfl))); all_goals assumption) rfl ?_); (refine wt_move 1 10 rfl rfl (by kernel_rfl) (by kernel_rfl) (by kernel_rfl) (by kernel_rfl) (fun _ _ _ h => h) rfl hS0 (by (repeat (first | (refine slot_hit (N := 137) ?_ (by rfl); (repeat (refine sz_put ?_)); assumption; done) | (apply slot_miss; focus rfl))); all_goals assumption) rfl ?_); (refine wt_move 2 10 rfl rfl (by kernel_rfl) (by kernel_rfl) (by kernel_rfl) (by kernel_rfl) (fun _ _ _ h => h) rfl hS0 (by (repeat (first | (refine slot_hit (N := 137) ?_ (by rfl); (repeat (refine sz_put ?_)); assumption; done) | (apply slot_miss; focus rfl))); all_goals assumption) rfl ?_); (refine wt_move 3 1 rfl rfl (by kernel_rfl) (by kernel_rfl) (by kernel_rfl) (by kernel_rfl) (fun _ _ _ h => h) rfl hS0 (by (repeat (first | (refine slot_hit (N := 137) ?_ (by rfl); (repeat (refine sz_put ?_)); assumption; done) | (apply slot_miss; focus rfl))); all_goals assumption) rfl ?_); (refine wt_move 4 10 rfl rfl (by kernel_rfl) (by kernel_rfl) (by kernel_rfl) (by kernel_rfl) (fun _ _ _ h => h) rfl hS0 (by (repeat (first | (refine slot_hit (N := 137) ?_ (by rfl); (repeat (refine sz_put ?_)); assumption; done) | (apply slot_miss; focus rfl))); all_goals assumption) rfl ?_); (refine wt_take1 5 77 (v := ?_) rfl rfl (by kernel_rfl) (by kernel_rfl) (by kernel_rfl) (by kernel_rfl) (fun _ _ _ h => h) rfl hS0 (by (repeat (first | (refine slot_hit (N := 137) ?_ (by rfl); (repeat (refine sz_put ?_)); assumption; done) | (apply slot_miss; focus rfl))); all_goals assumption) (fun ev hk hv0 w hS => ?_) ?_; rotate_left; focus (obtain _ := hS; go_simp; rfl)); (refine wt_take1 6 78 (v := ?_) rfl rfl (by kernel_rfl) (by kernel_rfl) (by kernel_rfl) (by kernel_rfl) (fun _ _ _ h => h) rfl hS0 (by (repeat (first | (refine slot_hit (N := 137) ?_ (by rfl); (repeat (refine sz_put ?_)); assumption; done) | (apply slot_miss; focus rfl))); all_goals assumption) (fun ev hk hv0 w hS => ?_) ?_; rotate_left; focus (obtain _ := hS; go_simp; rfl)); (refine wt_move 9 1 rfl rfl (by kernel_rfl) (by kernel_rfl) (by kernel_rfl) (by kernel_rfl) (fun _ _ _ h => h) rfl hS0 (by (repeat (first | (refine slot_hit (N := 137) ?_ (by rfl); (repeat (refine sz_put ?_)); assumption; done) | (apply slot_miss; focus rfl))); all_goals assumption) rfl ?_); (refine wt_move 10 10 rfl rfl (by kernel_rfl) (by kernel_rfl) (by kernel_rfl) (by kernel_rfl) (fun _ _ _ h => h) rfl hS0 (by (repeat (first | (refine slot_hit (N := 137) ?_ (by rfl); (repeat (refine sz_put ?_)); assumption; done) | (apply slot_miss; focus rfl))); all_goals assumption) rfl ?_); (refine wt_take1 11 83 (v := ?_) rfl rfl (by kernel_rfl) (by kernel_rfl) (by kernel_rfl) (by kernel_rfl) (fun _ _ _ h => h) rfl hS0 (by (repeat (first | (refine slot_hit (N := 137) ?_ (by rfl); (repeat (refine sz_put ?_)); assumption; done) | (apply slot_miss; focus rfl))); all_goals assumption) (fun ev hk hv0 w hS => ?_) ?_; rotate_left; focus (obtain _ := hS; go_simp; rfl)); (refine wt_take1 12 84 (v := ?_) rfl rfl (by kernel_rfl) (by kernel_rfl) (by kernel_rfl) (by kernel_rfl) (fun _ _ _ h => h) rfl hS0 (by (repeat (first | (refine slot_hit (N := 137) ?_ (by rfl); (repeat (refine sz_put ?_)); assumption; done) | (apply slot_miss; focus rfl))); all_goals assumption) (fun ev hk hv0 w hS => ?_) ?_; rotate_left; focus (obtain _ := hS; go_simp; rfl)); (refine wt_move 15 1 rfl rfl (by kernel_rfl) (by kernel_rfl) (by kernel_rfl) (by kernel_rfl) (fun _ _ _ h => h) rfl hS0 (by (repeat (first | (refine slot_hit (N := 137) ?_ (by rfl); (repeat (refine sz_put ?_)); assumption; done) | (apply slot_miss; focus rfl))); all_goals assumption) rfl ?_); (refine wt_move 16 10 rfl rfl (by kernel_rfl) (by kernel_rfl) (by kernel_rfl) (by kernel_rfl) (fun _ _ _ h => h) rfl hS0 (by (repeat (first | (refine slot_hit (N := 137) ?_ (by rfl); (repeat (refine sz_put ?_)); assumption; done) | (apply slot_miss; focus rfl))); all_goals assumption) rfl ?_); (refine wt_take1 17 89 (v := ?_) rfl rfl (by kernel_rfl) (by kernel_rfl) (by kernel_rfl) (by kernel_rfl) (fun _ _ _ h => h) rfl hS0 (by (repeat (first | (refine slot_hit (N := 137) ?_ (by rfl); (repeat (refine sz_put ?_)); assumption; done) | (apply slot_miss; focus rfl))); all_goals assumption) (fun ev hk hv0 w hS => ?_) ?_; rotate_left; focus (obtain _ := hS; go_simp; rfl)); (refine wt_take1 18 90 (v := ?_) rfl rfl (by kernel_rfl) (by kernel_rfl) (by kernel_rfl) (by kernel_rfl) (fun _ _ _ h => h) rfl hS0 (by (repeat (first | (refine slot_hit (N := 137) ?_ (by rfl); (repeat (refine sz_put ?_)); assumption; done) | (apply slot_miss; focus rfl))); all_goals assumption) (fun ev hk hv0 w hS => ?_) ?_; rotate_left; focus (obtain _ := hS; go_simp; rfl))
              clear hS0
              have hS0 := hS1
              clear hS1
              refine wt_weak (S' := fun W : World => W.cell? ⟨g3, q * 3, none⟩ = some (.int .i64 (r.gl q)) ∧ W.cell? ⟨g3, q * 3 + 1, none⟩ = some (.int .i64 (r.ga q)) ∧ W.cell? ⟨g3, q * 3 + 2, none⟩ = some (.int .i64 (r.gb q))) (n' := 23) ?_
              (refine wt_take1 7 79 (v := ?_) rfl rfl (by kernel_rfl) (by kernel_rfl) (by kernel_rfl) (by kernel_rfl) (fun _ _ _ h => h) rfl hS0 (by (repeat (first | (refine slot_hit (N := 137) ?_ (by rfl); (repeat (refine sz_put ?_)); assumption; done) | (apply slot_miss; focus rfl))); all_goals assumption) (fun ev hk hv0 w hS => ?_) ?_; rotate_left; focus (obtain ⟨j0, j1, j2⟩ := hS; go_simp; rfl)); (refine wt_take1 13 85 (v := ?_) rfl rfl (by kernel_rfl) (by kernel_rfl) (by kernel_rfl) (by kernel_rfl) (fun _ _ _ h => h) rfl hS0 (by (repeat (first | (refine slot_hit (N := 137) ?_ (by rfl); (repeat (refine sz_put ?_)); assumption; done) | (apply slot_miss; focus rfl))); all_goals assumption) (fun ev hk hv0 w hS => ?_) ?_; rotate_left; focus (obtain ⟨j0, j1, j2⟩ := hS; go_simp; rfl)); (refine wt_take1 19 91 (v := ?_) rfl rfl (by kernel_rfl) (by kernel_rfl) (by kernel_rfl) (by kernel_rfl) (fun _ _ _ h => h) rfl hS0 (by (repeat (first | (refine slot_hit (N := 137) ?_ (by rfl); (repeat (refine sz_put ?_)); assumption; done) | (apply slot_miss; focus rfl))); all_goals assumption) (fun ev hk hv0 w hS => ?_) ?_; rotate_left; focus (obtain ⟨j0, j1, j2⟩ := hS; go_simp; rfl))
              refine wt_one 8 (by kernel_rfl) ?_
              refine wb_call2 8 76 80 rfl rfl rfl (by (repeat (first | (refine slot_hit (N := 137) ?_ (by rfl); (repeat (refine sz_put ?_)); assumption; done) | (apply slot_miss; focus rfl))); all_goals assumption) (by (repeat (first | (refine slot_hit (N := 137) ?_ (by rfl); (repeat (refine sz_put ?_)); assumption; done) | (apply slot_miss; focus rfl))); all_goals assumption) (f := ?_) (args := ?_) (fun ev hk hkf hv0 hv1 => ?_) ?_
              rotate_left 2
              focus (go_simp; first | rfl | (constructor <;> rfl))
              (with_reducible refine (TA.out _ hQd).mono ?_)
              rintro e Va ⟨rfl, hbVa⟩
              have hQa := hQd.on hbVa
              clear hS0
              have hS0 := HC.out Va hQa
              refine ⟨_, rfl, fun _ => hS0, ?_⟩
              refine wt_one 14 (by kernel_rfl) ?_
              refine wb_call2 14 82 86 rfl rfl rfl (by (repeat (first | (refine slot_hit (N := 137) ?_ (by rfl); (repeat (refine sz_put ?_)); assumption; done) | (apply slot_miss; focus rfl))); all_goals assumption) (by (repeat (first | (refine slot_hit (N := 137) ?_ (by rfl); (repeat (refine sz_put ?_)); assumption; done) | (apply slot_miss; focus rfl))); all_goals assumption) (f := ?_) (args := ?_) (fun ev hk hkf hv0 hv1 => ?_) ?_
              rotate_left 2
              focus (go_simp; first | rfl | (constructor <;> rfl))
              (with_reducible refine (TB.out _ hQa).mono ?_)
              rintro e Vb ⟨rfl, hbVb⟩
              have hQb := hQa.on hbVb
              clear hS0
              have hS0 := HC.out Vb hQb
              refine ⟨_, rfl, fun _ => hS0, ?_⟩
              refine wt_one 20 (by kernel_rfl) ?_
              refine wb_call2 20 88 92 rfl rfl rfl (by (repeat (first | (refine slot_hit (N := 137) ?_ (by rfl); (repeat (refine sz_put ?_)); assumption; done) | (apply slot_miss; focus rfl))); all_goals assumption) (by (repeat (first | (refine slot_hit (N := 137) ?_ (by rfl); (repeat (refine sz_put ?_)); assumption; done) | (apply slot_miss; focus rfl))); all_goals assumption) (f := ?_) (args := ?_) (fun ev hk hkf hv0 hv1 => ?_) ?_
              rotate_left 2
              focus (go_simp; first | rfl | (constructor <;> rfl))
              (with_reducible refine (TC.out _ hQb).mono ?_)
              rintro e Vc ⟨rfl, hbVc⟩
              have hQc := hQb.on hbVc
              clear hS0
              have hS0 := HC.out Vc hQc
              refine ⟨_, rfl, fun _ => hS0, ?_⟩
              refine wt_val1 21 73 (by kernel_rfl) rfl rfl rfl (by (repeat (first | (refine slot_hit (N := 137) ?_ (by rfl); (repeat (refine sz_put ?_)); assumption; done) | (apply slot_miss; focus rfl))); all_goals assumption) (v := ?_) (w' := ?_) (fun ev hk hv0 => ?_) ?_; rotate_left 2; focus (go_simp; first | rfl | (constructor <;> rfl))
              refine ⟨fun _ => hS0, ?_⟩
              refine wt_val1 22 94 (by kernel_rfl) rfl rfl rfl (by (repeat (first | (refine slot_hit (N := 137) ?_ (by rfl); (repeat (refine sz_put ?_)); assumption; done) | (apply slot_miss; focus rfl))); all_goals assumption) (v := ?_) (w' := ?_) (fun ev hk hv0 => ?_) ?_; rotate_left 2; focus (go_simp; first | rfl | (constructor <;> rfl))
              refine ⟨fun _ => hS0, ?_⟩
              have y0 := hS0.1
              have yf0 := hQc.l3.fz (q * 3)
              refine wt_act2 23 95 81 (by kernel_rfl) rfl rfl rfl (by (repeat (first | (refine slot_hit (N := 137) ?_ (by rfl); (repeat (refine sz_put ?_)); assumption; done) | (apply slot_miss; focus rfl))); all_goals assumption) (by (repeat (first | (refine slot_hit (N := 137) ?_ (by rfl); (repeat (refine sz_put ?_)); assumption; done) | (apply slot_miss; focus rfl))); all_goals assumption) (w' := ?_) (fun ev hk hv0 hv1 => ?_) ?_; rotate_left; focus (go_simp; rfl)
              refine ⟨fun h => absurd h (by decide), ?_⟩
              have L0 := hQc.l3.set (q * 3) (.int .i64 (mvl f (r.gl q)))
              have y1 := (L0.cell (show q * 3 + 1 < r.na * 3 by omega)).trans (congrArg some ((if_neg (by omega)).trans (congrArg (Value.int .i64) ((trp_1 _ _ _ q).trans (part_at (fun j => mvl f (r.ga j)) r.ga q)))))
              have yf1 := L0.fz (q * 3 + 1)
              refine wt_val1 24 74 (by kernel_rfl) rfl rfl rfl (by (repeat (first | (refine slot_hit (N := 137) ?_ (by rfl); (repeat (refine sz_put ?_)); assumption; done) | (apply slot_miss; focus rfl))); all_goals assumption) (v := ?_) (w' := ?_) (fun ev hk hv0 => ?_) ?_; rotate_left 2; focus (go_simp; first | rfl | (constructor <;> rfl))
              refine ⟨fun h => absurd h (by decide), ?_⟩
              refine wt_val1 25 96 (by kernel_rfl) rfl rfl rfl (by (repeat (first | (refine slot_hit (N := 137) ?_ (by rfl); (repeat (refine sz_put ?_)); assumption; done) | (apply slot_miss; focus rfl))); all_goals assumption) (v := ?_) (w' := ?_) (fun ev hk hv0 => ?_) ?_; rotate_left 2; focus (go_simp; first | rfl | (constructor <;> rfl))
              refine ⟨fun h => absurd h (by decide), ?_⟩
              refine wt_act2 26 97 87 (by kernel_rfl) rfl rfl rfl (by (repeat (first | (refine slot_hit (N := 137) ?_ (by rfl); (repeat (refine sz_put ?_)); assumption; done) | (apply slot_miss; focus rfl))); all_goals assumption) (by (repeat (first | (refine slot_hit (N := 137) ?_ (by rfl); (repeat (refine sz_put ?_)); assumption; done) | (apply slot_miss; focus rfl))); all_goals assumption) (w' := ?_) (fun ev hk hv0 hv1 => ?_) ?_; rotate_left; focus (go_simp; rfl)
              refine ⟨fun h => absurd h (by decide), ?_⟩
              have L1 := L0.set (q * 3 + 1) (.int .i64 (mvl f (r.ga q)))
              have y2 := (L1.cell (show q * 3 + 2 < r.na * 3 by omega)).trans (congrArg some ((if_neg (by omega)).trans ((if_neg (by omega)).trans (congrArg (Value.int .i64) ((trp_2 _ _ _ q).trans (part_at (fun j => mvl f (r.gb j)) r.gb q))))))
              have yf2 := L1.fz (q * 3 + 2)
              refine wt_val1 27 75 (by kernel_rfl) rfl rfl rfl (by (repeat (first | (refine slot_hit (N := 137) ?_ (by rfl); (repeat (refine sz_put ?_)); assumption; done) | (apply slot_miss; focus rfl))); all_goals assumption) (v := ?_) (w' := ?_) (fun ev hk hv0 => ?_) ?_; rotate_left 2; focus (go_simp; first | rfl | (constructor <;> rfl))
              refine ⟨fun h => absurd h (by decide), ?_⟩
              refine wt_val1 28 98 (by kernel_rfl) rfl rfl rfl (by (repeat (first | (refine slot_hit (N := 137) ?_ (by rfl); (repeat (refine sz_put ?_)); assumption; done) | (apply slot_miss; focus rfl))); all_goals assumption) (v := ?_) (w' := ?_) (fun ev hk hv0 => ?_) ?_; rotate_left 2; focus (go_simp; first | rfl | (constructor <;> rfl))
              refine ⟨fun h => absurd h (by decide), ?_⟩
              refine wt_act2 29 99 93 (by kernel_rfl) rfl rfl rfl (by (repeat (first | (refine slot_hit (N := 137) ?_ (by rfl); (repeat (refine sz_put ?_)); assumption; done) | (apply slot_miss; focus rfl))); all_goals assumption) (by (repeat (first | (refine slot_hit (N := 137) ?_ (by rfl); (repeat (refine sz_put ?_)); assumption; done) | (apply slot_miss; focus rfl))); all_goals assumption) (w' := ?_) (fun ev hk hv0 hv1 => ?_) ?_; rotate_left; focus (go_simp; rfl)
              refine ⟨fun h => absurd h (by decide), ?_⟩
              refine wt_done (by kernel_rfl) (NoPanic.normal ?_) _
              have ha := HA.out
              subst ha
              have HN := Lib.hid hQc.q3
              clear hS0 hQd hQa hbVa hs1 hsi hZ HQ3
              go_wp2
              go_roundw
              case rel => exact ⟨q + 1, by omega, by go_num, HN.out⟩
              case measure => simp [intOf]; omega
            · obtain rfl : q = r.na := by omega
              clear hlt hq
              go_wp2
              go_loopw [11] (fun i wr => ∃ q : Nat, q ≤ r.nb ∧ i = .int .i64 (q : Int) ∧ Mv w wr b5 (r.mvp f r.ni r.nl r.na q 0) ⟨some ⟨g1, 0, none⟩, some ⟨g2, 0, none⟩, some ⟨g3, 0, none⟩, some ⟨g4, 0, none⟩, some ⟨g5, 0, none⟩, k1, k2, k3, k4, k5⟩ g1 g2 g3 g4 g5 g mn f) (fun i _ => r.nb - (intOf i).toNat)
              case atStart => exact ⟨0, Nat.zero_le _, rfl, HQ3.out⟩
              case round =>
                clear HQ3
                obtain ⟨q, hq, rfl, hQ⟩ := hrel
                have HQ4 := Lib.hid hQ
                clear hQ
                obtain ⟨x0, x1, x2, x3, x4, x5⟩ := (show Has wr b5 32 (rc r ⟨some ⟨g1, 0, none⟩, some ⟨g2, 0, none⟩, some ⟨g3, 0, none⟩, some ⟨g4, 0, none⟩, some ⟨g5, 0, none⟩, k1, k2, k3, k4, k5⟩) from HQ4.out.h5).rbox
                by_cases hlt : q < r.nb
                · have hq0 : (0 : Int) ≤ (q : Int) := by omega
                  have hq1 : (q : Int) < (r.nb : Int) := by omega
                  have hbd := BD.out.2.2.2.1 q hlt
                  have TA : Hid (∀ W, Mv w W b5 (r.mvp f r.ni r.nl r.na q 0) ⟨some ⟨g1, 0, none⟩, some ⟨g2, 0, none⟩, some ⟨g3, 0, none⟩, some ⟨g4, 0, none⟩, some ⟨g5, 0, none⟩, k1, k2, k3, k4, k5⟩ g1 g2 g3 g4 g5 g mn f → Calls Try.prog 23 #[.slice (some ⟨g, 0, none⟩) (mn + 1) (mn + 1), .int .i64 (r.bd q)] W fun e w' => e = .returned (.int .i64 (mvl f (r.bd q))) ∧ Below W.heap.size W w') := fun W hW => hW.told H1.out HF.out hbd.1 hbd.2
                  have HC : Hid (∀ W, Mv w W b5 (r.mvp f r.ni r.nl r.na q 0) ⟨some ⟨g1, 0, none⟩, some ⟨g2, 0, none⟩, some ⟨g3, 0, none⟩, some ⟨g4, 0, none⟩, some ⟨g5, 0, none⟩, k1, k2, k3, k4, k5⟩ g1 g2 g3 g4 g5 g mn f → W.cell? ⟨b5, 4, none⟩ = some (.slice (some ⟨g4, 0, none⟩) r.nb k4) ∧ W.cell? ⟨g4, q, none⟩ = some (.int .i64 (r.bd q))) := fun W hW => ⟨(show Has W b5 32 (rc r ⟨some ⟨g1, 0, none⟩, some ⟨g2, 0, none⟩, some ⟨g3, 0, none⟩, some ⟨g4, 0, none⟩, some ⟨g5, 0, none⟩, k1, k2, k3, k4, k5⟩) from hW.h5).cell 4, (hW.l4.cell hlt).trans (congrArg (fun z => some (Value.int .i64 z)) (part_at (fun j => mvl f (r.bd j)) r.bd q))⟩
                  clear hbd
                  go_wp2
                  have hQd := HQ4.out.dn
                  refine wp_slots (fun f => Sz f 137 ∧ Slot f 1 (.slice (some ⟨g, 0, none⟩) (mn + 1) (mn + 1)) ∧ Slot f 5 (.pointer (some ⟨b5, 0, none⟩)) ∧ Slot f 11 (.int .i64 (q : Int))) ⟨⟨rfl, rfl⟩, ⟨rfl⟩, ⟨rfl⟩, ⟨rfl⟩⟩ fun a0' hA0 hR => ?_
                  obtain ⟨hZ, hs1, hs5, hsi⟩ := hR
                  have HA := Lib.hid hA0
                  clear hA0 x0 x1 x2 x3 x4 x5
                  have hS0 := HC.out wr.drew hQd
                  refine wp_region_T (fun W : World => W.cell? ⟨b5, 4, none⟩ = some (.slice (some ⟨g4, 0, none⟩) r.nb k4) ∧ W.cell? ⟨g4, q, none⟩ = some (.int .i64 (r.bd q))) 11 (by kernel_rfl) ?_
                  refine WT.h ?_
                  (refine wt_take1 0 5 (v := ?_) rfl rfl (by kernel_rfl) (by kernel_rfl) (by kernel_rfl) (by kernel_rfl) (fun _ _ _ h => h) rfl hS0 (by (repeat (first | (refine slot_hit (N := 137) ?_ (by rfl); (repeat (refine sz_put ?_)); assumption; done) | (apply slot_miss; focus rfl))); all_goals assumption) (fun ev hk hv0 w hS => ?_) ?_; rotate_left; focus (obtain ⟨j0, j1⟩ := hS; go_simp; rfl)); (refine wt_take1 1 107 (v := ?_) rfl rfl (by kernel_rfl) (by kernel_rfl) (by kernel_rfl) (by kernel_rfl) (fun _ _ _ h => h) rfl hS0 (by (repeat (first | (refine slot_hit (N := 137) ?_ (by rfl); (repeat (refine sz_put ?_)); assumption; done) | (apply slot_miss; focus rfl))); all_goals assumption) (fun ev hk hv0 w hS => ?_) ?_; rotate_left; focus (obtain ⟨j0, j1⟩ := hS; go_simp; rfl)); (refine wt_move 2 11 rfl rfl (by kernel_rfl) (by kernel_rfl) (by kernel_rfl) (by kernel_rfl) (fun _ _ _ h => h) rfl hS0 (by (repeat (first | (refine slot_hit (N := 137) ?_ (by rfl); (repeat (refine sz_put ?_)); assumption; done) | (apply slot_miss; focus rfl))); all_goals assumption) rfl ?_); (refine wt_move 3 1 rfl rfl (by kernel_rfl) (by kernel_rfl) (by kernel_rfl) (by kernel_rfl) (fun _ _ _ h => h) rfl hS0 (by (repeat (first | (refine slot_hit (N := 137) ?_ (by rfl); (repeat (refine sz_put ?_)); assumption; done) | (apply slot_miss; focus rfl))); all_goals assumption) rfl ?_); (refine wt_take1 4 5 (v := ?_) rfl rfl (by kernel_rfl) (by kernel_rfl) (by kernel_rfl) (by kernel_rfl) (fun _ _ _ h => h) rfl hS0 (by (repeat (first | (refine slot_hit (N := 137) ?_ (by rfl); (repeat (refine sz_put ?_)); assumption; done) | (apply slot_miss; focus rfl))); all_goals assumption) (fun ev hk hv0 w hS => ?_) ?_; rotate_left; focus (obtain ⟨j0, j1⟩ := hS; go_simp; rfl)); (refine wt_take1 5 111 (v := ?_) rfl rfl (by kernel_rfl) (by kernel_rfl) (by kernel_rfl) (by kernel_rfl) (fun _ _ _ h => h) rfl hS0 (by (repeat (first | (refine slot_hit (N := 137) ?_ (by rfl); (repeat (refine sz_put ?_)); assumption; done) | (apply slot_miss; focus rfl))); all_goals assumption) (fun ev hk hv0 w hS => ?_) ?_; rotate_left; focus (obtain ⟨j0, j1⟩ := hS; go_simp; rfl)); (refine wt_move 6 11 rfl rfl (by kernel_rfl) (by kernel_rfl) (by kernel_rfl) (by kernel_rfl) (fun _ _ _ h => h) rfl hS0 (by (repeat (first | (refine slot_hit (N := 137) ?_ (by rfl); (repeat (refine sz_put ?_)); assumption; done) | (apply slot_miss; focus rfl))); all_goals assumption) rfl ?_); (refine wt_take2 7 112 113 (v := ?_) rfl rfl (by kernel_rfl) (by kernel_rfl) (by kernel_rfl) (by kernel_rfl) (fun _ _ _ h => h) rfl hS0 (by (repeat (first | (refine slot_hit (N := 137) ?_ (by rfl); (repeat (refine sz_put ?_)); assumption; done) | (apply slot_miss; focus rfl))); all_goals assumption) (by (repeat (first | (refine slot_hit (N := 137) ?_ (by rfl); (repeat (refine sz_put ?_)); assumption; done) | (apply slot_miss; focus rfl))); all_goals assumption) (fun ev hk hv0 hv1 w hS => ?_) ?_; rotate_left; focus (obtain ⟨j0, j1⟩ := hS; go_simp; rfl)); (refine wt_take1 8 114 (v := ?_) rfl rfl (by kernel_rfl) (by kernel_rfl) (by kernel_rfl) (by kernel_rfl) (fun _ _ _ h => h) rfl hS0 (by (repeat (first | (refine slot_hit (N := 137) ?_ (by rfl); (repeat (refine sz_put ?_)); assumption; done) | (apply slot_miss; focus rfl))); all_goals assumption) (fun ev hk hv0 w hS => ?_) ?_; rotate_left; focus (obtain ⟨j0, j1⟩ := hS; go_simp; rfl))
                  refine wt_one 9 (by kernel_rfl) ?_
                  refine wb_call2 9 110 115 rfl rfl rfl (by (repeat (first | (refine slot_hit (N := 137) ?_ (by rfl); (repeat (refine sz_put ?_)); assumption; done) | (apply slot_miss; focus rfl))); all_goals assumption) (by (repeat (first | (refine slot_hit (N := 137) ?_ (by rfl); (repeat (refine sz_put ?_)); assumption; done) | (apply slot_miss; focus rfl))); all_goals assumption) (f := ?_) (args := ?_) (fun ev hk hkf hv0 hv1 => ?_) ?_
                  rotate_left 2
                  focus (go_simp; first | rfl | (constructor <;> rfl))
                  (with_reducible refine (TA.out _ hQd).mono ?_)
                  rintro e Va ⟨rfl, hbVa⟩
                  have hQa := hQd.on hbVa
                  clear hS0
                  have hS0 := HC.out Va hQa
                  refine ⟨_, rfl, fun _ => hS0, ?_⟩
                  (refine wt_take2 10 108 109 (v := ?_) rfl rfl (by kernel_rfl) (by kernel_rfl) (by kernel_rfl) (by kernel_rfl) (fun _ _ _ h => h) rfl hS0 (by (repeat (first | (refine slot_hit (N := 137) ?_ (by rfl); (repeat (refine sz_put ?_)); assumption; done) | (apply slot_miss; focus rfl))); all_goals assumption) (by (repeat (first | (refine slot_hit (N := 137) ?_ (by rfl); (repeat (refine sz_put ?_)); assumption; done) | (apply slot_miss; focus rfl))); all_goals assumption) (fun ev hk hv0 hv1 w hS => ?_) ?_; rotate_left; focus (obtain ⟨j0, j1⟩ := hS; go_simp; rfl))
                  have y8 := hS0.2
                  have yf8 := hQa.l4.fz q
                  refine wt_act2 11 117 116 (by kernel_rfl) rfl rfl rfl (by (repeat (first | (refine slot_hit (N := 137) ?_ (by rfl); (repeat (refine sz_put ?_)); assumption; done) | (apply slot_miss; focus rfl))); all_goals assumption) (by (repeat (first | (refine slot_hit (N := 137) ?_ (by rfl); (repeat (refine sz_put ?_)); assumption; done) | (apply slot_miss; focus rfl))); all_goals assumption) (w' := ?_) (fun ev hk hv0 hv1 => ?_) ?_; rotate_left; focus (go_simp; rfl)
                  refine ⟨fun h => absurd h (by decide), ?_⟩
                  refine wt_done (by kernel_rfl) (NoPanic.normal ?_) _
                  have ha := HA.out
                  subst ha
                  have HN := Lib.hid hQa.q4
                  clear hS0 y8 yf8 hQd hQa hbVa hs1 hs5 hsi hZ HQ4
                  go_wp2
                  go_roundw
                  case rel => exact ⟨q + 1, by omega, by go_num, HN.out⟩
                  case measure => simp [intOf]; omega
                · obtain rfl : q = r.nb := by omega
                  clear hlt hq
                  go_wp2
                  go_loopw [12] (fun i wr => ∃ q : Nat, q ≤ r.nc ∧ i = .int .i64 (q : Int) ∧ Mv w wr b5 (r.mvp f r.ni r.nl r.na r.nb q) ⟨some ⟨g1, 0, none⟩, some ⟨g2, 0, none⟩, some ⟨g3, 0, none⟩, some ⟨g4, 0, none⟩, some ⟨g5, 0, none⟩, k1, k2, k3, k4, k5⟩ g1 g2 g3 g4 g5 g mn f) (fun i _ => r.nc - (intOf i).toNat)
                  case atStart => exact ⟨0, Nat.zero_le _, rfl, HQ4.out⟩
                  case round =>
                    clear HQ4
                    obtain ⟨q, hq, rfl, hQ⟩ := hrel
                    have HQ5 := Lib.hid hQ
                    clear hQ
                    obtain ⟨x0, x1, x2, x3, x4, x5⟩ := (show Has wr b5 32 (rc r ⟨some ⟨g1, 0, none⟩, some ⟨g2, 0, none⟩, some ⟨g3, 0, none⟩, some ⟨g4, 0, none⟩, some ⟨g5, 0, none⟩, k1, k2, k3, k4, k5⟩) from HQ5.out.h5).rbox
                    by_cases hlt : q < r.nc
                    · have hq0 : (0 : Int) ≤ (q : Int) := by omega
                      have hq1 : (q : Int) < (r.nc : Int) := by omega
                      have hbd := BD.out.2.2.2.2 q hlt
                      have TA : Hid (∀ W, Mv w W b5 (r.mvp f r.ni r.nl r.na r.nb q) ⟨some ⟨g1, 0, none⟩, some ⟨g2, 0, none⟩, some ⟨g3, 0, none⟩, some ⟨g4, 0, none⟩, some ⟨g5, 0, none⟩, k1, k2, k3, k4, k5⟩ g1 g2 g3 g4 g5 g mn f → Calls Try.prog 23 #[.slice (some ⟨g, 0, none⟩) (mn + 1) (mn + 1), .int .i64 (r.cn q)] W fun e w' => e = .returned (.int .i64 (mvl f (r.cn q))) ∧ Below W.heap.size W w') := fun W hW => hW.told H1.out HF.out hbd.1 hbd.2
                      have HC : Hid (∀ W, Mv w W b5 (r.mvp f r.ni r.nl r.na r.nb q) ⟨some ⟨g1, 0, none⟩, some ⟨g2, 0, none⟩, some ⟨g3, 0, none⟩, some ⟨g4, 0, none⟩, some ⟨g5, 0, none⟩, k1, k2, k3, k4, k5⟩ g1 g2 g3 g4 g5 g mn f → W.cell? ⟨b5, 5, none⟩ = some (.slice (some ⟨g5, 0, none⟩) r.nc k5) ∧ W.cell? ⟨g5, q, none⟩ = some (.int .i64 (r.cn q))) := fun W hW => ⟨(show Has W b5 32 (rc r ⟨some ⟨g1, 0, none⟩, some ⟨g2, 0, none⟩, some ⟨g3, 0, none⟩, some ⟨g4, 0, none⟩, some ⟨g5, 0, none⟩, k1, k2, k3, k4, k5⟩) from hW.h5).cell 5, (hW.l5.cell hlt).trans (congrArg (fun z => some (Value.int .i64 z)) (part_at (fun j => mvl f (r.cn j)) r.cn q))⟩
                      clear hbd
                      go_wp2
                      have hQd := HQ5.out.dn
                      refine wp_slots (fun f => Sz f 137 ∧ Slot f 1 (.slice (some ⟨g, 0, none⟩) (mn + 1) (mn + 1)) ∧ Slot f 5 (.pointer (some ⟨b5, 0, none⟩)) ∧ Slot f 12 (.int .i64 (q : Int))) ⟨⟨rfl, rfl⟩, ⟨rfl⟩, ⟨rfl⟩, ⟨rfl⟩⟩ fun a0' hA0 hR => ?_
                      obtain ⟨hZ, hs1, hs5, hsi⟩ := hR
                      have HA := Lib.hid hA0
                      clear hA0 x0 x1 x2 x3 x4 x5
                      have hS0 := HC.out wr.drew hQd
                      refine wp_region_T (fun W : World => W.cell? ⟨b5, 5, none⟩ = some (.slice (some ⟨g5, 0, none⟩) r.nc k5) ∧ W.cell? ⟨g5, q, none⟩ = some (.int .i64 (r.cn q))) 11 (by kernel_rfl) ?_
                      refine WT.h ?_
                      (refine wt_take1 0 5 (v := ?_) rfl rfl (by kernel_rfl) (by kernel_rfl) (by kernel_rfl) (by kernel_rfl) (fun _ _ _ h => h) rfl hS0 (by (repeat (first | (refine slot_hit (N := 137) ?_ (by rfl); (repeat (refine sz_put ?_)); assumption; done) | (apply slot_miss; focus rfl))); all_goals assumption) (fun ev hk hv0 w hS => ?_) ?_; rotate_left; focus (obtain ⟨j0, j1⟩ := hS; go_simp; rfl)); (refine wt_take1 1 125 (v := ?_) rfl rfl (by kernel_rfl) (by kernel_rfl) (by kernel_rfl) (by kernel_rfl) (fun _ _ _ h => h) rfl hS0 (by (repeat (first | (refine slot_hit (N := 137) ?_ (by rfl); (repeat (refine sz_put ?_)); assumption; done) | (apply slot_miss; focus rfl))); all_goals assumption) (fun ev hk hv0 w hS => ?_) ?_; rotate_left; focus (obtain ⟨j0, j1⟩ := hS; go_simp; rfl)); (refine wt_move 2 12 rfl rfl (by kernel_rfl) (by kernel_rfl) (by kernel_rfl) (by kernel_rfl) (fun _ _ _ h => h) rfl hS0 (by (repeat (first | (refine slot_hit (N := 137) ?_ (by rfl); (repeat (refine sz_put ?_)); assumption; done) | (apply slot_miss; focus rfl))); all_goals assumption) rfl ?_); (refine wt_move 3 1 rfl rfl (by kernel_rfl) (by kernel_rfl) (by kernel_rfl) (by kernel_rfl) (fun _ _ _ h => h) rfl hS0 (by (repeat (first | (refine slot_hit (N := 137) ?_ (by rfl); (repeat (refine sz_put ?_)); assumption; done) | (apply slot_miss; focus rfl))); all_goals assumption) rfl ?_); (refine wt_take1 4 5 (v := ?_) rfl rfl (by kernel_rfl) (by kernel_rfl) (by kernel_rfl) (by kernel_rfl) (fun _ _ _ h => h) rfl hS0 (by (repeat (first | (refine slot_hit (N := 137) ?_ (by rfl); (repeat (refine sz_put ?_)); assumption; done) | (apply slot_miss; focus rfl))); all_goals assumption) (fun ev hk hv0 w hS => ?_) ?_; rotate_left; focus (obtain ⟨j0, j1⟩ := hS; go_simp; rfl)); (refine wt_take1 5 129 (v := ?_) rfl rfl (by kernel_rfl) (by kernel_rfl) (by kernel_rfl) (by kernel_rfl) (fun _ _ _ h => h) rfl hS0 (by (repeat (first | (refine slot_hit (N := 137) ?_ (by rfl); (repeat (refine sz_put ?_)); assumption; done) | (apply slot_miss; focus rfl))); all_goals assumption) (fun ev hk hv0 w hS => ?_) ?_; rotate_left; focus (obtain ⟨j0, j1⟩ := hS; go_simp; rfl)); (refine wt_move 6 12 rfl rfl (by kernel_rfl) (by kernel_rfl) (by kernel_rfl) (by kernel_rfl) (fun _ _ _ h => h) rfl hS0 (by (repeat (first | (refine slot_hit (N := 137) ?_ (by rfl); (repeat (refine sz_put ?_)); assumption; done) | (apply slot_miss; focus rfl))); all_goals assumption) rfl ?_); (refine wt_take2 7 130 131 (v := ?_) rfl rfl (by kernel_rfl) (by kernel_rfl) (by kernel_rfl) (by kernel_rfl) (fun _ _ _ h => h) rfl hS0 (by (repeat (first | (refine slot_hit (N := 137) ?_ (by rfl); (repeat (refine sz_put ?_)); assumption; done) | (apply slot_miss; focus rfl))); all_goals assumption) (by (repeat (first | (refine slot_hit (N := 137) ?_ (by rfl); (repeat (refine sz_put ?_)); assumption; done) | (apply slot_miss; focus rfl))); all_goals assumption) (fun ev hk hv0 hv1 w hS => ?_) ?_; rotate_left; focus (obtain ⟨j0, j1⟩ := hS; go_simp; rfl)); (refine wt_take1 8 132 (v := ?_) rfl rfl (by kernel_rfl) (by kernel_rfl) (by kernel_rfl) (by kernel_rfl) (fun _ _ _ h => h) rfl hS0 (by (repeat (first | (refine slot_hit (N := 137) ?_ (by rfl); (repeat (refine sz_put ?_)); assumption; done) | (apply slot_miss; focus rfl))); all_goals assumption) (fun ev hk hv0 w hS => ?_) ?_; rotate_left; focus (obtain ⟨j0, j1⟩ := hS; go_simp; rfl))
                      refine wt_one 9 (by kernel_rfl) ?_
                      refine wb_call2 9 128 133 rfl rfl rfl (by (repeat (first | (refine slot_hit (N := 137) ?_ (by rfl); (repeat (refine sz_put ?_)); assumption; done) | (apply slot_miss; focus rfl))); all_goals assumption) (by (repeat (first | (refine slot_hit (N := 137) ?_ (by rfl); (repeat (refine sz_put ?_)); assumption; done) | (apply slot_miss; focus rfl))); all_goals assumption) (f := ?_) (args := ?_) (fun ev hk hkf hv0 hv1 => ?_) ?_
                      rotate_left 2
                      focus (go_simp; first | rfl | (constructor <;> rfl))
                      (with_reducible refine (TA.out _ hQd).mono ?_)
                      rintro e Va ⟨rfl, hbVa⟩
                      have hQa := hQd.on hbVa
                      clear hS0
                      have hS0 := HC.out Va hQa
                      refine ⟨_, rfl, fun _ => hS0, ?_⟩
                      (refine wt_take2 10 126 127 (v := ?_) rfl rfl (by kernel_rfl) (by kernel_rfl) (by kernel_rfl) (by kernel_rfl) (fun _ _ _ h => h) rfl hS0 (by (repeat (first | (refine slot_hit (N := 137) ?_ (by rfl); (repeat (refine sz_put ?_)); assumption; done) | (apply slot_miss; focus rfl))); all_goals assumption) (by (repeat (first | (refine slot_hit (N := 137) ?_ (by rfl); (repeat (refine sz_put ?_)); assumption; done) | (apply slot_miss; focus rfl))); all_goals assumption) (fun ev hk hv0 hv1 w hS => ?_) ?_; rotate_left; focus (obtain ⟨j0, j1⟩ := hS; go_simp; rfl))
                      have y8 := hS0.2
                      have yf8 := hQa.l5.fz q
                      refine wt_act2 11 135 134 (by kernel_rfl) rfl rfl rfl (by (repeat (first | (refine slot_hit (N := 137) ?_ (by rfl); (repeat (refine sz_put ?_)); assumption; done) | (apply slot_miss; focus rfl))); all_goals assumption) (by (repeat (first | (refine slot_hit (N := 137) ?_ (by rfl); (repeat (refine sz_put ?_)); assumption; done) | (apply slot_miss; focus rfl))); all_goals assumption) (w' := ?_) (fun ev hk hv0 hv1 => ?_) ?_; rotate_left; focus (go_simp; rfl)
                      refine ⟨fun h => absurd h (by decide), ?_⟩
                      refine wt_done (by kernel_rfl) (NoPanic.normal ?_) _
                      have ha := HA.out
                      subst ha
                      have HN := Lib.hid hQa.q5
                      clear hS0 y8 yf8 hQd hQa hbVa hs1 hs5 hsi hZ HQ5
                      go_wp2
                      go_roundw
                      case rel => exact ⟨q + 1, by omega, by go_num, HN.out⟩
                      case measure => simp [intOf]; omega
                    · obtain rfl : q = r.nc := by omega
                      clear hlt hq
                      obtain ⟨⟨z0, z1, z2, z3, z4, z5⟩, f0, f1, f2, f3, f4, f5⟩ := HQ5.out.h4.zr6
                      have hlo := HQ5.out.lo
                      have HE := Lib.hid (And.intro (mvp_end HQ5.out.fin) HQ5.out.B)
                      clear HQ5
                      go_wp2
                      refine bodyPost_ret (v := rv (r.mv f) ⟨some ⟨g1, 0, none⟩, some ⟨g2, 0, none⟩, some ⟨g3, 0, none⟩, some ⟨g4, 0, none⟩, some ⟨g5, 0, none⟩, k1, k2, k3, k4, k5⟩) (by simp [results, Try.results24, go_sem, z0, z1, z2, z3, z4, z5]; exact ⟨rfl, rfl, rfl, rfl, rfl, rfl⟩) rfl ⟨⟨some ⟨g1, 0, none⟩, some ⟨g2, 0, none⟩, some ⟨g3, 0, none⟩, some ⟨g4, 0, none⟩, some ⟨g5, 0, none⟩, k1, k2, k3, k4, k5⟩, rfl, ?_, ⟨(fun h => by cases h), (fun h => by cases h), (fun h => by cases h), (fun h => by cases h), (fun h => by cases h)⟩, below_set6 HE.out.2 (show w.heap.size ≤ w.heap.size + 1 by omega) _ _ _ _ _ _⟩
                      exact RMem.set6 HE.out.1 ⟨(fun a e => by cases e; show g1 ≠ _; omega), (fun a e => by cases e; show g2 ≠ _; omega), (fun a e => by cases e; show g3 ≠ _; omega), (fun a e => by cases e; show g4 ≠ _; omega), (fun a e => by cases e; show g5 ≠ _; omega)⟩ _ _ _ _ _ _

end Go.Proofs.Ytpdfdbnmohippaa
