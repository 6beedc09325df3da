/- The package ascii: numbers, rows of bytes, lines, Raw. -/
import Derived.Test.YtbppdifghkkooaaDoorAsciiMath
import Derived.Test.YtbppdifghkkooaaDoorAsciiBd
import Derived.Test.YtbppdifghkkooaaDoorOrderProg9
import Derived.Test.YtbppdifghkkooaaDoorShelf
import Derived.Lib.BufferRead
import Derived.ArgAppend
import Derived.Lib.SlBytesConst
namespace Go.Proofs.YtbppdifghkkooaaDoor
open Go.RowKit
set_option linter.unusedVariables false
set_option linter.unusedSimpArgs false

/-- the table of powers of ten reads as it should, whatever the call does from block B on -/
def Tab (B : Nat) (w : World) : Prop := Lib.TabBelow Tryd.prog B w "internal/strconv.uint64pow10" .u64 Lib.pow10Tab
theorem Tab.on {B : Nat} {w w1 : World} (h : Tab B w) (hb : Below B w w1) : Tab B w1 := Lib.TabBelow.on h hb
/-- a row of bytes that the call owns -/
def Txt (B : Nat) (w : World) (v : Value) (l : List UInt8) : Prop := w.ownsRow B 5 1 v l.length (Lib.byteCells l)
/-- what an appender leaves -/
def TxtIs (B : Nat) (l : List UInt8) (w : World) (e : Ending) (w' : World) : Prop := ∃ v, e = .returned v ∧ Txt B w' v l ∧ Below B w w' ∧ Lib.OthersKept 5 none w w'
/-- a list of ints that appenders leave alone -/
def Lst (B : Nat) (w : World) (A : Option Addr) (n : Nat) (f : Nat → Int) : Prop := ∀ w', Below B w w' → Lib.OthersKept 5 none w w' → IntsAt w' w'.heap.size A n f

theorem Txt.nil (B : Nat) (w : World) : Txt B w (.slice none 0 0) [] := World.ownsRow_nil _ _ _ _
theorem Txt.mk {B n : Nat} {w : World} {v : Value} {l : List UInt8} {xs : List Value} (h : w.ownsRow B 5 1 v n xs) (hn : n = l.length) (hx : xs = Lib.byteCells l) : Txt B w v l := by subst hn hx; exact h
theorem Txt.app {B n : Nat} {w : World} {v : Value} {l m : List UInt8} (h : w.ownsRow B 5 1 v (l.length + n) (Lib.byteCells l ++ Lib.byteCells m)) (hn : n = m.length) : Txt B w v (l ++ m) :=
  Txt.mk h (by rw [List.length_append, hn]) (by rw [Lib.byteCells_append])
theorem own_cells {w : World} {base : Nat} {e : TypeId} {size n : Nat} {v : Value} {xs : List Value} (h : w.ownsRow base e size v n xs) (g : Nat) (hg : v.ownBlock = some g) : ∃ c fz, w.heap[g]? = some (.cells c e fz) := by
  rcases h.2 with ⟨rfl, _⟩ | ⟨g', cap, cur, rfl, hb, hh, _⟩
  · cases hg
  · obtain rfl : g' = g := by simpa [Value.ownBlock] using hg
    exact ⟨cur, _, hh⟩
theorem Lst.to {B : Nat} {w w' : World} {A : Option Addr} {n : Nat} {f : Nat → Int} (h : Lst B w A n f) (hb : Below B w w') (hk : Lib.OthersKept 5 none w w') : Lst B w' A n f := fun w2 hb2 hk2 => h w2 (hb.trans hb2) (hk.trans hk2)
/-- a list that came in -/
theorem Lst.old {B : Nat} {w : World} {A : Option Addr} {n : Nat} {f : Nat → Int} (h : IntsAt w B A n f) (hB : B ≤ w.heap.size) : Lst B w A n f := fun w' hb _ => (h.keep hb).more (Nat.le_trans hB hb.size)
/-- a list that the call has just laid -/
theorem Lst.new {B g : Nat} {w : World} {cs : Array Value} {n : Nat} {f : Nat → Int} (hg : w.heap.size = g) (hc : ∀ j, j < n → cs[j]? = some (.int .i64 (f j))) : Lst B (w.alloc (.cells cs 3)) (some ⟨g, 0, none⟩) n f := fun w' hb hk hn => by
  subst hg
  have h := hk w.heap.size (.cells cs 3) (heap_alloc_new w _) (by simp) (fun c fz e => by injection e with _ e2 _; exact absurd e2 (by decide))
  have hH : Has w' w.heap.size 3 cs := h
  refine ⟨_, rfl, hH.lt, fun j hj => ?_⟩
  have := hH.cell j
  rw [hc j hj] at this
  have e : (⟨w.heap.size, 0, none⟩ : Addr).add j = ⟨w.heap.size, j, none⟩ := by unfold Addr.add; split <;> simp_all
  rw [e]; exact this

theorem info_u8 : (Tryd.prog.info? 5).map (fun i => (i.zero, i.size, i.bytes)) = some (some (.int .u8 0), 1, 1) := by kernel_rfl

end Go.Proofs.YtbppdifghkkooaaDoor

namespace Go.Proofs.YtbppdifghkkooaaDoor
open Go.RowKit Go.Sort
set_option linter.unusedVariables false
set_option linter.unusedSimpArgs false

/-- a row of bytes without room: its cells -/
def Full (w : World) (b : Addr) (l : List UInt8) : Prop := b.block < w.heap.size ∧ ∀ j u, (Lib.byteCells l)[j]? = some u → w.cell? (b.add j) = some u
theorem Full.keep {w w' : World} {b : Addr} {l : List UInt8} (h : Full w b l) (hb : Below w.heap.size w w') : Full w' b l := ⟨Nat.lt_of_lt_of_le h.1 hb.size, fun j u hj => (hb.cell (by rw [add_block]; exact h.1)).trans (h.2 j u hj)⟩

theorem full_str (w : World) (b : Addr) (l : List UInt8) (hf : Full w b l) (s : ByteArray) (h1 : 0 < s.size) (hb : l.length + s.size ≤ 100000) (ty : TypeId) :
    ∃ v' w', (Builtin.append_ #[54, 9] ty #[.slice (some b) l.length l.length, .string s]).run Tryd.prog w = .ok v' w' ∧ w'.ownsRow w.heap.size 5 1 v' (l.length + s.size) (Lib.byteCells l ++ Lib.strCells s) ∧ w.grownBy w' none := by
  obtain ⟨i0, hi, hz, hs1, hby⟩ := info_parts info_u8
  have hge := grownCap_ge w (l.length + s.size) l.length 5
  have hcm := grownCap_le_maxLen w (l.length + s.size) l.length 5 (by simp only [maxLen]; omega)
  have hr := Lib.run_append_grow_string (P := Tryd.prog) w 54 9 ty 5 i0 (.int .u8 0) Tryd.underlying54 Tryd.underlying9 hi hz b l.length l.length (Lib.byteCells l) (by rw [hs1, Lib.byteCells_length]; omega) hf.2 s (by omega) (by omega) (growslice_fits (by omega) (by rw [hby]; omega))
  have hl : (Lib.byteCells l ++ Lib.strCells s).length = (l.length + s.size) * 1 := by rw [List.length_append, Lib.byteCells_length, Lib.strCells_length]; omega
  refine ⟨_, _, hr, ⟨hl, .inr ⟨w.heap.size, _, _, rfl, Nat.le_refl _, heap_alloc_new w.drew _, hge, hcm, ?_, ?_⟩⟩, ⟨rfl, rfl, rfl, by simp, fun k hk _ => heap_alloc_old w.drew _ hk⟩⟩
  · simp only [Array.size_append, List.size_toArray, size_zeroCells, Lib.byteCells_length, Lib.strCells_length]
    have : (Value.int IntKind.u8 0).cells.size = 1 := rfl
    rw [this]; omega
  · simp only [Array.toList_append, List.append_assoc]
    rw [← List.append_assoc, ← hl]
    exact List.take_left

theorem wp_full_str {ops : Array Oper} {rest : List Oper} {o : Oper} {a : Act} {Q : Exit → Act → World → Prop} (hgd : o.guard = none) (sl x : Operand)
    (ho : o.op = .call { callee := .builtin .append, args := #[sl, x], argTypes := #[54, 9] })
    (w : World) (b : Addr) (l : List UInt8) (hf : Full w b l) (hs : a.eval sl = .slice (some b) l.length l.length) (s : ByteArray) (hx : a.eval x = .string s) (h1 : 0 < s.size) (hb : l.length + s.size ≤ 100000)
    (h : ∀ v' w', w'.ownsRow w.heap.size 5 1 v' (l.length + s.size) (Lib.byteCells l ++ Lib.strCells s) → w.grownBy w' none → wpList Tryd.prog ops Q rest (a.put o.dst v') w') : wpList Tryd.prog ops Q (o :: rest) a w := by
  refine wpList_plain hgd fun K hK => ?_
  obtain ⟨v', w', hr, h2, h3⟩ := full_str w b l hf s h1 hb o.type
  unfold Oper.wp execOp
  simp only [ho, resolve, invoke, builtin, Sem.run_bind, Sem.run_pure, Result.andThen_ok, List.map_toArray, List.map_cons, List.map_nil, hs, hx, hr]
  exact hK _ _ (h v' w' h2 h3)

theorem grown_kept {w w' : World} {B : Nat} (h : w.grownBy w' none) (hB : B ≤ w.heap.size) : Below B w w' ∧ Lib.OthersKept 5 none w w' :=
  ⟨(Below.refl B w).grown h hB (fun k hk => by cases hk), (Lib.OthersKept.refl _ _ _).grown h (fun g hg => by cases hg)⟩

end Go.Proofs.YtbppdifghkkooaaDoor

namespace Go.Proofs.YtbppdifghkkooaaDoor
open Go.RowKit
set_option linter.unusedVariables false
set_option linter.unusedSimpArgs false

theorem lst2 {cs : Array Value} {x y : Int} (h : cs = #[.int .i64 x, .int .i64 y]) {z : Int} : ∀ j, j < 2 → cs[j]? = some (.int .i64 (tri x y z j)) := fun j hj => by
  subst h
  rcases (show j = 0 ∨ j = 1 by omega) with rfl | rfl <;> rfl
theorem lst3 {cs : Array Value} {x y z : Int} (h : cs = #[.int .i64 x, .int .i64 y, .int .i64 z]) : ∀ j, j < 3 → cs[j]? = some (.int .i64 (tri x y z j)) := fun j hj => by
  subst h
  rcases (show j = 0 ∨ j = 1 ∨ j = 2 by omega) with rfl | rfl | rfl <;> rfl
theorem TxtIs.step {B : Nat} {l : List UInt8} {w w1 : World} {e : Ending} {w' : World} (h : TxtIs B l w1 e w') (hb : Below B w w1) (hk : Lib.OthersKept 5 none w w1) : TxtIs B l w e w' := by
  obtain ⟨v, he, ho, hb1, hk1⟩ := h
  exact ⟨v, he, ho, hb.trans hb1, hk.trans hk1⟩
theorem kept_al {B : Nat} {w : World} (hB : B ≤ w.heap.size) (o : Obj) : Below B w (w.alloc o) ∧ Lib.OthersKept 5 none w (w.alloc o) := ⟨(Below.refl _ _).alloc hB o, (Lib.OthersKept.refl _ _ _).alloc o⟩

theorem Tab.up {B C : Nat} {w : World} (h : Tab B w) (hC : B ≤ C) : Tab C w := fun w' hb => h w' (hb.mono hC)
theorem hd_cells (r : Rw) : ∀ j, j < 7 → (#[.int .i64 r.m, .int .i64 r.ni, .int .i64 r.nl, .int .i64 0, .int .i64 r.na, .int .i64 r.nb, .int .i64 r.nc] : Array Value)[j]? = some (.int .i64 (r.hd j)) := fun j hj => by
  rcases (show j = 0 ∨ j = 1 ∨ j = 2 ∨ j = 3 ∨ j = 4 ∨ j = 5 ∨ j = 6 by omega) with rfl | rfl | rfl | rfl | rfl | rfl | rfl <;> rfl
/-- bytes as a string -/
theorem txt_string {B : Nat} {w : World} {v : Value} {l : List UInt8} (h : Txt B w v l) : (convert 54 9 v).run Tryd.prog w = .ok (.string ⟨l.toArray⟩) w := by
  rcases h.2 with ⟨rfl, hn⟩ | ⟨g, cap, cur, rfl, hb, hh, hk, hm, htk⟩
  · have : l = [] := List.eq_nil_of_length_eq_zero hn
    subst this
    exact Lib.run_convert_nil_bytes w 54 9 5 0 Tryd.underlying54 Tryd.underlying5 Tryd.underlying9
  · exact run_convert_bytes_back w 54 9 5 ⟨g, 0, none⟩ cap l Tryd.underlying54 Tryd.underlying5 Tryd.underlying9 (fun j hj => (show w.ownsRow B 5 1 _ l.length (Lib.byteCells l) from h).cells (g := g) rfl j _ (by simp [Lib.byteCells, hj]))

theorem hd_bd {r : Rw} (h : Bd r) : ∀ j, j < 7 → 0 ≤ r.hd j ∧ r.hd j ≤ 9999 := fun j _ => by
  have := h.m; have := h.n; have := h.nb; have := h.nc
  unfold Rw.hd
  repeat' split
  all_goals omega
namespace Rw
/-- the text up to some line -/
def t1 (r : Rw) : List UInt8 := [97, 97, 103, 32] ++ lin r.hd 7
def t2 (r : Rw) : List UInt8 := r.t1 ++ ech r.ip r.ni
def t3 (r : Rw) (q : Nat) : List UInt8 := r.t2 ++ lts r.ll r.la r.lb q
def t4 (r : Rw) : List UInt8 := r.t3 r.nl ++ ech r.bd r.nb
def t5 (r : Rw) : List UInt8 := r.t4 ++ ech r.cn r.nc
def t6 (r : Rw) (q : Nat) : List UInt8 := r.t5 ++ gts r.gl r.ga r.gb q
theorem t6_txt (r : Rw) : r.t6 r.na = r.txt := rfl
theorem t3_0 (r : Rw) : r.t3 0 = r.t2 := by simp [t3, lts]
theorem t6_0 (r : Rw) : r.t6 0 = r.t5 := by simp [t6, gts]
theorem t3_succ (r : Rw) (q : Nat) : r.t3 q ++ lin (tri (r.ll q) (r.la q) (lt3 (r.ll q) (r.lb q))) (ltn (r.lb q)) = r.t3 (q + 1) := by simp [t3, lts, List.append_assoc]
theorem t6_succ (r : Rw) (q : Nat) : r.t6 q ++ lin (tri (r.gl q) (r.ga q) (r.gb q)) 3 = r.t6 (q + 1) := by simp [t6, gts, List.append_assoc]
theorem t_len {r : Rw} (h : Bd r) : r.t1.length ≤ 40 ∧ r.t2.length ≤ 7000 ∧ (∀ q, q ≤ r.nl → (r.t3 q).length ≤ 30000) ∧ r.t4.length ≤ 31000 ∧ r.t5.length ≤ 32000 ∧ ∀ q, q ≤ r.na → (r.t6 q).length ≤ 50000 := by
  have h1 : r.t1.length ≤ 40 := by
    have := lin_len (f := r.hd) (n := 7) (hd_bd h)
    unfold t1; rw [List.length_append]
    show 4 + _ ≤ 40
    omega
  have hn := h.n; have := h.nb; have := h.nc
  have h2 : r.t2.length ≤ 7000 := by
    have := ech_len h.ip
    unfold t2; rw [List.length_append]; omega
  have h3 : ∀ q, q ≤ r.nl → (r.t3 q).length ≤ 30000 := fun q hq => by
    have := lts_len (h := r.lb) (n := q) (fun j hj => h.ll j (by omega)) (fun j hj => h.la j (by omega))
    unfold t3; rw [List.length_append]; omega
  have h4 : r.t4.length ≤ 31000 := by
    have := ech_len h.bd
    have := h3 r.nl (Nat.le_refl _)
    unfold t4; rw [List.length_append]; omega
  have h5 : r.t5.length ≤ 32000 := by
    have := ech_len h.cn
    unfold t5; rw [List.length_append]; omega
  refine ⟨h1, h2, h3, h4, h5, fun q hq => ?_⟩
  have := gts_len (n := q) (fun j hj => h.gl j (by omega)) (fun j hj => h.ga j (by omega)) (fun j hj => h.gb j (by omega))
  unfold t6; rw [List.length_append]; omega
/-- what Raw returns -/
def txtE (r : Rw) : List UInt8 := if r.chk = 0 then r.txt else []
def lnsE (r : Rw) : Int := if r.chk = 0 then r.lns else 0
end Rw

end Go.Proofs.YtbppdifghkkooaaDoor
