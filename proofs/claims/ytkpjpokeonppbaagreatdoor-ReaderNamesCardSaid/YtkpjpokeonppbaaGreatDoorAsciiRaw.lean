/- The package ascii: numbers, rows of bytes, lines, Raw. -/
import Derived.Test.YtkpjpokeonppbaaGreatDoorAsciiMath
import Derived.Test.YtkpjpokeonppbaaGreatDoorAsciiBd
import Derived.Test.YtkpjpokeonppbaaGreatDoorOrderProg9
import Derived.Test.YtkpjpokeonppbaaGreatDoorShelf
import Derived.Lib.BufferRead
import Derived.ArgAppend
import Derived.Lib.SlBytesConst
namespace Go.Proofs.YtkpjpokeonppbaaGreatDoor
open Go.RowKit
set_option linter.unusedVariables false
set_option linter.unusedSimpArgs false

/-- the table of powers of ten reads as it should, whatever the call does from block B on -/
def Tab (B : Nat) (w : World) : Prop := Lib.TabBelow Tryz.prog B w "internal/strconv.uint64pow10" .u64 Lib.pow10Tab
theorem Tab.on {B : Nat} {w w1 : World} (h : Tab B w) (hb : Below B w w1) : Tab B w1 := Lib.TabBelow.on h hb
/-- a row of bytes that the call owns -/
def Txt (B : Nat) (w : World) (v : Value) (l : List UInt8) : Prop := w.ownsRow B 5 1 v l.length (Lib.byteCells l)
/-- what an appender leaves -/
def TxtIs (B : Nat) (l : List UInt8) (w : World) (e : Ending) (w' : World) : Prop := ∃ v, e = .returned v ∧ Txt B w' v l ∧ Below B w w' ∧ Lib.OthersKept 5 none w w'
/-- a list of ints that appenders leave alone -/
def Lst (B : Nat) (w : World) (A : Option Addr) (n : Nat) (f : Nat → Int) : Prop := ∀ w', Below B w w' → Lib.OthersKept 5 none w w' → IntsAt w' w'.heap.size A n f

theorem Txt.nil (B : Nat) (w : World) : Txt B w (.slice none 0 0) [] := World.ownsRow_nil _ _ _ _
theorem Txt.mk {B n : Nat} {w : World} {v : Value} {l : List UInt8} {xs : List Value} (h : w.ownsRow B 5 1 v n xs) (hn : n = l.length) (hx : xs = Lib.byteCells l) : Txt B w v l := by subst hn hx; exact h
theorem Txt.app {B n : Nat} {w : World} {v : Value} {l m : List UInt8} (h : w.ownsRow B 5 1 v (l.length + n) (Lib.byteCells l ++ Lib.byteCells m)) (hn : n = m.length) : Txt B w v (l ++ m) :=
  Txt.mk h (by rw [List.length_append, hn]) (by rw [Lib.byteCells_append])
theorem own_cells {w : World} {base : Nat} {e : TypeId} {size n : Nat} {v : Value} {xs : List Value} (h : w.ownsRow base e size v n xs) (g : Nat) (hg : v.ownBlock = some g) : ∃ c fz, w.heap[g]? = some (.cells c e fz) := by
  rcases h.2 with ⟨rfl, _⟩ | ⟨g', cap, cur, rfl, hb, hh, _⟩
  · cases hg
  · obtain rfl : g' = g := by simpa [Value.ownBlock] using hg
    exact ⟨cur, _, hh⟩
theorem Lst.to {B : Nat} {w w' : World} {A : Option Addr} {n : Nat} {f : Nat → Int} (h : Lst B w A n f) (hb : Below B w w') (hk : Lib.OthersKept 5 none w w') : Lst B w' A n f := fun w2 hb2 hk2 => h w2 (hb.trans hb2) (hk.trans hk2)
/-- a list that came in -/
theorem Lst.old {B : Nat} {w : World} {A : Option Addr} {n : Nat} {f : Nat → Int} (h : IntsAt w B A n f) (hB : B ≤ w.heap.size) : Lst B w A n f := fun w' hb _ => (h.keep hb).more (Nat.le_trans hB hb.size)
/-- a list that the call has just laid -/
theorem Lst.new {B g : Nat} {w : World} {cs : Array Value} {n : Nat} {f : Nat → Int} (hg : w.heap.size = g) (hc : ∀ j, j < n → cs[j]? = some (.int .i64 (f j))) : Lst B (w.alloc (.cells cs 3)) (some ⟨g, 0, none⟩) n f := fun w' hb hk hn => by
  subst hg
  have h := hk w.heap.size (.cells cs 3) (heap_alloc_new w _) (by simp) (fun c fz e => by injection e with _ e2 _; exact absurd e2 (by decide))
  have hH : Has w' w.heap.size 3 cs := h
  refine ⟨_, rfl, hH.lt, fun j hj => ?_⟩
  have := hH.cell j
  rw [hc j hj] at this
  have e : (⟨w.heap.size, 0, none⟩ : Addr).add j = ⟨w.heap.size, j, none⟩ := by unfold Addr.add; split <;> simp_all
  rw [e]; exact this

theorem info_u8 : (Tryz.prog.info? 5).map (fun i => (i.zero, i.size, i.bytes)) = some (some (.int .u8 0), 1, 1) := by kernel_rfl

set_option maxRecDepth 100000 in
set_option maxHeartbeats 4000000 in
theorem nums_any (B : Nat) (l : List UInt8) (v : Value) (A : Option Addr) (N k : Nat) (f : Nat → Int) (w : World) (ht : Txt B w v l) (hB : B ≤ w.heap.size) (hL : Lst B w A N f) (htab : Tab B w) (hf : ∀ j, j < N → 0 ≤ f j ∧ f j ≤ 9999) (hN : N ≤ 1000) (hl : l.length ≤ 1000000) :
    Calls Tryz.prog 36 #[v, .slice A N k] w (TxtIs B (l ++ lin f N) w) := by
  obtain ⟨i0, hi0, hzz0, hs0, hy0⟩ := info_parts info_u8
  have HF := Lib.hid hf
  have HT := Lib.hid htab
  have HLL := Lib.hid hL
  have HP := Lib.hid (fun q (hq : q ≤ N) => par_len (f := f) (n := q) fun j hj => hf j (by omega))
  have hn0 : Txt B w v (l ++ par f 0) := by simpa [par] using ht
  clear hf htab hL ht
  go_enter Tryz.func36, Tryz.ntmps36
  go_wp2
  go_loopw [0, 9] (fun u i wr => ∃ q : Nat, q ≤ N ∧ i = .int .i64 q ∧ Txt B wr u (l ++ par f q) ∧ Below B w wr ∧ Lib.OthersKept 5 none w wr) (fun _ i _ => N - (intOf i).toNat)
  case atStart => exact ⟨0, Nat.zero_le _, rfl, hn0, Below.refl _ _, Lib.OthersKept.refl _ _ _⟩
  case round =>
    clear hn0
    obtain ⟨q, hq, rfl, hT, hBr, hK⟩ := hrel
    have hlen := HP.out q hq
    have hBs := hBr.size
    have hB2 : B ≤ wr.heap.size := by omega
    obtain ⟨ln, hln⟩ : ∃ ln, (l ++ par f q).length = ln := ⟨_, rfl⟩
    have hlnb : ln ≤ 1010000 := by rw [← hln, List.length_append]; omega
    have HLN := Lib.hid hln
    unfold Txt at hT
    rw [hln] at hT
    clear hln hlen
    by_cases hlt : q < N
    · obtain ⟨a, rfl, hab, hcs⟩ := (HLL.out wr hBr hK) (by omega)
      have y0 := hcs q hlt
      have hf0 := HF.out q hlt
      have hi0' : -9223372036854775808 ≤ f q := by omega
      have hi1' : f q ≤ 9223372036854775807 := by omega
      have hq0 : (0 : Int) ≤ (q : Int) := by omega
      have hq1 : (q : Int) < (N : Int) := by omega
      have HTr := HT.out.on hBr
      clear hcs
      by_cases hz : q = 0
      · have hz1 : ¬ (0 : Int) < (q : Int) := by omega
        have HX := Lib.hid (show par f (q + 1) = par f q ++ dgs (f q) by rw [par_succ, if_pos hz]; simp)
        clear hz
        go_wp2_with (go_at_call 62; refine (Tryz.strconv_AppendInt_10 B ln (f q) hi0' hi1' _ _ wr hT hB2 (by omega) HTr).mono ?_; rintro e w9 ⟨v9, rfl, ho9, hb9, hk9⟩)
        go_roundw
        case rel => exact ⟨q + 1, by omega, by go_num, by
          rw [HX.out, ← List.append_assoc]
          exact Txt.mk ho9 (by rw [List.length_append, HLN.out]) (by simp only [Lib.byteCells_append]), hBr.trans hb9, hK.trans hk9⟩
        case measure => simp [intOf]; omega
      · have hz1 : (0 : Int) < (q : Int) := by omega
        have HX := Lib.hid (show par f (q + 1) = par f q ++ [32] ++ dgs (f q) by rw [par_succ, if_neg hz])
        clear hz
        go_wp2_with (first
          | (at_builtin; refine wpList_append_own _ rfl _ _ 81 rfl B 5 i0 (.int .u8 0) 1 1 Tryz.underlying81 hi0 hzz0 hs0 hy0 rfl (by decide) _ _ _ rfl (hT.alloc _) ⟨wr.heap.size, 0, none⟩ 1 1 [.int .u8 32] rfl (by simp) (cell_one_new wr (.int .u8 32) 5) (by simp [Value.oneCell']) (by simp only [maxLen]; omega) (by omega) (by simp; omega) ?_; intro v8 w8 ho8 hg8 _
             have hb8 : Below B w w8 := app_below hBr (by omega) (Nat.le_refl _) hT hg8
             have hk8 : Lib.OthersKept 5 none w w8 := (hK.alloc (.cells #[.int .u8 32] 5)).grown hg8 (own_cells (hT.alloc (.cells #[.int .u8 32] 5)))
             have hB8 : B ≤ w8.heap.size := by have := hb8.size; omega
             have HT8 := HT.out.on hb8)
          | (go_at_call 62; refine (Tryz.strconv_AppendInt_10 B (ln + 1) (f q) hi0' hi1' _ _ w8 ho8 hB8 (by omega) HT8).mono ?_; rintro e w9 ⟨v9, rfl, ho9, hb9, hk9⟩))
        go_roundw
        case rel => exact ⟨q + 1, by omega, by go_num, by
          rw [HX.out, ← List.append_assoc, ← List.append_assoc]
          exact Txt.mk ho9 (by rw [List.length_append, List.length_append, HLN.out]; rfl) (by simp only [Lib.byteCells_append]; rfl), hb8.trans hb9, hk8.trans hk9⟩
        case measure => simp [intOf]; omega
    · obtain rfl : q = N := by omega
      clear hq hlt
      go_wp2_with (at_builtin; refine wpList_append_own _ rfl _ _ 81 rfl B 5 i0 (.int .u8 0) 1 1 Tryz.underlying81 hi0 hzz0 hs0 hy0 rfl (by decide) _ _ _ rfl (hT.alloc _) ⟨wr.heap.size, 0, none⟩ 1 1 [.int .u8 10] rfl (by simp) (cell_one_new wr (.int .u8 10) 5) (by simp [Value.oneCell']) (by simp only [maxLen]; omega) (by omega) (by simp; omega) ?_; intro v8 w8 ho8 hg8 _
                   have hb8 : Below B w w8 := app_below hBr (by omega) (Nat.le_refl _) hT hg8
                   have hk8 : Lib.OthersKept 5 none w w8 := (hK.alloc (.cells #[.int .u8 10] 5)).grown hg8 (own_cells (hT.alloc (.cells #[.int .u8 10] 5))))
      go_ret
      refine ⟨_, rfl, ?_, hb8, hk8⟩
      rw [lin, ← List.append_assoc]
      exact Txt.mk ho8 (by rw [List.length_append, HLN.out]; rfl) (by simp only [Lib.byteCells_append]; rfl)

set_option maxRecDepth 100000 in
set_option maxHeartbeats 4000000 in
theorem each_any (B : Nat) (l : List UInt8) (v : Value) (A : Option Addr) (N k : Nat) (f : Nat → Int) (w : World) (ht : Txt B w v l) (hB : B ≤ w.heap.size) (hL : Lst B w A N f) (htab : Tab B w) (hf : ∀ j, j < N → 0 ≤ f j ∧ f j ≤ 9999) (hN : N ≤ 2000) (hl : l.length ≤ 100000) :
    Calls Tryz.prog 37 #[v, .slice A N k] w (TxtIs B (l ++ ech f N) w) := by
  have HF := Lib.hid hf
  have HT := Lib.hid htab
  have HLL := Lib.hid hL
  have HP := Lib.hid (fun q (hq : q ≤ N) => ech_len (f := f) (n := q) fun j hj => hf j (by omega))
  have hn0 : Txt B w v (l ++ ech f 0) := by simpa [ech] using ht
  clear hf htab hL ht
  go_enter Tryz.func37, Tryz.ntmps37
  go_wp2
  go_loopw [0, 9] (fun u i wr => ∃ q : Nat, q ≤ N ∧ i = .int .i64 q ∧ Txt B wr u (l ++ ech f q) ∧ Below B w wr ∧ Lib.OthersKept 5 none w wr) (fun _ i _ => N - (intOf i).toNat)
  case atStart => exact ⟨0, Nat.zero_le _, rfl, hn0, Below.refl _ _, Lib.OthersKept.refl _ _ _⟩
  case round =>
    clear hn0
    obtain ⟨q, hq, rfl, hT, hBr, hK⟩ := hrel
    have hlen := HP.out q hq
    have hBs := hBr.size
    have hB2 : B ≤ wr.heap.size := by omega
    have hlb : (l ++ ech f q).length ≤ 1000000 := by rw [List.length_append]; omega
    have HLB := Lib.hid hlb
    clear hlb hlen
    by_cases hlt : q < N
    · obtain ⟨a, rfl, hab, hcs⟩ := (HLL.out wr hBr hK) (by omega)
      have y0 := hcs q hlt
      have hf0 := HF.out q hlt
      have hq0 : (0 : Int) ≤ (q : Int) := by omega
      have hq1 : (q : Int) < (N : Int) := by omega
      have hb1 : Below B wr (wr.alloc (.cells #[.int .i64 (f q)] 3)) := (Below.refl _ _).alloc hB2 _
      have hk1 : Lib.OthersKept 5 none wr (wr.alloc (.cells #[.int .i64 (f q)] 3)) := (Lib.OthersKept.refl _ _ _).alloc _
      have C := nums_any B (l ++ ech f q) u0 (some ⟨wr.heap.size, 0, none⟩) 1 1 (one (f q)) (wr.alloc (.cells #[.int .i64 (f q)] 3)) (hT.alloc _) (by simp only [World.size_alloc]; omega) (Lst.new rfl fun j hj => by cases (show j = 0 by omega); rfl) ((HT.out.on hBr).on hb1) (fun j _ => hf0) (by omega) HLB.out
      have D := Lib.hid C
      clear C hcs
      go_wp2_with (go_at_call 36; (with_reducible refine D.out.mono ?_); rintro e w9 ⟨v9, rfl, ho9, hb9, hk9⟩)
      go_roundw
      case rel => exact ⟨q + 1, by omega, by go_num, by
        rw [ech, ← List.append_assoc]; exact ho9, (hBr.trans hb1).trans hb9, (hK.trans hk1).trans hk9⟩
      case measure => simp [intOf]; omega
    · obtain rfl : q = N := by omega
      clear hq hlt
      go_wp2
      go_ret
      exact ⟨_, rfl, hT, hBr, hK⟩

end Go.Proofs.YtkpjpokeonppbaaGreatDoor

namespace Go.Proofs.YtkpjpokeonppbaaGreatDoor
open Go.RowKit Go.Sort
set_option linter.unusedVariables false
set_option linter.unusedSimpArgs false

/-- a row of bytes without room: its cells -/
def Full (w : World) (b : Addr) (l : List UInt8) : Prop := b.block < w.heap.size ∧ ∀ j u, (Lib.byteCells l)[j]? = some u → w.cell? (b.add j) = some u
theorem Full.keep {w w' : World} {b : Addr} {l : List UInt8} (h : Full w b l) (hb : Below w.heap.size w w') : Full w' b l := ⟨Nat.lt_of_lt_of_le h.1 hb.size, fun j u hj => (hb.cell (by rw [add_block]; exact h.1)).trans (h.2 j u hj)⟩

theorem full_str (w : World) (b : Addr) (l : List UInt8) (hf : Full w b l) (s : ByteArray) (h1 : 0 < s.size) (hb : l.length + s.size ≤ 100000) (ty : TypeId) :
    ∃ v' w', (Builtin.append_ #[81, 9] ty #[.slice (some b) l.length l.length, .string s]).run Tryz.prog w = .ok v' w' ∧ w'.ownsRow w.heap.size 5 1 v' (l.length + s.size) (Lib.byteCells l ++ Lib.strCells s) ∧ w.grownBy w' none := by
  obtain ⟨i0, hi, hz, hs1, hby⟩ := info_parts info_u8
  have hge := grownCap_ge w (l.length + s.size) l.length 5
  have hcm := grownCap_le_maxLen w (l.length + s.size) l.length 5 (by simp only [maxLen]; omega)
  have hr := Lib.run_append_grow_string (P := Tryz.prog) w 81 9 ty 5 i0 (.int .u8 0) Tryz.underlying81 Tryz.underlying9 hi hz b l.length l.length (Lib.byteCells l) (by rw [hs1, Lib.byteCells_length]; omega) hf.2 s (by omega) (by omega) (growslice_fits (by omega) (by rw [hby]; omega))
  have hl : (Lib.byteCells l ++ Lib.strCells s).length = (l.length + s.size) * 1 := by rw [List.length_append, Lib.byteCells_length, Lib.strCells_length]; omega
  refine ⟨_, _, hr, ⟨hl, .inr ⟨w.heap.size, _, _, rfl, Nat.le_refl _, heap_alloc_new w.drew _, hge, hcm, ?_, ?_⟩⟩, ⟨rfl, rfl, rfl, by simp, fun k hk _ => heap_alloc_old w.drew _ hk⟩⟩
  · simp only [Array.size_append, List.size_toArray, size_zeroCells, Lib.byteCells_length, Lib.strCells_length]
    have : (Value.int IntKind.u8 0).cells.size = 1 := rfl
    rw [this]; omega
  · simp only [Array.toList_append, List.append_assoc]
    rw [← List.append_assoc, ← hl]
    exact List.take_left

theorem wp_full_str {ops : Array Oper} {rest : List Oper} {o : Oper} {a : Act} {Q : Exit → Act → World → Prop} (hgd : o.guard = none) (sl x : Operand)
    (ho : o.op = .call { callee := .builtin .append, args := #[sl, x], argTypes := #[81, 9] })
    (w : World) (b : Addr) (l : List UInt8) (hf : Full w b l) (hs : a.eval sl = .slice (some b) l.length l.length) (s : ByteArray) (hx : a.eval x = .string s) (h1 : 0 < s.size) (hb : l.length + s.size ≤ 100000)
    (h : ∀ v' w', w'.ownsRow w.heap.size 5 1 v' (l.length + s.size) (Lib.byteCells l ++ Lib.strCells s) → w.grownBy w' none → wpList Tryz.prog ops Q rest (a.put o.dst v') w') : wpList Tryz.prog ops Q (o :: rest) a w := by
  refine wpList_plain hgd fun K hK => ?_
  obtain ⟨v', w', hr, h2, h3⟩ := full_str w b l hf s h1 hb o.type
  unfold Oper.wp execOp
  simp only [ho, resolve, invoke, builtin, Sem.run_bind, Sem.run_pure, Result.andThen_ok, List.map_toArray, List.map_cons, List.map_nil, hs, hx, hr]
  exact hK _ _ (h v' w' h2 h3)

theorem grown_kept {w w' : World} {B : Nat} (h : w.grownBy w' none) (hB : B ≤ w.heap.size) : Below B w w' ∧ Lib.OthersKept 5 none w w' :=
  ⟨(Below.refl B w).grown h hB (fun k hk => by cases hk), (Lib.OthersKept.refl _ _ _).grown h (fun g hg => by cases hg)⟩

set_option maxRecDepth 100000 in
set_option maxHeartbeats 6400000 in
theorem uint_full (u : Nat) (hu64 : u < 18446744073709551616) (b : Addr) (l : List UInt8) (hl : l.length ≤ 1000) (w : World) (hf : Full w b l) (htab : Lib.TabIs Tryz.prog w "internal/strconv.uint64pow10" .u64 Lib.pow10Tab) :
    Calls Tryz.prog 109 #[.slice (some b) l.length l.length, .int .u64 u, .int .i64 10] w fun e w' => ∃ v', e = .returned v' ∧ Txt w.heap.size w' v' (l ++ Lib.decDigits u) ∧ Below w.heap.size w w' := by
  have hnd : Lib.nDigits u ≤ 20 := nDigits_le u 19 (by omega)
  have hnp := Lib.nDigits_pos u
  have hdl := Lib.decDigits_length u
  by_cases hu : u < 100
  · have hsz : (⟨(Lib.decDigits u).toArray⟩ : ByteArray).size = (Lib.decDigits u).length := by simp [ByteArray.size]
    have ih : (u : Int) < 100 := by omega
    have hs1 : 0 < (⟨(Lib.decDigits u).toArray⟩ : ByteArray).size := by rw [hsz, hdl]; omega
    have hs2 : l.length + (⟨(Lib.decDigits u).toArray⟩ : ByteArray).size ≤ 100000 := by rw [hsz, hdl]; omega
    have HS1 := Lib.hid hs1
    have HS2 := Lib.hid hs2
    have HSZ := Lib.hid hsz
    have HDL := Lib.hid hdl
    clear hs1 hs2 hsz hdl hnd hnp
    go_enter Tryz.func109, Tryz.ntmps109
    go_wp2_with (first
      | (go_at_call 123; refine (Tryz.internal_strconv_small u hu _).mono ?_; rintro e w' ⟨rfl, rfl⟩)
      | (at_builtin; refine wp_full_str rfl _ _ rfl _ b l hf rfl ⟨(Lib.decDigits u).toArray⟩ rfl HS1.out HS2.out ?_; intro v1 w1 ho1 hg1))
    go_ret
    exact ⟨_, rfl, Txt.mk ho1 (by rw [HSZ.out, List.length_append]) (by rw [Lib.byteCells_append]; rfl), (grown_kept hg1 (Nat.le_refl _)).1⟩
  · have hu1 : 1 ≤ u := by omega
    have hal : Tryz.prog.arrayLen 161 = 24 := by simp [Program.arrayLen, Tryz.underlying161]
    have hsl : ∀ W, (Instr.sliceAt 161 (.pointer (some ⟨w.heap.size, 0, none⟩)) none (some (.int .i64 (Lib.nDigits u : Int))) none).run Tryz.prog W = .ok (.slice (some ⟨w.heap.size, 0, none⟩) (Lib.nDigits u) 24) W := fun W => by
      rw [run_sliceAt_array_h W 161 ⟨w.heap.size, 0, none⟩ (by simp [Program.arrayLen, Program.elem, Tryz.underlying161]) .i64 (Lib.nDigits u : Int) (by omega) (by rw [hal]; omega)]
      go_simp
    have hH0 := Lib.holds_zero0 w 161 (Lib.nDigits u) (by omega)
    have hfmt := Tryz.internal_strconv_formatBase10 w.heap.size 0 24 u (Array.replicate (Lib.nDigits u) 0) (w.alloc (.cells Lib.zeros24 161)) hH0 (by rw [Array.size_replicate]; exact Lib.lt_pow_nDigits u) hu64 (by rw [Array.size_replicate]; omega)
    rw [Array.size_replicate] at hfmt
    have HH0 := Lib.hid hH0
    have HF := Lib.hid hfmt
    have HND := Lib.hid (And.intro hnd hnp)
    have HDL := Lib.hid hdl
    have iu : (100 : Int) ≤ (u : Int) := by omega
    obtain ⟨i0, hi, hz, hs1, hby⟩ := info_parts info_u8
    clear hH0 hal hfmt hdl
    go_enter Tryz.func109, Tryz.ntmps109
    go_wp2_with (first | (go_at_call 124; refine (Tryz.internal_strconv_numDigits u hu1 hu64 _ (Lib.tabIs_alloc htab _)).mono ?_; rintro e w' ⟨rfl, rfl⟩))
    go_at_call 125
    refine HF.out.mono ?_
    rintro e w' ⟨rfl, k, v', dk, rfl, hFI⟩
    obtain ⟨os, eo⟩ := Lib.fin_at w (.cells Lib.zeros24 161) dk k 0
    have hrow : ∀ j x, (Lib.byteCells (Lib.decDigits u))[j]? = some x → ((putRow (fun (b : UInt8) => Value.int .u8 (b.toNat : Int)) (w.alloc (.cells Lib.zeros24 161)) w.heap.size 0 dk).drewN k).cell? ((⟨w.heap.size, 0, none⟩ : Addr).add j) = some x := fun j x hj => by
      have hlt : j < (Lib.decDigits u).length := by have := (List.getElem?_eq_some_iff.1 hj).1; rwa [Lib.byteCells_length] at this
      have hx : x = Value.int .u8 ((Lib.decDigits u)[j].toNat : Int) := by
        have e : (Lib.byteCells (Lib.decDigits u))[j]? = some (Value.int .u8 ((Lib.decDigits u)[j].toNat : Int)) := by simp [Lib.byteCells, hlt]
        exact Option.some.inj (hj.symm.trans e)
      rw [hx, Lib.row_is_numeral hFI j hlt, Lib.add_plain, World.cell?_drewN]
      exact cell?_putRow (fun (b : UInt8) => Value.int .u8 (b.toNat : Int)) _ w.heap.size 0 _ dk HH0.out (by rw [hFI.size, Array.size_replicate]) j (by rw [hFI.size, ← HDL.out]; exact hlt)
    have hB2 : Below w.heap.size w ((putRow (fun (b : UInt8) => Value.int .u8 (b.toNat : Int)) (w.alloc (.cells Lib.zeros24 161)) w.heap.size 0 dk).drewN k) := by rw [eo]; exact Lib.below_grow w.heap.size w (Nat.le_refl _) k os
    generalize (putRow (fun (b : UInt8) => Value.int .u8 (b.toNat : Int)) (w.alloc (.cells Lib.zeros24 161)) w.heap.size 0 dk).drewN k = W2 at hrow hB2 ⊢
    have hf2 := hf.keep hB2
    have HROW := Lib.hid hrow
    clear eo hrow hFI
    go_wp2_with (at_builtin; refine wpList_append_grows W2 rfl _ _ 81 rfl 5 i0 (.int .u8 0) 1 1 Tryz.underlying81 hi hz hs1 hby rfl (by decide) (some b) l.length l.length (Lib.byteCells l) rfl (fun h => by cases h) (by rw [Lib.byteCells_length]; omega) (fun b' hb' j x hj => by cases hb'; exact hf2.2 j x hj) ⟨w.heap.size, 0, none⟩ (Lib.nDigits u) 24 (Lib.byteCells (Lib.decDigits u)) rfl (by rw [Lib.byteCells_length, HDL.out]; omega) HROW.out (fun x hx => by simp only [Lib.byteCells, List.mem_map] at hx; obtain ⟨b, _, rfl⟩ := hx; rfl) (by have := HND.out; omega) (by have := HND.out; simp only [maxLen]; omega) (by have := HND.out; omega) ?_; intro v1 w1 ho1 hg1)
    go_ret
    exact ⟨_, rfl, own_base (Txt.mk ho1 (by rw [List.length_append, HDL.out]) (by rw [Lib.byteCells_append]) : Txt W2.heap.size w1 v1 (l ++ Lib.decDigits u)) hB2.size, hB2.trans (grown_kept hg1 hB2.size).1⟩

set_option maxRecDepth 100000 in
set_option maxHeartbeats 4000000 in
theorem int_full (x : Int) (h0 : 0 ≤ x) (h1 : x ≤ 9999) (b : Addr) (l : List UInt8) (hl : l.length ≤ 1000) (w : World) (hf : Full w b l) (htab : Tab w.heap.size w) :
    Calls Tryz.prog 62 #[.slice (some b) l.length l.length, .int .i64 x, .int .i64 10] w fun e w' => ∃ v', e = .returned v' ∧ Txt w.heap.size w' v' (l ++ dgs x) ∧ Below w.heap.size w w' := by
  obtain ⟨u, rfl⟩ : ∃ u : Nat, x = (u : Int) := ⟨x.toNat, by omega⟩
  have C := uint_full u (by omega) b l hl w hf htab.here
  have E : Calls Tryz.prog 87 #[.slice (some b) l.length l.length, .int .i64 (u : Int), .int .i64 10] w fun e w' => ∃ v', e = .returned v' ∧ Txt w.heap.size w' v' (l ++ dgs (u : Int)) ∧ Below w.heap.size w w' := by
    rw [show dgs (u : Int) = Lib.decDigits u from Lib.itoa_nonneg u]
    have hw : IntKind.u64.wrap (u : Int) = (u : Int) := by rw [IntKind.wrap_u64]; omega
    have n0 : ¬ (u : Int) < 0 := by omega
    have D := Lib.hid C
    clear C
    go_enter Tryz.func87, Tryz.ntmps87
    go_wp2_with (go_at_call 109; (with_reducible refine D.out.mono ?_); rintro e w1 ⟨v1, rfl, ho1, hb1⟩)
    go_ret
    exact ⟨_, rfl, ho1, hb1⟩
  have D := Lib.hid E
  clear C E
  go_enter Tryz.func62, Tryz.ntmps62
  go_wp2_with (go_at_call 87; (with_reducible refine D.out.mono ?_); rintro e w1 ⟨v1, rfl, ho1, hb1⟩)
  go_ret
  exact ⟨_, rfl, ho1, hb1⟩

set_option maxRecDepth 100000 in
set_option maxHeartbeats 4000000 in
/-- a line behind a row without room -/
theorem nums_full (l : List UInt8) (b : Addr) (A : Option Addr) (M k : Nat) (f : Nat → Int) (w : World) (hfl : Full w b l) (hL : Lst w.heap.size w A (M + 1) f) (htab : Tab w.heap.size w) (hf : ∀ j, j < M + 1 → 0 ≤ f j ∧ f j ≤ 9999) (hM : M < 1000) (hl : l.length ≤ 1000) :
    Calls Tryz.prog 36 #[.slice (some b) l.length l.length, .slice A (M + 1 : Nat) k] w (TxtIs w.heap.size (l ++ lin f (M + 1)) w) := by
  obtain ⟨i0, hi0, hzz0, hs0, hy0⟩ := info_parts info_u8
  obtain ⟨N, hNM⟩ : ∃ N, N = M + 1 := ⟨_, rfl⟩
  have hN1 : 0 < N := by omega
  have hN : N ≤ 1000 := by omega
  rw [← hNM] at hL hf ⊢
  have hI := hL w (Below.refl _ _) (Lib.OthersKept.refl _ _ _)
  obtain ⟨a, rfl, hab, hcs⟩ := hI hN1
  have y00 := hcs 0 hN1
  have z00 : w.cell? a = some (.int .i64 (f 0)) := by simpa [Addr.add_zero'] using y00
  have hf00 := hf 0 hN1
  have C0 := int_full (f 0) hf00.1 hf00.2 b l hl w hfl htab
  have D0 := Lib.hid C0
  have HF := Lib.hid hf
  have HT := Lib.hid htab
  have HLL := Lib.hid hL
  have HP := Lib.hid (fun q (hq : q ≤ N) => par_len (f := f) (n := q) fun j hj => hf j (by omega))
  have n1 : (0 : Int) < (N : Int) := by omega
  clear hf htab hL C0 y00 hcs hNM
  go_enter Tryz.func36, Tryz.ntmps36
  go_wp2
  go_loopw [0, 9] (fun u i wr => ∃ q : Nat, q ≤ N ∧ i = .int .i64 q ∧ ((q = 0 ∧ u = .slice (some b) l.length l.length ∧ wr = w) ∨ (0 < q ∧ Txt w.heap.size wr u (l ++ par f q) ∧ Below w.heap.size w wr ∧ Lib.OthersKept 5 none w wr))) (fun _ i _ => N - (intOf i).toNat)
  case atStart => exact ⟨0, Nat.zero_le _, rfl, Or.inl ⟨rfl, rfl, rfl⟩⟩
  case round =>
    obtain ⟨q, hq, rfl, hway⟩ := hrel
    rcases hway with ⟨hz, rfl, rfl⟩ | ⟨hz, hT, hBr, hK⟩
    · have hz1 : ¬ (0 : Int) < (q : Int) := by omega
      have hq0 : (0 : Int) ≤ (q : Int) := by omega
      have hq1 : (q : Int) < (N : Int) := by omega
      have y0 : wr.cell? (a.add q) = some (.int .i64 (f 0)) := by rw [hz]; simpa [Addr.add_zero'] using z00
      have HX := Lib.hid (show q + 1 ≤ N ∧ l ++ par f (q + 1) = l ++ dgs (f 0) by rw [hz]; exact ⟨by omega, by simp [par]⟩)
      clear hz z00 hq
      go_wp2_with (go_at_call 62; (with_reducible refine D0.out.mono ?_); rintro e w9 ⟨v9, rfl, ho9, hb9⟩)
      go_roundw
      case rel => exact ⟨q + 1, HX.out.1, by go_num, Or.inr ⟨by omega, by rw [HX.out.2]; exact ho9, hb9, (Lib.OthersKept.refl _ _ _).below hb9⟩⟩
      case measure => simp [intOf]; omega
    · have hlen := HP.out q hq
      have hBs := hBr.size
      obtain ⟨ln, hln⟩ : ∃ ln, (l ++ par f q).length = ln := ⟨_, rfl⟩
      have hlnb : ln ≤ 10000 := by rw [← hln, List.length_append]; omega
      have HLN := Lib.hid hln
      unfold Txt at hT
      rw [hln] at hT
      clear hln hlen
      by_cases hlt : q < N
      · obtain ⟨a', ea, hab', hcs⟩ := (HLL.out wr hBr hK) (by omega)
        obtain rfl : a' = a := (Option.some.inj ea).symm
        have y0 := hcs q hlt
        have hf0 := HF.out q hlt
        have hi0' : -9223372036854775808 ≤ f q := by omega
        have hi1' : f q ≤ 9223372036854775807 := by omega
        have hq0 : (0 : Int) ≤ (q : Int) := by omega
        have hq1 : (q : Int) < (N : Int) := by omega
        have hz1 : (0 : Int) < (q : Int) := by omega
        have HX := Lib.hid (show par f (q + 1) = par f q ++ [32] ++ dgs (f q) by rw [par_succ, if_neg (by omega)])
        clear hcs ea z00
        go_wp2_with (first
          | (at_builtin; refine wpList_append_own _ rfl _ _ 81 rfl w.heap.size 5 i0 (.int .u8 0) 1 1 Tryz.underlying81 hi0 hzz0 hs0 hy0 rfl (by decide) _ _ _ rfl (hT.alloc _) ⟨wr.heap.size, 0, none⟩ 1 1 [.int .u8 32] rfl (by simp) (cell_one_new wr (.int .u8 32) 5) (by simp [Value.oneCell']) (by simp only [maxLen]; omega) (by omega) (by simp; omega) ?_; intro v8 w8 ho8 hg8 _
             have hb8 : Below w.heap.size w w8 := app_below hBr (by omega) (Nat.le_refl _) hT hg8
             have hk8 : Lib.OthersKept 5 none w w8 := (hK.alloc (.cells #[.int .u8 32] 5)).grown hg8 (own_cells (hT.alloc (.cells #[.int .u8 32] 5)))
             have hB8 : w.heap.size ≤ w8.heap.size := hb8.size
             have HT8 := HT.out.on hb8)
          | (go_at_call 62; refine (Tryz.strconv_AppendInt_10 w.heap.size (ln + 1) (f q) hi0' hi1' _ _ w8 ho8 hB8 (by omega) HT8).mono ?_; rintro e w9 ⟨v9, rfl, ho9, hb9, hk9⟩))
        go_roundw
        case rel => exact ⟨q + 1, by omega, by go_num, Or.inr ⟨by omega, by
          rw [HX.out, ← List.append_assoc, ← List.append_assoc]
          exact Txt.mk ho9 (by rw [List.length_append, List.length_append, HLN.out]; rfl) (by simp only [Lib.byteCells_append]; rfl), hb8.trans hb9, hk8.trans hk9⟩⟩
        case measure => simp [intOf]; omega
      · obtain rfl : q = N := by omega
        clear hq hlt z00
        go_wp2_with (at_builtin; refine wpList_append_own _ rfl _ _ 81 rfl w.heap.size 5 i0 (.int .u8 0) 1 1 Tryz.underlying81 hi0 hzz0 hs0 hy0 rfl (by decide) _ _ _ rfl (hT.alloc _) ⟨wr.heap.size, 0, none⟩ 1 1 [.int .u8 10] rfl (by simp) (cell_one_new wr (.int .u8 10) 5) (by simp [Value.oneCell']) (by simp only [maxLen]; omega) (by omega) (by simp; omega) ?_; intro v8 w8 ho8 hg8 _
                     have hb8 : Below w.heap.size w w8 := app_below hBr (by omega) (Nat.le_refl _) hT hg8
                     have hk8 : Lib.OthersKept 5 none w w8 := (hK.alloc (.cells #[.int .u8 10] 5)).grown hg8 (own_cells (hT.alloc (.cells #[.int .u8 10] 5))))
        go_ret
        refine ⟨_, rfl, ?_, hb8, hk8⟩
        rw [lin, ← List.append_assoc]
        exact Txt.mk ho8 (by rw [List.length_append, HLN.out]; rfl) (by simp only [Lib.byteCells_append]; rfl)

end Go.Proofs.YtkpjpokeonppbaaGreatDoor

namespace Go.Proofs.YtkpjpokeonppbaaGreatDoor
open Go.RowKit
set_option linter.unusedVariables false
set_option linter.unusedSimpArgs false

theorem lst2 {cs : Array Value} {x y : Int} (h : cs = #[.int .i64 x, .int .i64 y]) {z : Int} : ∀ j, j < 2 → cs[j]? = some (.int .i64 (tri x y z j)) := fun j hj => by
  subst h
  rcases (show j = 0 ∨ j = 1 by omega) with rfl | rfl <;> rfl
theorem lst3 {cs : Array Value} {x y z : Int} (h : cs = #[.int .i64 x, .int .i64 y, .int .i64 z]) : ∀ j, j < 3 → cs[j]? = some (.int .i64 (tri x y z j)) := fun j hj => by
  subst h
  rcases (show j = 0 ∨ j = 1 ∨ j = 2 by omega) with rfl | rfl | rfl <;> rfl
theorem TxtIs.step {B : Nat} {l : List UInt8} {w w1 : World} {e : Ending} {w' : World} (h : TxtIs B l w1 e w') (hb : Below B w w1) (hk : Lib.OthersKept 5 none w w1) : TxtIs B l w e w' := by
  obtain ⟨v, he, ho, hb1, hk1⟩ := h
  exact ⟨v, he, ho, hb.trans hb1, hk.trans hk1⟩
theorem kept_al {B : Nat} {w : World} (hB : B ≤ w.heap.size) (o : Obj) : Below B w (w.alloc o) ∧ Lib.OthersKept 5 none w (w.alloc o) := ⟨(Below.refl _ _).alloc hB o, (Lib.OthersKept.refl _ _ _).alloc o⟩

set_option maxRecDepth 100000 in
set_option maxHeartbeats 4000000 in
/-- the line of a latch -/
theorem latch_any (B : Nat) (l : List UInt8) (v : Value) (x y z : Int) (w : World) (ht : Txt B w v l) (hB : B ≤ w.heap.size) (htab : Tab B w) (hx : 0 ≤ x ∧ x ≤ 9999) (hy : 0 ≤ y ∧ y ≤ 9999) (hl : l.length ≤ 1000000) :
    Calls Tryz.prog 38 #[v, .agg #[.int .i64 x, .int .i64 y, .int .i64 z]] w (TxtIs B (l ++ lin (tri x y (lt3 x z)) (ltn z)) w) := by
  obtain ⟨hb1, hk1⟩ := kept_al hB (.cells #[.int .i64 x, .int .i64 y, .int .i64 z] 32)
  have hs1 : B ≤ (w.alloc (.cells #[.int .i64 x, .int .i64 y, .int .i64 z] 32)).heap.size := by simp only [World.size_alloc]; omega
  by_cases h1 : z = 1
  · subst h1
    obtain ⟨hb2, hk2⟩ := kept_al hs1 (.cells #[.int .i64 x, .int .i64 y, .int .i64 1] 3)
    have C := nums_any B l v (some ⟨w.heap.size + 1, 0, none⟩) 3 3 (tri x y 1) ((w.alloc (.cells #[.int .i64 x, .int .i64 y, .int .i64 1] 32)).alloc (.cells #[.int .i64 x, .int .i64 y, .int .i64 1] 3)) ((ht.alloc _).alloc _) (by simp only [World.size_alloc]; omega) (Lst.new (by simp) (lst3 rfl)) ((htab.on hb1).on hb2) (fun j _ => tri_bd hx hy ⟨by omega, by omega⟩) (by omega) hl
    have D := Lib.hid C
    clear C
    go_enter Tryz.func38, Tryz.ntmps38
    go_wp2_with (go_at_call 36; (with_reducible refine D.out.mono ?_); rintro e w9 ⟨v9, rfl, ho9, hb9, hk9⟩)
    go_ret
    exact ⟨_, rfl, ho9, (hb1.trans hb2).trans hb9, (hk1.trans hk2).trans hk9⟩
  · by_cases h2 : z = 2
    · subst h2
      obtain ⟨hb2, hk2⟩ := kept_al hs1 (.cells #[.int .i64 x, .int .i64 y, .int .i64 x] 3)
      have C := nums_any B l v (some ⟨w.heap.size + 1, 0, none⟩) 3 3 (tri x y x) ((w.alloc (.cells #[.int .i64 x, .int .i64 y, .int .i64 2] 32)).alloc (.cells #[.int .i64 x, .int .i64 y, .int .i64 x] 3)) ((ht.alloc _).alloc _) (by simp only [World.size_alloc]; omega) (Lst.new (by simp) (lst3 rfl)) ((htab.on hb1).on hb2) (fun j _ => tri_bd hx hy hx) (by omega) hl
      have D := Lib.hid C
      clear C h1
      go_enter Tryz.func38, Tryz.ntmps38
      go_wp2_with (go_at_call 36; (with_reducible refine D.out.mono ?_); rintro e w9 ⟨v9, rfl, ho9, hb9, hk9⟩)
      go_ret
      exact ⟨_, rfl, ho9, (hb1.trans hb2).trans hb9, (hk1.trans hk2).trans hk9⟩
    · obtain ⟨hb2, hk2⟩ := kept_al hs1 (.cells #[.int .i64 x, .int .i64 y] 3)
      have C := nums_any B l v (some ⟨w.heap.size + 1, 0, none⟩) 2 2 (tri x y x) ((w.alloc (.cells #[.int .i64 x, .int .i64 y, .int .i64 z] 32)).alloc (.cells #[.int .i64 x, .int .i64 y] 3)) ((ht.alloc _).alloc _) (by simp only [World.size_alloc]; omega) (Lst.new (by simp) (lst2 rfl)) ((htab.on hb1).on hb2) (fun j _ => tri_bd hx hy hx) (by omega) hl
      have D := Lib.hid C
      have e1 : (z == 1) = false := by simpa using h1
      have e2 : (z == 2) = false := by simpa using h2
      have HE : Hid (lin (tri x y (lt3 x z)) (ltn z) = lin (tri x y x) 2) := by
        show _ = _
        unfold lt3 ltn
        rw [if_neg h1, if_neg h1, if_neg h2]
      rw [HE.out]
      clear C h1 h2
      go_enter Tryz.func38, Tryz.ntmps38
      go_wp2_with (go_at_call 36; (with_reducible refine D.out.mono ?_); rintro e w9 ⟨v9, rfl, ho9, hb9, hk9⟩)
      go_ret
      exact ⟨_, rfl, ho9, (hb1.trans hb2).trans hb9, (hk1.trans hk2).trans hk9⟩

theorem Tab.up {B C : Nat} {w : World} (h : Tab B w) (hC : B ≤ C) : Tab C w := fun w' hb => h w' (hb.mono hC)
theorem hd_cells (r : Rw) : ∀ j, j < 7 → (#[.int .i64 r.m, .int .i64 r.ni, .int .i64 r.nl, .int .i64 0, .int .i64 r.na, .int .i64 r.nb, .int .i64 r.nc] : Array Value)[j]? = some (.int .i64 (r.hd j)) := fun j hj => by
  rcases (show j = 0 ∨ j = 1 ∨ j = 2 ∨ j = 3 ∨ j = 4 ∨ j = 5 ∨ j = 6 by omega) with rfl | rfl | rfl | rfl | rfl | rfl | rfl <;> rfl
/-- bytes as a string -/
theorem txt_string {B : Nat} {w : World} {v : Value} {l : List UInt8} (h : Txt B w v l) : (convert 81 9 v).run Tryz.prog w = .ok (.string ⟨l.toArray⟩) w := by
  rcases h.2 with ⟨rfl, hn⟩ | ⟨g, cap, cur, rfl, hb, hh, hk, hm, htk⟩
  · have : l = [] := List.eq_nil_of_length_eq_zero hn
    subst this
    exact Lib.run_convert_nil_bytes w 81 9 5 0 Tryz.underlying81 Tryz.underlying5 Tryz.underlying9
  · exact run_convert_bytes_back w 81 9 5 ⟨g, 0, none⟩ cap l Tryz.underlying81 Tryz.underlying5 Tryz.underlying9 (fun j hj => (show w.ownsRow B 5 1 _ l.length (Lib.byteCells l) from h).cells (g := g) rfl j _ (by simp [Lib.byteCells, hj]))

theorem hd_bd {r : Rw} (h : Bd r) : ∀ j, j < 7 → 0 ≤ r.hd j ∧ r.hd j ≤ 9999 := fun j _ => by
  have := h.m; have := h.n; have := h.nb; have := h.nc
  unfold Rw.hd
  repeat' split
  all_goals omega
namespace Rw
/-- the text up to some line -/
def t1 (r : Rw) : List UInt8 := [97, 97, 103, 32] ++ lin r.hd 7
def t2 (r : Rw) : List UInt8 := r.t1 ++ ech r.ip r.ni
def t3 (r : Rw) (q : Nat) : List UInt8 := r.t2 ++ lts r.ll r.la r.lb q
def t4 (r : Rw) : List UInt8 := r.t3 r.nl ++ ech r.bd r.nb
def t5 (r : Rw) : List UInt8 := r.t4 ++ ech r.cn r.nc
def t6 (r : Rw) (q : Nat) : List UInt8 := r.t5 ++ gts r.gl r.ga r.gb q
theorem t6_txt (r : Rw) : r.t6 r.na = r.txt := rfl
theorem t3_0 (r : Rw) : r.t3 0 = r.t2 := by simp [t3, lts]
theorem t6_0 (r : Rw) : r.t6 0 = r.t5 := by simp [t6, gts]
theorem t3_succ (r : Rw) (q : Nat) : r.t3 q ++ lin (tri (r.ll q) (r.la q) (lt3 (r.ll q) (r.lb q))) (ltn (r.lb q)) = r.t3 (q + 1) := by simp [t3, lts, List.append_assoc]
theorem t6_succ (r : Rw) (q : Nat) : r.t6 q ++ lin (tri (r.gl q) (r.ga q) (r.gb q)) 3 = r.t6 (q + 1) := by simp [t6, gts, List.append_assoc]
theorem t_len {r : Rw} (h : Bd r) : r.t1.length ≤ 40 ∧ r.t2.length ≤ 7000 ∧ (∀ q, q ≤ r.nl → (r.t3 q).length ≤ 30000) ∧ r.t4.length ≤ 31000 ∧ r.t5.length ≤ 32000 ∧ ∀ q, q ≤ r.na → (r.t6 q).length ≤ 50000 := by
  have h1 : r.t1.length ≤ 40 := by
    have := lin_len (f := r.hd) (n := 7) (hd_bd h)
    unfold t1; rw [List.length_append]
    show 4 + _ ≤ 40
    omega
  have hn := h.n; have := h.nb; have := h.nc
  have h2 : r.t2.length ≤ 7000 := by
    have := ech_len h.ip
    unfold t2; rw [List.length_append]; omega
  have h3 : ∀ q, q ≤ r.nl → (r.t3 q).length ≤ 30000 := fun q hq => by
    have := lts_len (h := r.lb) (n := q) (fun j hj => h.ll j (by omega)) (fun j hj => h.la j (by omega))
    unfold t3; rw [List.length_append]; omega
  have h4 : r.t4.length ≤ 31000 := by
    have := ech_len h.bd
    have := h3 r.nl (Nat.le_refl _)
    unfold t4; rw [List.length_append]; omega
  have h5 : r.t5.length ≤ 32000 := by
    have := ech_len h.cn
    unfold t5; rw [List.length_append]; omega
  refine ⟨h1, h2, h3, h4, h5, fun q hq => ?_⟩
  have := gts_len (n := q) (fun j hj => h.gl j (by omega)) (fun j hj => h.ga j (by omega)) (fun j hj => h.gb j (by omega))
  unfold t6; rw [List.length_append]; omega
/-- what Raw returns -/
def txtE (r : Rw) : List UInt8 := if r.chk = 0 then r.txt else []
def lnsE (r : Rw) : Int := if r.chk = 0 then r.lns else 0
end Rw

/-- the first line -/
theorem hdr_any (r : Rw) (hbd : Bd r) (w : World) (htab : Tab w.heap.size w) (fz : Nat × Nat) :
    Calls Tryz.prog 36 #[.slice (some ⟨w.heap.size, 0, none⟩) 4 4, .slice (some ⟨w.heap.size + 1, 0, none⟩) 7 7] ((w.alloc (.cells #[.int .u8 97, .int .u8 97, .int .u8 103, .int .u8 32] 5 fz)).alloc (.cells #[.int .i64 r.m, .int .i64 r.ni, .int .i64 r.nl, .int .i64 0, .int .i64 r.na, .int .i64 r.nb, .int .i64 r.nc] 3)) fun e w' => ∃ v, e = .returned v ∧ Txt w.heap.size w' v r.t1 ∧ Below w.heap.size w w' := by
  have hb1 : Below w.heap.size w (w.alloc (.cells #[.int .u8 97, .int .u8 97, .int .u8 103, .int .u8 32] 5 fz)) := (Below.refl _ _).alloc (Nat.le_refl _) _
  have hb2 : Below w.heap.size w ((w.alloc (.cells #[.int .u8 97, .int .u8 97, .int .u8 103, .int .u8 32] 5 fz)).alloc (.cells #[.int .i64 r.m, .int .i64 r.ni, .int .i64 r.nl, .int .i64 0, .int .i64 r.na, .int .i64 r.nb, .int .i64 r.nc] 3)) := hb1.alloc hb1.size _
  have hF : Full ((w.alloc (.cells #[.int .u8 97, .int .u8 97, .int .u8 103, .int .u8 32] 5 fz)).alloc (.cells #[.int .i64 r.m, .int .i64 r.ni, .int .i64 r.nl, .int .i64 0, .int .i64 r.na, .int .i64 r.nb, .int .i64 r.nc] 3)) ⟨w.heap.size, 0, none⟩ [97, 97, 103, 32] := by
    refine ⟨by simp; omega, fun j u hj => ?_⟩
    have e : (⟨w.heap.size, 0, none⟩ : Addr).add j = ⟨w.heap.size, j, none⟩ := by unfold Addr.add; split <;> simp_all
    rw [e]
    have h1 : (w.alloc (.cells #[.int .u8 97, .int .u8 97, .int .u8 103, .int .u8 32] 5 fz)).cell? ⟨w.heap.size, j, none⟩ = some u := by
      rw [World.cell?_alloc_mark]
      rw [← Array.getElem?_toList]
      exact hj
    exact Lib.cell?_alloc_marked _ h1
  have C := nums_full [97, 97, 103, 32] ⟨w.heap.size, 0, none⟩ (some ⟨w.heap.size + 1, 0, none⟩) 6 7 r.hd _ hF (Lst.new (by simp) (hd_cells r)) (Tab.up (htab.on hb2) hb2.size) (hd_bd hbd) (by omega) (by decide)
  refine C.mono fun e w' ⟨v, he, ho, hb, _⟩ => ⟨v, he, own_base ho hb2.size, hb2.trans (hb.mono hb2.size)⟩

set_option maxRecDepth 100000 in
set_option maxHeartbeats 8000000 in
theorem aRaw_yes (r : Rw) (p : Rp) (w : World) (hk : r.chk = 0) (hs : RSm r) (hm : RMem w w.heap.size r p) (hN : RNils r p) (htab : Tab w.heap.size w) :
    Calls Tryz.prog 20 #[rv r p] w fun e w' => e = .returned (.tuple #[.string ⟨r.txt.toArray⟩, .int .i64 0]) ∧ Below w.heap.size w w' := by
  have hbd := Bd.of hk
  have hn := hbd.n
  have hnb := hbd.nb
  have hnc := hbd.nc
  obtain ⟨l1, l2, l3, l4, l5, l6⟩ := Rw.t_len hbd
  obtain ⟨hB0, hH0⟩ := rbox_new w r p
  have hm0 := hm.to hB0 hB0.size
  have HBD := Lib.hid hbd
  have HK := Lib.hid hk
  have HT := Lib.hid htab
  have L1 := Lib.hid l1
  have L2 := Lib.hid l2
  have L3 := Lib.hid l3
  have L4 := Lib.hid l4
  have L5 := Lib.hid l5
  have L6 := Lib.hid l6
  have hKK := pCheck_any r p (w.alloc (.cells (rcL r p) 26)) hs hm0 hN
  rw [hk] at hKK
  have K := Lib.hid hKK
  clear hk hKK l1 l2 l3 l4 l5 l6 htab
  have kc := fun (w : World) => Lib.run_convert_bytes_const (P := Tryz.prog) w 81 5 #[.int .u8 97, .int .u8 97, .int .u8 103, .int .u8 32] 4 4 Tryz.underlying81 Tryz.underlying5
  go_enter Tryz.func20, Tryz.ntmps20
  go_wp2_with (go_at_call 21; (with_reducible refine K.out.mono ?_); rintro e w1 ⟨rfl, hb1⟩; have hB1 : Below w.heap.size w w1 := Below.step hB0 hB0.size hb1; have hH1 := hH0.keep hb1 hH0.lt; obtain ⟨x0, x1, x2, x3, x4, x5⟩ := hH1.rbox; have hz1 := hH1.lt)
  have hTB : Tab w1.heap.size w1 := Tab.up (HT.out.on hB1) hB1.size
  have D := Lib.hid (fun fz => hdr_any r HBD.out w1 hTB fz)
  have HB1 := Lib.hid hB1
  have HTB := Lib.hid hTB
  clear hb1 hTB hB1
  go_wp2_with (go_at_call 36; (with_reducible refine (D.out _).mono ?_); rintro e w4 ⟨v4, rfl, ho4, hB4⟩; obtain ⟨x0, x1, x2, x3, x4, x5⟩ := (hH1.keep hB4 hz1).rbox)
  have C2 := each_any w1.heap.size r.t1 v4 p.A1 r.ni p.k1 r.ip w4 ho4 hB4.size (Lst.old (((hm.ip.keep (HB1.out.trans (hB4.mono HB1.out.size))).more HB1.out.size)) hB4.size) (HTB.out.on hB4) HBD.out.ip (by omega) (by have := L1.out; omega)
  have D2 := Lib.hid C2
  have HB4 := Lib.hid hB4
  clear C2 ho4 hB4
  go_wp2_with (go_at_call 37; (with_reducible refine D2.out.mono ?_); rintro e w5 ⟨v5, rfl, ho5, hb5, _⟩; have hB5 : Below w1.heap.size w1 w5 := HB4.out.trans hb5; obtain ⟨x0, x1, x2, x3, x4, x5⟩ := (hH1.keep hB5 hz1).rbox)

  have hT5 : Txt w1.heap.size w5 v5 (r.t3 0) := by rw [Rw.t3_0]; exact ho5
  clear ho5 hb5 D D2
  go_loopw [5, 43] (fun u i wr => ∃ q : Nat, q ≤ r.nl ∧ i = .int .i64 q ∧ Txt w1.heap.size wr u (r.t3 q) ∧ Below w1.heap.size w1 wr) (fun _ i _ => r.nl - (intOf i).toNat)
  case atStart => exact ⟨0, Nat.zero_le _, rfl, hT5, hB5⟩
  case round =>
    clear hT5 hB5 x0 x1 x2 x3 x4 x5
    obtain ⟨q, hq, rfl, hT, hBr⟩ := hrel
    have hsz := hBr.size
    obtain ⟨x0, x1, x2, x3, x4, x5⟩ := (hH1.keep hBr hz1).rbox
    by_cases hlt : q < r.nl
    · obtain ⟨a, hA, hab, hcs⟩ := (hm.la.keep (HB1.out.trans (hBr.mono HB1.out.size))) (by omega)
      obtain ⟨y0, y1, y2⟩ := hcs q hlt
      have hq0 : (0 : Int) ≤ (q : Int) := by omega
      have hq1 : (q : Int) < (r.nl : Int) := by omega
      obtain ⟨hb6, _⟩ := kept_al (B := w1.heap.size) (w := wr) hsz (.cells #[.int .i64 (r.ll q), .int .i64 (r.la q), .int .i64 (r.lb q)] 32)
      have C := latch_any w1.heap.size (r.t3 q) u5 (r.ll q) (r.la q) (r.lb q) (wr.alloc (.cells #[.int .i64 (r.ll q), .int .i64 (r.la q), .int .i64 (r.lb q)] 32)) (hT.alloc _) (Nat.le_trans hsz hb6.size) (HTB.out.on (hBr.trans hb6)) (HBD.out.ll q hlt) (HBD.out.la q hlt) (by have := L3.out q hq; omega)
      rw [Rw.t3_succ] at C
      have D := Lib.hid C
      have HB6 := Lib.hid hb6
      rw [hA]
      clear C hcs hb6 hA
      go_wp2_with (go_at_call 38; (with_reducible refine D.out.mono ?_); rintro e w9 ⟨v9, rfl, ho9, hb9, _⟩)
      go_roundw
      case rel => exact ⟨q + 1, by omega, by go_num, ho9, (hBr.trans HB6.out).trans hb9⟩
      case measure => simp [intOf]; omega
    · obtain ⟨q', hqe⟩ : ∃ q', q' = q := ⟨_, rfl⟩
      subst hqe
      have hqn : ¬ (q' : Int) < (r.nl : Int) := by omega
      have hT4 : Txt w1.heap.size wr u5 (r.t3 r.nl) := by rw [show r.nl = q' by omega]; exact hT
      have C4 := each_any w1.heap.size (r.t3 r.nl) u5 p.A4 r.nb p.k4 r.bd wr hT4 hsz (Lst.old (((hm.bd.keep (HB1.out.trans (hBr.mono HB1.out.size))).more HB1.out.size)) hsz) (HTB.out.on hBr) HBD.out.bd (by omega) (by have := L3.out r.nl (Nat.le_refl _); omega)
      have D4 := Lib.hid C4
      clear C4 hq hlt hT hT4
      go_wp2_with (go_at_call 37; (with_reducible refine D4.out.mono ?_); rintro e w6 ⟨v6, rfl, ho6, hb6, _⟩; have hB6 : Below w1.heap.size w1 w6 := hBr.trans hb6; obtain ⟨x0, x1, x2, x3, x4, x5⟩ := (hH1.keep hB6 hz1).rbox)
      have C5 := each_any w1.heap.size r.t4 v6 p.A5 r.nc p.k5 r.cn w6 ho6 hB6.size (Lst.old (((hm.cn.keep (HB1.out.trans (hB6.mono HB1.out.size))).more HB1.out.size)) hB6.size) (HTB.out.on hB6) HBD.out.cn (by omega) (by have := L4.out; omega)

      have D5 := Lib.hid C5
      have HB6 := Lib.hid hB6
      clear C5 ho6 hb6 hB6
      go_wp2_with (go_at_call 37; (with_reducible refine D5.out.mono ?_); rintro e w7 ⟨v7, rfl, ho7, hb7, _⟩; have hB7 : Below w1.heap.size w1 w7 := HB6.out.trans hb7; obtain ⟨x0, x1, x2, x3, x4, x5⟩ := (hH1.keep hB7 hz1).rbox)

      have hT7 : Txt w1.heap.size w7 v7 (r.t6 0) := by rw [Rw.t6_0]; exact ho7
      clear ho7 hb7 D4 D5
      go_loopw [5, 62] (fun u i wr => ∃ q : Nat, q ≤ r.na ∧ i = .int .i64 q ∧ Txt w1.heap.size wr u (r.t6 q) ∧ Below w1.heap.size w1 wr) (fun _ i _ => r.na - (intOf i).toNat)
      case atStart => exact ⟨0, Nat.zero_le _, rfl, hT7, hB7⟩
      case round =>
        clear hT7 hB7 x0 x1 x2 x3 x4 x5 hBr hsz
        obtain ⟨q, hq, rfl, hT, hBr⟩ := hrel
        have hsz := hBr.size
        by_cases hlt : q < r.na
        · obtain ⟨a, hA, hab, hcs⟩ := (hm.an.keep (HB1.out.trans (hBr.mono HB1.out.size))) (by omega)
          obtain ⟨y0, y1, y2⟩ := hcs q hlt
          have hq0 : (0 : Int) ≤ (q : Int) := by omega
          have hq1 : (q : Int) < (r.na : Int) := by omega
          obtain ⟨hb6, _⟩ := kept_al (B := w1.heap.size) (w := wr) hsz (.cells #[.int .i64 (r.gl q), .int .i64 (r.ga q), .int .i64 (r.gb q)] 32)
          obtain ⟨hb7, _⟩ := kept_al (B := w1.heap.size) (Nat.le_trans hsz hb6.size) (.cells #[.int .i64 (r.gl q), .int .i64 (r.ga q), .int .i64 (r.gb q)] 3)
          have C := nums_any w1.heap.size (r.t6 q) u5 (some ⟨wr.heap.size + 1, 0, none⟩) 3 3 (tri (r.gl q) (r.ga q) (r.gb q)) ((wr.alloc (.cells #[.int .i64 (r.gl q), .int .i64 (r.ga q), .int .i64 (r.gb q)] 32)).alloc (.cells #[.int .i64 (r.gl q), .int .i64 (r.ga q), .int .i64 (r.gb q)] 3)) ((hT.alloc _).alloc _) (Nat.le_trans hsz (Nat.le_trans hb6.size hb7.size)) (Lst.new (by simp) (lst3 rfl)) (HTB.out.on (hBr.trans (hb6.trans hb7))) (fun j _ => tri_bd (HBD.out.gl q hlt) (HBD.out.ga q hlt) (HBD.out.gb q hlt)) (by omega) (by have := L6.out q hq; omega)
          rw [Rw.t6_succ] at C
          have D := Lib.hid C
          have HB6 := Lib.hid (hb6.trans hb7)
          rw [hA]
          clear C hcs hb6 hb7 hA
          go_wp2_with (go_at_call 36; (with_reducible refine D.out.mono ?_); rintro e w9 ⟨v9, rfl, ho9, hb9, _⟩)
          go_roundw
          case rel => exact ⟨q + 1, by omega, by go_num, ho9, (hBr.trans HB6.out).trans hb9⟩
          case measure => simp [intOf]; omega
        · obtain ⟨q2, hqe⟩ : ∃ q2, q2 = q := ⟨_, rfl⟩
          subst hqe
          have hqn2 : ¬ (q2 : Int) < (r.na : Int) := by omega
          have hT8 : Txt w1.heap.size wr u5 r.txt := by rw [← Rw.t6_txt, show r.na = q2 by omega]; exact hT
          have CS := txt_string hT8
          clear hq hlt hT hT8
          go_wp2
          go_ret2
          exact ⟨rfl, HB1.out.trans (hBr.mono HB1.out.size)⟩

end Go.Proofs.YtkpjpokeonppbaaGreatDoor
