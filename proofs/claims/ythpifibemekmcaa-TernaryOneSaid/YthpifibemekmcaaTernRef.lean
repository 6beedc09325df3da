/- The reference of layer 5: its check, the frame. -/
import Derived.Test.YthpifibemekmcaaTernLists
import Derived.Test.YthpifibemekmcaaTernConcat
import Derived.Test.YthpifibemekmcaaValuesRef
import Derived.Test.YthpifibemekmcaaHeadTail
import Derived.Deep.AppendLies
namespace Go.Proofs.Ythpifibemekmcaa
open Go.RowKit
set_option linter.unusedVariables false
set_option linter.unusedSimpArgs false

/-- a circuit, a ternary state and inputs, as a call has them -/
structure TArg (w : World) (B : Nat) (c : Cr) (p : Pl) (As : Option Addr) (ns ks : Nat) (s : Nat → Int) (At : Option Addr) (ni ki : Nat) (t : Nat → Int) : Prop where
  hm : Mem w B c p
  hs : Sm c
  hS : TrAt w B As ns s
  hT : TrAt w B At ni t
  nS : As = none → ns = 0 ∧ ks = 0
  nT : At = none → ni = 0 ∧ ki = 0
  n1 : ns ≤ 100000
  n2 : ni ≤ 100000
  r1 : ∀ j, j < ns → 0 ≤ s j ∧ s j ≤ 255
  r2 : ∀ j, j < ni → 0 ≤ t j ∧ t j ≤ 255
theorem TArg.to {w W : World} {B : Nat} {c : Cr} {p : Pl} {As : Option Addr} {ns ks : Nat} {s : Nat → Int} {At : Option Addr} {ni ki : Nat} {t : Nat → Int} (h : TArg w B c p As ns ks s At ni ki t) (hb : Below B w W) (hB : B ≤ W.heap.size) : TArg W W.heap.size c p As ns ks s At ni ki t :=
  ⟨h.hm.to hb hB, h.hs, h.hS.to hb hB, h.hT.to hb hB, h.nS, h.nT, h.n1, h.n2, h.r1, h.r2⟩

namespace Cr
/-- the error of a circuit, a ternary state and inputs -/
def tsk (c : Cr) (ns ni : Nat) (s t : Nat → Int) : Int := if c.ask ns ni ≠ 0 then c.ask ns ni else if allTb s ns = true ∧ allTb t ni = true then 0 else 8
theorem tsk_ways (c : Cr) (ns ni : Nat) (s t : Nat → Int) : (c.chk ≠ 0 ∧ c.tsk ns ni s t = c.chk) ∨ (c.chk = 0 ∧ ns ≠ c.nl ∧ c.tsk ns ni s t = 2) ∨ (c.chk = 0 ∧ ns = c.nl ∧ (ni : Int) ≠ c.i ∧ c.tsk ns ni s t = 2) ∨ (c.chk = 0 ∧ ns = c.nl ∧ (ni : Int) = c.i ∧ allTb s ns = false ∧ c.tsk ns ni s t = 8) ∨ (c.chk = 0 ∧ ns = c.nl ∧ (ni : Int) = c.i ∧ allTb s ns = true ∧ allTb t ni = false ∧ c.tsk ns ni s t = 8) ∨ (c.chk = 0 ∧ ns = c.nl ∧ (ni : Int) = c.i ∧ allTb s ns = true ∧ allTb t ni = true ∧ c.tsk ns ni s t = 0) := by
  unfold tsk
  rcases c.ask_ways ns ni with ⟨a, r⟩ | ⟨a, b, r⟩ | ⟨a, b, d, r⟩ | ⟨a, b, d, r⟩
  · exact Or.inl ⟨a, by rw [r, if_pos a]⟩
  · exact Or.inr (Or.inl ⟨a, b, by rw [r]; rfl⟩)
  · exact Or.inr (Or.inr (Or.inl ⟨a, b, d, by rw [r]; rfl⟩))
  · rw [r]
    cases h1 : allTb s ns
    · exact Or.inr (Or.inr (Or.inr (Or.inl ⟨a, b, d, rfl, by simp⟩)))
    · cases h2 : allTb t ni
      · exact Or.inr (Or.inr (Or.inr (Or.inr (Or.inl ⟨a, b, d, rfl, rfl, by simp⟩))))
      · exact Or.inr (Or.inr (Or.inr (Or.inr (Or.inr ⟨a, b, d, rfl, rfl, by simp⟩))))
theorem tsk_zero {c : Cr} {ns ni : Nat} {s t : Nat → Int} (h : c.tsk ns ni s t = 0) : c.chk = 0 ∧ ns = c.nl ∧ (ni : Int) = c.i ∧ allTb s ns = true ∧ allTb t ni = true := by
  rcases c.tsk_ways ns ni s t with ⟨a, r⟩ | ⟨a, b, r⟩ | ⟨a, b, d, r⟩ | ⟨a, b, d, e, r⟩ | ⟨a, b, d, e, f, r⟩ | ⟨a, b, d, e, f, r⟩
  · omega
  · omega
  · omega
  · omega
  · omega
  · exact ⟨a, b, d, e, f⟩
theorem tsk_ask {c : Cr} {ns ni : Nat} {s t : Nat → Int} (h : c.tsk ns ni s t = 0) : c.ask ns ni = 0 := by
  obtain ⟨a, b, d, _⟩ := tsk_zero h
  exact ask_ok a b d
theorem tfA_first {c : Cr} {s t : Nat → Int} {ni ns : Nat} (hi : (ni : Int) = c.i) (hs : ns = c.nl) : [Value.int .u8 0] ++ tL t ni ++ tL s ns = tL (c.tfA s t 0) (c.fg + 0) := by
  have e1 : [Value.int .u8 0] = tL (fun _ => 0) 1 := rfl
  have e2 : c.fg + 0 = 1 + ni + ns := by unfold fg; omega
  rw [e1, tL_app, tL_app, e2]
  refine tL_congr _ fun j hj => ?_
  have e3 : c.i.toNat = ni := by omega
  unfold tfA
  rw [e3]
  by_cases h0 : j = 0
  · subst h0; simp
  · rw [if_neg h0]
    by_cases h1 : j < 1 + ni
    · rw [if_pos h1, if_pos h1, if_neg (by omega)]
    · rw [if_neg h1, if_neg h1, if_pos (by unfold fg; omega)]
theorem tfA_next (c : Cr) (s t : Nat → Int) (q : Nat) : tL (c.tfA s t (q + 1)) (c.fg + (q + 1)) = tL (c.tfA s t q) (c.fg + q) ++ [.int .u8 (tand (tlo (c.tfA s t q) (c.ga q)) (tlo (c.tfA s t q) (c.gb q)))] := by
  rw [← Nat.add_assoc, tL]
  congr 1
  · exact tL_congr _ fun j hj => by rw [tfA_succ]; exact if_neg (by omega)
  · rw [tfA_succ]; simp
/-- how many values All, Next and First return -/
def tn (c : Cr) (ns ni : Nat) (s t : Nat → Int) : Nat := if c.tsk ns ni s t = 0 then c.fg + c.na else 0
def tnn (c : Cr) (ns ni : Nat) (s t : Nat → Int) : Nat := if c.tsk ns ni s t = 0 then c.nl else 0
def rsn (c : Cr) : Nat := if c.chk = 0 then c.nl else 0
theorem rs_ok {c : Cr} (h : c.chk = 0) {j : Nat} (hj : j < c.nl) : 0 ≤ c.rs j ∧ c.rs j ≤ 2 := by
  obtain ⟨k1, k2, k3, k4, k5, k6, k7, k8⟩ := chk_zero h
  have := (of_decide_eq_true k7 : ∀ j, j < c.nl → 0 ≤ c.nx j ∧ c.nx j / 2 ≤ c.sz ∧ 0 ≤ c.rs j ∧ c.rs j ≤ 2) j hj
  omega
end Cr

/-- what a call owns it keeps where only blocks above it come up -/
theorem own_below {w w' : World} {base : Nat} {e : TypeId} {size n : Nat} {v : Value} {xs : List Value} (h : w.ownsRow base e size v n xs) (hb : Below w.heap.size w w') : w'.ownsRow base e size v n xs := by
  refine ⟨h.1, h.2.imp id fun ⟨g, cap, cur, h1, h2, h3, h4⟩ => ⟨g, cap, cur, h1, h2, ?_, h4⟩⟩
  exact (hb.block g (Has.lt (t := e) (cs := cur) h3)).trans h3

/-- a list of bytes in memory of the call's own -/
def TrsIs (n : Nat) (f : Nat → Int) (w : World) (e : Ending) (w' : World) : Prop :=
  ∃ v, e = .returned v ∧ w'.ownsRow w.heap.size 5 1 v n (tL f n) ∧ Below w.heap.size w w'
/-- a list of bytes somewhere -/
def TrsAt (n : Nat) (f : Nat → Int) (w : World) (e : Ending) (w' : World) : Prop :=
  ∃ A k, e = .returned (.slice A n k) ∧ TrAt w' w'.heap.size A n f ∧ Below w.heap.size w w'
theorem TrsIs.at {n : Nat} {f : Nat → Int} {w w' : World} {e : Ending} (h : TrsIs n f w e w') : TrsAt n f w e w' := by
  obtain ⟨v, rfl, ho, hb⟩ := h
  obtain ⟨A, k, rfl, hi, _⟩ := own_trs ho
  exact ⟨A, k, rfl, hi, hb⟩
/-- the same with an error behind it -/
def TrsErr (n : Nat) (f : Nat → Int) (x : Int) (w : World) (e : Ending) (w' : World) : Prop :=
  ∃ A k, e = .returned (.tuple #[.slice A n k, .int .i64 x]) ∧ TrAt w' w'.heap.size A n f ∧ Below w.heap.size w w'

section
variable {c : Cr} {p : Pl} {As At : Option Addr} {ns ks ni ki : Nat} {s t : Nat → Int}
set_option maxRecDepth 100000 in
set_option maxHeartbeats 4000000 in
theorem tAsked_any (w : World) (h : TArg w w.heap.size c p As ns ks s At ni ki t) :
    Calls Try.prog 30 #[cv c p, .slice As ns ks, .slice At ni ki] w fun e w' => e = .returned (.int .i64 (c.tsk ns ni s t)) ∧ Below w.heap.size w w' := by
  have hB0 : Below w.heap.size w w := Below.refl _ _
  have hs := h.hs
  have hm := h.hm
  have h1 := h.n1
  have h2 := h.n2
  have g1 := hs.nl
  have g5 := hs.i
  unfold I64 at g5
  have CS := fun (W : World) (hb : Below w.heap.size w W) => tRight_any As ns ks s w.heap.size W h1 (h.hS.keep hb) h.r1
  have CT := fun (W : World) (hb : Below w.heap.size w W) => tRight_any At ni ki t w.heap.size W h2 (h.hT.keep hb) h.r2
  rcases c.tsk_ways ns ni s t with ⟨a, r⟩ | ⟨a, b, r⟩ | ⟨a, b, d, r⟩ | ⟨a, b, d, e, r⟩ | ⟨a, b, d, e, f, r⟩ | ⟨a, b, d, e, f, r⟩
  · have h : (c.chk != 0) = true := by simpa [bne] using a
    rw [r]
    clear a r CS CT
    go_enter Try.func30, Try.ntmps30
    go_wp2_with (first
      | (go_at_call 55; (with_reducible refine (rCheck_any c p (w.alloc _) (hm.to (by go_grown) (by go_size)) hs).mono ?_); rintro e w1 ⟨rfl, hb1⟩; obtain ⟨hc1, hf1⟩ := bcell hb1; have hz1 : w.heap.size < w1.heap.size := (by have := hb1.size; (try simp at this); omega); have hB1 : Below w.heap.size w w1 := Below.step (by go_grown) (by go_size) hb1)
      | (go_at_call 55; (with_reducible refine (rCheck_any c p w1 (hm.to hB1 hB1.size) hs).mono ?_); rintro e w2 ⟨rfl, hb2⟩; have hB2 : Below w.heap.size w w2 := Below.step hB1 hB1.size hb2))
    go_ret
    exact ⟨rfl, hB2⟩
  all_goals
    have h : (c.chk != 0) = false := by simp [bne, a]
    have hz := Cr.chk_i (c := c) (by simpa using a) hs
    rw [r]
    clear a r
    first
      | (have t1 : ((ns : Int) != (c.nl : Int)) = true := by simp; omega)
      | (have t1 : ((ns : Int) != (c.nl : Int)) = false := by simp; omega)
    try first
      | (have t2 : ((ni : Int) != c.i) = true := by simp; omega)
      | (have t2 : ((ni : Int) != c.i) = false := by simp; omega)
    clear b
    try clear d
    try rw [e] at CS
    try rw [f] at CT
    try clear e
    try clear f
    go_enter Try.func30, Try.ntmps30
    go_wp2_with (first
      | (go_at_call 55; (with_reducible refine (rCheck_any c p (w.alloc _) (hm.to (by go_grown) (by go_size)) hs).mono ?_); rintro e w1 ⟨rfl, hb1⟩; obtain ⟨hc1, hf1⟩ := bcell hb1; have hz1 : w.heap.size < w1.heap.size := (by have := hb1.size; (try simp at this); omega); have hB1 : Below w.heap.size w w1 := Below.step (by go_grown) (by go_size) hb1)
      | (go_at_call 35; (with_reducible refine (CS w1 hB1).mono ?_); rintro e w2 ⟨rfl, rfl⟩)
      | (go_at_call 35; (with_reducible refine (CT w1 hB1).mono ?_); rintro e w2 ⟨rfl, rfl⟩))
    go_ret
    exact ⟨rfl, hB1⟩
theorem tAsked_ok (hk : c.tsk ns ni s t = 0) (w : World) (h : TArg w w.heap.size c p As ns ks s At ni ki t) :
    Calls Try.prog 30 #[cv c p, .slice As ns ks, .slice At ni ki] w fun e w' => e = .returned (.int .i64 0) ∧ Below w.heap.size w w' := by
  have := tAsked_any w h
  rwa [hk] at this

set_option maxRecDepth 100000 in
set_option maxHeartbeats 4000000 in
theorem tFrame_any (hk : c.tsk ns ni s t = 0) (w : World) (h : TArg w w.heap.size c p As ns ks s At ni ki t) :
    Calls Try.prog 53 #[cv c p, .slice As ns ks, .slice At ni ki] w (TrsIs (c.fg + c.na) (c.tf s t) w) := by
  obtain ⟨hc, hns, hni, hts, htt⟩ := Cr.tsk_zero hk
  have hm := h.hm
  have hs := h.hs
  have hS := h.hS
  have hT := h.hT
  have g1 := hs.nl
  have g2 := hs.na
  have hb := Cr.chk_i (c := c) (by simpa using hc) hs
  have HT1 := Lib.hid (Cr.tfA_isT (c := c) (s := s) (t := t) (fun j hj => allTb_at hts h.r1 j (by omega)) (fun j hj => allTb_at htt h.r2 j (by omega)))
  obtain ⟨i0, hi0, hzz0, hs0, hy0⟩ := info_parts info_u8
  have hbox2 : Has ((w.alloc (.cells (cc c p) 38)).alloc (.cells #[.int .u8 0] 5)) w.heap.size 38 (cc c p) := (Has.new _ _ _).al _
  have hBox2 : Below w.heap.size w ((w.alloc (.cells (cc c p) 38)).alloc (.cells #[.int .u8 0] 5)) := by go_grown
  have hown1 : ((w.alloc (.cells (cc c p) 38)).alloc (.cells #[.int .u8 0] 5)).ownsRow (w.heap.size + 1) 5 1 (.slice (some ⟨w.heap.size + 1, 0, none⟩) 1 1) 1 [.int .u8 0] := by
    have := own_new1 (w.alloc (.cells (cc c p) 38)) (.int .u8 0) 5 (w.heap.size + 1) (by simp)
    rwa [World.size_alloc] at this
  have hfirst := Lib.hid (Cr.tfA_first (s := s) (t := t) hni hns)
  have hfg : c.fg ≤ 1001 ∧ c.fg + c.na ≤ 2001 ∧ 1 + ni + ns = c.fg + 0 := by have : c.sz = c.i + c.nl + c.na := rfl; unfold Cr.fg; omega
  have HC := Lib.hid hc
  have hns1 : ns ≤ 1000 := by omega
  have hni1 : ni ≤ 1000 := by omega
  have hfi : (c.fg : Int) = 1 + c.i + c.nl := by unfold Cr.fg; omega
  have HFI := Lib.hid hfi
  have nS := h.nS
  have nT := h.nT
  clear hc hns hni hk hts htt hfi h
  go_enter Try.func53, Try.ntmps53
  go_wp2_with (first
    | (at_builtin
       (refine append_more rfl (.tmp 9) (.tmp 10) _ rfl (w.heap.size + 1) 5 i0 _ 1 1 Try.underlying29 hi0 hzz0 hs0 hy0 rfl (by decide) _ 1 [.int .u8 0] rfl hown1 At ni ki (tL t ni) rfl (tL_len _ _) ((hT.keep hBox2).src nT) (tL_one _ _) (by simp only [maxLen]; omega) (by omega) (by go_size) ?_)
       intro v1 w1 ho1 hg1
       have hH1 : Has w1 w.heap.size 38 (cc c p) := app_has0 hbox2 hown1 hg1 (by omega)
       have hB1 : Below w.heap.size w w1 := app_below0 hBox2 hBox2.size (by omega) hown1 hg1
       have hz1 := hH1.lt)
    | (at_builtin
       (refine append_more rfl (.tmp 12) (.tmp 13) _ rfl (w.heap.size + 1) 5 i0 _ 1 1 Try.underlying29 hi0 hzz0 hs0 hy0 rfl (by decide) v1 (1 + ni) ([.int .u8 0] ++ tL t ni) rfl ho1 As ns ks (tL s ns) rfl (tL_len _ _) ((hS.keep hB1).src nS) (tL_one _ _) (by simp only [maxLen]; omega) (by omega) (by omega) ?_)
       intro v2 w2 ho2 hg2
       have hH2 : Has w2 w.heap.size 38 (cc c p) := app_has0 hH1 ho1 hg2 (by omega)
       have hB2 : Below w.heap.size w w2 := app_below0 hB1 hB1.size (by omega) ho1 hg2))
  clear hg1 hg2 hbox2 hBox2 hown1
  rw [hfirst.out] at ho2
  rw [hfg.2.2] at ho2
  have hsz1 : w.heap.size < w2.heap.size := hH2.lt
  go_loopw [7, 8] (fun v i wr => ∃ q : Nat, q ≤ c.na ∧ i = .int .i64 q ∧ wr.ownsRow (w.heap.size + 1) 5 1 v (c.fg + q) (tL (c.tfA s t q) (c.fg + q)) ∧ Has wr w.heap.size 38 (cc c p) ∧ Below w.heap.size w wr) (fun _ i _ => c.na - (intOf i).toNat)
  case atStart => exact ⟨0, Nat.zero_le _, rfl, ho2, hH2, hB2⟩
  case round =>
    clear ho1 ho2 hH1 hH2 hB1 hB2
    obtain ⟨q, hq, rfl, hown, hHr, hBr⟩ := hrel
    obtain ⟨x0, x1, x2, x3, x4⟩ := hHr.box
    by_cases hlt : q < c.na
    · obtain ⟨k1, k2, k3, k4, k5⟩ := Cr.gate_ok HC.out hlt
      obtain ⟨a, hA, hab, hcs⟩ := (hm.an.keep hBr) (by omega)
      obtain ⟨y0, y1⟩ := hcs q hlt
      rw [hA] at x2
      have HA1 := Lib.hid hA
      clear hcs hA
      obtain ⟨A, k, rfl, hi, _⟩ := own_trs hown
      have HX := Lib.hid (Cr.tfA_next c s t q)
      have efg := HFI.out
      have b1 : c.ga q / 2 < ((c.fg + q : Nat) : Int) := by omega
      have b2 : c.gb q / 2 < ((c.fg + q : Nat) : Int) := by omega
      have b3 : c.ga q ≤ 2001 := by omega
      have b4 : c.gb q ≤ 2001 := by omega
      have b5 : 0 ≤ c.ga q := by omega
      have hq0 : (0 : Int) ≤ (q : Int) := by omega
      have hq1 : (q : Int) < c.na := by omega
      have hwl := hHr.lt
      have hid : TrAt wr.drew wr.heap.size A (c.fg + q) (c.tfA s t q) := hi
      have HSF : ∀ W, Has W w.heap.size 38 (cc c p) → Below w.heap.size w W → W.cell? ⟨w.heap.size, 2, none⟩ = some (.slice (some a) c.na p.k2) ∧ W.cell? (a.add (q * 2)) = some (.int .i64 (c.ga q)) ∧ W.cell? ⟨(a.add (q * 2)).block, (a.add (q * 2)).off + 1, none⟩ = some (.int .i64 (c.gb q)) := fun W hH hb => by
        obtain ⟨a', hA', hab2, hcs'⟩ := (hm.an.keep hb) (by omega)
        rw [HA1.out] at hA'
        cases hA'
        have z := hH.cell 2
        refine ⟨?_, (hcs' q hlt).1, (hcs' q hlt).2⟩
        rw [z, ← HA1.out]; rfl
      have HSK : ∀ W, Below wr.heap.size wr W → W.cell? ⟨w.heap.size, 2, none⟩ = some (.slice (some a) c.na p.k2) ∧ W.cell? (a.add (q * 2)) = some (.int .i64 (c.ga q)) ∧ W.cell? ⟨(a.add (q * 2)).block, (a.add (q * 2)).off + 1, none⟩ = some (.int .i64 (c.gb q)) := fun W hb => HSF W (hHr.keep hb hwl) (Below.step hBr hBr.size hb)
      clear efg
      go_wp2
      have hS0 : wr.drew.cell? ⟨w.heap.size, 2, none⟩ = some (.slice (some a) c.na p.k2) ∧ wr.drew.cell? (a.add (q * 2)) = some (.int .i64 (c.ga q)) ∧ wr.drew.cell? ⟨(a.add (q * 2)).block, (a.add (q * 2)).off + 1, none⟩ = some (.int .i64 (c.gb q)) := ⟨x2, y0, y1⟩
      refine wp_region_T (fun w' => w'.cell? ⟨w.heap.size, 2, none⟩ = some (.slice (some a) c.na p.k2) ∧ w'.cell? (a.add (q * 2)) = some (.int .i64 (c.ga q)) ∧ w'.cell? ⟨(a.add (q * 2)).block, (a.add (q * 2)).off + 1, none⟩ = some (.int .i64 (c.gb q))) 20 (by kernel_rfl) ?_
      (refine wpT_take 0 (v := ?_) rfl (by kernel_rfl) (by kernel_rfl) (by kernel_rfl) (by kernel_rfl) (fun _ _ _ h => h) rfl hS0 (fun w hS => ?_) ?_; rotate_left; focus (obtain ⟨j1, j2, j3⟩ := hS; go_simp; rfl)); (refine wpT_take 1 (v := ?_) rfl (by kernel_rfl) (by kernel_rfl) (by kernel_rfl) (by kernel_rfl) (fun _ _ _ h => h) rfl hS0 (fun w hS => ?_) ?_; rotate_left; focus (obtain ⟨j1, j2, j3⟩ := hS; go_simp; rfl)); (refine wpT_take 2 (v := ?_) rfl (by kernel_rfl) (by kernel_rfl) (by kernel_rfl) (by kernel_rfl) (fun _ _ _ h => h) rfl hS0 (fun w hS => ?_) ?_; rotate_left; focus (obtain ⟨j1, j2, j3⟩ := hS; go_simp; rfl)); (refine wpT_take 3 (v := ?_) rfl (by kernel_rfl) (by kernel_rfl) (by kernel_rfl) (by kernel_rfl) (fun _ _ _ h => h) rfl hS0 (fun w hS => ?_) ?_; rotate_left; focus (obtain ⟨j1, j2, j3⟩ := hS; go_simp; rfl)); (refine wpT_take 4 (v := ?_) rfl (by kernel_rfl) (by kernel_rfl) (by kernel_rfl) (by kernel_rfl) (fun _ _ _ h => h) rfl hS0 (fun w hS => ?_) ?_; rotate_left; focus (obtain ⟨j1, j2, j3⟩ := hS; go_simp; rfl)); (refine wpT_take 5 (v := ?_) rfl (by kernel_rfl) (by kernel_rfl) (by kernel_rfl) (by kernel_rfl) (fun _ _ _ h => h) rfl hS0 (fun w hS => ?_) ?_; rotate_left; focus (obtain ⟨j1, j2, j3⟩ := hS; go_simp; rfl)); (refine wpT_take 6 (v := ?_) rfl (by kernel_rfl) (by kernel_rfl) (by kernel_rfl) (by kernel_rfl) (fun _ _ _ h => h) rfl hS0 (fun w hS => ?_) ?_; rotate_left; focus (obtain ⟨j1, j2, j3⟩ := hS; go_simp; rfl)); (refine wpT_take 7 (v := ?_) rfl (by kernel_rfl) (by kernel_rfl) (by kernel_rfl) (by kernel_rfl) (fun _ _ _ h => h) rfl hS0 (fun w hS => ?_) ?_; rotate_left; focus (obtain ⟨j1, j2, j3⟩ := hS; go_simp; rfl)); (refine wpT_take 9 (v := ?_) rfl (by kernel_rfl) (by kernel_rfl) (by kernel_rfl) (by kernel_rfl) (fun _ _ _ h => h) rfl hS0 (fun w hS => ?_) ?_; rotate_left; focus (obtain ⟨j1, j2, j3⟩ := hS; go_simp; rfl)); (refine wpT_take 10 (v := ?_) rfl (by kernel_rfl) (by kernel_rfl) (by kernel_rfl) (by kernel_rfl) (fun _ _ _ h => h) rfl hS0 (fun w hS => ?_) ?_; rotate_left; focus (obtain ⟨j1, j2, j3⟩ := hS; go_simp; rfl)); (refine wpT_take 11 (v := ?_) rfl (by kernel_rfl) (by kernel_rfl) (by kernel_rfl) (by kernel_rfl) (fun _ _ _ h => h) rfl hS0 (fun w hS => ?_) ?_; rotate_left; focus (obtain ⟨j1, j2, j3⟩ := hS; go_simp; rfl)); (refine wpT_take 12 (v := ?_) rfl (by kernel_rfl) (by kernel_rfl) (by kernel_rfl) (by kernel_rfl) (fun _ _ _ h => h) rfl hS0 (fun w hS => ?_) ?_; rotate_left; focus (obtain ⟨j1, j2, j3⟩ := hS; go_simp; rfl)); (refine wpT_take 13 (v := ?_) rfl (by kernel_rfl) (by kernel_rfl) (by kernel_rfl) (by kernel_rfl) (fun _ _ _ h => h) rfl hS0 (fun w hS => ?_) ?_; rotate_left; focus (obtain ⟨j1, j2, j3⟩ := hS; go_simp; rfl)); (refine wpT_take 14 (v := ?_) rfl (by kernel_rfl) (by kernel_rfl) (by kernel_rfl) (by kernel_rfl) (fun _ _ _ h => h) rfl hS0 (fun w hS => ?_) ?_; rotate_left; focus (obtain ⟨j1, j2, j3⟩ := hS; go_simp; rfl)); (refine wpT_take 15 (v := ?_) rfl (by kernel_rfl) (by kernel_rfl) (by kernel_rfl) (by kernel_rfl) (fun _ _ _ h => h) rfl hS0 (fun w hS => ?_) ?_; rotate_left; focus (obtain ⟨j1, j2, j3⟩ := hS; go_simp; rfl))
      refine wpT_one 8 (by kernel_rfl) (wpOp_go rfl rfl fun K hK => ?_)
      go_simp
      go_at_call 75
      (with_reducible refine (trValue_any A (c.fg + q) k (c.tfA s t q) (c.ga q) wr.heap.size wr.drew hid b5 b3 b1 (HT1.out q _)).mono ?_)
      rintro e w6 ⟨rfl, hb6⟩
      have hB6 : Below wr.heap.size wr w6 := Below.step (below_dn (Below.refl wr.heap.size wr) 1) (Nat.le_refl _) hb6
      refine hK _ _ ⟨fun _ => HSK w6 hB6, ?_⟩
      refine wpT_one 16 (by kernel_rfl) (wpOp_go rfl rfl fun K hK => ?_)
      go_simp
      go_at_call 75
      (with_reducible refine (trValue_any A (c.fg + q) k (c.tfA s t q) (c.gb q) wr.heap.size w6 (hi.keep hB6) k1 b4 b2 (HT1.out q _)).mono ?_)
      rintro e w7 ⟨rfl, hb7⟩
      have hB7 : Below wr.heap.size wr w7 := Below.step hB6 hB6.size hb7
      refine hK _ _ ⟨fun _ => HSK w7 hB7, ?_⟩
      refine wpT_one 17 (by kernel_rfl) (wpOp_go rfl rfl fun K hK => ?_)
      go_simp
      go_at_call 58
      (with_reducible refine (rBoth_any (tlo_isT (HT1.out q _)) (tlo_isT (HT1.out q _)) w7).mono ?_)
      rintro e w8 ⟨rfl, hb8⟩
      have hB8 : Below wr.heap.size wr w8 := Below.step hB7 hB7.size hb8
      refine hK _ _ ⟨fun _ => HSK w8 hB8, ?_⟩
      refine wpT_one 18 (by kernel_rfl) (wpOp_go rfl rfl fun K hK => ?_)
      go_simp
      refine hK _ _ ⟨fun _ => HSK _ (hB8.alloc hB8.size _), ?_⟩
      have hown8 := own_below hown hB8
      have hsz8 := hB8.size
      refine wpT_one 19 (by kernel_rfl) (wpOp_go rfl rfl fun K hK => ?_)
      refine wp_append_lies _ _ _ _ (by rfl) (w.heap.size + 1) 5 i0 _ 1 1 Try.underlying29 hi0 hzz0 hs0 hy0 rfl (by omega) _ (c.fg + q) (tL (c.tfA s t q) (c.fg + q)) (by rfl) (hown8.alloc _) ⟨w8.heap.size, 0, none⟩ 1 1 [.int .u8 (tand (tlo (c.tfA s t q) (c.ga q)) (tlo (c.tfA s t q) (c.gb q)))] (by rfl) (by rfl) (World.news_of_block (cs := #[.int .u8 (tand (tlo (c.tfA s t q) (c.ga q)) (tlo (c.tfA s t q) (c.gb q)))]) (t := 5) (fr := (0, 0)) (Has.new' _ _ (by simp))) (by simp [Value.oneCell']) (by omega) (by simp only [maxLen]; omega) (by omega) (by simp; omega) (w8.heap.size + 1) (by simp) ?_
      intro gg cap w9 hown' hgrow hat hlt9
      have hH9 := app_has (hHr.keep hB8 hwl) hown8 hgrow (by omega)
      have hB9 := app_below (Below.step hBr hBr.size hB8) (by omega) (by omega) hown8 hgrow
      refine hK _ _ ⟨fun _ => HSF w9 hH9 hB9, ?_⟩
      refine wpT_one 20 (by kernel_rfl) (wpOp_go rfl rfl fun K hK => ?_)
      go_simp
      refine hK _ _ ⟨fun h => absurd h (by decide), ?_⟩
      refine wpT_done (by kernel_rfl) (NoPanic.normal ?_) _
      go_wp2
      go_roundw
      case rel => exact ⟨q + 1, by omega, by go_num, by rw [HX.out]; exact hown', hH9, hB9⟩
      case measure => simp [intOf]; omega
    · obtain rfl : q = c.na := by omega
      clear hq hlt
      go_wp2
      go_ret
      exact ⟨_, rfl, own_base hown (by omega), hBr⟩
end
end Go.Proofs.Ythpifibemekmcaa
