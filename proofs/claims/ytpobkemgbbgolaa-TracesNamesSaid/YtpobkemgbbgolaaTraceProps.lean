/- The contracts of traces.props, Right and Witness. -/
import Derived.Test.YtpobkemgbbgolaaTraceStates
namespace Go.Proofs.Ytpobkemgbbgolaa
open Go.RowKit
set_option linter.unusedVariables false
set_option linter.unusedSimpArgs false

/-- what the call owns, while it does something elsewhere -/
theorem own_by {w w' : World} {base : Nat} {e : TypeId} {size n : Nat} {v : Value} {xs : List Value} {r : Option Nat} (h : w.ownsRow base e size v n xs) (hg : w.grownBy w' r) (hr : r = none ∨ v.ownBlock ≠ r) : w'.ownsRow base e size v n xs := by
  rcases h.2 with ⟨hv, hn⟩ | ⟨g, cap, cur, rfl, hb, hh, hrest⟩
  · exact ⟨h.1, Or.inl ⟨hv, hn⟩⟩
  · refine ⟨h.1, Or.inr ⟨g, cap, cur, rfl, hb, (hg.block g (Has.lt (t := e) (cs := cur) hh) ?_).trans hh, hrest⟩⟩
    rcases hr with rfl | hr
    · simp
    · exact hr
theorem own_under {w w' : World} {B base : Nat} {e : TypeId} {size n : Nat} {v : Value} {xs : List Value} (h : w.ownsRow base e size v n xs) (hb : Below B w w') (hB : ∀ g, v.ownBlock = some g → g < B) : w'.ownsRow base e size v n xs := by
  rcases h.2 with ⟨hv, hn⟩ | ⟨g, cap, cur, rfl, hg, hh, hrest⟩
  · exact ⟨h.1, Or.inl ⟨hv, hn⟩⟩
  · exact ⟨h.1, Or.inr ⟨g, cap, cur, rfl, hg, (hb.block g (hB g rfl)).trans hh, hrest⟩⟩
theorem own_in {w : World} {base : Nat} {e : TypeId} {size n : Nat} {v : Value} {xs : List Value} (h : w.ownsRow base e size v n xs) {g : Nat} (hg : v.ownBlock = some g) : base ≤ g ∧ g < w.heap.size := by
  rcases h.2 with ⟨rfl, _⟩ | ⟨g', cap, cur, rfl, hb, hh, _⟩
  · cases hg
  · obtain rfl : g' = g := by simpa [Value.ownBlock] using hg
    exact ⟨hb, Has.lt (t := e) (cs := cur) hh⟩
theorem own_apart2 {w : World} {base base' n m : Nat} {v v' : Value} {L : Nat → Nat} {f : Nat → Nat → Bool} {D : Option Nat} {xs : List Value} {lo : Nat} (h : Grid w base v n L f D lo) (h' : w.ownsRow base' 4 1 v' m xs) : v.ownBlock = none ∨ v'.ownBlock ≠ v.ownBlock := by
  rcases own_apart h h' with e | e
  · exact Or.inl e
  · exact Or.inr fun e' => e e'.symm
/-- a list that lies apart from two more -/
theorem row_far {w : World} {A5 : Option Addr} {m : Nat} {f : Nat → Bool} {v1 v1' : Value} {d : Nat} {o : Obj} (hi : BlsAt w w.heap.size A5 m f) (hf : ∀ a, A5 = some a → d ≤ a.block) (hv : ∀ g, v1.ownBlock = some g → g < d) (hat : v1'.ownBlock = v1.ownBlock ∨ v1'.ownBlock = some (w.alloc o).heap.size) : 0 < m → ∀ a, A5 = some a → some a.block ≠ v1.ownBlock ∧ some a.block ≠ v1'.ownBlock := fun hm a ha => by
  obtain ⟨a', ea, hl, _⟩ := hi hm
  rw [ha] at ea
  cases ea
  have h1 : some a.block ≠ v1.ownBlock := fun e => by have := hf a ha; have := hv _ e.symm; omega
  refine ⟨h1, ?_⟩
  rcases hat with e | e
  · rw [e]; exact h1
  · rw [e]
    intro e
    injection e with e
    simp at e
    omega

theorem blsN {w : World} {B : Nat} {A : Option Addr} {f : Nat → Bool} : BlsAt w B A 0 f := fun h => absurd h (Nat.not_lt_zero _)
/-- what props returns -/
def PrErr (n : Nat) (R : Nat → Bool) (L : Nat → Nat) (f : Nat → Nat → Bool) (x : Int) (w : World) (e : Ending) (w' : World) : Prop :=
  ∃ A k A' k', e = .returned (.tuple #[.slice A n k, .slice A' n k', .int .i64 x]) ∧ BlsAt w' w'.heap.size A n R ∧ RowsAt w' w'.heap.size A' n L f ∧ Below w.heap.size w w'

section
variable {c : Cr} {p : Pl} {t : Tr} {q : Tp}

theorem states_at {n : Nat} {F : Nat → Nat → Bool} (hF : c.sts t = F) (hk : c.tck t = 0) (hn : t.ni = n) (w : World) (h : RArg w w.heap.size c p t q) :
    Calls Try.prog 4 #[cv c p, tv t q] w (RowsErr n (fun _ => c.nl) F 0 w) := by
  subst hn hF
  exact states_yes hk w h
theorem props_at (hc : c.chk = 0) {As At : Option Addr} {ns ks ni ki : Nat} {s u : Nat → Bool} (h1 : ns = c.nl) (h2 : (ni : Int) = c.i) (w : World) (h : Arg w w.heap.size c p As ns ks s At ni ki u) :
    Calls Try.prog 28 #[cv c p, .slice As ns ks, .slice At ni ki] w (PropsNew (c.hol s u) c.nb (c.bv s u) 0 w) := props_new (Cr.ask_ok hc h1 h2) w h

set_option maxRecDepth 100000 in
set_option maxHeartbeats 2000000 in
theorem tprops_no (hk : c.tck t ≠ 0) (w : World) (h : RArg w w.heap.size c p t q) :
    Calls Try.prog 17 #[cv c p, tv t q] w (PrErr 0 (c.hf t) (fun _ => c.nb) (c.bf t) (c.tck t) w) := by
  have h1 : (c.tck t != 0) = true := by simpa [bne] using hk
  have hB0 := ct_b w c p t q
  go_enter Try.func17, Try.ntmps17
  go_wp2_with (first
    | (go_at_call 4; (with_reducible refine (states_no hk _ (h.to (ct_b w c p t q) (ct_z w c p t q))).mono ?_); rintro e w1 ⟨A, k, rfl, hi, _, hb1⟩; obtain ⟨hB1, hA1, hT1, hz1⟩ := ct_k hb1))
  go_ret3
  exact ⟨none, 0, none, 0, rfl, blsN, rowsNil, hB1⟩

set_option maxRecDepth 100000 in
set_option maxHeartbeats 4000000 in
theorem tprops_yes (hk : c.tck t = 0) {n : Nat} (hn : t.ni = n) (w : World) (h : RArg w w.heap.size c p t q) :
    Calls Try.prog 17 #[cv c p, tv t q] w (PrErr n (c.hf t) (fun _ => c.nb) (c.bf t) 0 w) := by
  obtain ⟨hc, hn0, hn1, hnf, hst, hln⟩ := Cr.tck_ok hk
  have hs := h.hs
  have g1 := hs.nl
  have g2 := hs.nb
  have hi := Cr.chk_i (c := c) (by simpa using hc) hs
  have hip := h.ht.ip
  rw [hn] at hn0 hn1 hln hip
  obtain ⟨F, hF⟩ : ∃ F, c.sts t = F := ⟨_, rfl⟩
  obtain ⟨R, hR⟩ : ∃ R, c.hf t = R := ⟨_, rfl⟩
  obtain ⟨G, hG⟩ : ∃ G, c.bf t = G := ⟨_, rfl⟩
  have hRr : ∀ r, R r = c.hol (F r) (t.ip r) := fun r => by rw [← hR, ← hF]; rfl
  have hGr : ∀ r, G r = c.bv (F r) (t.ip r) := fun r => by rw [← hG, ← hF]; rfl
  rw [hR, hG]
  obtain ⟨a2, hA2, ha2, hr2⟩ := hip hn0
  obtain ⟨i0, hi0, hzz0, hs0, hy0⟩ := info_parts info_bool1
  have HK := Lib.hid hk
  have HC := Lib.hid hc
  have HL := Lib.hid hln
  have HI := Lib.hid hr2
  have HN := Lib.hid hn
  have HF := Lib.hid hF
  have HRr := Lib.hid hRr
  have HGr := Lib.hid hGr
  have HA2 := Lib.hid hA2
  have hW := h.to (ct_b w c p t q) (ct_z w c p t q)
  clear hc hst hln hk hr2 hF hRr hGr hip hn hnf hA2 hR hG
  go_enter Try.func17, Try.ntmps17
  go_wp2_with (first
    | (go_at_call 4; (with_reducible refine (states_at HF.out HK.out HN.out _ hW).mono ?_); rintro e w1 ⟨A, k, rfl, hi1, hcap1, hb1⟩; obtain ⟨hB1, hA1, hT1, hz1⟩ := ct_k hb1))
  obtain ⟨a1, rfl, ha1, hr1⟩ := hi1 hn0
  have HS := Lib.hid hr1
  clear hb1 hr1 hi1 hW
  go_loopw [4, 5, 24] (fun v1 v2 i wr => ∃ r : Nat, r ≤ n ∧ i = .int .i64 r ∧ wr.ownsRow w1.heap.size 4 1 v1 r (bL R r) ∧ Grid wr w1.heap.size v2 r (fun _ => c.nb) G v1.ownBlock ∧ Has wr w.heap.size 28 (cc c p) ∧ Has wr (w.heap.size + 1) 32 (tcs t q) ∧ Below w1.heap.size w1 wr) (fun _ _ i _ => n - (intOf i).toNat)
  case atStart => exact ⟨0, Nat.zero_le _, rfl, World.ownsRow_nil _ _ _ _, Grid.nil _ _ _ _ _, hA1, hT1, Below.refl _ _⟩
  case round =>
    obtain ⟨r, hr, rfl, hO, hG, hX, hT, hB1r⟩ := hrel
    have hBr : Below w.heap.size w wr := Below.step hB1 hB1.size hB1r
    by_cases hlt : r < n
    · obtain ⟨x0, x1, x2, x3, x4⟩ := hX.box
      obtain ⟨z0, z1⟩ := hT.tbox
      rw [HN.out, HA2.out] at z1
      obtain ⟨A', k', y0, hy, hyn⟩ := HI.out r hlt
      have y0 : wr.cell? (a2.add r) = some (.slice A' (t.ln r) k') := (hBr.cell (by rw [add_block]; exact ha2)).trans y0
      have hy := hy.to hBr hBr.size
      obtain ⟨A'', k'', u0, hu, hun⟩ := HS.out r hlt
      have u0 : wr.cell? (a1.add r) = some (.slice A'' c.nl k'') := (hB1r.cell (by rw [add_block]; exact ha1)).trans u0
      have hu := hu.to hB1r hB1r.size
      have hq0 : (0 : Int) ≤ (r : Int) := by omega
      have hq1 : (r : Int) < (n : Int) := by omega
      have hln := HL.out r hlt
      have HLr := Lib.hid hln
      have hBd : Below w.heap.size w wr.drew := below_dn hBr 1
      have hgd : Arg wr.drew wr.drew.heap.size c p A'' c.nl k'' (F r) A' (t.ln r) k' (t.ip r) := ⟨h.hm.to hBd hBd.size, hs, hu, hy, hun, hyn, by omega, by omega⟩
      have hGd : Grid wr.drew w1.heap.size u5 r (fun _ => c.nb) G u4.ownBlock := ⟨hG.ex⟩
      have hOd : wr.drew.ownsRow w1.heap.size 4 1 u4 r (bL R r) := hO
      have hXd : Has wr.drew w.heap.size 28 (cc c p) := hX
      have hTd : Has wr.drew (w.heap.size + 1) 32 (tcs t q) := hT
      have hB1d : Below w1.heap.size w1 wr.drew := below_dn hB1r 1
      have hS0 : CS w.heap.size c p (a2.add r) (.slice A' (t.ln r) k') wr.drew ∧ wr.drew.cell? ⟨w.heap.size + 1, 1, none⟩ = some (.slice (some a2) n q.k2) := ⟨cs_of hXd y0, z1⟩
      have HS1 := Lib.hid hS0
      clear hln hu hy hun hyn
      go_wp2
      refine wp_region_T (fun w' => CS w.heap.size c p (a2.add r) (.slice A' (t.ln r) k') w' ∧ w'.cell? ⟨w.heap.size + 1, 1, none⟩ = some (.slice (some a2) n q.k2)) 15 (by kernel_rfl) ?_
      (refine wpT_take 0 (v := ?_) rfl (by kernel_rfl) (by kernel_rfl) (by kernel_rfl) (by kernel_rfl) (fun _ _ _ h => h) rfl hS0 (fun w hS => ?_) ?_; rotate_left; focus (obtain ⟨⟨j0, j1, j2, j3, j4, j5⟩, j6⟩ := hS; go_simp; rfl)); (refine wpT_take 1 (v := ?_) rfl (by kernel_rfl) (by kernel_rfl) (by kernel_rfl) (by kernel_rfl) (fun _ _ _ h => h) rfl hS0 (fun w hS => ?_) ?_; rotate_left; focus (obtain ⟨⟨j0, j1, j2, j3, j4, j5⟩, j6⟩ := hS; go_simp; rfl)); (refine wpT_take 2 (v := ?_) rfl (by kernel_rfl) (by kernel_rfl) (by kernel_rfl) (by kernel_rfl) (fun _ _ _ h => h) rfl hS0 (fun w hS => ?_) ?_; rotate_left; focus (obtain ⟨⟨j0, j1, j2, j3, j4, j5⟩, j6⟩ := hS; go_simp; rfl)); (refine wpT_take 3 (v := ?_) rfl (by kernel_rfl) (by kernel_rfl) (by kernel_rfl) (by kernel_rfl) (fun _ _ _ h => h) rfl hS0 (fun w hS => ?_) ?_; rotate_left; focus (obtain ⟨⟨j0, j1, j2, j3, j4, j5⟩, j6⟩ := hS; go_simp; rfl)); (refine wpT_take 4 (v := ?_) rfl (by kernel_rfl) (by kernel_rfl) (by kernel_rfl) (by kernel_rfl) (fun _ _ _ h => h) rfl hS0 (fun w hS => ?_) ?_; rotate_left; focus (obtain ⟨⟨j0, j1, j2, j3, j4, j5⟩, j6⟩ := hS; go_simp; rfl)); (refine wpT_take 5 (v := ?_) rfl (by kernel_rfl) (by kernel_rfl) (by kernel_rfl) (by kernel_rfl) (fun _ _ _ h => h) rfl hS0 (fun w hS => ?_) ?_; rotate_left; focus (obtain ⟨⟨j0, j1, j2, j3, j4, j5⟩, j6⟩ := hS; go_simp; rfl)); (refine wpT_take 6 (v := ?_) rfl (by kernel_rfl) (by kernel_rfl) (by kernel_rfl) (by kernel_rfl) (fun _ _ _ h => h) rfl hS0 (fun w hS => ?_) ?_; rotate_left; focus (obtain ⟨⟨j0, j1, j2, j3, j4, j5⟩, j6⟩ := hS; go_simp; rfl))
      refine wpT_one 7 (by kernel_rfl) (wpOp_go rfl rfl fun K hK => ?_)
      go_simp
      go_at_call 28
      (with_reducible refine (props_at HC.out rfl HLr.out wr.drew hgd).mono ?_)
      rintro e w5 ⟨A5, k5, rfl, hi5, hb5, hn5, hf5⟩
      rw [← HRr.out] 
      rw [← HGr.out] at hi5
      have hB5 := Below.step hBd hBd.size hb5
      have hG5 := hGd.call hb5
      have hO5 := own_by hOd (grown_below hb5) (Or.inl rfl)
      have hX5 := hXd.keep hb5 hXd.lt
      have hT5 := hTd.keep hb5 hTd.lt
      have hB15 := hB1d.trans (hb5.mono hB1d.size)
      have hz5 := hT5.lt
      have hz15 := hB15.size
      have hv5 : ∀ g, u4.ownBlock = some g → g < wr.drew.heap.size := fun g hg => (own_in hOd hg).2
      have hS0 : CS w.heap.size c p (a2.add r) (.slice A' (t.ln r) k') w5 ∧ w5.cell? ⟨w.heap.size + 1, 1, none⟩ = some (.slice (some a2) n q.k2) := ⟨HS1.out.1.keep hb5, (hb5.cell (cell_lt HS1.out.2)).trans HS1.out.2⟩
      refine hK _ _ ⟨fun _ => hS0, ?_⟩
      (refine wpT_take 8 (v := ?_) rfl (by kernel_rfl) (by kernel_rfl) (by kernel_rfl) (by kernel_rfl) (fun _ _ _ h => h) rfl hS0 (fun w hS => ?_) ?_; rotate_left; focus (go_simp; rfl)); (refine wpT_take 9 (v := ?_) rfl (by kernel_rfl) (by kernel_rfl) (by kernel_rfl) (by kernel_rfl) (fun _ _ _ h => h) rfl hS0 (fun w hS => ?_) ?_; rotate_left; focus (go_simp; rfl)); (refine wpT_take 10 (v := ?_) rfl (by kernel_rfl) (by kernel_rfl) (by kernel_rfl) (by kernel_rfl) (fun _ _ _ h => h) rfl hS0 (fun w hS => ?_) ?_; rotate_left; focus (go_simp; rfl)); (refine wpT_take 11 (v := ?_) rfl (by kernel_rfl) (by kernel_rfl) (by kernel_rfl) (by kernel_rfl) (fun _ _ _ h => h) rfl hS0 (fun w hS => ?_) ?_; rotate_left; focus (go_simp; rfl)); (refine wpT_take 12 (v := ?_) rfl (by kernel_rfl) (by kernel_rfl) (by kernel_rfl) (by kernel_rfl) (fun _ _ _ h => h) rfl hS0 (fun w hS => ?_) ?_; rotate_left; focus (go_simp; rfl)); (refine wpT_take 13 (v := ?_) rfl (by kernel_rfl) (by kernel_rfl) (by kernel_rfl) (by kernel_rfl) (fun _ _ _ h => h) rfl hS0 (fun w hS => ?_) ?_; rotate_left; focus (go_simp; rfl)); (refine wpT_take 14 (v := ?_) rfl (by kernel_rfl) (by kernel_rfl) (by kernel_rfl) (by kernel_rfl) (fun _ _ _ h => h) rfl hS0 (fun w hS => ?_) ?_; rotate_left; focus (go_simp; rfl))
      refine wpT_done (by kernel_rfl) (NoPanic.normal ?_) _
      clear hS0 hK hb5 hgd hGd hOd hXd hTd hB1d hBd x0 x1 x2 x3 x4 z0 z1
      obtain ⟨RR, hRR⟩ : ∃ x, R r = x := ⟨_, rfl⟩
      rw [hRR]
      have HRR := Lib.hid hRR
      clear hRR
      have HX := Lib.hid (show bL R (r + 1) = bL R r ++ [.bool RR] by rw [← HRR.out]; rfl)
      go_wp2_with (first
        | (at_builtin; (refine wpList_append_own_at _ rfl (.tmp 41) (.tmp 43) 29 rfl w1.heap.size 4 i0 (.bool false) 1 1 Try.underlying29 hi0 hzz0 hs0 hy0 rfl (by decide) u4 r (bL R r) rfl (hO5.alloc _) ⟨w5.heap.size, 0, none⟩ 1 1 [.bool RR] rfl (by simp) (cell_one_new _ _ _) (by simp [Value.oneCell']) (by simp only [maxLen]; omega) (by omega) (by simp; omega) ?_); intro v6 w6 hO6 hg6 _ hat6
           have hfar := row_far hi5 hf5 hv5 hat6
           have hG6 := (hG5.al (.cells #[.bool RR] 4)).far hg6 (Or.inr rfl) (own_apart (hG5.al (.cells #[.bool RR] 4)) (hO5.alloc (.cells #[.bool RR] 4))) (hat6.imp_right Or.inl)
           have hi6 := (hi5.to ((Below.refl _ _).alloc (Nat.le_refl _) (.cells #[.bool RR] 4)) (by simp)).by hg6 (fun hm a ha => (hfar hm a ha).1)
           have hX6 : Has w6 w.heap.size 28 (cc c p) := app_has hX5 hO5 hg6 (by omega)
           have hT6 : Has w6 (w.heap.size + 1) 32 (tcs t q) := app_has hT5 hO5 hg6 (by omega)
           have hB6 := app_below hB15 hz15 (Nat.le_refl _) hO5 hg6
           have hz6 := hB6.size)
        | (at_builtin; (refine append_row rfl (.tmp 45) (.tmp 47) _ rfl Try.underlying30 w1.heap.size u5 r (fun _ => c.nb) G v6.ownBlock rfl (hG6.al _) w6.heap.size 1 A5 k5 rfl ((Has.new w6 29 #[.slice A5 c.nb k5]).cell 0) (hi6.to ((Below.refl _ _).alloc (Nat.le_refl _) _) (by simp)) hn5 (fun hm a ha => ⟨fun e => by have := hf5 a ha; have h2 : a.block < wr.drew.heap.size := (hG.lt e.symm).2; omega, (hfar hm a ha).2⟩) (by omega) (by simp; omega) ?_); intro v8 w8 hG8 hg8 hat8))
      go_roundw
      case rel => exact ⟨r + 1, by omega, by go_num, by rw [HX.out]; exact own_by (hO6.alloc _) hg8 (own_apart2 (hG6.al (.cells #[.slice A5 c.nb k5] 29)) (hO6.alloc (.cells #[.slice A5 c.nb k5] 29))), hG8, (hG6.al _).has (hX6.al _) hg8 (by omega), (hG6.al _).has (hT6.al _) hg8 (by omega), (hG6.al _).below (hB6.alloc hB6.size _) (by simp; omega) (Nat.le_refl _) hg8⟩
      case measure => simp [intOf]; omega
    · obtain rfl : r = n := by omega
      clear hr hlt
      go_wp2
      go_ret3
      obtain ⟨A', k', rfl, hi', _⟩ := own_bools hO
      obtain ⟨A'', k'', rfl, hi'', _⟩ := hG.at
      exact ⟨A', k', A'', k'', rfl, hi', hi'', hBr⟩

end

/-- what Right and Witness return -/
def Cr.rgt (c : Cr) (t : Tr) : Nat := if c.tck t = 0 then c.alw t else 0
def Cr.wti (c : Cr) (t : Tr) : Int := if c.tck t = 0 ∧ 0 ≤ c.shw t then c.shw t else 0
def Cr.wte (c : Cr) (t : Tr) : Int := if c.tck t = 0 then (if 0 ≤ c.shw t then 0 else 57) else c.tck t
theorem led_f (f : Nat → Bool) (n : Nat) : led (fun j => !(false == f j)) n = led f n := led_congr n fun j _ => by cases f j <;> rfl
theorem led_t (f : Nat → Bool) (n : Nat) : led (fun j => !(true == f j)) n = led (fun j => !f j) n := led_congr n fun j _ => by cases f j <;> rfl

section
variable {c : Cr} {p : Pl} {t : Tr} {q : Tp}

theorem idx_f {A : Option Addr} {n k : Nat} {f : Nat → Bool} {m : Nat} (hm : led f n = m) (B : Nat) (w : World) (hn : n ≤ 100000) (hA : BlsAt w B A n f) :
    Calls Try.prog 18 #[.slice A n k, .bool false] w fun e w' => e = .returned (.int .i64 (ixI m n)) ∧ w = w' := by
  have := index_any A n k f false B w hn hA
  rwa [led_f, hm] at this
theorem idx_t {A : Option Addr} {n k : Nat} {f : Nat → Bool} {m : Nat} (hm : led (fun j => !f j) n = m) (B : Nat) (w : World) (hn : n ≤ 100000) (hA : BlsAt w B A n f) :
    Calls Try.prog 18 #[.slice A n k, .bool true] w fun e w' => e = .returned (.int .i64 (ixI m n)) ∧ w = w' := by
  have := index_any A n k f true B w hn hA
  rwa [led_t, hm] at this
theorem con_f {A : Option Addr} {n k : Nat} {f : Nat → Bool} {b : Bool} (hm : decide (led f n < n) = b) (B : Nat) (w : World) (hn : n ≤ 100000) (hA : BlsAt w B A n f) :
    Calls Try.prog 19 #[.slice A n k, .bool false] w fun e w' => e = .returned (.bool b) ∧ w = w' := by
  have := contains_any A n k f false B w hn hA
  rwa [led_f, hm] at this

set_option maxRecDepth 100000 in
set_option maxHeartbeats 2000000 in
theorem tright_any (w : World) (h : RArg w w.heap.size c p t q) :
    Calls Try.prog 5 #[cv c p, tv t q] w fun e w' => e = .returned (.tuple #[.int .i64 (c.rgt t), .int .i64 (c.tck t)]) ∧ Below w.heap.size w w' := by
  have hB0 := ct_b w c p t q
  by_cases hk : c.tck t = 0
  · obtain ⟨n, hn⟩ : ∃ n, t.ni = n := ⟨_, rfl⟩
    obtain ⟨m, hm⟩ : ∃ m, c.alw t = m := ⟨_, rfl⟩
    have hle : m ≤ n := by rw [← hn, ← hm]; exact led_le _ _
    have hl : led (c.hf t) n = m := by rw [← hn, ← hm]; rfl
    have hn1 := (Cr.tck_ok hk).2.2.1
    have HR := Lib.hid (show c.rgt t = m by unfold Cr.rgt; rw [if_pos hk, hm])
    rw [hn] at hn1
    have HK := Lib.hid hk
    have HN := Lib.hid hn
    have HL := Lib.hid hl
    rw [HR.out, HK.out]
    clear hk hm hn hl HR
    by_cases hlt : m < n
    · have e1 : (0 : Int) ≤ (m : Int) := by omega
      have HI := Lib.hid (show ixI m n = (m : Int) from if_pos hlt)
      go_enter Try.func5, Try.ntmps5
      go_wp2_with (first
        | (go_at_call 17; (with_reducible refine (tprops_yes HK.out HN.out _ (h.to (ct_b w c p t q) (ct_z w c p t q))).mono ?_); rintro e w1 ⟨A, k, A', k', rfl, hi1, hi2, hb1⟩; obtain ⟨hB1, hA1, hT1, hz1⟩ := ct_k hb1)
        | (go_at_call 18; (with_reducible refine (idx_f HL.out w1.heap.size w1 (by omega) hi1).mono ?_); rw [HI.out]; rintro e w2 ⟨rfl, rfl⟩))
      go_ret2
      exact ⟨rfl, hB1⟩
    · obtain rfl : m = n := by omega
      have HI := Lib.hid (show ixI m m = -1 from if_neg hlt)
      clear hlt
      go_enter Try.func5, Try.ntmps5
      go_wp2_with (first
        | (go_at_call 17; (with_reducible refine (tprops_yes HK.out HN.out _ (h.to (ct_b w c p t q) (ct_z w c p t q))).mono ?_); rintro e w1 ⟨A, k, A', k', rfl, hi1, hi2, hb1⟩; obtain ⟨hB1, hA1, hT1, hz1⟩ := ct_k hb1)
        | (go_at_call 18; (with_reducible refine (idx_f HL.out w1.heap.size w1 (by omega) hi1).mono ?_); rw [HI.out]; rintro e w2 ⟨rfl, rfl⟩))
      go_ret2
      exact ⟨rfl, hB1⟩
  · have h1 : (c.tck t != 0) = true := by simpa [bne] using hk
    have HR := Lib.hid (show c.rgt t = 0 from if_neg hk)
    have HK := Lib.hid hk
    rw [HR.out]
    clear hk
    go_enter Try.func5, Try.ntmps5
    go_wp2_with (first
      | (go_at_call 17; (with_reducible refine (tprops_no HK.out _ (h.to (ct_b w c p t q) (ct_z w c p t q))).mono ?_); rintro e w1 ⟨A, k, A', k', rfl, hi1, hi2, hb1⟩; obtain ⟨hB1, hA1, hT1, hz1⟩ := ct_k hb1))
    go_ret2
    exact ⟨rfl, hB1⟩

set_option maxRecDepth 100000 in
set_option maxHeartbeats 2000000 in
theorem twitness_any (w : World) (h : RArg w w.heap.size c p t q) :
    Calls Try.prog 6 #[cv c p, tv t q] w fun e w' => e = .returned (.tuple #[.int .i64 (c.wti t), .int .i64 (c.wte t)]) ∧ Below w.heap.size w w' := by
  have hB0 := ct_b w c p t q
  by_cases hk : c.tck t = 0
  · have hn0 := (Cr.tck_ok hk).2.1
    have hn1 := (Cr.tck_ok hk).2.2.1
    obtain ⟨m, hm⟩ : ∃ m, t.ni = m + 1 := ⟨t.ni - 1, by omega⟩
    obtain ⟨N, hN⟩ : ∃ N, N = m + 1 := ⟨_, rfl⟩
    rw [← hN] at hm
    obtain ⟨b, hb⟩ : ∃ b, c.ff t m = b := ⟨_, rfl⟩
    have hle := Cr.ff_le c t m
    have hl : led (fun j => !c.bf t m j) c.nb = b := by rw [← hb]; rfl
    have e2 : (N : Int) - 1 = (m : Int) := by omega
    have g1 := h.hs.nb
    obtain ⟨x, hx⟩ : ∃ x, decide (led (c.hf t) N < N) = x := ⟨_, rfl⟩
    have hx2 : decide (c.alw t < t.ni) = x := by rw [← hx, hm]; unfold Cr.alw; rw [hm]
    have hw : c.shw t = if x = true ∨ b = c.nb then -1 else (b : Int) := by
      unfold Cr.shw
      have : t.ni - 1 = m := by omega
      rw [this, hb]
      have : (c.alw t < t.ni) ↔ x = true := by rw [← hx2]; simp
      simp only [this]
    rw [hb] at hle
    have hmN : (m : Int) < (N : Int) := by omega
    have hm0 : (0 : Int) ≤ (m : Int) := by omega
    have hm9 : (m : Int) ≤ 100 := by omega
    have HK := Lib.hid hk
    have HM := Lib.hid hm
    have HL := Lib.hid hl
    have HX := Lib.hid hx
    have HW := Lib.hid hw
    have HNN := Lib.hid (show 0 < N ∧ m < N ∧ N ≤ 100 by omega)
    clear hk hm hl hx hx2 hw hb hN hn0 hn1
    by_cases hb : b < c.nb
    · have e3 : (0 : Int) ≤ (b : Int) := by omega
      have HI := Lib.hid (show ixI b c.nb = (b : Int) from if_pos hb)
      have hbn : ¬ b = c.nb := by omega
      cases x
      · have HR1 := Lib.hid (show c.wti t = b by simp [Cr.wti, HW.out, HK.out, hbn])
        have HR2 := Lib.hid (show c.wte t = 0 by simp [Cr.wte, HW.out, HK.out, hbn])
        rw [HR1.out, HR2.out]
        clear hbn hb
        go_enter Try.func6, Try.ntmps6
        go_wp2_with (first
          | (go_at_call 17; (with_reducible refine (tprops_yes HK.out HM.out _ (h.to (ct_b w c p t q) (ct_z w c p t q))).mono ?_); rintro e w1 ⟨A, k, A', k', rfl, hi1, hi2, hb1⟩; obtain ⟨hB1, hA1, hT1, hz1⟩ := ct_k hb1; obtain ⟨a2, rfl, ha2, hr2⟩ := hi2 HNN.out.1; obtain ⟨A5, k5, y0, hy, _⟩ := hr2 m HNN.out.2.1)
          | (go_at_call 18; (with_reducible refine (idx_t HL.out w1.heap.size w1 (by omega) hy).mono ?_); rw [HI.out]; rintro e w2 ⟨rfl, rfl⟩)
          | (go_at_call 19; (with_reducible refine (con_f HX.out w1.heap.size w1 (by have := HNN.out; omega) hi1).mono ?_); rintro e w2 ⟨rfl, rfl⟩))
        go_ret2
        exact ⟨rfl, hB1⟩
      · have HR1 := Lib.hid (show c.wti t = 0 by simp [Cr.wti, HW.out, HK.out])
        have HR2 := Lib.hid (show c.wte t = 57 by simp [Cr.wte, HW.out, HK.out])
        rw [HR1.out, HR2.out]
        clear hbn hb
        go_enter Try.func6, Try.ntmps6
        go_wp2_with (first
          | (go_at_call 17; (with_reducible refine (tprops_yes HK.out HM.out _ (h.to (ct_b w c p t q) (ct_z w c p t q))).mono ?_); rintro e w1 ⟨A, k, A', k', rfl, hi1, hi2, hb1⟩; obtain ⟨hB1, hA1, hT1, hz1⟩ := ct_k hb1; obtain ⟨a2, rfl, ha2, hr2⟩ := hi2 HNN.out.1; obtain ⟨A5, k5, y0, hy, _⟩ := hr2 m HNN.out.2.1)
          | (go_at_call 18; (with_reducible refine (idx_t HL.out w1.heap.size w1 (by omega) hy).mono ?_); rw [HI.out]; rintro e w2 ⟨rfl, rfl⟩)
          | (go_at_call 19; (with_reducible refine (con_f HX.out w1.heap.size w1 (by have := HNN.out; omega) hi1).mono ?_); rintro e w2 ⟨rfl, rfl⟩))
        go_ret2
        exact ⟨rfl, hB1⟩
    · obtain rfl : b = c.nb := by omega
      have HI := Lib.hid (show ixI c.nb c.nb = -1 from if_neg (by omega))
      have HR1 := Lib.hid (show c.wti t = 0 by simp [Cr.wti, HW.out, HK.out])
      have HR2 := Lib.hid (show c.wte t = 57 by simp [Cr.wte, HW.out, HK.out])
      rw [HR1.out, HR2.out]
      clear hb hle
      go_enter Try.func6, Try.ntmps6
      go_wp2_with (first
        | (go_at_call 17; (with_reducible refine (tprops_yes HK.out HM.out _ (h.to (ct_b w c p t q) (ct_z w c p t q))).mono ?_); rintro e w1 ⟨A, k, A', k', rfl, hi1, hi2, hb1⟩; obtain ⟨hB1, hA1, hT1, hz1⟩ := ct_k hb1; obtain ⟨a2, rfl, ha2, hr2⟩ := hi2 HNN.out.1; obtain ⟨A5, k5, y0, hy, _⟩ := hr2 m HNN.out.2.1)
        | (go_at_call 18; (with_reducible refine (idx_t HL.out w1.heap.size w1 (by omega) hy).mono ?_); rw [HI.out]; rintro e w2 ⟨rfl, rfl⟩))
      go_ret2
      exact ⟨rfl, hB1⟩
  · have h1 : (c.tck t != 0) = true := by simpa [bne] using hk
    have HR1 := Lib.hid (show c.wti t = 0 from if_neg fun h => hk h.1)
    have HR2 := Lib.hid (show c.wte t = c.tck t from if_neg hk)
    have HK := Lib.hid hk
    rw [HR1.out, HR2.out]
    clear hk
    go_enter Try.func6, Try.ntmps6
    go_wp2_with (first
      | (go_at_call 17; (with_reducible refine (tprops_no HK.out _ (h.to (ct_b w c p t q) (ct_z w c p t q))).mono ?_); rintro e w1 ⟨A, k, A', k', rfl, hi1, hi2, hb1⟩; obtain ⟨hB1, hA1, hT1, hz1⟩ := ct_k hb1))
    go_ret2
    exact ⟨rfl, hB1⟩

end
