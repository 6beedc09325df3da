/- The limits and errors: the loop over assignments that are not valid, and what is called one by one. -/
import Derived.Test.YtcefphdabomlpaaAsGuard
namespace Go.Proofs.Ytcefphdabomlpaa
open Go Go.RowKit
set_option linter.unusedVariables false
set_option linter.unusedSimpArgs false

def nfV (i : Nat) : Int := match i with
  | 0 => -1 | 1 => 4001 | 2 => 2 | 3 => 2 | 4 => 2 | 5 => 2 | 6 => 2 | 7 => 2 | 8 => 2 | 9 => 2 | _ => 2
def nfT (i : Nat) : List Int := match i with
  | 0 => [] | 1 => [] | 2 => [6] | 3 => [1] | 4 => [2, 3] | 5 => [2, 2] | 6 => [] | 7 => [2, 4] | 8 => [2, 4] | 9 => [2] | _ => [2]
def nfS (i : Nat) : List Int := match i with
  | 0 => [] | 1 => [] | 2 => [] | 3 => [] | 4 => [] | 5 => [] | 6 => [0] | 7 => [1, 1] | 8 => [1, 0] | 9 => [(-1)] | _ => [1]
def nfN (i : Nat) : Nat := match i with
  | 0 => 0 | 1 => 0 | 2 => 1 | 3 => 1 | 4 => 2 | 5 => 2 | 6 => 0 | 7 => 2 | 8 => 2 | 9 => 1 | _ => 1
def nfM (i : Nat) : Nat := match i with
  | 0 => 0 | 1 => 0 | 2 => 0 | 3 => 0 | 4 => 0 | 5 => 0 | 6 => 1 | 7 => 2 | 8 => 2 | 9 => 1 | _ => 1
def nfA (g : Nat) (i : Nat) : Option Addr := match i with
  | 0 => none | 1 => none | 2 => some ⟨g + 0, 0, none⟩ | 3 => some ⟨g + 1, 0, none⟩ | 4 => some ⟨g + 2, 0, none⟩ | 5 => some ⟨g + 3, 0, none⟩ | 6 => none | 7 => some ⟨g + 5, 0, none⟩ | 8 => some ⟨g + 7, 0, none⟩ | 9 => some ⟨g + 9, 0, none⟩ | _ => some ⟨g + 11, 0, none⟩
def nfB (g : Nat) (i : Nat) : Option Addr := match i with
  | 0 => none | 1 => none | 2 => none | 3 => none | 4 => none | 5 => none | 6 => some ⟨g + 4, 0, none⟩ | 7 => some ⟨g + 6, 0, none⟩ | 8 => some ⟨g + 8, 0, none⟩ | 9 => some ⟨g + 10, 0, none⟩ | _ => some ⟨g + 12, 0, none⟩
theorem i64_all14 {l : List Int} (h : ∀ x ∈ l, -100000 ≤ x ∧ x ≤ 100000) : ∀ x ∈ l, I64 x := fun x hx => by have := h x hx; unfold I64; omega
theorem eleven {i : Nat} (h : i < 11) : i = 0 ∨ i = 1 ∨ i = 2 ∨ i = 3 ∨ i = 4 ∨ i = 5 ∨ i = 6 ∨ i = 7 ∨ i = 8 ∨ i = 9 ∨ i = 10 := by omega
theorem nf_bad {i : Nat} (h : i < 11) : ¬ OkA (nfV i) (nfT i) (nfS i) := by rcases eleven h with rfl | rfl | rfl | rfl | rfl | rfl | rfl | rfl | rfl | rfl | rfl <;> decide
theorem nf_64 {i : Nat} (h : i < 11) : ∀ x ∈ nfT i, I64 x := by rcases eleven h with rfl | rfl | rfl | rfl | rfl | rfl | rfl | rfl | rfl | rfl | rfl <;> exact i64_all14 (by decide)
theorem nf_le {i : Nat} (h : i < 11) : nfN i ≤ 2 ∧ nfM i ≤ 2 := by rcases eleven h with rfl | rfl | rfl | rfl | rfl | rfl | rfl | rfl | rfl | rfl | rfl <;> decide
def nfW (w : World) : World := (((((((((((((w.alloc (.cells #[.int .i64 6] 3)).alloc (.cells #[.int .i64 1] 3)).alloc (.cells #[.int .i64 2, .int .i64 3] 3)).alloc (.cells #[.int .i64 2, .int .i64 2] 3)).alloc (.cells #[.int .i64 0] 3)).alloc (.cells #[.int .i64 2, .int .i64 4] 3)).alloc (.cells #[.int .i64 1, .int .i64 1] 3)).alloc (.cells #[.int .i64 2, .int .i64 4] 3)).alloc (.cells #[.int .i64 1, .int .i64 0] 3)).alloc (.cells #[.int .i64 2] 3)).alloc (.cells #[.int .i64 (-1)] 3)).alloc (.cells #[.int .i64 2] 3)).alloc (.cells #[.int .i64 1] 3))
def nfC (g : Nat) : Array Value := #[.int .i64 (-1), .slice none 0 0, .slice none 0 0, .int .i64 4001, .slice none 0 0, .slice none 0 0, .int .i64 2, .slice (some ⟨g + 0, 0, none⟩) 1 1, .slice none 0 0, .int .i64 2, .slice (some ⟨g + 1, 0, none⟩) 1 1, .slice none 0 0, .int .i64 2, .slice (some ⟨g + 2, 0, none⟩) 2 2, .slice none 0 0, .int .i64 2, .slice (some ⟨g + 3, 0, none⟩) 2 2, .slice none 0 0, .int .i64 2, .slice none 0 0, .slice (some ⟨g + 4, 0, none⟩) 1 1, .int .i64 2, .slice (some ⟨g + 5, 0, none⟩) 2 2, .slice (some ⟨g + 6, 0, none⟩) 2 2, .int .i64 2, .slice (some ⟨g + 7, 0, none⟩) 2 2, .slice (some ⟨g + 8, 0, none⟩) 2 2, .int .i64 2, .slice (some ⟨g + 9, 0, none⟩) 1 1, .slice (some ⟨g + 10, 0, none⟩) 1 1, .int .i64 2, .slice (some ⟨g + 11, 0, none⟩) 1 1, .slice (some ⟨g + 12, 0, none⟩) 1 1]
theorem nfC_at (g : Nat) {i : Nat} (h : i < 11) : (nfC g)[i * 3]? = some (.int .i64 (nfV i)) ∧ (nfC g)[i * 3 + 1]? = some (.slice (nfA g i) (nfN i) (nfN i)) ∧ (nfC g)[i * 3 + 2]? = some (.slice (nfB g i) (nfM i) (nfM i)) := by rcases eleven h with rfl | rfl | rfl | rfl | rfl | rfl | rfl | rfl | rfl | rfl | rfl <;> exact ⟨rfl, rfl, rfl⟩
theorem nfW_size (w : World) : (nfW w).heap.size = w.heap.size + 13 := by unfold nfW; simp only [World.size_alloc]
theorem nfH0 (w : World) : Has (nfW w) (w.heap.size + 0) 3 (iC [6]).toArray := by
  unfold nfW
  exact (((((((((((((Has.new' _ _ rfl).al _).al _).al _).al _).al _).al _).al _).al _).al _).al _).al _).al _)
theorem nfH1 (w : World) : Has (nfW w) (w.heap.size + 1) 3 (iC [1]).toArray := by
  unfold nfW
  exact ((((((((((((Has.new' _ _ (by simp only [World.size_alloc])).al _).al _).al _).al _).al _).al _).al _).al _).al _).al _).al _)
theorem nfH2 (w : World) : Has (nfW w) (w.heap.size + 2) 3 (iC [2, 3]).toArray := by
  unfold nfW
  exact (((((((((((Has.new' _ _ (by simp only [World.size_alloc])).al _).al _).al _).al _).al _).al _).al _).al _).al _).al _)
theorem nfH3 (w : World) : Has (nfW w) (w.heap.size + 3) 3 (iC [2, 2]).toArray := by
  unfold nfW
  exact ((((((((((Has.new' _ _ (by simp only [World.size_alloc])).al _).al _).al _).al _).al _).al _).al _).al _).al _)
theorem nfH4 (w : World) : Has (nfW w) (w.heap.size + 4) 3 (iC [0]).toArray := by
  unfold nfW
  exact (((((((((Has.new' _ _ (by simp only [World.size_alloc])).al _).al _).al _).al _).al _).al _).al _).al _)
theorem nfH5 (w : World) : Has (nfW w) (w.heap.size + 5) 3 (iC [2, 4]).toArray := by
  unfold nfW
  exact ((((((((Has.new' _ _ (by simp only [World.size_alloc])).al _).al _).al _).al _).al _).al _).al _)
theorem nfH6 (w : World) : Has (nfW w) (w.heap.size + 6) 3 (iC [1, 1]).toArray := by
  unfold nfW
  exact (((((((Has.new' _ _ (by simp only [World.size_alloc])).al _).al _).al _).al _).al _).al _)
theorem nfH7 (w : World) : Has (nfW w) (w.heap.size + 7) 3 (iC [2, 4]).toArray := by
  unfold nfW
  exact ((((((Has.new' _ _ (by simp only [World.size_alloc])).al _).al _).al _).al _).al _)
theorem nfH8 (w : World) : Has (nfW w) (w.heap.size + 8) 3 (iC [1, 0]).toArray := by
  unfold nfW
  exact (((((Has.new' _ _ (by simp only [World.size_alloc])).al _).al _).al _).al _)
theorem nfH9 (w : World) : Has (nfW w) (w.heap.size + 9) 3 (iC [2]).toArray := by
  unfold nfW
  exact ((((Has.new' _ _ (by simp only [World.size_alloc])).al _).al _).al _)
theorem nfH10 (w : World) : Has (nfW w) (w.heap.size + 10) 3 (iC [(-1)]).toArray := by
  unfold nfW
  exact (((Has.new' _ _ (by simp only [World.size_alloc])).al _).al _)
theorem nfH11 (w : World) : Has (nfW w) (w.heap.size + 11) 3 (iC [2]).toArray := by
  unfold nfW
  exact ((Has.new' _ _ (by simp only [World.size_alloc])).al _)
theorem nfH12 (w : World) : Has (nfW w) (w.heap.size + 12) 3 (iC [1]).toArray := by
  unfold nfW
  exact (Has.new' _ _ (by simp only [World.size_alloc]))
theorem nfW_below (w : World) : Below w.heap.size w (nfW w) := by
  unfold nfW
  exact ((((((((((((((Below.refl _ _).alloc (Nat.le_refl _) _).alloc (by simp only [World.size_alloc]; omega) _).alloc (by simp only [World.size_alloc]; omega) _).alloc (by simp only [World.size_alloc]; omega) _).alloc (by simp only [World.size_alloc]; omega) _).alloc (by simp only [World.size_alloc]; omega) _).alloc (by simp only [World.size_alloc]; omega) _).alloc (by simp only [World.size_alloc]; omega) _).alloc (by simp only [World.size_alloc]; omega) _).alloc (by simp only [World.size_alloc]; omega) _).alloc (by simp only [World.size_alloc]; omega) _).alloc (by simp only [World.size_alloc]; omega) _).alloc (by simp only [World.size_alloc]; omega) _)
theorem has_ia {W : World} {g : Nat} {l : List Int} (hH : Has W g 3 (iC l).toArray) : Ia W W.heap.size (some ⟨g, 0, none⟩) l l.length := by
  refine ⟨fun hl => ⟨_, rfl, hH.lt, fun j hj => ?_⟩, (fun h => by cases h), Nat.le_refl _⟩
  rw [show (⟨g, 0, none⟩ : Addr).add j = ⟨g, j, none⟩ by unfold Addr.add; split <;> simp_all, hH.cell j]
  have := iC_at l j hj
  simpa using this
theorem nf_nw (w : World) {i : Nat} (h : i < 11) : Nw 0 ((nfW w).alloc (.cells (nfC w.heap.size) 24)) (nfA w.heap.size i) (nfN i) (nfN i) (nfT i) (nfB w.heap.size i) (nfM i) (nfM i) (nfS i) := by
  rcases eleven h with rfl | rfl | rfl | rfl | rfl | rfl | rfl | rfl | rfl | rfl | rfl
  · exact ⟨Ia.nil _ _, Ia.nil _ _, rfl, rfl, fun _ _ => Nat.zero_le _, fun _ _ => Nat.zero_le _⟩
  · exact ⟨Ia.nil _ _, Ia.nil _ _, rfl, rfl, fun _ _ => Nat.zero_le _, fun _ _ => Nat.zero_le _⟩
  · exact ⟨has_ia ((nfH0 w).al (.cells (nfC w.heap.size) 24)), Ia.nil _ _, rfl, rfl, fun _ _ => Nat.zero_le _, fun _ _ => Nat.zero_le _⟩
  · exact ⟨has_ia ((nfH1 w).al (.cells (nfC w.heap.size) 24)), Ia.nil _ _, rfl, rfl, fun _ _ => Nat.zero_le _, fun _ _ => Nat.zero_le _⟩
  · exact ⟨has_ia ((nfH2 w).al (.cells (nfC w.heap.size) 24)), Ia.nil _ _, rfl, rfl, fun _ _ => Nat.zero_le _, fun _ _ => Nat.zero_le _⟩
  · exact ⟨has_ia ((nfH3 w).al (.cells (nfC w.heap.size) 24)), Ia.nil _ _, rfl, rfl, fun _ _ => Nat.zero_le _, fun _ _ => Nat.zero_le _⟩
  · exact ⟨Ia.nil _ _, has_ia ((nfH4 w).al (.cells (nfC w.heap.size) 24)), rfl, rfl, fun _ _ => Nat.zero_le _, fun _ _ => Nat.zero_le _⟩
  · exact ⟨has_ia ((nfH5 w).al (.cells (nfC w.heap.size) 24)), has_ia ((nfH6 w).al (.cells (nfC w.heap.size) 24)), rfl, rfl, fun _ _ => Nat.zero_le _, fun _ _ => Nat.zero_le _⟩
  · exact ⟨has_ia ((nfH7 w).al (.cells (nfC w.heap.size) 24)), has_ia ((nfH8 w).al (.cells (nfC w.heap.size) 24)), rfl, rfl, fun _ _ => Nat.zero_le _, fun _ _ => Nat.zero_le _⟩
  · exact ⟨has_ia ((nfH9 w).al (.cells (nfC w.heap.size) 24)), has_ia ((nfH10 w).al (.cells (nfC w.heap.size) 24)), rfl, rfl, fun _ _ => Nat.zero_le _, fun _ _ => Nat.zero_le _⟩
  · exact ⟨has_ia ((nfH11 w).al (.cells (nfC w.heap.size) 24)), has_ia ((nfH12 w).al (.cells (nfC w.heap.size) 24)), rfl, rfl, fun _ _ => Nat.zero_le _, fun _ _ => Nat.zero_le _⟩
/-- what is said of an assignment that is not valid -/
theorem bad_calls {W : World} {A B : Option Addr} {n m : Nat} {t s : List Int} {v : Int} (h : Nw 0 W A n n t B m m s) (hn : n ≤ 2) (hm : m ≤ 2) (hr : ∀ x ∈ t, I64 x) (hO : ¬ OkA v t s) :
    (Calls Try.prog 13 #[asv v A n n B m m, .int .i64 0] W fun e w' => ∃ A' k' B' q', e = .returned (.tuple #[asv 0 A' 0 k' B' 0 q', .int .i64 8]) ∧ Below W.heap.size W w') ∧
    (Calls Try.prog 15 #[asv v A n n B m m, .int .i64 0] W fun e w' => ∃ A' k' B' q', e = .returned (.tuple #[asv 0 A' 0 k' B' 0 q', .int .i64 8]) ∧ Below W.heap.size W w') ∧
    (Calls Try.prog 17 #[asv v A n n B m m, .int .i64 0] W fun e w' => e = .returned (.tuple #[.int .u8 0, .int .i64 8]) ∧ Below W.heap.size W w') ∧
    (Calls Try.prog 19 #[asv v A n n B m m, .int .i64 0] W fun e w' => e = .returned (.tuple #[.int .i64 0, .int .i64 8]) ∧ Below W.heap.size W w') ∧
    (Calls Try.prog 21 #[asv v A n n B m m, .int .i64 (-1)] W fun e w' => ∃ A' k' B' q', e = .returned (.tuple #[asv 0 A' 0 k' B' 0 q', .int .i64 8]) ∧ Below W.heap.size W w') ∧
    (Calls Try.prog 23 #[asv v A n n B m m] W fun e w' => e = .returned (.int .i64 8) ∧ Below W.heap.size W w') := by
  have hnt := h.nt
  have hms := h.ms
  have i0 : I64 0 := by unfold I64; omega
  have ew : wE v t s 0 = 8 := by unfold wE; rw [if_neg hO]
  have ep : pE v t s 0 = 8 := by unfold pE; rw [if_neg hO]
  have el : lE v t s 0 = 8 := by unfold lE; rw [if_neg hO]
  have eu : uE v t s (-1) = 8 := by unfold uE; rw [if_neg hO]
  have ev : vV v t s 0 = 0 := by unfold vV; rw [if_neg (by rw [ew]; decide)]
  have elv : lV v t s 0 = 0 := by unfold lV; rw [if_neg (by rw [el]; decide)]
  have D1 := decide_any v A t n B s m 0 W h.ti (by omega) hr h.si (by omega) i0
  have D2 := imply_any v A t n B s m 0 W h.ti (by omega) hr h.si (by omega) i0
  have D3 := value14_any v A t n B s m 0 W h.ti (by omega) hr h.si (by omega) i0
  have D4 := level14_any v A t n B s m 0 W h.ti (by omega) hr h.si (by omega) i0
  have D5 := undo_any v A t n B s m (-1) W h.ti (by omega) hr h.si (by omega)
  have D6 := aCheck_any v A t n B s m W h.ti (by omega) hr h.si (by omega)
  obtain ⟨a1, a2, a3⟩ := p_no (v := v) (t := t) (s := s) (x := 0) (d := true) (by rw [ep]; decide)
  obtain ⟨b1, b2, b3⟩ := p_no (v := v) (t := t) (s := s) (x := 0) (d := false) (by rw [ep]; decide)
  obtain ⟨c1, c2, c3⟩ := u_no (v := v) (t := t) (s := s) (lv := -1) (by rw [eu]; decide)
  rw [a1, a2, a3, ep, ← hnt, ← hms] at D1
  rw [b1, b2, b3, ep, ← hnt, ← hms] at D2
  rw [ev, ew, ← hnt, ← hms] at D3
  rw [elv, el, ← hnt, ← hms] at D4
  rw [c1, c2, c3, eu, ← hnt, ← hms] at D5
  rw [aE_no hO, ← hnt, ← hms] at D6
  refine ⟨D1.mono fun e w' h => ?_, D2.mono fun e w' h => ?_, D3, D4, D5.mono fun e w' h => ?_, D6⟩
  · obtain ⟨A', k', B', q', x, _, y⟩ := h.nw (n := 0) (m := 0) rfl rfl; exact ⟨A', k', B', q', x, y⟩
  · obtain ⟨A', k', B', q', x, _, y⟩ := h.as.nw (n := 0) (m := 0) rfl rfl; exact ⟨A', k', B', q', x, y⟩
  · obtain ⟨A', k', B', q', x, _, y⟩ := h.nw (n := 0) (m := 0) rfl rfl; exact ⟨A', k', B', q', x, y⟩

theorem nfNew {v : Int} (h : v < 0 ∨ 4000 < v) (W : World) : Calls Try.prog 11 #[.int .i64 v] W fun e w' => ∃ A' k' B' q', e = .returned (.tuple #[asv 0 A' 0 k' B' 0 q', .int .i64 2]) ∧ Below W.heap.size W w' := by
  have D := new14_any v W
  rw [show nV v = 0 from if_pos h, show nE v = 2 from if_pos h] at D
  refine D.mono fun e w' h => ?_
  obtain ⟨A', k', B', q', x, _, y⟩ := h.nw (n := 0) (m := 0) rfl rfl; exact ⟨A', k', B', q', x, y⟩
theorem oE : OkA 5 [4, 7, 2, 9] [1, 3] := by decide
theorem nf_lv5 : lV 5 [4, 7, 2, 9] [1, 3] 5 = 0 ∧ lE 5 [4, 7, 2, 9] [1, 3] 5 = 0 := by
  have e : lE 5 [4, 7, 2, 9] [1, 3] 5 = 0 := by decide
  refine ⟨?_, e⟩
  unfold lV; rw [if_pos e, plc_at oE.2.1 (j := 0) (by decide) (by decide)]; decide
theorem nf_lv8 : lV 5 [4, 7, 2, 9] [1, 3] 8 = 2 ∧ lE 5 [4, 7, 2, 9] [1, 3] 8 = 0 := by
  have e : lE 5 [4, 7, 2, 9] [1, 3] 8 = 0 := by decide
  refine ⟨?_, e⟩
  unfold lV; rw [if_pos e, plc_at oE.2.1 (j := 3) (by decide) (by decide)]; decide
theorem nf_lv10 : lV 5 [4, 7, 2, 9] [1, 3] 10 = 0 ∧ lE 5 [4, 7, 2, 9] [1, 3] 10 = 6 := by
  have e : lE 5 [4, 7, 2, 9] [1, 3] 10 = 6 := by decide
  refine ⟨?_, e⟩
  unfold lV; rw [if_neg (by rw [e]; decide)]
section
variable {b : Nat} {W : World} {A B : Option Addr} {k q : Nat}
theorem nfPut (h : Nw b W A 4 k [4, 7, 2, 9] B 2 q [1, 3]) (x u : Int) (hx : I64 x) (hu : pE 5 [4, 7, 2, 9] [1, 3] x = u) (h0 : u ≠ 0) :
    (Calls Try.prog 13 #[asv 5 A 4 k B 2 q, .int .i64 x] W fun e w' => ∃ A' k' B' q', e = .returned (.tuple #[asv 0 A' 0 k' B' 0 q', .int .i64 u]) ∧ Below W.heap.size W w') ∧
    (Calls Try.prog 15 #[asv 5 A 4 k B 2 q, .int .i64 x] W fun e w' => ∃ A' k' B' q', e = .returned (.tuple #[asv 0 A' 0 k' B' 0 q', .int .i64 u]) ∧ Below W.heap.size W w') := by
  have D1 := h.decideA (by omega) (by omega) oE x hx
  have D2 := h.implyA (by omega) (by omega) oE x hx
  obtain ⟨a1, a2, a3⟩ := p_no (v := 5) (t := [4, 7, 2, 9]) (s := [1, 3]) (x := x) (d := true) (by rw [hu]; exact h0)
  obtain ⟨b1, b2, b3⟩ := p_no (v := 5) (t := [4, 7, 2, 9]) (s := [1, 3]) (x := x) (d := false) (by rw [hu]; exact h0)
  rw [a1, a2, a3, hu] at D1
  rw [b1, b2, b3, hu] at D2
  refine ⟨D1.mono fun e w' h => ?_, D2.mono fun e w' h => ?_⟩
  · obtain ⟨A', k', B', q', x, _, y⟩ := h.nw (n := 0) (m := 0) rfl rfl; exact ⟨A', k', B', q', x, y⟩
  · obtain ⟨A', k', B', q', x, _, y⟩ := h.nw (n := 0) (m := 0) rfl rfl; exact ⟨A', k', B', q', x, y⟩
theorem nfUndo (h : Nw b W A 4 k [4, 7, 2, 9] B 2 q [1, 3]) (x : Int) (hu : uE 5 [4, 7, 2, 9] [1, 3] x = 2) :
    Calls Try.prog 21 #[asv 5 A 4 k B 2 q, .int .i64 x] W fun e w' => ∃ A' k' B' q', e = .returned (.tuple #[asv 0 A' 0 k' B' 0 q', .int .i64 2]) ∧ Below W.heap.size W w' := by
  have D1 := h.undoA (by omega) (by omega) oE x
  obtain ⟨a1, a2, a3⟩ := u_no (v := 5) (t := [4, 7, 2, 9]) (s := [1, 3]) (lv := x) (by rw [hu]; decide)
  rw [a1, a2, a3, hu] at D1
  refine D1.mono fun e w' h => ?_
  obtain ⟨A', k', B', q', x, _, y⟩ := h.nw (n := 0) (m := 0) rfl rfl; exact ⟨A', k', B', q', x, y⟩
theorem nfUndo2 (h : Nw b W A 4 k [4, 7, 2, 9] B 2 q [1, 3]) :
    Calls Try.prog 21 #[asv 5 A 4 k B 2 q, .int .i64 2] W fun e w' => ∃ A' k' B' q', e = .returned (.tuple #[asv 5 A' 4 k' B' 2 q', .int .i64 0]) ∧ Nw W.heap.size w' A' 4 k' [4, 7, 2, 9] B' 2 q' [1, 3] ∧ Below W.heap.size W w' := by
  have D1 := h.undo (v := 5) (by omega) (by omega) oE (x := 2) (by omega) (n' := 4) (by decide)
  rw [show List.take (usz 4 [1, 3] 2) ([4, 7, 2, 9] : List Int) = [4, 7, 2, 9] by decide, show List.take 2 ([1, 3] : List Int) = [1, 3] by decide, show ((2 : Nat) : Int) = 2 from rfl] at D1
  exact D1
end

set_option maxRecDepth 100000 in
set_option maxHeartbeats 40000000 in
theorem names14_any (w : World) : Calls Try.prog 4 #[] w fun e w' => e = .returned (.bool true) ∧ Below w.heap.size w w' := by
  have hB0 : Below w.heap.size w ((nfW w).alloc (.cells (nfC w.heap.size) 24)) := (nfW_below w).alloc (nfW_below w).size _
  have hC0 : Has ((nfW w).alloc (.cells (nfC w.heap.size) 24)) (w.heap.size + 13) 24 (nfC w.heap.size) := Has.new' _ _ (nfW_size w)
  have HN0 := Lib.hid fun (i : Nat) (h : i < 11) => nf_nw w h
  have H0 := Lib.hid (And.intro hB0 hC0)
  clear hB0 hC0
  go_enter Try.func4, Try.ntmps4
  go_wp2
  go_loopw [2] (fun kk wr => ∃ i : Nat, i ≤ 11 ∧ kk = .int .i64 (i : Int) ∧ Below w.heap.size w wr ∧ Has wr (w.heap.size + 13) 24 (nfC w.heap.size) ∧ ∀ j, j < 11 → Nw 0 wr (nfA w.heap.size j) (nfN j) (nfN j) (nfT j) (nfB w.heap.size j) (nfM j) (nfM j) (nfS j)) (fun kk _ => 11 - (intOf kk).toNat)
  case atStart => exact ⟨0, Nat.zero_le _, rfl, H0.out.1, H0.out.2, HN0.out⟩
  case round =>
    obtain ⟨i, hi, rfl, hB, hC, hN⟩ := hrel
    by_cases hlt : i < 11
    · obtain ⟨e0, e1, e2⟩ := nfC_at w.heap.size hlt
      have y0 := (hC.cell (i * 3)).trans e0
      have y1 := (hC.cell (i * 3 + 1)).trans e1
      have y2 := (hC.cell (i * 3 + 2)).trans e2
      have hNi := hN i hlt
      have D := Lib.hid fun (W : World) (hb : Below wr.heap.size wr W) => bad_calls (hNi.on hb) (nf_le hlt).1 (nf_le hlt).2 (nf_64 hlt) (nf_bad hlt)
      have i0 : (0 : Int) ≤ (i : Int) := by omega
      have i1 : (i : Int) < 11 := by omega
      obtain ⟨v, hv⟩ : ∃ v, v = nfV i := ⟨_, rfl⟩
      obtain ⟨A, hA⟩ : ∃ v, v = nfA w.heap.size i := ⟨_, rfl⟩
      obtain ⟨n, hn⟩ : ∃ v, v = nfN i := ⟨_, rfl⟩
      obtain ⟨B, hBB⟩ : ∃ v, v = nfB w.heap.size i := ⟨_, rfl⟩
      obtain ⟨m, hm⟩ : ∃ v, v = nfM i := ⟨_, rfl⟩
      rw [← hv] at y0 D
      rw [← hA, ← hn] at y1 D
      rw [← hBB, ← hm] at y2 D
      have HK := Lib.hid (And.intro hB (And.intro hC hN))
      have HY := Lib.hid (And.intro y0 (And.intro y1 y2))
      clear hB hC hN e0 e1 e2 hNi hv hA hn hBB hm
      have D1 := (D.out wr (Below.refl _ _)).1
      go_wp2_with (first
        | (go_at_call 13; (with_reducible refine D1.mono ?_); rintro e w1 ⟨A1, k1, B1, q1, rfl, hb1⟩
           have hx1 := bn hb1 (bx_on w1 (.cells #[.int .i64 0, .slice A1 0 k1, .slice B1 0 q1] 24))
           have z10 := (hx1.cell (cell_lt HY.out.1)).trans HY.out.1
           have z11 := (hx1.cell (cell_lt HY.out.2.1)).trans HY.out.2.1
           have z12 := (hx1.cell (cell_lt HY.out.2.2)).trans HY.out.2.2
           have D2 := (D.out _ hx1).2.1
           have HX1 := Lib.hid hx1
           clear hb1 hx1)
        | (go_at_call 15; (with_reducible refine D2.mono ?_); rintro e w2 ⟨A2, k2, B2, q2, rfl, hb2⟩
           have hx2 := bn HX1.out (bn hb2 (bx_on w2 (.cells #[.int .i64 0, .slice A2 0 k2, .slice B2 0 q2] 24)))
           have z20 := (hx2.cell (cell_lt HY.out.1)).trans HY.out.1
           have z21 := (hx2.cell (cell_lt HY.out.2.1)).trans HY.out.2.1
           have z22 := (hx2.cell (cell_lt HY.out.2.2)).trans HY.out.2.2
           have D3 := (D.out _ hx2).2.2.1
           have HX2 := Lib.hid hx2
           clear hb2 hx2)
        | (go_at_call 17; (with_reducible refine D3.mono ?_); rintro e w3 ⟨rfl, hb3⟩
           have hx3 := bn HX2.out hb3
           have z30 := (hx3.cell (cell_lt HY.out.1)).trans HY.out.1
           have z31 := (hx3.cell (cell_lt HY.out.2.1)).trans HY.out.2.1
           have z32 := (hx3.cell (cell_lt HY.out.2.2)).trans HY.out.2.2
           have D4 := (D.out _ hx3).2.2.2.1
           have HX3 := Lib.hid hx3
           clear hb3 hx3)
        | (go_at_call 19; (with_reducible refine D4.mono ?_); rintro e w4 ⟨rfl, hb4⟩
           have hx4 := bn HX3.out hb4
           have z40 := (hx4.cell (cell_lt HY.out.1)).trans HY.out.1
           have z41 := (hx4.cell (cell_lt HY.out.2.1)).trans HY.out.2.1
           have z42 := (hx4.cell (cell_lt HY.out.2.2)).trans HY.out.2.2
           have D5 := (D.out _ hx4).2.2.2.2.1
           have HX4 := Lib.hid hx4
           clear hb4 hx4)
        | (go_at_call 21; (with_reducible refine D5.mono ?_); rintro e w5 ⟨A5, k5, B5, q5, rfl, hb5⟩
           have hx5 := bn HX4.out (bn hb5 (bx_on w5 (.cells #[.int .i64 0, .slice A5 0 k5, .slice B5 0 q5] 24)))
           have z50 := (hx5.cell (cell_lt HY.out.1)).trans HY.out.1
           have z51 := (hx5.cell (cell_lt HY.out.2.1)).trans HY.out.2.1
           have z52 := (hx5.cell (cell_lt HY.out.2.2)).trans HY.out.2.2
           have D6 := (D.out _ hx5).2.2.2.2.2
           have HX5 := Lib.hid hx5
           clear hb5 hx5)
        | (go_at_call 23; (with_reducible refine D6.mono ?_); rintro e w6 ⟨rfl, hb6⟩
           have HX6 := Lib.hid (bn HX5.out hb6)
           clear hb6))
      go_roundw
      case rel => exact ⟨i + 1, by omega, by go_num, bn HK.out.1 HX6.out, HK.out.2.1.keep HX6.out HK.out.2.1.lt, fun j hj => (HK.out.2.2 j hj).on HX6.out⟩
      case measure => simp [intOf]; omega
    · obtain rfl : i = 11 := by omega
      have HK0 := Lib.hid hB
      clear hB hC hN hi hlt HN0 H0
      go_wp2_with (first
        | (go_at_call 11; (with_reducible refine (nfNew (by omega) _).mono ?_); rintro e w101 ⟨A101, k101, B101, q101, rfl, hb101⟩
           have HK101 := Lib.hid (bn HK0.out (bn hb101 (bx_on w101 (.cells #[.int .i64 0, .slice A101 0 k101, .slice B101 0 q101] 24))))
           clear hb101)
        | (go_at_call 11; (with_reducible refine (nfNew (by omega) _).mono ?_); rintro e w102 ⟨A102, k102, B102, q102, rfl, hb102⟩
           have HK102 := Lib.hid (bn HK101.out (bn hb102 (bx_on w102 (.cells #[.int .i64 0, .slice A102 0 k102, .slice B102 0 q102] 24))))
           clear hb102)
        | (go_at_call 25; (with_reducible refine (example14_any _).mono ?_); rintro e w103 ⟨A103, k103, B103, q103, rfl, hN103, hb103⟩
           have HK103 := Lib.hid (bn HK102.out hb103)
           have C103 := (nfPut hN103 12 2 (by unfold I64; omega) (by decide) (by decide)).1
           clear hb103 hN103)
        | (go_at_call 13; (with_reducible refine C103.mono ?_); rintro e w104 ⟨A104, k104, B104, q104, rfl, hb104⟩
           have HK104 := Lib.hid (bn HK103.out (bn hb104 (bx_on w104 (.cells #[.int .i64 0, .slice A104 0 k104, .slice B104 0 q104] 24))))
           clear hb104)
        | (go_at_call 25; (with_reducible refine (example14_any _).mono ?_); rintro e w105 ⟨A105, k105, B105, q105, rfl, hN105, hb105⟩
           have HK105 := Lib.hid (bn HK104.out hb105)
           have C105 := (nfPut hN105 1 2 (by unfold I64; omega) (by decide) (by decide)).2
           clear hb105 hN105)
        | (go_at_call 15; (with_reducible refine C105.mono ?_); rintro e w106 ⟨A106, k106, B106, q106, rfl, hb106⟩
           have HK106 := Lib.hid (bn HK105.out (bn hb106 (bx_on w106 (.cells #[.int .i64 0, .slice A106 0 k106, .slice B106 0 q106] 24))))
           clear hb106)
        | (go_at_call 25; (with_reducible refine (example14_any _).mono ?_); rintro e w107 ⟨A107, k107, B107, q107, rfl, hN107, hb107⟩
           have HK107 := Lib.hid (bn HK106.out hb107)
           have C107 := (nfPut hN107 5 18 (by unfold I64; omega) (by decide) (by decide)).1
           clear hb107 hN107)
        | (go_at_call 13; (with_reducible refine C107.mono ?_); rintro e w108 ⟨A108, k108, B108, q108, rfl, hb108⟩
           have HK108 := Lib.hid (bn HK107.out (bn hb108 (bx_on w108 (.cells #[.int .i64 0, .slice A108 0 k108, .slice B108 0 q108] 24))))
           clear hb108)
        | (go_at_call 25; (with_reducible refine (example14_any _).mono ?_); rintro e w109 ⟨A109, k109, B109, q109, rfl, hN109, hb109⟩
           have HK109 := Lib.hid (bn HK108.out hb109)
           have C109 := (nfPut hN109 4 18 (by unfold I64; omega) (by decide) (by decide)).2
           clear hb109 hN109)
        | (go_at_call 15; (with_reducible refine C109.mono ?_); rintro e w110 ⟨A110, k110, B110, q110, rfl, hb110⟩
           have HK110 := Lib.hid (bn HK109.out (bn hb110 (bx_on w110 (.cells #[.int .i64 0, .slice A110 0 k110, .slice B110 0 q110] 24))))
           clear hb110)
        | (go_at_call 25; (with_reducible refine (example14_any _).mono ?_); rintro e w111 ⟨A111, k111, B111, q111, rfl, hN111, hb111⟩
           have HK111 := Lib.hid (bn HK110.out hb111)
           have C111 := Nw.level (v := 5) hN111 (by omega) (by omega) oE 10 (by unfold I64; omega)
           rw [nf_lv10.1, nf_lv10.2] at C111
           clear hb111 hN111)
        | (go_at_call 19; (with_reducible refine C111.mono ?_); rintro e w112 ⟨rfl, hb112⟩
           have HK112 := Lib.hid (bn HK111.out hb112)
           clear hb112)
        | (go_at_call 25; (with_reducible refine (example14_any _).mono ?_); rintro e w113 ⟨A113, k113, B113, q113, rfl, hN113, hb113⟩
           have HK113 := Lib.hid (bn HK112.out hb113)
           have C113 := Nw.value (v := 5) hN113 (by omega) (by omega) oE 11 (by unfold I64; omega)
           rw [show vV 5 [4, 7, 2, 9] [1, 3] 11 = 2 by decide, show wE 5 [4, 7, 2, 9] [1, 3] 11 = 0 by decide] at C113
           clear hb113 hN113)
        | (go_at_call 17; (with_reducible refine C113.mono ?_); rintro e w114 ⟨rfl, hb114⟩
           have HK114 := Lib.hid (bn HK113.out hb114)
           clear hb114)
        | (go_at_call 25; (with_reducible refine (example14_any _).mono ?_); rintro e w115 ⟨A115, k115, B115, q115, rfl, hN115, hb115⟩
           have HK115 := Lib.hid (bn HK114.out hb115)
           have C115 := nfUndo hN115 3 (by decide)
           clear hb115 hN115)
        | (go_at_call 21; (with_reducible refine C115.mono ?_); rintro e w116 ⟨A116, k116, B116, q116, rfl, hb116⟩
           have HK116 := Lib.hid (bn HK115.out (bn hb116 (bx_on w116 (.cells #[.int .i64 0, .slice A116 0 k116, .slice B116 0 q116] 24))))
           clear hb116)
        | (go_at_call 25; (with_reducible refine (example14_any _).mono ?_); rintro e w117 ⟨A117, k117, B117, q117, rfl, hN117, hb117⟩
           have HK117 := Lib.hid (bn HK116.out hb117)
           have C117 := nfUndo hN117 (-1) (by decide)
           clear hb117 hN117)
        | (go_at_call 21; (with_reducible refine C117.mono ?_); rintro e w118 ⟨A118, k118, B118, q118, rfl, hb118⟩
           have HK118 := Lib.hid (bn HK117.out (bn hb118 (bx_on w118 (.cells #[.int .i64 0, .slice A118 0 k118, .slice B118 0 q118] 24))))
           clear hb118)
        | (go_at_call 25; (with_reducible refine (example14_any _).mono ?_); rintro e w119 ⟨A119, k119, B119, q119, rfl, hN119, hb119⟩
           have HK119 := Lib.hid (bn HK118.out hb119)
           have C119 := nfUndo2 hN119
           clear hb119 hN119)
        | (go_at_call 21; (with_reducible refine C119.mono ?_); rintro e w120 ⟨A120, k120, B120, q120, rfl, hN120, hb120⟩
           have HK120 := Lib.hid (bn HK119.out (bn hb120 (bx_on w120 (.cells #[.int .i64 5, .slice A120 4 k120, .slice B120 2 q120] 24))))
           have HS120 := Lib.hid (And.intro (Bs.new w120 (.int .i64 5) (.slice A120 4 k120) (.slice B120 2 q120)) (hN120.on (bx_on w120 (.cells #[.int .i64 5, .slice A120 4 k120, .slice B120 2 q120] 24))))
           clear hb120 hN120)
        | (go_at_call 25; (with_reducible refine (example14_any _).mono ?_); rintro e w121 ⟨A121, k121, B121, q121, rfl, hN121, hb121⟩
           have HK121 := Lib.hid (bn HK120.out hb121)
           have HS121 := Lib.hid (And.intro (HS120.out.1.on hb121) (HS120.out.2.on hb121))
           have C121 := Nw.level (v := 5) hN121 (by omega) (by omega) oE 5 (by unfold I64; omega)
           rw [nf_lv5.1, nf_lv5.2] at C121
           clear hb121 hN121)
        | (go_at_call 19; (with_reducible refine C121.mono ?_); rintro e w122 ⟨rfl, hb122⟩
           have HK122 := Lib.hid (bn HK121.out hb122)
           have HS122 := Lib.hid (And.intro (HS121.out.1.on hb122) (HS121.out.2.on hb122))
           clear hb122)
        | (go_at_call 25; (with_reducible refine (example14_any _).mono ?_); rintro e w123 ⟨A123, k123, B123, q123, rfl, hN123, hb123⟩
           have HK123 := Lib.hid (bn HK122.out hb123)
           have HS123 := Lib.hid (And.intro (HS122.out.1.on hb123) (HS122.out.2.on hb123))
           have C123 := Nw.level (v := 5) hN123 (by omega) (by omega) oE 8 (by unfold I64; omega)
           rw [nf_lv8.1, nf_lv8.2] at C123
           clear hb123 hN123)
        | (go_at_call 19; (with_reducible refine C123.mono ?_); rintro e w124 ⟨rfl, hb124⟩
           have HK124 := Lib.hid (bn HK123.out hb124)
           have HS124 := Lib.hid (And.intro (HS123.out.1.on hb124) (HS123.out.2.on hb124))
           clear hb124)
        | (go_at_call 25; (with_reducible refine (example14_any _).mono ?_); rintro e w125 ⟨A125, k125, B125, q125, rfl, hN125, hb125⟩
           have HK125 := Lib.hid (bn HK124.out hb125)
           have HS125 := Lib.hid (And.intro (HS124.out.1.on hb125) (HS124.out.2.on hb125))
           have C125 := Nw.value (v := 5) hN125 (by omega) (by omega) oE (-2) (by unfold I64; omega)
           rw [show vV 5 [4, 7, 2, 9] [1, 3] (-2) = 0 by decide, show wE 5 [4, 7, 2, 9] [1, 3] (-2) = 2 by decide] at C125
           clear hb125 hN125)
        | (go_at_call 17; (with_reducible refine C125.mono ?_); rintro e w126 ⟨rfl, hb126⟩
           have HK126 := Lib.hid (bn HK125.out hb126)
           have HS126 := Lib.hid (And.intro (HS125.out.1.on hb126) (HS125.out.2.on hb126))
           clear hb126))
      have HF := Lib.hid (And.intro HK126.out HS126.out)
      have hS0 : (fun W : World => W.cell? ⟨w120.heap.size, 0, none⟩ = some (.int .i64 5) ∧ W.cell? ⟨w120.heap.size, 1, none⟩ = some (.slice A120 4 k120) ∧ W.cell? ⟨w120.heap.size, 2, none⟩ = some (.slice B120 2 q120)) w126.drew := HS126.out.1.c
      have CA := alive14_any w126.drew
      refine wp_slots (fun f => Sz f 282 ∧ Slot f 14 (.int .i64 2) ∧ Slot f 16 (.int .i64 2) ∧ Slot f 18 (.int .i64 2) ∧ Slot f 20 (.int .i64 2) ∧ Slot f 22 (.int .i64 18) ∧ Slot f 24 (.int .i64 18) ∧ Slot f 26 (.int .i64 6) ∧ Slot f 27 (.int .u8 2) ∧ Slot f 28 (.int .i64 0) ∧ Slot f 30 (.int .i64 2) ∧ Slot f 32 (.int .i64 2) ∧ Slot f 33 (.pointer (some ⟨w120.heap.size, 0, none⟩)) ∧ Slot f 34 (.int .i64 0) ∧ Slot f 35 (.int .i64 0) ∧ Slot f 36 (.int .i64 0) ∧ Slot f 37 (.int .i64 2) ∧ Slot f 38 (.int .i64 0) ∧ Slot f 40 (.int .i64 2)) ⟨⟨rfl, rfl⟩, ⟨rfl⟩, ⟨rfl⟩, ⟨rfl⟩, ⟨rfl⟩, ⟨rfl⟩, ⟨rfl⟩, ⟨rfl⟩, ⟨rfl⟩, ⟨rfl⟩, ⟨rfl⟩, ⟨rfl⟩, ⟨rfl⟩, ⟨rfl⟩, ⟨rfl⟩, ⟨rfl⟩, ⟨rfl⟩, ⟨rfl⟩, ⟨rfl⟩⟩ fun a0 hA0 hR => ?_
      obtain ⟨hZ, hs14, hs16, hs18, hs20, hs22, hs24, hs26, hs27, hs28, hs30, hs32, hs33, hs34, hs35, hs36, hs37, hs38, hs40⟩ := hR
      clear hA0
      refine wp_region_T (fun W : World => W.cell? ⟨w120.heap.size, 0, none⟩ = some (.int .i64 5) ∧ W.cell? ⟨w120.heap.size, 1, none⟩ = some (.slice A120 4 k120) ∧ W.cell? ⟨w120.heap.size, 2, none⟩ = some (.slice B120 2 q120)) 77 (by kernel_rfl) ?_
      refine WT.h ?_
      (refine wt_take0 0  (v := ?_) rfl rfl (by kernel_rfl) (by kernel_rfl) (by kernel_rfl) (by kernel_rfl) (fun _ _ _ h => h) rfl hS0  (fun ev hk  w hS => ?_) ?_; rotate_left; focus (obtain ⟨j0, j1, j2⟩ := hS; go_simp; rfl))
      refine wt_call0 1  (by kernel_rfl) rfl rfl (wanted_of rfl rfl (by (repeat (first | (refine slot_hit (N := 282) ?_ (by rfl); (repeat (refine sz_put ?_)); assumption; done) | (apply slot_miss; focus rfl))); all_goals assumption) rfl)  (f := ?_) (args := ?_) (fun ev hk hkf  => ?_) ?_; rotate_left 2; focus (go_simp; first | rfl | (constructor <;> rfl))
      refine CA.mono ?_
      rintro e w127 ⟨rfl, hb127⟩
      have hb127 := bn (below_dn (Below.refl _ _) 1) hb127
      have hS0 : (fun W : World => W.cell? ⟨w120.heap.size, 0, none⟩ = some (.int .i64 5) ∧ W.cell? ⟨w120.heap.size, 1, none⟩ = some (.slice A120 4 k120) ∧ W.cell? ⟨w120.heap.size, 2, none⟩ = some (.slice B120 2 q120)) w127 := (HF.out.2.1.on hb127).c
      refine ⟨_, rfl, fun _ => hS0, ?_⟩
      clear CA
      (refine wt_take2 2 206 207 (v := ?_) rfl rfl (by kernel_rfl) (by kernel_rfl) (by kernel_rfl) (by kernel_rfl) (fun _ _ _ h => h) rfl hS0 (by (repeat (first | (refine slot_hit (N := 282) ?_ (by rfl); (repeat (refine sz_put ?_)); assumption; done) | (apply slot_miss; focus rfl))); all_goals assumption) (by (repeat (first | (refine slot_hit (N := 282) ?_ (by rfl); (repeat (refine sz_put ?_)); assumption; done) | (apply slot_miss; focus rfl))); all_goals assumption) (fun ev hk hv0 hv1 w hS => ?_) ?_; rotate_left; focus (obtain ⟨j0, j1, j2⟩ := hS; go_simp; rfl)); (refine wt_move 3 208 rfl rfl (by kernel_rfl) (by kernel_rfl) (by kernel_rfl) (by kernel_rfl) (fun _ _ _ h => h) rfl hS0 (by (repeat (first | (refine slot_hit (N := 282) ?_ (by rfl); (repeat (refine sz_put ?_)); assumption; done) | (apply slot_miss; focus rfl))); all_goals assumption) rfl ?_); (refine wt_move 4 14 rfl rfl (by kernel_rfl) (by kernel_rfl) (by kernel_rfl) (by kernel_rfl) (fun _ _ _ h => h) (wanted_of rfl rfl (by (repeat (first | (refine slot_hit (N := 282) ?_ (by rfl); (repeat (refine sz_put ?_)); assumption; done) | (apply slot_miss; focus rfl))); all_goals assumption) rfl) hS0 (by (repeat (first | (refine slot_hit (N := 282) ?_ (by rfl); (repeat (refine sz_put ?_)); assumption; done) | (apply slot_miss; focus rfl))); all_goals assumption) rfl ?_); (refine wt_take1 5 210 (v := ?_) rfl rfl (by kernel_rfl) (by kernel_rfl) (by kernel_rfl) (by kernel_rfl) (fun _ _ _ h => h) (wanted_of rfl rfl (by (repeat (first | (refine slot_hit (N := 282) ?_ (by rfl); (repeat (refine sz_put ?_)); assumption; done) | (apply slot_miss; focus rfl))); all_goals assumption) rfl) hS0 (by (repeat (first | (refine slot_hit (N := 282) ?_ (by rfl); (repeat (refine sz_put ?_)); assumption; done) | (apply slot_miss; focus rfl))); all_goals assumption) (fun ev hk hv0 w hS => ?_) ?_; rotate_left; focus (obtain ⟨j0, j1, j2⟩ := hS; go_simp; rfl)); (refine wt_take2 6 209 211 (v := ?_) rfl rfl (by kernel_rfl) (by kernel_rfl) (by kernel_rfl) (by kernel_rfl) (fun _ _ _ h => h) rfl hS0 (by (repeat (first | (refine slot_hit (N := 282) ?_ (by rfl); (repeat (refine sz_put ?_)); assumption; done) | (apply slot_miss; focus rfl))); all_goals assumption) (by (repeat (first | (refine slot_hit (N := 282) ?_ (by rfl); (repeat (refine sz_put ?_)); assumption; done) | (apply slot_miss; focus rfl))); all_goals assumption) (fun ev hk hv0 hv1 w hS => ?_) ?_; rotate_left; focus (obtain ⟨j0, j1, j2⟩ := hS; go_simp; rfl)); (refine wt_move 7 212 rfl rfl (by kernel_rfl) (by kernel_rfl) (by kernel_rfl) (by kernel_rfl) (fun _ _ _ h => h) rfl hS0 (by (repeat (first | (refine slot_hit (N := 282) ?_ (by rfl); (repeat (refine sz_put ?_)); assumption; done) | (apply slot_miss; focus rfl))); all_goals assumption) rfl ?_); (refine wt_move 8 16 rfl rfl (by kernel_rfl) (by kernel_rfl) (by kernel_rfl) (by kernel_rfl) (fun _ _ _ h => h) (wanted_of rfl rfl (by (repeat (first | (refine slot_hit (N := 282) ?_ (by rfl); (repeat (refine sz_put ?_)); assumption; done) | (apply slot_miss; focus rfl))); all_goals assumption) rfl) hS0 (by (repeat (first | (refine slot_hit (N := 282) ?_ (by rfl); (repeat (refine sz_put ?_)); assumption; done) | (apply slot_miss; focus rfl))); all_goals assumption) rfl ?_); (refine wt_take1 9 214 (v := ?_) rfl rfl (by kernel_rfl) (by kernel_rfl) (by kernel_rfl) (by kernel_rfl) (fun _ _ _ h => h) (wanted_of rfl rfl (by (repeat (first | (refine slot_hit (N := 282) ?_ (by rfl); (repeat (refine sz_put ?_)); assumption; done) | (apply slot_miss; focus rfl))); all_goals assumption) rfl) hS0 (by (repeat (first | (refine slot_hit (N := 282) ?_ (by rfl); (repeat (refine sz_put ?_)); assumption; done) | (apply slot_miss; focus rfl))); all_goals assumption) (fun ev hk hv0 w hS => ?_) ?_; rotate_left; focus (obtain ⟨j0, j1, j2⟩ := hS; go_simp; rfl)); (refine wt_take2 10 213 215 (v := ?_) rfl rfl (by kernel_rfl) (by kernel_rfl) (by kernel_rfl) (by kernel_rfl) (fun _ _ _ h => h) rfl hS0 (by (repeat (first | (refine slot_hit (N := 282) ?_ (by rfl); (repeat (refine sz_put ?_)); assumption; done) | (apply slot_miss; focus rfl))); all_goals assumption) (by (repeat (first | (refine slot_hit (N := 282) ?_ (by rfl); (repeat (refine sz_put ?_)); assumption; done) | (apply slot_miss; focus rfl))); all_goals assumption) (fun ev hk hv0 hv1 w hS => ?_) ?_; rotate_left; focus (obtain ⟨j0, j1, j2⟩ := hS; go_simp; rfl)); (refine wt_move 11 216 rfl rfl (by kernel_rfl) (by kernel_rfl) (by kernel_rfl) (by kernel_rfl) (fun _ _ _ h => h) rfl hS0 (by (repeat (first | (refine slot_hit (N := 282) ?_ (by rfl); (repeat (refine sz_put ?_)); assumption; done) | (apply slot_miss; focus rfl))); all_goals assumption) rfl ?_); (refine wt_move 12 18 rfl rfl (by kernel_rfl) (by kernel_rfl) (by kernel_rfl) (by kernel_rfl) (fun _ _ _ h => h) (wanted_of rfl rfl (by (repeat (first | (refine slot_hit (N := 282) ?_ (by rfl); (repeat (refine sz_put ?_)); assumption; done) | (apply slot_miss; focus rfl))); all_goals assumption) rfl) hS0 (by (repeat (first | (refine slot_hit (N := 282) ?_ (by rfl); (repeat (refine sz_put ?_)); assumption; done) | (apply slot_miss; focus rfl))); all_goals assumption) rfl ?_); (refine wt_take1 13 218 (v := ?_) rfl rfl (by kernel_rfl) (by kernel_rfl) (by kernel_rfl) (by kernel_rfl) (fun _ _ _ h => h) (wanted_of rfl rfl (by (repeat (first | (refine slot_hit (N := 282) ?_ (by rfl); (repeat (refine sz_put ?_)); assumption; done) | (apply slot_miss; focus rfl))); all_goals assumption) rfl) hS0 (by (repeat (first | (refine slot_hit (N := 282) ?_ (by rfl); (repeat (refine sz_put ?_)); assumption; done) | (apply slot_miss; focus rfl))); all_goals assumption) (fun ev hk hv0 w hS => ?_) ?_; rotate_left; focus (obtain ⟨j0, j1, j2⟩ := hS; go_simp; rfl)); (refine wt_take2 14 217 219 (v := ?_) rfl rfl (by kernel_rfl) (by kernel_rfl) (by kernel_rfl) (by kernel_rfl) (fun _ _ _ h => h) rfl hS0 (by (repeat (first | (refine slot_hit (N := 282) ?_ (by rfl); (repeat (refine sz_put ?_)); assumption; done) | (apply slot_miss; focus rfl))); all_goals assumption) (by (repeat (first | (refine slot_hit (N := 282) ?_ (by rfl); (repeat (refine sz_put ?_)); assumption; done) | (apply slot_miss; focus rfl))); all_goals assumption) (fun ev hk hv0 hv1 w hS => ?_) ?_; rotate_left; focus (obtain ⟨j0, j1, j2⟩ := hS; go_simp; rfl)); (refine wt_move 15 220 rfl rfl (by kernel_rfl) (by kernel_rfl) (by kernel_rfl) (by kernel_rfl) (fun _ _ _ h => h) rfl hS0 (by (repeat (first | (refine slot_hit (N := 282) ?_ (by rfl); (repeat (refine sz_put ?_)); assumption; done) | (apply slot_miss; focus rfl))); all_goals assumption) rfl ?_); (refine wt_move 16 20 rfl rfl (by kernel_rfl) (by kernel_rfl) (by kernel_rfl) (by kernel_rfl) (fun _ _ _ h => h) (wanted_of rfl rfl (by (repeat (first | (refine slot_hit (N := 282) ?_ (by rfl); (repeat (refine sz_put ?_)); assumption; done) | (apply slot_miss; focus rfl))); all_goals assumption) rfl) hS0 (by (repeat (first | (refine slot_hit (N := 282) ?_ (by rfl); (repeat (refine sz_put ?_)); assumption; done) | (apply slot_miss; focus rfl))); all_goals assumption) rfl ?_); (refine wt_take1 17 222 (v := ?_) rfl rfl (by kernel_rfl) (by kernel_rfl) (by kernel_rfl) (by kernel_rfl) (fun _ _ _ h => h) (wanted_of rfl rfl (by (repeat (first | (refine slot_hit (N := 282) ?_ (by rfl); (repeat (refine sz_put ?_)); assumption; done) | (apply slot_miss; focus rfl))); all_goals assumption) rfl) hS0 (by (repeat (first | (refine slot_hit (N := 282) ?_ (by rfl); (repeat (refine sz_put ?_)); assumption; done) | (apply slot_miss; focus rfl))); all_goals assumption) (fun ev hk hv0 w hS => ?_) ?_; rotate_left; focus (obtain ⟨j0, j1, j2⟩ := hS; go_simp; rfl)); (refine wt_take2 18 221 223 (v := ?_) rfl rfl (by kernel_rfl) (by kernel_rfl) (by kernel_rfl) (by kernel_rfl) (fun _ _ _ h => h) rfl hS0 (by (repeat (first | (refine slot_hit (N := 282) ?_ (by rfl); (repeat (refine sz_put ?_)); assumption; done) | (apply slot_miss; focus rfl))); all_goals assumption) (by (repeat (first | (refine slot_hit (N := 282) ?_ (by rfl); (repeat (refine sz_put ?_)); assumption; done) | (apply slot_miss; focus rfl))); all_goals assumption) (fun ev hk hv0 hv1 w hS => ?_) ?_; rotate_left; focus (obtain ⟨j0, j1, j2⟩ := hS; go_simp; rfl)); (refine wt_move 19 224 rfl rfl (by kernel_rfl) (by kernel_rfl) (by kernel_rfl) (by kernel_rfl) (fun _ _ _ h => h) rfl hS0 (by (repeat (first | (refine slot_hit (N := 282) ?_ (by rfl); (repeat (refine sz_put ?_)); assumption; done) | (apply slot_miss; focus rfl))); all_goals assumption) rfl ?_); (refine wt_move 20 22 rfl rfl (by kernel_rfl) (by kernel_rfl) (by kernel_rfl) (by kernel_rfl) (fun _ _ _ h => h) (wanted_of rfl rfl (by (repeat (first | (refine slot_hit (N := 282) ?_ (by rfl); (repeat (refine sz_put ?_)); assumption; done) | (apply slot_miss; focus rfl))); all_goals assumption) rfl) hS0 (by (repeat (first | (refine slot_hit (N := 282) ?_ (by rfl); (repeat (refine sz_put ?_)); assumption; done) | (apply slot_miss; focus rfl))); all_goals assumption) rfl ?_); (refine wt_take1 21 226 (v := ?_) rfl rfl (by kernel_rfl) (by kernel_rfl) (by kernel_rfl) (by kernel_rfl) (fun _ _ _ h => h) (wanted_of rfl rfl (by (repeat (first | (refine slot_hit (N := 282) ?_ (by rfl); (repeat (refine sz_put ?_)); assumption; done) | (apply slot_miss; focus rfl))); all_goals assumption) rfl) hS0 (by (repeat (first | (refine slot_hit (N := 282) ?_ (by rfl); (repeat (refine sz_put ?_)); assumption; done) | (apply slot_miss; focus rfl))); all_goals assumption) (fun ev hk hv0 w hS => ?_) ?_; rotate_left; focus (obtain ⟨j0, j1, j2⟩ := hS; go_simp; rfl)); (refine wt_take2 22 225 227 (v := ?_) rfl rfl (by kernel_rfl) (by kernel_rfl) (by kernel_rfl) (by kernel_rfl) (fun _ _ _ h => h) rfl hS0 (by (repeat (first | (refine slot_hit (N := 282) ?_ (by rfl); (repeat (refine sz_put ?_)); assumption; done) | (apply slot_miss; focus rfl))); all_goals assumption) (by (repeat (first | (refine slot_hit (N := 282) ?_ (by rfl); (repeat (refine sz_put ?_)); assumption; done) | (apply slot_miss; focus rfl))); all_goals assumption) (fun ev hk hv0 hv1 w hS => ?_) ?_; rotate_left; focus (obtain ⟨j0, j1, j2⟩ := hS; go_simp; rfl)); (refine wt_move 23 228 rfl rfl (by kernel_rfl) (by kernel_rfl) (by kernel_rfl) (by kernel_rfl) (fun _ _ _ h => h) rfl hS0 (by (repeat (first | (refine slot_hit (N := 282) ?_ (by rfl); (repeat (refine sz_put ?_)); assumption; done) | (apply slot_miss; focus rfl))); all_goals assumption) rfl ?_); (refine wt_move 24 24 rfl rfl (by kernel_rfl) (by kernel_rfl) (by kernel_rfl) (by kernel_rfl) (fun _ _ _ h => h) (wanted_of rfl rfl (by (repeat (first | (refine slot_hit (N := 282) ?_ (by rfl); (repeat (refine sz_put ?_)); assumption; done) | (apply slot_miss; focus rfl))); all_goals assumption) rfl) hS0 (by (repeat (first | (refine slot_hit (N := 282) ?_ (by rfl); (repeat (refine sz_put ?_)); assumption; done) | (apply slot_miss; focus rfl))); all_goals assumption) rfl ?_); (refine wt_take1 25 230 (v := ?_) rfl rfl (by kernel_rfl) (by kernel_rfl) (by kernel_rfl) (by kernel_rfl) (fun _ _ _ h => h) (wanted_of rfl rfl (by (repeat (first | (refine slot_hit (N := 282) ?_ (by rfl); (repeat (refine sz_put ?_)); assumption; done) | (apply slot_miss; focus rfl))); all_goals assumption) rfl) hS0 (by (repeat (first | (refine slot_hit (N := 282) ?_ (by rfl); (repeat (refine sz_put ?_)); assumption; done) | (apply slot_miss; focus rfl))); all_goals assumption) (fun ev hk hv0 w hS => ?_) ?_; rotate_left; focus (obtain ⟨j0, j1, j2⟩ := hS; go_simp; rfl)); (refine wt_take2 26 229 231 (v := ?_) rfl rfl (by kernel_rfl) (by kernel_rfl) (by kernel_rfl) (by kernel_rfl) (fun _ _ _ h => h) rfl hS0 (by (repeat (first | (refine slot_hit (N := 282) ?_ (by rfl); (repeat (refine sz_put ?_)); assumption; done) | (apply slot_miss; focus rfl))); all_goals assumption) (by (repeat (first | (refine slot_hit (N := 282) ?_ (by rfl); (repeat (refine sz_put ?_)); assumption; done) | (apply slot_miss; focus rfl))); all_goals assumption) (fun ev hk hv0 hv1 w hS => ?_) ?_; rotate_left; focus (obtain ⟨j0, j1, j2⟩ := hS; go_simp; rfl)); (refine wt_move 27 232 rfl rfl (by kernel_rfl) (by kernel_rfl) (by kernel_rfl) (by kernel_rfl) (fun _ _ _ h => h) rfl hS0 (by (repeat (first | (refine slot_hit (N := 282) ?_ (by rfl); (repeat (refine sz_put ?_)); assumption; done) | (apply slot_miss; focus rfl))); all_goals assumption) rfl ?_); (refine wt_move 28 26 rfl rfl (by kernel_rfl) (by kernel_rfl) (by kernel_rfl) (by kernel_rfl) (fun _ _ _ h => h) (wanted_of rfl rfl (by (repeat (first | (refine slot_hit (N := 282) ?_ (by rfl); (repeat (refine sz_put ?_)); assumption; done) | (apply slot_miss; focus rfl))); all_goals assumption) rfl) hS0 (by (repeat (first | (refine slot_hit (N := 282) ?_ (by rfl); (repeat (refine sz_put ?_)); assumption; done) | (apply slot_miss; focus rfl))); all_goals assumption) rfl ?_); (refine wt_take1 29 234 (v := ?_) rfl rfl (by kernel_rfl) (by kernel_rfl) (by kernel_rfl) (by kernel_rfl) (fun _ _ _ h => h) (wanted_of rfl rfl (by (repeat (first | (refine slot_hit (N := 282) ?_ (by rfl); (repeat (refine sz_put ?_)); assumption; done) | (apply slot_miss; focus rfl))); all_goals assumption) rfl) hS0 (by (repeat (first | (refine slot_hit (N := 282) ?_ (by rfl); (repeat (refine sz_put ?_)); assumption; done) | (apply slot_miss; focus rfl))); all_goals assumption) (fun ev hk hv0 w hS => ?_) ?_; rotate_left; focus (obtain ⟨j0, j1, j2⟩ := hS; go_simp; rfl)); (refine wt_take2 30 233 235 (v := ?_) rfl rfl (by kernel_rfl) (by kernel_rfl) (by kernel_rfl) (by kernel_rfl) (fun _ _ _ h => h) rfl hS0 (by (repeat (first | (refine slot_hit (N := 282) ?_ (by rfl); (repeat (refine sz_put ?_)); assumption; done) | (apply slot_miss; focus rfl))); all_goals assumption) (by (repeat (first | (refine slot_hit (N := 282) ?_ (by rfl); (repeat (refine sz_put ?_)); assumption; done) | (apply slot_miss; focus rfl))); all_goals assumption) (fun ev hk hv0 hv1 w hS => ?_) ?_; rotate_left; focus (obtain ⟨j0, j1, j2⟩ := hS; go_simp; rfl)); (refine wt_move 31 236 rfl rfl (by kernel_rfl) (by kernel_rfl) (by kernel_rfl) (by kernel_rfl) (fun _ _ _ h => h) rfl hS0 (by (repeat (first | (refine slot_hit (N := 282) ?_ (by rfl); (repeat (refine sz_put ?_)); assumption; done) | (apply slot_miss; focus rfl))); all_goals assumption) rfl ?_); (refine wt_move 32 28 rfl rfl (by kernel_rfl) (by kernel_rfl) (by kernel_rfl) (by kernel_rfl) (fun _ _ _ h => h) (wanted_of rfl rfl (by (repeat (first | (refine slot_hit (N := 282) ?_ (by rfl); (repeat (refine sz_put ?_)); assumption; done) | (apply slot_miss; focus rfl))); all_goals assumption) rfl) hS0 (by (repeat (first | (refine slot_hit (N := 282) ?_ (by rfl); (repeat (refine sz_put ?_)); assumption; done) | (apply slot_miss; focus rfl))); all_goals assumption) rfl ?_); (refine wt_take1 33 238 (v := ?_) rfl rfl (by kernel_rfl) (by kernel_rfl) (by kernel_rfl) (by kernel_rfl) (fun _ _ _ h => h) (wanted_of rfl rfl (by (repeat (first | (refine slot_hit (N := 282) ?_ (by rfl); (repeat (refine sz_put ?_)); assumption; done) | (apply slot_miss; focus rfl))); all_goals assumption) rfl) hS0 (by (repeat (first | (refine slot_hit (N := 282) ?_ (by rfl); (repeat (refine sz_put ?_)); assumption; done) | (apply slot_miss; focus rfl))); all_goals assumption) (fun ev hk hv0 w hS => ?_) ?_; rotate_left; focus (obtain ⟨j0, j1, j2⟩ := hS; go_simp; rfl)); (refine wt_take2 34 237 239 (v := ?_) rfl rfl (by kernel_rfl) (by kernel_rfl) (by kernel_rfl) (by kernel_rfl) (fun _ _ _ h => h) rfl hS0 (by (repeat (first | (refine slot_hit (N := 282) ?_ (by rfl); (repeat (refine sz_put ?_)); assumption; done) | (apply slot_miss; focus rfl))); all_goals assumption) (by (repeat (first | (refine slot_hit (N := 282) ?_ (by rfl); (repeat (refine sz_put ?_)); assumption; done) | (apply slot_miss; focus rfl))); all_goals assumption) (fun ev hk hv0 hv1 w hS => ?_) ?_; rotate_left; focus (obtain ⟨j0, j1, j2⟩ := hS; go_simp; rfl)); (refine wt_move 35 240 rfl rfl (by kernel_rfl) (by kernel_rfl) (by kernel_rfl) (by kernel_rfl) (fun _ _ _ h => h) rfl hS0 (by (repeat (first | (refine slot_hit (N := 282) ?_ (by rfl); (repeat (refine sz_put ?_)); assumption; done) | (apply slot_miss; focus rfl))); all_goals assumption) rfl ?_); (refine wt_move 36 27 rfl rfl (by kernel_rfl) (by kernel_rfl) (by kernel_rfl) (by kernel_rfl) (fun _ _ _ h => h) (wanted_of rfl rfl (by (repeat (first | (refine slot_hit (N := 282) ?_ (by rfl); (repeat (refine sz_put ?_)); assumption; done) | (apply slot_miss; focus rfl))); all_goals assumption) rfl) hS0 (by (repeat (first | (refine slot_hit (N := 282) ?_ (by rfl); (repeat (refine sz_put ?_)); assumption; done) | (apply slot_miss; focus rfl))); all_goals assumption) rfl ?_); (refine wt_take1 37 242 (v := ?_) rfl rfl (by kernel_rfl) (by kernel_rfl) (by kernel_rfl) (by kernel_rfl) (fun _ _ _ h => h) (wanted_of rfl rfl (by (repeat (first | (refine slot_hit (N := 282) ?_ (by rfl); (repeat (refine sz_put ?_)); assumption; done) | (apply slot_miss; focus rfl))); all_goals assumption) rfl) hS0 (by (repeat (first | (refine slot_hit (N := 282) ?_ (by rfl); (repeat (refine sz_put ?_)); assumption; done) | (apply slot_miss; focus rfl))); all_goals assumption) (fun ev hk hv0 w hS => ?_) ?_; rotate_left; focus (obtain ⟨j0, j1, j2⟩ := hS; go_simp; rfl)); (refine wt_take2 38 241 243 (v := ?_) rfl rfl (by kernel_rfl) (by kernel_rfl) (by kernel_rfl) (by kernel_rfl) (fun _ _ _ h => h) rfl hS0 (by (repeat (first | (refine slot_hit (N := 282) ?_ (by rfl); (repeat (refine sz_put ?_)); assumption; done) | (apply slot_miss; focus rfl))); all_goals assumption) (by (repeat (first | (refine slot_hit (N := 282) ?_ (by rfl); (repeat (refine sz_put ?_)); assumption; done) | (apply slot_miss; focus rfl))); all_goals assumption) (fun ev hk hv0 hv1 w hS => ?_) ?_; rotate_left; focus (obtain ⟨j0, j1, j2⟩ := hS; go_simp; rfl)); (refine wt_move 39 244 rfl rfl (by kernel_rfl) (by kernel_rfl) (by kernel_rfl) (by kernel_rfl) (fun _ _ _ h => h) rfl hS0 (by (repeat (first | (refine slot_hit (N := 282) ?_ (by rfl); (repeat (refine sz_put ?_)); assumption; done) | (apply slot_miss; focus rfl))); all_goals assumption) rfl ?_); (refine wt_move 40 30 rfl rfl (by kernel_rfl) (by kernel_rfl) (by kernel_rfl) (by kernel_rfl) (fun _ _ _ h => h) (wanted_of rfl rfl (by (repeat (first | (refine slot_hit (N := 282) ?_ (by rfl); (repeat (refine sz_put ?_)); assumption; done) | (apply slot_miss; focus rfl))); all_goals assumption) rfl) hS0 (by (repeat (first | (refine slot_hit (N := 282) ?_ (by rfl); (repeat (refine sz_put ?_)); assumption; done) | (apply slot_miss; focus rfl))); all_goals assumption) rfl ?_); (refine wt_take1 41 246 (v := ?_) rfl rfl (by kernel_rfl) (by kernel_rfl) (by kernel_rfl) (by kernel_rfl) (fun _ _ _ h => h) (wanted_of rfl rfl (by (repeat (first | (refine slot_hit (N := 282) ?_ (by rfl); (repeat (refine sz_put ?_)); assumption; done) | (apply slot_miss; focus rfl))); all_goals assumption) rfl) hS0 (by (repeat (first | (refine slot_hit (N := 282) ?_ (by rfl); (repeat (refine sz_put ?_)); assumption; done) | (apply slot_miss; focus rfl))); all_goals assumption) (fun ev hk hv0 w hS => ?_) ?_; rotate_left; focus (obtain ⟨j0, j1, j2⟩ := hS; go_simp; rfl)); (refine wt_take2 42 245 247 (v := ?_) rfl rfl (by kernel_rfl) (by kernel_rfl) (by kernel_rfl) (by kernel_rfl) (fun _ _ _ h => h) rfl hS0 (by (repeat (first | (refine slot_hit (N := 282) ?_ (by rfl); (repeat (refine sz_put ?_)); assumption; done) | (apply slot_miss; focus rfl))); all_goals assumption) (by (repeat (first | (refine slot_hit (N := 282) ?_ (by rfl); (repeat (refine sz_put ?_)); assumption; done) | (apply slot_miss; focus rfl))); all_goals assumption) (fun ev hk hv0 hv1 w hS => ?_) ?_; rotate_left; focus (obtain ⟨j0, j1, j2⟩ := hS; go_simp; rfl)); (refine wt_move 43 248 rfl rfl (by kernel_rfl) (by kernel_rfl) (by kernel_rfl) (by kernel_rfl) (fun _ _ _ h => h) rfl hS0 (by (repeat (first | (refine slot_hit (N := 282) ?_ (by rfl); (repeat (refine sz_put ?_)); assumption; done) | (apply slot_miss; focus rfl))); all_goals assumption) rfl ?_); (refine wt_move 44 32 rfl rfl (by kernel_rfl) (by kernel_rfl) (by kernel_rfl) (by kernel_rfl) (fun _ _ _ h => h) (wanted_of rfl rfl (by (repeat (first | (refine slot_hit (N := 282) ?_ (by rfl); (repeat (refine sz_put ?_)); assumption; done) | (apply slot_miss; focus rfl))); all_goals assumption) rfl) hS0 (by (repeat (first | (refine slot_hit (N := 282) ?_ (by rfl); (repeat (refine sz_put ?_)); assumption; done) | (apply slot_miss; focus rfl))); all_goals assumption) rfl ?_); (refine wt_take1 45 250 (v := ?_) rfl rfl (by kernel_rfl) (by kernel_rfl) (by kernel_rfl) (by kernel_rfl) (fun _ _ _ h => h) (wanted_of rfl rfl (by (repeat (first | (refine slot_hit (N := 282) ?_ (by rfl); (repeat (refine sz_put ?_)); assumption; done) | (apply slot_miss; focus rfl))); all_goals assumption) rfl) hS0 (by (repeat (first | (refine slot_hit (N := 282) ?_ (by rfl); (repeat (refine sz_put ?_)); assumption; done) | (apply slot_miss; focus rfl))); all_goals assumption) (fun ev hk hv0 w hS => ?_) ?_; rotate_left; focus (obtain ⟨j0, j1, j2⟩ := hS; go_simp; rfl)); (refine wt_take2 46 249 251 (v := ?_) rfl rfl (by kernel_rfl) (by kernel_rfl) (by kernel_rfl) (by kernel_rfl) (fun _ _ _ h => h) rfl hS0 (by (repeat (first | (refine slot_hit (N := 282) ?_ (by rfl); (repeat (refine sz_put ?_)); assumption; done) | (apply slot_miss; focus rfl))); all_goals assumption) (by (repeat (first | (refine slot_hit (N := 282) ?_ (by rfl); (repeat (refine sz_put ?_)); assumption; done) | (apply slot_miss; focus rfl))); all_goals assumption) (fun ev hk hv0 hv1 w hS => ?_) ?_; rotate_left; focus (obtain ⟨j0, j1, j2⟩ := hS; go_simp; rfl)); (refine wt_move 47 252 rfl rfl (by kernel_rfl) (by kernel_rfl) (by kernel_rfl) (by kernel_rfl) (fun _ _ _ h => h) rfl hS0 (by (repeat (first | (refine slot_hit (N := 282) ?_ (by rfl); (repeat (refine sz_put ?_)); assumption; done) | (apply slot_miss; focus rfl))); all_goals assumption) rfl ?_); (refine wt_move 48 34 rfl rfl (by kernel_rfl) (by kernel_rfl) (by kernel_rfl) (by kernel_rfl) (fun _ _ _ h => h) (wanted_of rfl rfl (by (repeat (first | (refine slot_hit (N := 282) ?_ (by rfl); (repeat (refine sz_put ?_)); assumption; done) | (apply slot_miss; focus rfl))); all_goals assumption) rfl) hS0 (by (repeat (first | (refine slot_hit (N := 282) ?_ (by rfl); (repeat (refine sz_put ?_)); assumption; done) | (apply slot_miss; focus rfl))); all_goals assumption) rfl ?_); (refine wt_take1 49 254 (v := ?_) rfl rfl (by kernel_rfl) (by kernel_rfl) (by kernel_rfl) (by kernel_rfl) (fun _ _ _ h => h) (wanted_of rfl rfl (by (repeat (first | (refine slot_hit (N := 282) ?_ (by rfl); (repeat (refine sz_put ?_)); assumption; done) | (apply slot_miss; focus rfl))); all_goals assumption) rfl) hS0 (by (repeat (first | (refine slot_hit (N := 282) ?_ (by rfl); (repeat (refine sz_put ?_)); assumption; done) | (apply slot_miss; focus rfl))); all_goals assumption) (fun ev hk hv0 w hS => ?_) ?_; rotate_left; focus (obtain ⟨j0, j1, j2⟩ := hS; go_simp; rfl)); (refine wt_take2 50 253 255 (v := ?_) rfl rfl (by kernel_rfl) (by kernel_rfl) (by kernel_rfl) (by kernel_rfl) (fun _ _ _ h => h) rfl hS0 (by (repeat (first | (refine slot_hit (N := 282) ?_ (by rfl); (repeat (refine sz_put ?_)); assumption; done) | (apply slot_miss; focus rfl))); all_goals assumption) (by (repeat (first | (refine slot_hit (N := 282) ?_ (by rfl); (repeat (refine sz_put ?_)); assumption; done) | (apply slot_miss; focus rfl))); all_goals assumption) (fun ev hk hv0 hv1 w hS => ?_) ?_; rotate_left; focus (obtain ⟨j0, j1, j2⟩ := hS; go_simp; rfl)); (refine wt_move 51 256 rfl rfl (by kernel_rfl) (by kernel_rfl) (by kernel_rfl) (by kernel_rfl) (fun _ _ _ h => h) rfl hS0 (by (repeat (first | (refine slot_hit (N := 282) ?_ (by rfl); (repeat (refine sz_put ?_)); assumption; done) | (apply slot_miss; focus rfl))); all_goals assumption) rfl ?_); (refine wt_take1 52 33 (v := ?_) rfl rfl (by kernel_rfl) (by kernel_rfl) (by kernel_rfl) (by kernel_rfl) (fun _ _ _ h => h) (wanted_of rfl rfl (by (repeat (first | (refine slot_hit (N := 282) ?_ (by rfl); (repeat (refine sz_put ?_)); assumption; done) | (apply slot_miss; focus rfl))); all_goals assumption) rfl) hS0 (by (repeat (first | (refine slot_hit (N := 282) ?_ (by rfl); (repeat (refine sz_put ?_)); assumption; done) | (apply slot_miss; focus rfl))); all_goals assumption) (fun ev hk hv0 w hS => ?_) ?_; rotate_left; focus (obtain ⟨j0, j1, j2⟩ := hS; go_simp; rfl))
      have CE := example14_any w127
      refine wt_call0 53  (by kernel_rfl) rfl rfl (wanted_of rfl rfl (by (repeat (first | (refine slot_hit (N := 282) ?_ (by rfl); (repeat (refine sz_put ?_)); assumption; done) | (apply slot_miss; focus rfl))); all_goals assumption) rfl)  (f := ?_) (args := ?_) (fun ev hk hkf  => ?_) ?_; rotate_left 2; focus (go_simp; first | rfl | (constructor <;> rfl))
      refine CE.mono ?_
      rintro e w128 ⟨A128, k128, B128, q128, rfl, hN128, hb128⟩
      have hb128 := bn hb127 hb128
      have hS0 : (fun W : World => W.cell? ⟨w120.heap.size, 0, none⟩ = some (.int .i64 5) ∧ W.cell? ⟨w120.heap.size, 1, none⟩ = some (.slice A120 4 k120) ∧ W.cell? ⟨w120.heap.size, 2, none⟩ = some (.slice B120 2 q120)) w128 := (HF.out.2.1.on hb128).c
      have CS := Nw.same (v := 5) (HF.out.2.2.on hb128) (by omega) (by omega) hN128
      refine ⟨_, rfl, fun _ => hS0, ?_⟩
      clear CE hN128
      refine wt_call2 54 258 259 (by kernel_rfl) rfl rfl (wanted_of rfl rfl (by (repeat (first | (refine slot_hit (N := 282) ?_ (by rfl); (repeat (refine sz_put ?_)); assumption; done) | (apply slot_miss; focus rfl))); all_goals assumption) rfl) (by (repeat (first | (refine slot_hit (N := 282) ?_ (by rfl); (repeat (refine sz_put ?_)); assumption; done) | (apply slot_miss; focus rfl))); all_goals assumption) (by (repeat (first | (refine slot_hit (N := 282) ?_ (by rfl); (repeat (refine sz_put ?_)); assumption; done) | (apply slot_miss; focus rfl))); all_goals assumption) (f := ?_) (args := ?_) (fun ev hk hkf hv0 hv1 => ?_) ?_; rotate_left 2; focus (go_simp; first | rfl | (constructor <;> rfl))
      refine CS.mono ?_
      rintro e w129 ⟨rfl, hb129⟩
      have hb129 := bn hb128 hb129
      have hS0 : (fun W : World => W.cell? ⟨w120.heap.size, 0, none⟩ = some (.int .i64 5) ∧ W.cell? ⟨w120.heap.size, 1, none⟩ = some (.slice A120 4 k120) ∧ W.cell? ⟨w120.heap.size, 2, none⟩ = some (.slice B120 2 q120)) w129 := (HF.out.2.1.on hb129).c
      refine ⟨_, rfl, fun _ => hS0, ?_⟩
      clear CS
      (refine wt_take2 55 257 260 (v := ?_) rfl rfl (by kernel_rfl) (by kernel_rfl) (by kernel_rfl) (by kernel_rfl) (fun _ _ _ h => h) rfl hS0 (by (repeat (first | (refine slot_hit (N := 282) ?_ (by rfl); (repeat (refine sz_put ?_)); assumption; done) | (apply slot_miss; focus rfl))); all_goals assumption) (by (repeat (first | (refine slot_hit (N := 282) ?_ (by rfl); (repeat (refine sz_put ?_)); assumption; done) | (apply slot_miss; focus rfl))); all_goals assumption) (fun ev hk hv0 hv1 w hS => ?_) ?_; rotate_left; focus (obtain ⟨j0, j1, j2⟩ := hS; go_simp; rfl)); (refine wt_move 56 261 rfl rfl (by kernel_rfl) (by kernel_rfl) (by kernel_rfl) (by kernel_rfl) (fun _ _ _ h => h) rfl hS0 (by (repeat (first | (refine slot_hit (N := 282) ?_ (by rfl); (repeat (refine sz_put ?_)); assumption; done) | (apply slot_miss; focus rfl))); all_goals assumption) rfl ?_); (refine wt_move 57 36 rfl rfl (by kernel_rfl) (by kernel_rfl) (by kernel_rfl) (by kernel_rfl) (fun _ _ _ h => h) (wanted_of rfl rfl (by (repeat (first | (refine slot_hit (N := 282) ?_ (by rfl); (repeat (refine sz_put ?_)); assumption; done) | (apply slot_miss; focus rfl))); all_goals assumption) rfl) hS0 (by (repeat (first | (refine slot_hit (N := 282) ?_ (by rfl); (repeat (refine sz_put ?_)); assumption; done) | (apply slot_miss; focus rfl))); all_goals assumption) rfl ?_); (refine wt_take1 58 263 (v := ?_) rfl rfl (by kernel_rfl) (by kernel_rfl) (by kernel_rfl) (by kernel_rfl) (fun _ _ _ h => h) (wanted_of rfl rfl (by (repeat (first | (refine slot_hit (N := 282) ?_ (by rfl); (repeat (refine sz_put ?_)); assumption; done) | (apply slot_miss; focus rfl))); all_goals assumption) rfl) hS0 (by (repeat (first | (refine slot_hit (N := 282) ?_ (by rfl); (repeat (refine sz_put ?_)); assumption; done) | (apply slot_miss; focus rfl))); all_goals assumption) (fun ev hk hv0 w hS => ?_) ?_; rotate_left; focus (obtain ⟨j0, j1, j2⟩ := hS; go_simp; rfl)); (refine wt_take2 59 262 264 (v := ?_) rfl rfl (by kernel_rfl) (by kernel_rfl) (by kernel_rfl) (by kernel_rfl) (fun _ _ _ h => h) rfl hS0 (by (repeat (first | (refine slot_hit (N := 282) ?_ (by rfl); (repeat (refine sz_put ?_)); assumption; done) | (apply slot_miss; focus rfl))); all_goals assumption) (by (repeat (first | (refine slot_hit (N := 282) ?_ (by rfl); (repeat (refine sz_put ?_)); assumption; done) | (apply slot_miss; focus rfl))); all_goals assumption) (fun ev hk hv0 hv1 w hS => ?_) ?_; rotate_left; focus (obtain ⟨j0, j1, j2⟩ := hS; go_simp; rfl)); (refine wt_move 60 265 rfl rfl (by kernel_rfl) (by kernel_rfl) (by kernel_rfl) (by kernel_rfl) (fun _ _ _ h => h) rfl hS0 (by (repeat (first | (refine slot_hit (N := 282) ?_ (by rfl); (repeat (refine sz_put ?_)); assumption; done) | (apply slot_miss; focus rfl))); all_goals assumption) rfl ?_); (refine wt_move 61 35 rfl rfl (by kernel_rfl) (by kernel_rfl) (by kernel_rfl) (by kernel_rfl) (fun _ _ _ h => h) (wanted_of rfl rfl (by (repeat (first | (refine slot_hit (N := 282) ?_ (by rfl); (repeat (refine sz_put ?_)); assumption; done) | (apply slot_miss; focus rfl))); all_goals assumption) rfl) hS0 (by (repeat (first | (refine slot_hit (N := 282) ?_ (by rfl); (repeat (refine sz_put ?_)); assumption; done) | (apply slot_miss; focus rfl))); all_goals assumption) rfl ?_); (refine wt_take1 62 267 (v := ?_) rfl rfl (by kernel_rfl) (by kernel_rfl) (by kernel_rfl) (by kernel_rfl) (fun _ _ _ h => h) (wanted_of rfl rfl (by (repeat (first | (refine slot_hit (N := 282) ?_ (by rfl); (repeat (refine sz_put ?_)); assumption; done) | (apply slot_miss; focus rfl))); all_goals assumption) rfl) hS0 (by (repeat (first | (refine slot_hit (N := 282) ?_ (by rfl); (repeat (refine sz_put ?_)); assumption; done) | (apply slot_miss; focus rfl))); all_goals assumption) (fun ev hk hv0 w hS => ?_) ?_; rotate_left; focus (obtain ⟨j0, j1, j2⟩ := hS; go_simp; rfl)); (refine wt_take2 63 266 268 (v := ?_) rfl rfl (by kernel_rfl) (by kernel_rfl) (by kernel_rfl) (by kernel_rfl) (fun _ _ _ h => h) rfl hS0 (by (repeat (first | (refine slot_hit (N := 282) ?_ (by rfl); (repeat (refine sz_put ?_)); assumption; done) | (apply slot_miss; focus rfl))); all_goals assumption) (by (repeat (first | (refine slot_hit (N := 282) ?_ (by rfl); (repeat (refine sz_put ?_)); assumption; done) | (apply slot_miss; focus rfl))); all_goals assumption) (fun ev hk hv0 hv1 w hS => ?_) ?_; rotate_left; focus (obtain ⟨j0, j1, j2⟩ := hS; go_simp; rfl)); (refine wt_move 64 269 rfl rfl (by kernel_rfl) (by kernel_rfl) (by kernel_rfl) (by kernel_rfl) (fun _ _ _ h => h) rfl hS0 (by (repeat (first | (refine slot_hit (N := 282) ?_ (by rfl); (repeat (refine sz_put ?_)); assumption; done) | (apply slot_miss; focus rfl))); all_goals assumption) rfl ?_); (refine wt_move 65 38 rfl rfl (by kernel_rfl) (by kernel_rfl) (by kernel_rfl) (by kernel_rfl) (fun _ _ _ h => h) (wanted_of rfl rfl (by (repeat (first | (refine slot_hit (N := 282) ?_ (by rfl); (repeat (refine sz_put ?_)); assumption; done) | (apply slot_miss; focus rfl))); all_goals assumption) rfl) hS0 (by (repeat (first | (refine slot_hit (N := 282) ?_ (by rfl); (repeat (refine sz_put ?_)); assumption; done) | (apply slot_miss; focus rfl))); all_goals assumption) rfl ?_); (refine wt_take1 66 271 (v := ?_) rfl rfl (by kernel_rfl) (by kernel_rfl) (by kernel_rfl) (by kernel_rfl) (fun _ _ _ h => h) (wanted_of rfl rfl (by (repeat (first | (refine slot_hit (N := 282) ?_ (by rfl); (repeat (refine sz_put ?_)); assumption; done) | (apply slot_miss; focus rfl))); all_goals assumption) rfl) hS0 (by (repeat (first | (refine slot_hit (N := 282) ?_ (by rfl); (repeat (refine sz_put ?_)); assumption; done) | (apply slot_miss; focus rfl))); all_goals assumption) (fun ev hk hv0 w hS => ?_) ?_; rotate_left; focus (obtain ⟨j0, j1, j2⟩ := hS; go_simp; rfl)); (refine wt_take2 67 270 272 (v := ?_) rfl rfl (by kernel_rfl) (by kernel_rfl) (by kernel_rfl) (by kernel_rfl) (fun _ _ _ h => h) rfl hS0 (by (repeat (first | (refine slot_hit (N := 282) ?_ (by rfl); (repeat (refine sz_put ?_)); assumption; done) | (apply slot_miss; focus rfl))); all_goals assumption) (by (repeat (first | (refine slot_hit (N := 282) ?_ (by rfl); (repeat (refine sz_put ?_)); assumption; done) | (apply slot_miss; focus rfl))); all_goals assumption) (fun ev hk hv0 hv1 w hS => ?_) ?_; rotate_left; focus (obtain ⟨j0, j1, j2⟩ := hS; go_simp; rfl)); (refine wt_move 68 273 rfl rfl (by kernel_rfl) (by kernel_rfl) (by kernel_rfl) (by kernel_rfl) (fun _ _ _ h => h) rfl hS0 (by (repeat (first | (refine slot_hit (N := 282) ?_ (by rfl); (repeat (refine sz_put ?_)); assumption; done) | (apply slot_miss; focus rfl))); all_goals assumption) rfl ?_); (refine wt_move 69 37 rfl rfl (by kernel_rfl) (by kernel_rfl) (by kernel_rfl) (by kernel_rfl) (fun _ _ _ h => h) (wanted_of rfl rfl (by (repeat (first | (refine slot_hit (N := 282) ?_ (by rfl); (repeat (refine sz_put ?_)); assumption; done) | (apply slot_miss; focus rfl))); all_goals assumption) rfl) hS0 (by (repeat (first | (refine slot_hit (N := 282) ?_ (by rfl); (repeat (refine sz_put ?_)); assumption; done) | (apply slot_miss; focus rfl))); all_goals assumption) rfl ?_); (refine wt_take1 70 275 (v := ?_) rfl rfl (by kernel_rfl) (by kernel_rfl) (by kernel_rfl) (by kernel_rfl) (fun _ _ _ h => h) (wanted_of rfl rfl (by (repeat (first | (refine slot_hit (N := 282) ?_ (by rfl); (repeat (refine sz_put ?_)); assumption; done) | (apply slot_miss; focus rfl))); all_goals assumption) rfl) hS0 (by (repeat (first | (refine slot_hit (N := 282) ?_ (by rfl); (repeat (refine sz_put ?_)); assumption; done) | (apply slot_miss; focus rfl))); all_goals assumption) (fun ev hk hv0 w hS => ?_) ?_; rotate_left; focus (obtain ⟨j0, j1, j2⟩ := hS; go_simp; rfl)); (refine wt_take2 71 274 276 (v := ?_) rfl rfl (by kernel_rfl) (by kernel_rfl) (by kernel_rfl) (by kernel_rfl) (fun _ _ _ h => h) rfl hS0 (by (repeat (first | (refine slot_hit (N := 282) ?_ (by rfl); (repeat (refine sz_put ?_)); assumption; done) | (apply slot_miss; focus rfl))); all_goals assumption) (by (repeat (first | (refine slot_hit (N := 282) ?_ (by rfl); (repeat (refine sz_put ?_)); assumption; done) | (apply slot_miss; focus rfl))); all_goals assumption) (fun ev hk hv0 hv1 w hS => ?_) ?_; rotate_left; focus (obtain ⟨j0, j1, j2⟩ := hS; go_simp; rfl)); (refine wt_move 72 277 rfl rfl (by kernel_rfl) (by kernel_rfl) (by kernel_rfl) (by kernel_rfl) (fun _ _ _ h => h) rfl hS0 (by (repeat (first | (refine slot_hit (N := 282) ?_ (by rfl); (repeat (refine sz_put ?_)); assumption; done) | (apply slot_miss; focus rfl))); all_goals assumption) rfl ?_); (refine wt_move 73 40 rfl rfl (by kernel_rfl) (by kernel_rfl) (by kernel_rfl) (by kernel_rfl) (fun _ _ _ h => h) (wanted_of rfl rfl (by (repeat (first | (refine slot_hit (N := 282) ?_ (by rfl); (repeat (refine sz_put ?_)); assumption; done) | (apply slot_miss; focus rfl))); all_goals assumption) rfl) hS0 (by (repeat (first | (refine slot_hit (N := 282) ?_ (by rfl); (repeat (refine sz_put ?_)); assumption; done) | (apply slot_miss; focus rfl))); all_goals assumption) rfl ?_); (refine wt_take1 74 279 (v := ?_) rfl rfl (by kernel_rfl) (by kernel_rfl) (by kernel_rfl) (by kernel_rfl) (fun _ _ _ h => h) (wanted_of rfl rfl (by (repeat (first | (refine slot_hit (N := 282) ?_ (by rfl); (repeat (refine sz_put ?_)); assumption; done) | (apply slot_miss; focus rfl))); all_goals assumption) rfl) hS0 (by (repeat (first | (refine slot_hit (N := 282) ?_ (by rfl); (repeat (refine sz_put ?_)); assumption; done) | (apply slot_miss; focus rfl))); all_goals assumption) (fun ev hk hv0 w hS => ?_) ?_; rotate_left; focus (obtain ⟨j0, j1, j2⟩ := hS; go_simp; rfl)); (refine wt_take2 75 278 280 (v := ?_) rfl rfl (by kernel_rfl) (by kernel_rfl) (by kernel_rfl) (by kernel_rfl) (fun _ _ _ h => h) rfl hS0 (by (repeat (first | (refine slot_hit (N := 282) ?_ (by rfl); (repeat (refine sz_put ?_)); assumption; done) | (apply slot_miss; focus rfl))); all_goals assumption) (by (repeat (first | (refine slot_hit (N := 282) ?_ (by rfl); (repeat (refine sz_put ?_)); assumption; done) | (apply slot_miss; focus rfl))); all_goals assumption) (fun ev hk hv0 hv1 w hS => ?_) ?_; rotate_left; focus (obtain ⟨j0, j1, j2⟩ := hS; go_simp; rfl)); (refine wt_assign 76 281 rfl rfl (by kernel_rfl) (by kernel_rfl) (by kernel_rfl) (by kernel_rfl) (fun _ _ _ h => h) rfl hS0 (by (repeat (first | (refine slot_hit (N := 282) ?_ (by rfl); (repeat (refine sz_put ?_)); assumption; done) | (apply slot_miss; focus rfl))); all_goals assumption) rfl ?_)
      refine wt_known (N := 282) (by kernel_rfl) (by (repeat (refine sz_put ?_)); assumption) [(0, .bool true)] ⟨(by (repeat (first | (refine slot_hit (N := 282) ?_ (by rfl); (repeat (refine sz_put ?_)); assumption; done) | (apply slot_miss; focus rfl))); all_goals assumption), trivial⟩ fun fv fl hfl => ?_; obtain rfl : fl = [(.bool true : Value), fv 1, fv 2, fv 3, fv 4, fv 5, fv 6, fv 7, fv 8, fv 9, fv 10, fv 11, fv 12, fv 13, fv 14, fv 15, fv 16, fv 17, fv 18, fv 19, fv 20, fv 21, fv 22, fv 23, fv 24, fv 25, fv 26, fv 27, fv 28, fv 29, fv 30, fv 31, fv 32, fv 33, fv 34, fv 35, fv 36, fv 37, fv 38, fv 39, fv 40, fv 41, fv 42, fv 43, fv 44, fv 45, fv 46, fv 47, fv 48, fv 49, fv 50, fv 51, fv 52, fv 53, fv 54, fv 55, fv 56, fv 57, fv 58, fv 59, fv 60, fv 61, fv 62, fv 63, fv 64, fv 65, fv 66, fv 67, fv 68, fv 69, fv 70, fv 71, fv 72, fv 73, fv 74, fv 75, fv 76, fv 77, fv 78, fv 79, fv 80, fv 81, fv 82, fv 83, fv 84, fv 85, fv 86, fv 87, fv 88, fv 89, fv 90, fv 91, fv 92, fv 93, fv 94, fv 95, fv 96, fv 97, fv 98, fv 99, fv 100, fv 101, fv 102, fv 103, fv 104, fv 105, fv 106, fv 107, fv 108, fv 109, fv 110, fv 111, fv 112, fv 113, fv 114, fv 115, fv 116, fv 117, fv 118, fv 119, fv 120, fv 121, fv 122, fv 123, fv 124, fv 125, fv 126, fv 127, fv 128, fv 129, fv 130, fv 131, fv 132, fv 133, fv 134, fv 135, fv 136, fv 137, fv 138, fv 139, fv 140, fv 141, fv 142, fv 143, fv 144, fv 145, fv 146, fv 147, fv 148, fv 149, fv 150, fv 151, fv 152, fv 153, fv 154, fv 155, fv 156, fv 157, fv 158, fv 159, fv 160, fv 161, fv 162, fv 163, fv 164, fv 165, fv 166, fv 167, fv 168, fv 169, fv 170, fv 171, fv 172, fv 173, fv 174, fv 175, fv 176, fv 177, fv 178, fv 179, fv 180, fv 181, fv 182, fv 183, fv 184, fv 185, fv 186, fv 187, fv 188, fv 189, fv 190, fv 191, fv 192, fv 193, fv 194, fv 195, fv 196, fv 197, fv 198, fv 199, fv 200, fv 201, fv 202, fv 203, fv 204, fv 205, fv 206, fv 207, fv 208, fv 209, fv 210, fv 211, fv 212, fv 213, fv 214, fv 215, fv 216, fv 217, fv 218, fv 219, fv 220, fv 221, fv 222, fv 223, fv 224, fv 225, fv 226, fv 227, fv 228, fv 229, fv 230, fv 231, fv 232, fv 233, fv 234, fv 235, fv 236, fv 237, fv 238, fv 239, fv 240, fv 241, fv 242, fv 243, fv 244, fv 245, fv 246, fv 247, fv 248, fv 249, fv 250, fv 251, fv 252, fv 253, fv 254, fv 255, fv 256, fv 257, fv 258, fv 259, fv 260, fv 261, fv 262, fv 263, fv 264, fv 265, fv 266, fv 267, fv 268, fv 269, fv 270, fv 271, fv 272, fv 273, fv 274, fv 275, fv 276, fv 277, fv 278, fv 279, fv 280, fv 281] := hfl.symm.trans (by kernel_rfl); clear hfl
      go_wp2
      go_ret
      exact ⟨rfl, bn HF.out.1 hb129⟩

end Go.Proofs.Ytcefphdabomlpaa
