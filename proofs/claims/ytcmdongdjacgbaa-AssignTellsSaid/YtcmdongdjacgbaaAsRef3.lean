/- The reference's contract: Same. -/
import Derived.Test.YtcmdongdjacgbaaAsRef2
namespace Go.Proofs.Ytcmdongdjacgbaa
open Go Go.RowKit
set_option linter.unusedVariables false
set_option linter.unusedSimpArgs false

set_option maxRecDepth 100000 in
set_option maxHeartbeats 4000000 in
theorem rSame14_yes (v : Int) (A : Option Addr) (t : List Int) (k : Nat) (B : Option Addr) (s : List Int) (q : Nat) (A' : Option Addr) (k' : Nat) (B' : Option Addr) (q' : Nat) (w : World) (h : Ia w w.heap.size A t k) (hl : t.length ≤ 100000) (h' : Ia w w.heap.size B s q) (hl' : s.length ≤ 100000) (g : Ia w w.heap.size A' t k') (g' : Ia w w.heap.size B' s q') :
    Calls Try.prog 11 #[asv v A t.length k B s.length q, asv v A' t.length k' B' s.length q'] w fun e w' => e = .returned (.bool true) ∧ Below w.heap.size w w' := by
  have D1 := fun (W : World) (hb : Below w.heap.size w W) => rSame_any A t k A' t k' W (h.on hb) hl (g.on hb) hl
  have D2 := fun (W : World) (hb : Below w.heap.size w W) => rSame_any B s q B' s q' W (h'.on hb) hl' (g'.on hb) hl'
  rw [sm_self] at D1 D2
  obtain ⟨n, hn⟩ : ∃ n, n = t.length := ⟨_, rfl⟩
  obtain ⟨m, hm⟩ : ∃ m, m = s.length := ⟨_, rfl⟩
  rw [← hn] at D1 ⊢
  rw [← hm] at D2 ⊢
  have e0 : (v == v) = true := by simp
  have hB0 := (bx_on w (.cells #[.int .i64 v, .slice A n k, .slice B m q] 24)).trans ((bx_on (w.alloc (.cells #[.int .i64 v, .slice A n k, .slice B m q] 24)) (.cells #[.int .i64 v, .slice A' n k', .slice B' m q'] 24)).mono (by simp))
  have hH1 := (Has.new w 24 #[.int .i64 v, .slice A n k, .slice B m q]).al (.cells #[.int .i64 v, .slice A' n k', .slice B' m q'] 24)
  have hH2 := Has.new (w.alloc (.cells #[.int .i64 v, .slice A n k, .slice B m q] 24)) 24 #[.int .i64 v, .slice A' n k', .slice B' m q']
  rw [World.size_alloc] at hH2
  have HB := Lib.hid (And.intro hB0 (And.intro hH1 hH2))
  clear h hl h' hl' g g' hn hm hB0 hH1 hH2
  go_enter Try.func11, Try.ntmps11
  go_wp2_with (first
    | (go_at_call 28; (with_reducible refine (D1 _ HB.out.1).mono ?_); rintro e w1 ⟨rfl, hb1⟩
       have c2 : w1.cell? ⟨w.heap.size, 2, none⟩ = some (.slice B m q) := (HB.out.2.1.keep hb1 HB.out.2.1.lt).cell 2
       have d2 : w1.cell? ⟨w.heap.size + 1, 2, none⟩ = some (.slice B' m q') := (HB.out.2.2.keep hb1 HB.out.2.2.lt).cell 2
       have HB1 := Lib.hid (bn HB.out.1 hb1)
       clear hb1)
    | (go_at_call 28; (with_reducible refine (D2 _ HB1.out).mono ?_); rintro e w2 ⟨rfl, hb2⟩
       have HB2 := Lib.hid (bn HB1.out hb2)
       clear hb2))
  go_ret
  exact ⟨rfl, HB2.out⟩

end Go.Proofs.Ytcmdongdjacgbaa
