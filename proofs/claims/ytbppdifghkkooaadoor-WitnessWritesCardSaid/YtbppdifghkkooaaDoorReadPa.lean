/- What is read from a text: its lines, the words of a line, numbers. -/
import Derived.Test.YtbppdifghkkooaaDoorAsciiMath
import Derived.Test.YtbppdifghkkooaaDoorStrKit
import Derived.Test.YtbppdifghkkooaaDoorAppKit
import Derived.Lib.ParseIntB
import Derived.Lib.SplitLaws
import Derived.Test.YtbppdifghkkooaaDoorOrderTwin
import Derived.Test.YtbppdifghkkooaaDoorAsciiBd
import Derived.Test.YtbppdifghkkooaaDoorHeadTail
import Derived.Great.BuildSlice
import Derived.Test.YtbppdifghkkooaaDoorShelf
import Derived.Lib.AppendIntMem
namespace Go.Proofs.YtbppdifghkkooaaDoor
open Go Go.RowKit
set_option linter.unusedVariables false
set_option linter.unusedSimpArgs false

/-- the pieces between bytes of one kind -/
def pcs (c : UInt8) : List UInt8 → List (List UInt8)
  | [] => [[]]
  | x :: xs => if x = c then [] :: pcs c xs else match pcs c xs with
    | [] => [[x]]
    | p :: ps => (x :: p) :: ps
theorem pcs_ne (c : UInt8) : ∀ s, pcs c s ≠ []
  | [] => by simp [pcs]
  | x :: xs => by
    rw [pcs]
    split
    · simp
    · split <;> simp
theorem pcs_cons {c x : UInt8} {s p : List UInt8} {ps : List (List UInt8)} (hx : x ≠ c) (h : pcs c s = p :: ps) : pcs c (x :: s) = (x :: p) :: ps := by
  rw [pcs, if_neg hx, h]
theorem pcs_one {c : UInt8} : ∀ {a : List UInt8}, (∀ x ∈ a, x ≠ c) → pcs c a = [a]
  | [], _ => rfl
  | x :: xs, h => pcs_cons (h x (by simp)) (pcs_one fun y hy => h y (by simp [hy]))
/-- in front of a piece -/
theorem pcs_app {c : UInt8} : ∀ {a : List UInt8} (b : List UInt8), (∀ x ∈ a, x ≠ c) → pcs c (a ++ c :: b) = a :: pcs c b
  | [], b, _ => by show pcs c (c :: b) = _; rw [pcs, if_pos rfl]
  | x :: xs, b, h => pcs_cons (h x (by simp)) (pcs_app b fun y hy => h y (by simp [hy]))
/-- behind the last piece -/
theorem pcs_snoc {c : UInt8} {a : List UInt8} (ha : ∀ x ∈ a, x ≠ c) : ∀ s, pcs c (s ++ c :: a) = pcs c s ++ [a]
  | [] => by
    show pcs c (c :: a) = [[]] ++ [a]
    rw [pcs, if_pos rfl, pcs_one ha]; rfl
  | x :: xs => by
    have ih := pcs_snoc ha xs
    show pcs c (x :: (xs ++ c :: a)) = pcs c (x :: xs) ++ [a]
    by_cases hx : x = c
    · rw [pcs, if_pos hx, pcs, if_pos hx, ih]; rfl
    · cases hp : pcs c xs with
      | nil => exact absurd hp (pcs_ne c xs)
      | cons p ps =>
        rw [hp] at ih
        rw [pcs_cons hx ih, pcs_cons hx hp]; rfl
theorem pcs_len (c : UInt8) : ∀ s, (pcs c s).length = (s.filter (· == c)).length + 1
  | [] => rfl
  | x :: xs => by
    have ih := pcs_len c xs
    by_cases hx : x = c
    · rw [pcs, if_pos hx, List.filter_cons_of_pos (by simp [hx]), List.length_cons, List.length_cons, ih]
    · cases hp : pcs c xs with
      | nil => exact absurd hp (pcs_ne c xs)
      | cons p ps =>
        rw [hp] at ih
        rw [pcs_cons hx hp, List.filter_cons_of_neg (by simp [hx]), ← ih]; rfl
theorem dgs_no {x : Int} (h : 0 ≤ x) {c : UInt8} (hc : c.toNat < 48) : ∀ y ∈ dgs x, y ≠ c := fun y hy e => by
  rw [dgs_nat x h] at hy
  have := decDigits_dig _ y hy
  rw [e] at this
  omega
/-- the words of a line of numbers -/
theorem pcs_par (f : Nat → Int) : ∀ n, (∀ j, j < n + 1 → 0 ≤ f j) → pcs 32 (par f (n + 1)) = (List.range (n + 1)).map fun j => dgs (f j)
  | 0, h => by
    have e : par f 1 = dgs (f 0) := by rw [par_succ]; simp [par]
    rw [e, pcs_one (dgs_no (h 0 (by omega)) (by decide))]
    rfl
  | n + 1, h => by
    have ih := pcs_par f n fun j hj => h j (by omega)
    have e : par f (n + 2) = par f (n + 1) ++ 32 :: dgs (f (n + 1)) := by rw [par_succ, if_neg (by omega)]; simp
    rw [e, pcs_snoc (dgs_no (h (n + 1) (by omega)) (by decide)), ih, List.range_succ (n := n + 1), List.map_append]
    rfl
theorem par_no {f : Nat → Int} {c : UInt8} (hc : c.toNat < 48) (h32 : c ≠ 32) : ∀ {n : Nat}, (∀ j, j < n → 0 ≤ f j) → ∀ y ∈ par f n, y ≠ c
  | 0, _ => fun y hy => by simp [par] at hy
  | n + 1, h => fun y hy => by
    rw [par_succ] at hy
    simp only [List.mem_append] at hy
    rcases hy with (hy | hy) | hy
    · exact par_no hc h32 (fun j hj => h j (by omega)) y hy
    · split at hy
      · simp at hy
      · rw [List.mem_singleton] at hy
        rw [hy]; exact fun e => h32 e.symm
    · exact dgs_no (h n (by omega)) hc y hy
/-- the lines of a text: the last piece counts if it isn't empty -/
def lno (s : List UInt8) : List (List UInt8) := if (pcs 10 s).getLast? = some [] then (pcs 10 s).dropLast else pcs 10 s
/-- lines, each with its line feed -/
theorem pcs_flt {W : Nat → List UInt8} (s : List UInt8) : ∀ k, (∀ j, j < k → ∀ x ∈ W j, x ≠ (10 : UInt8)) → pcs 10 (flt (fun j => W j ++ [10]) k ++ s) = (List.range k).map W ++ pcs 10 s
  | 0, _ => by simp [flt]
  | k + 1, hW => by
    have e : flt (fun j => W j ++ [10]) (k + 1) ++ s = flt (fun j => W j ++ [10]) k ++ (W k ++ 10 :: s) := by rw [flt]; simp
    rw [e, pcs_flt _ k fun j hj => hW j (by omega), pcs_app s (hW k (by omega)), List.range_succ, List.map_append]
    simp
/-- a number's digits -/
def nbr (s : List UInt8) : Option Nat := if s.length = 0 ∨ 9 < s.length ∨ (1 < s.length ∧ s.head? = some 48) ∨ ¬ (∀ c ∈ s, 48 ≤ c.toNat ∧ c.toNat ≤ 57) then none else some (num10 s)
/-- all of them -/
def nbs : List (List UInt8) → Option (List Nat)
  | [] => some []
  | p :: ps => match nbr p, nbs ps with
    | some n, some l => some (n :: l)
    | _, _ => none
/-- the numbers of a line that has so many -/
def lnn (a b : Nat) (s : List UInt8) : Option (List Nat) := match nbs (pcs 32 s) with
  | some l => if a ≤ l.length ∧ l.length ≤ b then some l else none
  | none => none
theorem dg_lead : ∀ u, u < 2002 → (Lib.decDigits u).head? = some 48 → (Lib.decDigits u).length = 1 := by decide +kernel
/-- digits are read as their number -/
theorem nbr_dgs {x : Int} (h0 : 0 ≤ x) (h1 : x ≤ 2001) : nbr (dgs x) = some x.toNat := by
  have e := dgs_nat x h0
  have hl := dgs_len h0 (show x ≤ 9999 by omega)
  have hp := dgs_pos h0
  have hd := dg_lead x.toNat (by omega)
  unfold nbr
  rw [if_neg ?_, e, num10_digits]
  rintro (h | h | ⟨h, h2⟩ | h)
  · omega
  · omega
  · rw [e] at h h2
    have := hd h2
    omega
  · exact h fun c hc => decDigits_dig x.toNat c (by rw [← e]; exact hc)
theorem nbs_map {f : Nat → Int} (L : List Nat) (h : ∀ j ∈ L, 0 ≤ f j ∧ f j ≤ 2001) : nbs (L.map fun j => dgs (f j)) = some (L.map fun j => (f j).toNat) := by
  induction L with
  | nil => rfl
  | cons j L ih =>
    have h1 := nbr_dgs (h j (by simp)).1 (h j (by simp)).2
    have h2 := ih fun i hi => h i (by simp [hi])
    show (match nbr (dgs (f j)), nbs (L.map fun j => dgs (f j)) with
      | some n, some l => some (n :: l)
      | _, _ => none) = _
    rw [h1, h2]
    rfl
/-- a line of numbers is read as they are -/
theorem lnn_par {f : Nat → Int} {n a b : Nat} (h : ∀ j, j < n + 1 → 0 ≤ f j ∧ f j ≤ 2001) (ha : a ≤ n + 1) (hb : n + 1 ≤ b) : lnn a b (par f (n + 1)) = some ((List.range (n + 1)).map fun j => (f j).toNat) := by
  unfold lnn
  rw [pcs_par f n fun j hj => (h j hj).1, nbs_map _ fun j hj => h j (List.mem_range.1 hj)]
  simp only [List.length_map, List.length_range]
  rw [if_pos ⟨ha, hb⟩]

/-- the lines of a raw circuit's text -/
def txL (r : Rw) : List (List UInt8) := ([97, 97, 103, 32] ++ par r.hd 7) :: ((List.range r.ni).map (fun j => par (one (r.ip j)) 1) ++ ((List.range r.nl).map (fun j => par (tri (r.ll j) (r.la j) (lt3 (r.ll j) (r.lb j))) (ltn (r.lb j))) ++ ((List.range r.nb).map (fun j => par (one (r.bd j)) 1) ++ ((List.range r.nc).map (fun j => par (one (r.cn j)) 1) ++ (List.range r.na).map (fun j => par (tri (r.gl j) (r.ga j) (r.gb j)) 3)))))
theorem one_no {x : Int} (h : 0 ≤ x) : ∀ y ∈ par (one x) 1, y ≠ (10 : UInt8) := par_no (by decide) (by decide) fun j _ => h
theorem tri_no {x y z : Int} (hx : 0 ≤ x) (hy : 0 ≤ y) (hz : 0 ≤ z) (n : Nat) : ∀ c ∈ par (tri x y z) n, c ≠ (10 : UInt8) := par_no (by decide) (by decide) fun j _ => by unfold tri; split; exact hx; split; exact hy; exact hz
theorem lno_txt {r : Rw} (hd : ∀ j, j < 7 → 0 ≤ r.hd j) (h1 : ∀ j, j < r.ni → 0 ≤ r.ip j) (h2 : ∀ j, j < r.nl → 0 ≤ r.ll j ∧ 0 ≤ r.la j) (h3 : ∀ j, j < r.nb → 0 ≤ r.bd j) (h4 : ∀ j, j < r.nc → 0 ≤ r.cn j) (h5 : ∀ j, j < r.na → 0 ≤ r.gl j ∧ 0 ≤ r.ga j ∧ 0 ≤ r.gb j) : lno r.txt = txL r := by
  have e : r.txt = ([97, 97, 103, 32] ++ par r.hd 7) ++ 10 :: (flt (fun j => par (one (r.ip j)) 1 ++ [10]) r.ni ++ (flt (fun j => par (tri (r.ll j) (r.la j) (lt3 (r.ll j) (r.lb j))) (ltn (r.lb j)) ++ [10]) r.nl ++ (flt (fun j => par (one (r.bd j)) 1 ++ [10]) r.nb ++ (flt (fun j => par (one (r.cn j)) 1 ++ [10]) r.nc ++ (flt (fun j => par (tri (r.gl j) (r.ga j) (r.gb j)) 3 ++ [10]) r.na ++ []))))) := by
    unfold Rw.txt
    rw [ech_flt, ech_flt, ech_flt, gts_flt, lts_flt]
    simp [lin, List.append_assoc]
  have hA : ∀ x ∈ ([97, 97, 103, 32] ++ par r.hd 7 : List UInt8), x ≠ (10 : UInt8) := fun x hx => by
    rcases List.mem_append.1 hx with hx | hx
    · rcases List.mem_cons.1 hx with rfl | hx
      · decide
      · rcases List.mem_cons.1 hx with rfl | hx
        · decide
        · rcases List.mem_cons.1 hx with rfl | hx
          · decide
          · rcases List.mem_cons.1 hx with rfl | hx
            · decide
            · cases hx
    · exact par_no (by decide) (by decide) (fun j hj => hd j hj) x hx
  have l3 : ∀ j, j < r.nl → 0 ≤ lt3 (r.ll j) (r.lb j) := fun j hj => by unfold lt3; split; omega; exact (h2 j hj).1
  have e2 : pcs 10 r.txt = txL r ++ [[]] := by
    rw [e, pcs_app _ hA, pcs_flt _ _ fun j hj => one_no (h1 j hj), pcs_flt _ _ fun j hj => tri_no (h2 j hj).1 (h2 j hj).2 (l3 j hj) _, pcs_flt _ _ fun j hj => one_no (h3 j hj), pcs_flt _ _ fun j hj => one_no (h4 j hj), pcs_flt _ _ fun j hj => tri_no (h5 j hj).1 (h5 j hj).2.1 (h5 j hj).2.2 _]
    unfold txL
    simp [pcs, List.append_assoc]
  unfold lno
  rw [e2, if_pos (by simp), List.dropLast_concat]

/-- n lines from place a on, each read by g: what they are, or the number of the first that is wrong -/
def rds {X : Type} (g : List UInt8 → Option X) (L : List (List UInt8)) (a : Nat) : Nat → Except Nat (List X)
  | 0 => .ok []
  | n + 1 => match rds g L a n with
    | .error e => .error e
    | .ok l => match g (L.getD (a + n) []) with
      | none => .error (a + n + 1)
      | some x => .ok (l ++ [x])
theorem rds_map {X : Type} {g : List UInt8 → Option X} {L : List (List UInt8)} {a : Nat} {x : Nat → X} : ∀ n, (∀ j, j < n → g (L.getD (a + j) []) = some (x j)) → rds g L a n = .ok ((List.range n).map x)
  | 0, _ => rfl
  | n + 1, h => by
    rw [rds, rds_map n fun j hj => h j (by omega)]
    simp only [h n (by omega)]
    rw [List.range_succ, List.map_append]
    rfl
/-- a line of one literal, of a latch, of a gate -/
def gL (s : List UInt8) : Option Nat := match lnn 1 1 s with
  | some [x] => some x
  | _ => none
def gT (s : List UInt8) : Option (Nat × Nat × Nat) := match lnn 2 3 s with
  | some [a, b] => some (a, b, 0)
  | some [a, b, c] => if c = 0 then some (a, b, 0) else if c = 1 then some (a, b, 1) else if c = a then some (a, b, 2) else none
  | _ => none
def gG (s : List UInt8) : Option (Nat × Nat × Nat) := match lnn 3 3 s with
  | some [a, b, c] => some (a, b, c)
  | _ => none
theorem gL_one {x : Int} (h : 0 ≤ x ∧ x ≤ 2001) : gL (par (one x) 1) = some x.toNat := by
  unfold gL
  rw [lnn_par (f := one x) (n := 0) (fun j _ => h) (by omega) (by omega)]
  rfl
theorem tri_in {x y z : Int} (hx : 0 ≤ x ∧ x ≤ 2001) (hy : 0 ≤ y ∧ y ≤ 2001) (hz : 0 ≤ z ∧ z ≤ 2001) (j : Nat) : 0 ≤ tri x y z j ∧ tri x y z j ≤ 2001 := by
  unfold tri
  split
  · exact hx
  · split
    · exact hy
    · exact hz
theorem gG_tri {x y z : Int} (hx : 0 ≤ x ∧ x ≤ 2001) (hy : 0 ≤ y ∧ y ≤ 2001) (hz : 0 ≤ z ∧ z ≤ 2001) : gG (par (tri x y z) 3) = some (x.toNat, y.toNat, z.toNat) := by
  unfold gG
  rw [lnn_par (n := 2) (fun j _ => tri_in hx hy hz j) (by omega) (by omega)]
  rfl
theorem gT_tri {l a b : Int} (hl : 2 ≤ l ∧ l ≤ 2001) (ha : 0 ≤ a ∧ a ≤ 2001) (hb : 0 ≤ b ∧ b ≤ 2) : gT (par (tri l a (lt3 l b)) (ltn b)) = some (l.toNat, a.toNat, b.toNat) := by
  have h3 : b = 0 ∨ b = 1 ∨ b = 2 := by omega
  have hl' : 0 ≤ l ∧ l ≤ 2001 := by omega
  unfold gT
  rcases h3 with rfl | rfl | rfl
  · rw [show ltn 0 = 2 from rfl, show lt3 l 0 = l from rfl, lnn_par (n := 1) (fun j _ => tri_in hl' ha hl' j) (by omega) (by omega)]
    rfl
  · rw [show ltn 1 = 3 from rfl, show lt3 l 1 = 1 from rfl, lnn_par (n := 2) (fun j _ => tri_in hl' ha (show 0 ≤ (1 : Int) ∧ (1 : Int) ≤ 2001 by omega) j) (by omega) (by omega)]
    rfl
  · rw [show ltn 2 = 3 from rfl, show lt3 l 2 = l from rfl, lnn_par (n := 2) (fun j _ => tri_in hl' ha hl' j) (by omega) (by omega)]
    show (if l.toNat = 0 then some (l.toNat, a.toNat, 0) else if l.toNat = 1 then some (l.toNat, a.toNat, 1) else if l.toNat = l.toNat then some (l.toNat, a.toNat, 2) else none) = _
    rw [if_neg (by omega), if_neg (by omega), if_pos rfl]
    rfl

/-- the first line: an error, or its nine numbers -/
def hdr (L : List (List UInt8)) : Int × List Nat := match L with
  | [] => (12, [])
  | s :: _ => if s.take 4 = [97, 97, 103, 32] then match lnn 5 9 (s.drop 4) with
      | none => (12, [])
      | some n => if ((List.range 7).all fun i => Nat.ble (n.getD i 0) 1000) = true then (if 0 < n.getD 7 0 ∨ 0 < n.getD 8 0 then (47, []) else (0, n)) else (16, [])
    else (12, [])
theorem hdr_txt {r : Rw} (h : ∀ j, j < 7 → 0 ≤ r.hd j ∧ r.hd j ≤ 1000) : hdr (txL r) = (0, (List.range 7).map fun j => (r.hd j).toNat) := by
  have e := lnn_par (f := r.hd) (n := 6) (a := 5) (b := 9) (fun j hj => by have := h j hj; omega) (by omega) (by omega)
  unfold hdr txL
  simp only
  rw [if_pos (show List.take 4 ([97, 97, 103, 32] ++ par r.hd 7 : List UInt8) = [97, 97, 103, 32] from rfl), show List.drop 4 ([97, 97, 103, 32] ++ par r.hd 7 : List UInt8) = par r.hd 7 from rfl, e]
  have hg : ∀ i, i < 7 → ((List.range 7).map fun j => (r.hd j).toNat).getD i 0 = (r.hd i).toNat := fun i hi => by
    rw [List.getD_eq_getElem?_getD, List.getElem?_map, List.getElem?_range hi]; rfl
  simp only
  rw [if_pos ?_, if_neg ?_]
  · rintro (h7 | h7)
    · rw [List.getD_eq_getElem?_getD, List.getElem?_eq_none (by simp)] at h7; exact absurd h7 (by simp)
    · rw [List.getD_eq_getElem?_getD, List.getElem?_eq_none (by simp)] at h7; exact absurd h7 (by simp)
  · refine List.all_eq_true.2 fun i hi => ?_
    have hi := List.mem_range.1 hi
    rw [hg i hi, Nat.ble_eq]
    have := h i hi
    omega
/-- the first line behind the gates that is not as told, or 0 -/
def tal (L : List (List UInt8)) (a : Nat) : Nat → Nat
  | 0 => 0
  | n + 1 => match L.getD a [] with
    | [] => a + 1
    | x :: xs => if x :: xs = [99] then 0 else if x = 105 ∨ x = 108 ∨ x = 111 ∨ x = 98 ∨ x = 99 then tal L (a + 1) n else a + 1

end Go.Proofs.YtbppdifghkkooaaDoor

namespace Go.Proofs.YtbppdifghkkooaaDoor
open Go Go.RowKit
set_option linter.unusedVariables false
set_option linter.unusedSimpArgs false

/-- the strings of a list -/
def StrsAt (w : World) (B : Nat) (A : Option Addr) (n : Nat) (F : Nat → List UInt8) : Prop :=
  0 < n → ∃ a, A = some a ∧ a.block < B ∧ ∀ j, j < n → w.cell? (a.add j) = some (.string (str (F j)))
theorem StrsAt.keep {w w' : World} {B : Nat} {A : Option Addr} {n : Nat} {F : Nat → List UInt8} (h : StrsAt w B A n F) (hb : Below B w w') : StrsAt w' B A n F := fun hn => by
  obtain ⟨a, e, hl, hc⟩ := h hn
  exact ⟨a, e, hl, fun j hj => (hb.cell (by rw [add_block]; exact hl)).trans (hc j hj)⟩
theorem StrsAt.more {w : World} {B B' : Nat} {A : Option Addr} {n : Nat} {F : Nat → List UInt8} (h : StrsAt w B A n F) (hb : B ≤ B') : StrsAt w B' A n F := fun hn => by
  obtain ⟨a, e, hl, hc⟩ := h hn
  exact ⟨a, e, by omega, hc⟩
theorem StrsAt.to {w W : World} {B : Nat} {A : Option Addr} {n : Nat} {F : Nat → List UInt8} (h : StrsAt w B A n F) (hb : Below B w W) (hB : B ≤ W.heap.size) : StrsAt W W.heap.size A n F := (h.keep hb).more hB
theorem StrsAt.first {w : World} {B : Nat} {A : Option Addr} {n m : Nat} {F : Nat → List UInt8} (h : StrsAt w B A n F) (hm : m ≤ n) : StrsAt w B A m F := fun hn => by
  obtain ⟨a, e, hl, hc⟩ := h (by omega)
  exact ⟨a, e, hl, fun j hj => hc j (by omega)⟩
theorem StrsAt.congr {w : World} {B : Nat} {A : Option Addr} {n : Nat} {F G : Nat → List UInt8} (h : StrsAt w B A n F) (hF : ∀ j, j < n → F j = G j) : StrsAt w B A n G := fun hn => by
  obtain ⟨a, e, hl, hc⟩ := h hn
  exact ⟨a, e, hl, fun j hj => by rw [← hF j hj]; exact hc j hj⟩
/-- where a block apart changes -/
theorem StrsAt.by {w w' : World} {A : Option Addr} {n : Nat} {F : Nat → List UInt8} {r : Option Nat} (h : StrsAt w w.heap.size A n F) (hg : w.grownBy w' r) (hr : 0 < n → ∀ a, A = some a → some a.block ≠ r) : StrsAt w' w'.heap.size A n F := fun hn => by
  obtain ⟨a, e, hl, hc⟩ := h hn
  have hne := hr hn a e
  refine ⟨a, e, Nat.lt_of_lt_of_le hl hg.size, fun j hj => ?_⟩
  rw [World.cell?_of_block (w := w) (hg.block (a.add j).block (by rw [add_block]; exact hl) (by rw [add_block]; exact hne))]
  exact hc j hj
theorem IntsAt.by {w w' : World} {A : Option Addr} {n : Nat} {f : Nat → Int} {r : Option Nat} (h : IntsAt w w.heap.size A n f) (hg : w.grownBy w' r) (hr : 0 < n → ∀ a, A = some a → some a.block ≠ r) : IntsAt w' w'.heap.size A n f := fun hn => by
  obtain ⟨a, e, hl, hc⟩ := h hn
  have hne := hr hn a e
  refine ⟨a, e, Nat.lt_of_lt_of_le hl hg.size, fun j hj => ?_⟩
  rw [World.cell?_of_block (w := w) (hg.block (a.add j).block (by rw [add_block]; exact hl) (by rw [add_block]; exact hne))]
  exact hc j hj

/-- strings as values -/
def strL (L : List (List UInt8)) : List Value := L.map fun p => .string (str p)
theorem strL_app (L M : List (List UInt8)) : strL (L ++ M) = strL L ++ strL M := List.map_append
theorem strL_len (L : List (List UInt8)) : (strL L).length = L.length := by simp [strL]
theorem strL_at {L : List (List UInt8)} {j : Nat} (h : j < L.length) : (strL L)[j]? = some (.string (str (L.getD j []))) := by
  unfold strL
  rw [List.getElem?_map, List.getElem?_eq_getElem h, List.getD_eq_getElem?_getD, List.getElem?_eq_getElem h]
  rfl
theorem own_sl {w : World} {base size n : Nat} {e : TypeId} {v : Value} {xs : List Value} (h : w.ownsRow base e size v n xs) : ∃ A k, v = .slice A n k := by
  rcases h.2 with ⟨rfl, h0⟩ | ⟨g, cap, cur, rfl, _⟩
  · subst h0; exact ⟨_, _, rfl⟩
  · exact ⟨_, _, rfl⟩
/-- a row that the call owns, one cell written -/
theorem own_put {w : World} {base : Nat} {e : TypeId} {g n k : Nat} {xs : List Value} (h : w.ownsRow base e 1 (.slice (some ⟨g, 0, none⟩) n k) n xs) {j : Nat} (hj : j < n) (u : Value) : (w.setCell ⟨g, j, none⟩ u).ownsRow base e 1 (.slice (some ⟨g, 0, none⟩) n k) n (xs.set j u) := by
  obtain ⟨h1, h2⟩ := h
  refine ⟨by simpa using h1, ?_⟩
  rcases h2 with ⟨h2, _⟩ | ⟨g', cap, cur, hv, hb, hh, hn, hc, hs, ht⟩
  · cases h2
  · cases hv
    refine Or.inr ⟨g, k, cur.setIfInBounds j u, rfl, hb, (show Has w g e cur from hh).set j u, hn, hc, by simpa using hs, ?_⟩
    rw [Nat.mul_one] at ht ⊢
    rw [Array.toList_setIfInBounds, ← ht, List.take_set]
/-- the last piece grows by a byte, or a new one begins -/
theorem pcs_grow (c x : UInt8) : ∀ s, pcs c (s ++ [x]) = if x = c then pcs c s ++ [[]] else (pcs c s).set ((pcs c s).length - 1) ((pcs c s).getD ((pcs c s).length - 1) [] ++ [x])
  | [] => by
    by_cases h : x = c
    · subst h; simp [pcs]
    · simp [pcs, h]
  | y :: ys => by
    have ih := pcs_grow c x ys
    by_cases hy : y = c
    · subst hy
      have e1 : pcs y (y :: ys ++ [x]) = [] :: pcs y (ys ++ [x]) := by show pcs y (y :: (ys ++ [x])) = _; rw [pcs, if_pos rfl]
      have e2 : pcs y (y :: ys) = [] :: pcs y ys := by rw [pcs, if_pos rfl]
      rw [e1, e2, ih]
      by_cases hx : x = y
      · rw [if_pos hx, if_pos hx]; rfl
      · rw [if_neg hx, if_neg hx]
        cases hp : pcs y ys with
        | nil => exact absurd hp (pcs_ne y ys)
        | cons p ps => simp
    · cases hp : pcs c ys with
      | nil => exact absurd hp (pcs_ne c ys)
      | cons p ps =>
        rw [hp] at ih
        have e2 := pcs_cons hy hp
        rw [e2]
        have e1 : pcs c (y :: ys ++ [x]) = pcs c (y :: (ys ++ [x])) := rfl
        by_cases hx : x = c
        · rw [if_pos hx] at ih ⊢
          rw [e1, pcs_cons hy (show pcs c (ys ++ [x]) = p :: (ps ++ [[]]) from ih)]
          rfl
        · rw [if_neg hx] at ih ⊢
          rw [e1]
          cases ps with
          | nil =>
            have ih : pcs c (ys ++ [x]) = (p ++ [x]) :: [] := ih
            rw [pcs_cons hy ih]; rfl
          | cons q qs =>
            have ih : pcs c (ys ++ [x]) = p :: (q :: qs).set ((q :: qs).length - 1) ((q :: qs).getD ((q :: qs).length - 1) [] ++ [x]) := by
              rw [ih]; simp
            rw [pcs_cons hy ih]
            simp
theorem pcs_short (c : UInt8) : ∀ s, ∀ p ∈ pcs c s, p.length ≤ s.length
  | [], p, h => by simp [pcs] at h; subst h; exact Nat.le_refl _
  | x :: xs, p, h => by
    have ih := pcs_short c xs
    by_cases hx : x = c
    · rw [pcs, if_pos hx] at h
      rcases List.mem_cons.1 h with rfl | h
      · exact Nat.zero_le _
      · have := ih p h; rw [List.length_cons]; omega
    · cases hp : pcs c xs with
      | nil => exact absurd hp (pcs_ne c xs)
      | cons q qs =>
        rw [pcs_cons hx hp] at h
        rw [hp] at ih
        rcases List.mem_cons.1 h with rfl | h
        · have := ih q (by simp); simp only [List.length_cons]; omega
        · have := ih p (by simp [h]); rw [List.length_cons]; omega
theorem getD_short (c : UInt8) (s : List UInt8) (j : Nat) : ((pcs c s).getD j []).length ≤ s.length := by
  rw [List.getD_eq_getElem?_getD]
  cases h : (pcs c s)[j]? with
  | none => exact Nat.zero_le _
  | some p => exact pcs_short c s p (List.mem_of_getElem? h)

end Go.Proofs.YtbppdifghkkooaaDoor

namespace Go.Proofs.YtbppdifghkkooaaDoor
open Go Go.RowKit
set_option linter.unusedVariables false
set_option linter.unusedSimpArgs false

def digB (c : UInt8) : Prop := 48 ≤ c.toNat ∧ c.toNat ≤ 57
instance (c : UInt8) : Decidable (digB c) := by unfold digB; exact inferInstance
/-- with few digits nothing is out of range -/
theorem parseM_ok : ∀ (l : List UInt8) (acc : Nat), (∀ c ∈ l, digB c) → (acc + 1) * 10 ^ l.length ≤ 1000000000 → Lib.parseUintM (2 ^ 64 - 1) acc l = .ok (l.foldl (fun a c => 10 * a + (c.toNat - 48)) acc)
  | [], acc, _, _ => rfl
  | c :: r, acc, h, hb => by
    have hc := h c (by simp)
    have hc' := hc
    unfold digB at hc'
    have hp : 1 ≤ 10 ^ r.length := Nat.pos_of_ne_zero (by simp)
    have e1 : (acc + 1) * 10 ^ (r.length + 1) = (10 * acc + 10) * 10 ^ r.length := by rw [Nat.pow_succ, Nat.mul_comm (10 ^ r.length) 10, ← Nat.mul_assoc]; congr 1; omega
    rw [List.length_cons, e1] at hb
    have hb2 : (acc * 10 + (c.toNat - 48) + 1) * 10 ^ r.length ≤ 1000000000 := Nat.le_trans (Nat.mul_le_mul_right _ (by omega)) hb
    have hb3 : 10 * acc + 10 ≤ 1000000000 := Nat.le_trans (Nat.le_mul_of_pos_right _ hp) hb
    rw [Lib.parseUintM, if_pos hc', if_neg (by omega), if_neg (by omega), parseM_ok r _ (fun x hx => h x (by simp [hx])) hb2, List.foldl_cons, Nat.mul_comm acc 10]
theorem parseM_no : ∀ (l : List UInt8) (acc : Nat), ¬ (∀ c ∈ l, digB c) → (acc + 1) * 10 ^ l.length ≤ 1000000000 → Lib.parseUintM (2 ^ 64 - 1) acc l = .syntax
  | [], acc, h, _ => absurd (by simp) h
  | c :: r, acc, h, hb => by
    rw [Lib.parseUintM]
    by_cases hc : digB c
    · have hc' := hc
      unfold digB at hc'
      have hp : 1 ≤ 10 ^ r.length := Nat.pos_of_ne_zero (by simp)
      have e1 : (acc + 1) * 10 ^ (r.length + 1) = (10 * acc + 10) * 10 ^ r.length := by rw [Nat.pow_succ, Nat.mul_comm (10 ^ r.length) 10, ← Nat.mul_assoc]; congr 1; omega
      rw [List.length_cons, e1] at hb
      have hb2 : (acc * 10 + (c.toNat - 48) + 1) * 10 ^ r.length ≤ 1000000000 := Nat.le_trans (Nat.mul_le_mul_right _ (by omega)) hb
      have hb3 : 10 * acc + 10 ≤ 1000000000 := Nat.le_trans (Nat.le_mul_of_pos_right _ hp) hb
      rw [if_pos hc', if_neg (by omega), if_neg (by omega), parseM_no r _ (fun hr => h fun x hx => by
        rcases List.mem_cons.1 hx with rfl | hx
        · exact hc
        · exact hr x hx) hb2]
    · rw [if_neg (show ¬ (48 ≤ c.toNat ∧ c.toNat ≤ 57) from hc)]
theorem pow_le {l : List UInt8} (h : l.length ≤ 9) : (0 + 1) * 10 ^ l.length ≤ 1000000000 := by
  rw [Nat.zero_add, Nat.one_mul]
  exact Nat.pow_le_pow_right (n := 10) (by decide) h
theorem parse_ok {l : List UInt8} (h : ∀ c ∈ l, digB c) (h0 : l ≠ []) (h9 : l.length ≤ 9) : Lib.parseUintB 64 l = .ok (num10 l) := by
  rw [Lib.parseUintB, if_neg h0, parseM_ok l 0 h (pow_le h9)]; rfl
theorem parse_no {l : List UInt8} (h : ¬ (l ≠ [] ∧ ∀ c ∈ l, digB c)) (h9 : l.length ≤ 9) : Lib.parseUintB 64 l = .syntax := by
  rw [Lib.parseUintB]
  by_cases h0 : l = []
  · rw [if_pos h0]
  · rw [if_neg h0, parseM_no l 0 (fun hh => h ⟨h0, hh⟩) (pow_le h9)]
theorem fold_ge : ∀ (l : List UInt8) (a : Nat), a ≤ l.foldl (fun a c => 10 * a + (c.toNat - 48)) a
  | [], a => Nat.le_refl _
  | c :: r, a => Nat.le_trans (by omega) (fold_ge r (10 * a + (c.toNat - 48)))
theorem num10_zero {x : UInt8} {xs : List UInt8} (hd : digB x) (h : num10 (x :: xs) = 0) : x = 48 := by
  unfold num10 at h
  rw [List.foldl_cons] at h
  have := fold_ge xs (10 * 0 + (x.toNat - 48))
  unfold digB at hd
  have : x.toNat = 48 := by omega
  exact UInt8.toNat_inj.1 this
theorem num10_snoc (l : List UInt8) (c : UInt8) : num10 (l ++ [c]) = 10 * num10 l + (c.toNat - 48) := by unfold num10; rw [List.foldl_append]; rfl
/-- digits are written as they stood just where no zero is in front -/
theorem fmt_iff : ∀ (n : Nat) (l : List UInt8), l.length = n + 1 → (∀ c ∈ l, digB c) → (Lib.decDigits (num10 l) = l ↔ n = 0 ∨ l.head? ≠ some 48)
  | 0, l, hl, hd => by
    obtain ⟨x, rfl⟩ : ∃ x, l = [x] := by
      match l, hl with
      | [x], _ => exact ⟨x, rfl⟩
    have hx := hd x (by simp)
    unfold digB at hx
    have e : num10 [x] = x.toNat - 48 := by unfold num10; simp
    refine ⟨fun _ => Or.inl rfl, fun _ => ?_⟩
    rw [e, Lib.decDigits, dif_pos (by omega)]
    have : UInt8.ofNat (48 + (x.toNat - 48)) = x := by
      apply UInt8.toNat_inj.1
      rw [UInt8.toNat_ofNat']; omega
    rw [this]
  | n + 1, l, hl, hd => by
    have hne : l ≠ [] := fun e => by rw [e] at hl; simp at hl
    obtain ⟨l', c, rfl⟩ : ∃ l' c, l = l' ++ [c] := ⟨l.dropLast, l.getLast hne, (List.dropLast_concat_getLast hne).symm⟩
    have hl' : l'.length = n + 1 := by simpa using hl
    have hd' : ∀ x ∈ l', digB x := fun x hx => hd x (by simp [hx])
    have hc := hd c (by simp)
    unfold digB at hc
    have ih := fmt_iff n l' hl' hd'
    match l', hl' with
    | x :: xs, hl2 =>
      have hh : (x :: xs ++ [c]).head? = some x := rfl
      rw [hh, num10_snoc]
      have hx := hd' x (by simp)
      by_cases hz : num10 (x :: xs) = 0
      · have hx0 := num10_zero hx hz
        subst hx0
        rw [hz, Lib.decDigits, dif_pos (by omega)]
        constructor
        · intro e
          have := congrArg List.length e
          simp at this
        · rintro (e | e)
          · omega
          · exact absurd rfl e
      · rw [Lib.decDigits, dif_neg (by omega)]
        have e1 : (10 * num10 (x :: xs) + (c.toNat - 48)) / 10 = num10 (x :: xs) := by omega
        have e2 : UInt8.ofNat (48 + (10 * num10 (x :: xs) + (c.toNat - 48)) % 10) = c := by
          apply UInt8.toNat_inj.1
          rw [UInt8.toNat_ofNat']; omega
        rw [e1, e2]
        constructor
        · intro e
          have e3 : Lib.decDigits (num10 (x :: xs)) = x :: xs := List.append_cancel_right e
          right
          rcases ih.1 e3 with h0 | h0
          · subst h0
            have : xs = [] := List.length_eq_zero_iff.1 (by simpa using hl2)
            subst this
            intro e4
            simp only [Option.some.injEq] at e4
            subst e4
            exact hz (by decide)
          · simpa using h0
        · rintro (e | e)
          · omega
          · rw [ih.2 (Or.inr (by simpa using e))]
/-- a word is a number -/
theorem nbr_yes {l : List UInt8} (h0 : l ≠ []) (h9 : l.length ≤ 9) (hd : ∀ c ∈ l, digB c) (hf : Lib.decDigits (num10 l) = l) : nbr l = some (num10 l) := by
  have hp : 0 < l.length := List.length_pos_iff.2 h0
  unfold nbr
  rw [if_neg]
  rintro (h | h | ⟨h1, h2⟩ | h)
  · omega
  · omega
  · rcases (fmt_iff (l.length - 1) l (by omega) hd).1 hf with e | e
    · omega
    · exact e h2
  · exact h hd
theorem nbr_no1 {l : List UInt8} (h : 9 < l.length) : nbr l = none := by unfold nbr; rw [if_pos (Or.inr (Or.inl h))]
theorem nbr_no2 {l : List UInt8} (h : ¬ (l ≠ [] ∧ ∀ c ∈ l, digB c)) : nbr l = none := by
  unfold nbr
  rw [if_pos]
  by_cases h0 : l = []
  · left; rw [h0]; rfl
  · exact Or.inr (Or.inr (Or.inr fun hd => h ⟨h0, hd⟩))
theorem nbr_no3 {l : List UInt8} (h0 : l ≠ []) (hd : ∀ c ∈ l, digB c) (hf : Lib.decDigits (num10 l) ≠ l) : nbr l = none := by
  have hp : 0 < l.length := List.length_pos_iff.2 h0
  unfold nbr
  rw [if_pos]
  right; right; left
  have h := fmt_iff (l.length - 1) l (by omega) hd
  constructor
  · exact Classical.byContradiction fun h1 => hf (h.2 (Or.inl (by omega)))
  · exact Classical.byContradiction fun h2 => hf (h.2 (Or.inr h2))

/-! ### strings.Split at one byte -/
theorem index_ne {b c : UInt8} (l : List UInt8) (h : b ≠ c) : Lib.index (b :: l) [c] = if Lib.index l [c] == -1 then -1 else Lib.index l [c] + 1 := by
  have hp : ([c] : List UInt8).isPrefixOf (b :: l) = false := by simp [List.isPrefixOf, Ne.symm h]
  rw [Lib.index, hp]; simp
theorem split_pcs (c : UInt8) : ∀ s : List UInt8, Lib.splitK [c] 0 (Lib.count s [c]) s = pcs c s
  | [] => by rw [Lib.count_miss (by simp [Lib.index])]; rfl
  | b :: l => by
    have ih := split_pcs c l
    by_cases h : b = c
    · subst h
      have hix : Lib.index (b :: l) [b] = 0 := by rw [Lib.index]; simp [List.isPrefixOf]
      rw [Lib.count_cons_eq, Nat.add_comm, Lib.splitK, hix, if_neg (by decide), pcs, if_pos rfl, ← ih]
      rfl
    · rw [Lib.count_cons_ne b c l h]
      cases hk : Lib.count l [c] with
      | zero =>
        rw [hk] at ih
        have e : pcs c l = [l] := ih.symm
        rw [pcs_cons h e]; rfl
      | succ k =>
        rw [hk] at ih
        have hm : ¬ (Lib.index l [c] == -1) = true := fun e => by
          rw [Lib.count_miss (beq_iff_eq.1 e)] at hk; cases hk
        have hge := Lib.index_ge l [c]
        obtain ⟨j, hj⟩ : ∃ j : Nat, Lib.index l [c] = j := ⟨(Lib.index l [c]).toNat, by
          have hne : Lib.index l [c] ≠ -1 := fun e => hm (beq_iff_eq.2 e)
          omega⟩
        have hix := index_ne l h
        rw [if_neg hm, hj] at hix
        rw [Lib.splitK, hj, if_neg (by rw [hj] at hm; exact hm)] at ih
        rw [Lib.splitK, hix, if_neg (by simp only [beq_iff_eq]; omega), pcs_cons h ih.symm]
        have e1 : ((j : Int) + 1).toNat = j + 1 := by omega
        have e2 : ((j : Int)).toNat = j := by omega
        rw [e1, e2]
        rfl
theorem str_injN {l m : List UInt8} (h : str l = str m) : l = m := by
  have := congrArg (fun b : ByteArray => b.data.toList) h
  simpa [str] using this
theorem str_of (b : ByteArray) : str b.data.toList = b := by unfold str; simp
theorem splitB_pcs (c : UInt8) (l : List UInt8) : Lib.splitB ⟨#[c]⟩ 0 (Lib.countB (str l) ⟨#[c]⟩) (str l) = (pcs c l).map str := by
  have h := Lib.splitB_data ⟨#[c]⟩ 0 (Lib.countB (str l) ⟨#[c]⟩) (str l)
  have e : Lib.countB (str l) ⟨#[c]⟩ = Lib.count l [c] := by unfold Lib.countB; simp [str]
  have h2 := congrArg (List.map str) h
  rw [List.map_map] at h2
  have e3 : (str ∘ fun x : ByteArray => x.data.toList) = id := funext str_of
  rw [e3, List.map_id] at h2
  rw [h2, e]
  have e4 : (str l).data.toList = l := by simp [str]
  rw [e4]
  exact congrArg (List.map str) (split_pcs c l)
theorem countB_pcs (c : UInt8) (l : List UInt8) : Lib.countB (str l) ⟨#[c]⟩ + 1 = (pcs c l).length := by
  have h := Lib.splitB_all ⟨#[c]⟩ (Nat.le_refl 1) 0 _ (str l) rfl
  rw [splitB_pcs, List.length_map] at h
  exact h.symm

end Go.Proofs.YtbppdifghkkooaaDoor

namespace Go.Proofs.YtbppdifghkkooaaDoor
open Go Go.RowKit
set_option linter.unusedVariables false
set_option linter.unusedSimpArgs false

/-- how far a condition holds, from the first place on -/
def hld (P : Nat → Bool) : Nat → Nat
  | 0 => 0
  | n + 1 => if hld P n = n ∧ P n = true then n + 1 else hld P n
theorem hld_succ (P : Nat → Bool) (n : Nat) : hld P (n + 1) = if hld P n = n ∧ P n = true then n + 1 else hld P n := rfl
theorem hld_le (P : Nat → Bool) : ∀ n, hld P n ≤ n
  | 0 => Nat.le_refl _
  | n + 1 => by rw [hld_succ]; have := hld_le P n; split <;> omega
theorem hld_all (P : Nat → Bool) : ∀ n j, j < hld P n → P j = true
  | 0, j, h => absurd h (Nat.not_lt_zero _)
  | n + 1, j, h => by
    rw [hld_succ] at h
    split at h
    · rename_i hh
      rcases Nat.lt_succ_iff_lt_or_eq.1 h with h' | h'
      · exact hld_all P n j (by omega)
      · subst h'; exact hh.2
    · exact hld_all P n j h
theorem hld_no (P : Nat → Bool) : ∀ n, hld P n < n → P (hld P n) = false
  | 0, h => absurd h (Nat.not_lt_zero _)
  | n + 1, h => by
    rw [hld_succ] at h ⊢
    split at h
    · omega
    · rename_i hh
      rw [if_neg hh]
      have := hld_le P n
      by_cases e : hld P n = n
      · rw [e]; cases hp : P n
        · rfl
        · exact absurd ⟨e, hp⟩ hh
      · exact hld_no P n (by omega)
theorem hld_at {P : Nat → Bool} {n k : Nat} (hk : k < n) (h : ∀ j, j < k → P j = true) (h2 : P k = false) : hld P n = k := by
  have h3 := hld_le P n
  rcases Nat.lt_trichotomy (hld P n) k with h1 | h1 | h1
  · have := hld_no P n (by omega)
    rw [h _ h1] at this; cases this
  · exact h1
  · have := hld_all P n k h1
    rw [h2] at this; cases this
theorem hld_end {P : Nat → Bool} {n : Nat} (h : ∀ j, j < n → P j = true) : hld P n = n := by
  have h3 := hld_le P n
  rcases Nat.lt_or_ge (hld P n) n with h1 | h1
  · have := hld_no P n h1
    rw [h _ h1] at this; cases this
  · omega
/-- two conditions, one behind the other -/
theorem hld_more {P : Nat → Bool} {n m : Nat} (h : n ≤ m) (h1 : hld P n < n) : hld P m = hld P n := hld_at (by omega) (fun j hj => hld_all P n j hj) (hld_no P n h1)

/-- the number k of a line of numbers -/
def nm (s : List UInt8) (k : Nat) : Nat := ((nbs (pcs 32 s)).getD []).getD k 0
/-- where the lines of each kind begin -/
structure Ct where
  m : Nat
  i : Nat
  l : Nat
  o : Nat
  a : Nat
  b : Nat
  c : Nat
namespace Ct
variable (n : Ct)
abbrev p2 : Nat := 1 + n.i
abbrev p3 : Nat := 1 + n.i + n.l
abbrev p4 : Nat := 1 + n.i + n.l + n.o
abbrev p5 : Nat := 1 + n.i + n.l + n.o + n.b
abbrev p6 : Nat := 1 + n.i + n.l + n.o + n.b + n.c
abbrev p7 : Nat := 1 + n.i + n.l + n.o + n.b + n.c + n.a
end Ct
def ctO (l : List Nat) : Ct := ⟨l.getD 0 0, l.getD 1 0, l.getD 2 0, l.getD 3 0, l.getD 4 0, l.getD 5 0, l.getD 6 0⟩
abbrev lnA (L : List (List UInt8)) (i : Nat) : List UInt8 := L.getD i []
/-- a line is as told -/
def okL (L : List (List UInt8)) (n : Ct) (i : Nat) : Bool := if i < n.p2 then (gL (lnA L i)).isSome else if i < n.p3 then (gT (lnA L i)).isSome else if i < n.p6 then (gL (lnA L i)).isSome else (gG (lnA L i)).isSome
/-- how many lines behind the first one are as told -/
def gdL (L : List (List UInt8)) (n : Ct) : Nat := hld (fun j => okL L n (1 + j)) (n.p7 - 1)
/-- a line behind the gates is as told -/
def okZ (s : List UInt8) : Bool := match s with
  | [] => false
  | x :: _ => decide (x = 105 ∨ x = 108 ∨ x = 111 ∨ x = 98 ∨ x = 99)
/-- how many lines from place a on are as told, and none of them ends the text -/
def gdZ (L : List (List UInt8)) (a : Nat) : Nat := hld (fun j => okZ (lnA L (a + j)) && !decide (lnA L (a + j) = [99])) (L.length - a)
/-- the number of the first line behind the gates that is not as told, or 0 -/
def talN (L : List (List UInt8)) (a : Nat) : Nat := if gdZ L a < L.length - a then (if lnA L (a + gdZ L a) = [99] then 0 else a + gdZ L a + 1) else 0
/-- the third number of a latch -/
def rs3 (s : List UInt8) : Nat := ((gT s).getD (0, 0, 0)).2.2
/-- what is read -/
def rdR (L : List (List UInt8)) (n : Ct) : Rw := ⟨n.m, n.i, n.l, n.a, if n.b = 0 then n.o else n.b, n.c,
  fun j => nm (lnA L (1 + j)) 0, fun j => nm (lnA L (n.p2 + j)) 0, fun j => nm (lnA L (n.p2 + j)) 1, fun j => rs3 (lnA L (n.p2 + j)),
  fun j => nm (lnA L (n.p6 + j)) 0, fun j => nm (lnA L (n.p6 + j)) 1, fun j => nm (lnA L (n.p6 + j)) 2,
  fun j => nm (lnA L ((if n.b = 0 then n.p3 else n.p4) + j)) 0, fun j => nm (lnA L (n.p5 + j)) 0⟩
/-- a raw circuit without anything -/
def zRw : Rw := ⟨0, 0, 0, 0, 0, 0, fun _ => 0, fun _ => 0, fun _ => 0, fun _ => 0, fun _ => 0, fun _ => 0, fun _ => 0, fun _ => 0, fun _ => 0⟩
/-- the lines and their fault: an error, a line's number -/
def ltF (L : List (List UInt8)) : Int × Nat :=
  if (hdr L).1 ≠ 0 then ((hdr L).1, 1) else
  if gdL L (ctO (hdr L).2) < (ctO (hdr L).2).p7 - 1 then (12, gdL L (ctO (hdr L).2) + 2) else
  if 0 < talN L (ctO (hdr L).2).p7 then (38, talN L (ctO (hdr L).2).p7) else (0, 0)
/-- what Raw returns -/
def rdE (s : List UInt8) : Int := if 40000 < s.length then 4 else if (ltF (lno s)).1 ≠ 0 then (ltF (lno s)).1 else (rdR (lno s) (ctO (hdr (lno s)).2)).chk
def rdN (s : List UInt8) : Nat := if 40000 < s.length then 0 else if (ltF (lno s)).1 ≠ 0 then (ltF (lno s)).2 else 0
def rdW (s : List UInt8) : Rw := if rdE s = 0 then rdR (lno s) (ctO (hdr (lno s)).2) else zRw

theorem gL_nm {s : List UInt8} {x : Nat} (h : gL s = some x) : nm s 0 = x ∧ ∃ l, lnn 1 1 s = some l ∧ l = [x] := by
  unfold gL at h
  split at h
  · next y e =>
    cases h
    refine ⟨?_, _, e, rfl⟩
    unfold lnn at e
    unfold nm
    split at e
    · next l hl =>
      split at e
      · cases e; rw [hl]; rfl
      · cases e
    · cases e
  · cases h
theorem lnn_nm {a b : Nat} {s : List UInt8} {l : List Nat} (h : lnn a b s = some l) (k : Nat) : nm s k = l.getD k 0 := by
  unfold lnn at h
  unfold nm
  split at h
  · next l' hl =>
    split at h
    · cases h; rw [hl]; rfl
    · cases h
  · cases h
theorem lnn_len {a b : Nat} {s : List UInt8} {l : List Nat} (h : lnn a b s = some l) : a ≤ l.length ∧ l.length ≤ b := by
  unfold lnn at h
  split at h
  · split at h
    · next hc => cases h; exact hc
    · cases h
  · cases h
/-- a number that is read is small -/
theorem nbr_le {s : List UInt8} {x : Nat} (h : nbr s = some x) : x ≤ 999999999 := by
  unfold nbr at h
  split at h
  · cases h
  · next hc =>
    simp only [Option.some.injEq] at h
    subst h
    have hl : s.length ≤ 9 := by omega
    have hd : ∀ c ∈ s, 48 ≤ c.toNat ∧ c.toNat ≤ 57 := Classical.byContradiction fun hh => hc (Or.inr (Or.inr (Or.inr hh)))
    have key : ∀ (l : List UInt8) (a : Nat), (∀ c ∈ l, 48 ≤ c.toNat ∧ c.toNat ≤ 57) → l.foldl (fun a c => 10 * a + (c.toNat - 48)) a + 1 ≤ (a + 1) * 10 ^ l.length := by
      intro l
      induction l with
      | nil => intro a _; simp
      | cons c l ih =>
        intro a h
        have h1 := ih (10 * a + (c.toNat - 48)) fun x hx => h x (by simp [hx])
        have h2 := h c (by simp)
        rw [List.foldl_cons, List.length_cons, Nat.pow_succ]
        refine Nat.le_trans h1 ?_
        rw [Nat.mul_comm (10 ^ l.length) 10, ← Nat.mul_assoc]
        exact Nat.mul_le_mul_right _ (by omega)
    have h1 := key s 0 hd
    have h2 : 10 ^ s.length ≤ 10 ^ 9 := Nat.pow_le_pow_right (by decide) hl
    unfold num10
    omega
theorem nbs_le : ∀ {L : List (List UInt8)} {l : List Nat}, nbs L = some l → ∀ x ∈ l, x ≤ 999999999
  | [], l, h => by cases h; simp
  | p :: ps, l, h => by
    rw [nbs] at h
    split at h
    · next n l' h1 h2 =>
      cases h
      intro x hx
      rcases List.mem_cons.1 hx with rfl | hx
      · exact nbr_le h1
      · exact nbs_le h2 x hx
    · cases h
theorem nm_le (s : List UInt8) (k : Nat) : nm s k ≤ 999999999 := by
  unfold nm
  cases h : nbs (pcs 32 s) with
  | none => simp
  | some l =>
    show l.getD k 0 ≤ _
    rw [List.getD_eq_getElem?_getD]
    cases e : l[k]? with
    | none => exact Nat.zero_le _
    | some x => exact nbs_le h x (List.mem_of_getElem? e)
theorem rs3_le (s : List UInt8) : rs3 s ≤ 2 := by
  unfold rs3 gT
  split
  · exact Nat.zero_le _
  · split
    · exact Nat.zero_le _
    · split
      · show 1 ≤ 2; decide
      · split
        · show 2 ≤ 2; decide
        · exact Nat.zero_le _
  · exact Nat.zero_le _

/-! ### what was written -/
theorem lst_eq {f g : Nat → Int} {n : Nat} (h : ∀ j, j < n → f j = g j) : lst f n = lst g n := List.map_congr_left fun j hj => h j (List.mem_range.1 hj)
theorem twos_eq {f g f' g' : Nat → Int} : ∀ {n : Nat}, (∀ j, j < n → f j = f' j ∧ g j = g' j) → twos f g n = twos f' g' n
  | 0, _ => rfl
  | n + 1, h => by rw [twos, twos, twos_eq (n := n) fun j hj => h j (by omega), (h n (by omega)).1, (h n (by omega)).2]
/-- raw circuits that agree as far as their lists go -/
structure Agr (r s : Rw) : Prop where
  m : r.m = s.m
  ni : r.ni = s.ni
  nl : r.nl = s.nl
  na : r.na = s.na
  nb : r.nb = s.nb
  nc : r.nc = s.nc
  ip : ∀ j, j < r.ni → r.ip j = s.ip j
  la : ∀ j, j < r.nl → r.ll j = s.ll j ∧ r.la j = s.la j ∧ r.lb j = s.lb j
  an : ∀ j, j < r.na → r.gl j = s.gl j ∧ r.ga j = s.ga j ∧ r.gb j = s.gb j
  bd : ∀ j, j < r.nb → r.bd j = s.bd j
  cn : ∀ j, j < r.nc → r.cn j = s.cn j
theorem fnd_same {r s : Rw} {B : Int → Bool} (hn : r.na = s.na) (h : ∀ i, i < r.na → r.may B i = s.may B i) : r.fnd B = s.fnd B := by
  rcases Nat.lt_or_ge (s.fnd B) s.na with h1 | h1
  · exact Rw.fnd_is (by omega) ((h _ (by omega)).trans (Rw.fnd_may h1)) fun j hj => (h j (by omega)).trans (Rw.fnd_min hj)
  · have h2 := Rw.fnd_le (r := s) (B := B)
    rw [Rw.fnd_no fun j hj => (h j hj).trans (Rw.fnd_min (by omega))]
    omega
theorem Agr.chk {r s : Rw} (h : Agr r s) : r.chk = s.chk := by
  obtain ⟨m, ni, nl, na, nb, nc, ip, ll, la, lb, gl, ga, gb, bd, cn⟩ := r
  obtain ⟨m', ni', nl', na', nb', nc', ip', ll', la', lb', gl', ga', gb', bd', cn'⟩ := s
  obtain ⟨e1, e2, e3, e4, e5, e6, h1, h2, h3, h4, h5⟩ := h
  simp only at e1 e2 e3 e4 e5 e6 h1 h2 h3 h4 h5
  subst e1 e2 e3 e4 e5 e6
  have x1 := lst_eq h1
  have x2 := lst_eq fun j hj => (h2 j hj).1
  have x3 := lst_eq fun j hj => (h2 j hj).2.1
  have x4 := lst_eq fun j hj => (h2 j hj).2.2
  have x5 := lst_eq fun j hj => (h3 j hj).1
  have x6 := twos_eq fun j hj => (h3 j hj).2
  have x7 := lst_eq h4
  have x8 := lst_eq h5
  have hd : Rw.dL ⟨m, ni, nl, na, nb, nc, ip, ll, la, lb, gl, ga, gb, bd, cn⟩ = Rw.dL ⟨m, ni, nl, na, nb, nc, ip', ll', la', lb', gl', ga', gb', bd', cn'⟩ := by
    unfold Rw.dL; simp only; rw [x1, x2, x5]
  have hu : Rw.uL ⟨m, ni, nl, na, nb, nc, ip, ll, la, lb, gl, ga, gb, bd, cn⟩ = Rw.uL ⟨m, ni, nl, na, nb, nc, ip', ll', la', lb', gl', ga', gb', bd', cn'⟩ := by
    unfold Rw.uL; simp only; rw [x3, x6, x7, x8]
  have hst : ∀ k, Rw.st ⟨m, ni, nl, na, nb, nc, ip, ll, la, lb, gl, ga, gb, bd, cn⟩ k = Rw.st ⟨m, ni, nl, na, nb, nc, ip', ll', la', lb', gl', ga', gb', bd', cn'⟩ k := by
    intro k
    induction k with
    | zero =>
      show (Rw.rd0 _, []) = (Rw.rd0 _, [])
      unfold Rw.rd0; simp only; rw [x5]
    | succ k ih =>
      have hf : ∀ B, Rw.fnd ⟨m, ni, nl, na, nb, nc, ip, ll, la, lb, gl, ga, gb, bd, cn⟩ B = Rw.fnd ⟨m, ni, nl, na, nb, nc, ip', ll', la', lb', gl', ga', gb', bd', cn'⟩ B := fun B => fnd_same rfl fun i hi => by
        unfold Rw.may; simp only; rw [(h3 i hi).1, (h3 i hi).2.1, (h3 i hi).2.2]
      rw [Rw.st, Rw.st, ih, hf]
      split
      · next hlt => simp only at hlt ⊢; rw [(h3 _ hlt).1]
      · rfl
  have ho : Rw.ord ⟨m, ni, nl, na, nb, nc, ip, ll, la, lb, gl, ga, gb, bd, cn⟩ = Rw.ord ⟨m, ni, nl, na, nb, nc, ip', ll', la', lb', gl', ga', gb', bd', cn'⟩ := by
    unfold Rw.ord; rw [hst]
  have hn : Rw.num ⟨m, ni, nl, na, nb, nc, ip, ll, la, lb, gl, ga, gb, bd, cn⟩ = Rw.num ⟨m, ni, nl, na, nb, nc, ip', ll', la', lb', gl', ga', gb', bd', cn'⟩ := by
    unfold Rw.num; rw [hd, hu]; simp only; rw [x4]; rfl
  have ht : Rw.twi ⟨m, ni, nl, na, nb, nc, ip, ll, la, lb, gl, ga, gb, bd, cn⟩ = Rw.twi ⟨m, ni, nl, na, nb, nc, ip', ll', la', lb', gl', ga', gb', bd', cn'⟩ := by
    unfold Rw.twi; rw [hd]
  have hp : Rw.opn ⟨m, ni, nl, na, nb, nc, ip, ll, la, lb, gl, ga, gb, bd, cn⟩ = Rw.opn ⟨m, ni, nl, na, nb, nc, ip', ll', la', lb', gl', ga', gb', bd', cn'⟩ := by
    unfold Rw.opn; rw [hd, hu]
  unfold Rw.chk
  rw [hn, ht, hp, ho]
  rfl
theorem Agr.same {r s : Rw} (h : Agr r s) : sameR r s = true := by
  obtain ⟨m, ni, nl, na, nb, nc, ip, ll, la, lb, gl, ga, gb, bd, cn⟩ := r
  obtain ⟨m', ni', nl', na', nb', nc', ip', ll', la', lb', gl', ga', gb', bd', cn'⟩ := s
  obtain ⟨e1, e2, e3, e4, e5, e6, h1, h2, h3, h4, h5⟩ := h
  simp only at e1 e2 e3 e4 e5 e6 h1 h2 h3 h4 h5
  subst e1 e2 e3 e4 e5 e6
  unfold sameR
  simp only
  rw [sameB_yes h1, sameD_yes h2, sameD_yes h3, sameB_yes h4, sameB_yes h5]
  simp
theorem Agr.symm {r s : Rw} (h : Agr r s) : Agr s r := ⟨h.m.symm, h.ni.symm, h.nl.symm, h.na.symm, h.nb.symm, h.nc.symm, fun j hj => (h.ip j (by rw [h.ni]; exact hj)).symm, fun j hj => by have := h.la j (by rw [h.nl]; exact hj); exact ⟨this.1.symm, this.2.1.symm, this.2.2.symm⟩, fun j hj => by have := h.an j (by rw [h.na]; exact hj); exact ⟨this.1.symm, this.2.1.symm, this.2.2.symm⟩, fun j hj => (h.bd j (by rw [h.nb]; exact hj)).symm, fun j hj => (h.cn j (by rw [h.nc]; exact hj)).symm⟩
/-- the numbers of a valid raw circuit, near -/
structure Bn (r : Rw) : Prop where
  m : 0 ≤ r.m ∧ r.m ≤ 1000
  n : r.ni + r.nl + r.na ≤ 1000
  nb : r.nb ≤ 100
  nc : r.nc ≤ 100
  ip : ∀ j, j < r.ni → 2 ≤ r.ip j ∧ r.ip j ≤ 2001
  ll : ∀ j, j < r.nl → 2 ≤ r.ll j ∧ r.ll j ≤ 2001
  la : ∀ j, j < r.nl → 0 ≤ r.la j ∧ r.la j ≤ 2001
  lb : ∀ j, j < r.nl → 0 ≤ r.lb j ∧ r.lb j ≤ 2
  gl : ∀ j, j < r.na → 2 ≤ r.gl j ∧ r.gl j ≤ 2001
  ga : ∀ j, j < r.na → 0 ≤ r.ga j ∧ r.ga j ≤ 2001
  gb : ∀ j, j < r.na → 0 ≤ r.gb j ∧ r.gb j ≤ 2001
  bd : ∀ j, j < r.nb → 0 ≤ r.bd j ∧ r.bd j ≤ 2001
  cn : ∀ j, j < r.nc → 0 ≤ r.cn j ∧ r.cn j ≤ 2001
theorem Bn.of {r : Rw} (h : r.chk = 0) : Bn r := by
  have hbd := Bd.of h
  have hm := hbd.m
  obtain ⟨h0, h1, h2⟩ := chk_num h
  have hn := h2
  unfold Rw.num at hn
  simp only [Bool.and_eq_true] at hn
  have hd : ∀ x, x ∈ r.dL → 2 ≤ x ∧ x ≤ 2001 := fun x hx => by have := of_decide_eq_true (List.all_eq_true.1 hn.1.1 x hx); omega
  have hu : ∀ x, x ∈ r.uL → 0 ≤ x ∧ x ≤ 2001 := fun x hx => by have := of_decide_eq_true (List.all_eq_true.1 hn.1.2 x hx); omega
  have hb : ∀ x, x ∈ lst r.lb r.nl → 0 ≤ x ∧ x ≤ 2 := fun x hx => of_decide_eq_true (List.all_eq_true.1 hn.2 x hx)
  refine ⟨hbd.m, hbd.n, hbd.nb, hbd.nc, fun j hj => hd _ ?_, fun j hj => hd _ ?_, fun j hj => hu _ ?_, fun j hj => hb _ (mem_lst.2 ⟨j, hj, rfl⟩), fun j hj => hd _ ?_, fun j hj => hu _ ?_, fun j hj => hu _ ?_, fun j hj => hu _ ?_, fun j hj => hu _ ?_⟩
  · unfold Rw.dL; simp only [List.mem_append]; exact Or.inl (Or.inl (mem_lst.2 ⟨j, hj, rfl⟩))
  · unfold Rw.dL; simp only [List.mem_append]; exact Or.inl (Or.inr (mem_lst.2 ⟨j, hj, rfl⟩))
  · unfold Rw.uL; simp only [List.mem_append]; exact Or.inl (Or.inr (mem_lst.2 ⟨j, hj, rfl⟩))
  · unfold Rw.dL; simp only [List.mem_append]; exact Or.inr (mem_lst.2 ⟨j, hj, rfl⟩)
  · unfold Rw.uL; simp only [List.mem_append]; exact Or.inr (mem_twos.2 ⟨j, hj, Or.inl rfl⟩)
  · unfold Rw.uL; simp only [List.mem_append]; exact Or.inr (mem_twos.2 ⟨j, hj, Or.inr rfl⟩)
  · unfold Rw.uL; simp only [List.mem_append]; exact Or.inl (Or.inl (Or.inl (mem_lst.2 ⟨j, hj, rfl⟩)))
  · unfold Rw.uL; simp only [List.mem_append]; exact Or.inl (Or.inl (Or.inr (mem_lst.2 ⟨j, hj, rfl⟩)))

theorem getA {f : Nat → List UInt8} {n j : Nat} {M : List (List UInt8)} (h : j < n) : ((List.range n).map f ++ M).getD j [] = f j := by
  rw [List.getD_eq_getElem?_getD, List.getElem?_append_left (by simpa using h), List.getElem?_map, List.getElem?_range h]; rfl
theorem getB {f : Nat → List UInt8} {n j k : Nat} {M : List (List UInt8)} (hk : k = n + j) : ((List.range n).map f ++ M).getD k [] = M.getD j [] := by
  subst hk
  rw [List.getD_eq_getElem?_getD, List.getElem?_append_right (by simp), List.getD_eq_getElem?_getD]; simp
theorem getC {f : Nat → List UInt8} {n j : Nat} (h : j < n) : ((List.range n).map f).getD j [] = f j := by
  rw [List.getD_eq_getElem?_getD, List.getElem?_map, List.getElem?_range h]; rfl
theorem getS {x : List UInt8} {M : List (List UInt8)} (j : Nat) : (x :: M).getD (j + 1) [] = M.getD j [] := by
  rw [List.getD_eq_getElem?_getD, List.getElem?_cons_succ, List.getD_eq_getElem?_getD]

/-- the counts of a raw circuit -/
def Rw.ct (r : Rw) : Ct := ⟨r.m.toNat, r.ni, r.nl, 0, r.na, r.nb, r.nc⟩
section
variable {r : Rw}
theorem tx_ip {j : Nat} (h : j < r.ni) : lnA (txL r) (1 + j) = par (one (r.ip j)) 1 := by
  unfold lnA txL
  rw [show 1 + j = j + 1 by omega, getS, getA h]
theorem tx_ll {j : Nat} (h : j < r.nl) : lnA (txL r) (1 + r.ni + j) = par (tri (r.ll j) (r.la j) (lt3 (r.ll j) (r.lb j))) (ltn (r.lb j)) := by
  unfold lnA txL
  rw [show 1 + r.ni + j = (r.ni + j) + 1 by omega, getS, getB rfl, getA h]
theorem tx_bd {j : Nat} (h : j < r.nb) : lnA (txL r) (1 + r.ni + r.nl + j) = par (one (r.bd j)) 1 := by
  unfold lnA txL
  rw [show 1 + r.ni + r.nl + j = (r.ni + (r.nl + j)) + 1 by omega, getS, getB rfl, getB rfl, getA h]
theorem tx_cn {j : Nat} (h : j < r.nc) : lnA (txL r) (1 + r.ni + r.nl + r.nb + j) = par (one (r.cn j)) 1 := by
  unfold lnA txL
  rw [show 1 + r.ni + r.nl + r.nb + j = (r.ni + (r.nl + (r.nb + j))) + 1 by omega, getS, getB rfl, getB rfl, getB rfl, getA h]
theorem tx_gl {j : Nat} (h : j < r.na) : lnA (txL r) (1 + r.ni + r.nl + r.nb + r.nc + j) = par (tri (r.gl j) (r.ga j) (r.gb j)) 3 := by
  unfold lnA txL
  rw [show 1 + r.ni + r.nl + r.nb + r.nc + j = (r.ni + (r.nl + (r.nb + (r.nc + j)))) + 1 by omega, getS, getB rfl, getB rfl, getB rfl, getB rfl, getC h]
theorem tx_len : (txL r).length = 1 + r.ni + r.nl + r.nb + r.nc + r.na := by
  unfold txL
  simp only [List.length_cons, List.length_append, List.length_map, List.length_range]
  omega
theorem hd_in (h : Bn r) : ∀ j, j < 7 → 0 ≤ r.hd j ∧ r.hd j ≤ 1000 := fun j _ => by
  have := h.m; have := h.n; have := h.nb; have := h.nc
  unfold Rw.hd
  repeat' split
  all_goals omega
theorem ct_txt : ctO ((List.range 7).map fun j => (r.hd j).toNat) = r.ct := rfl
theorem gT_nm {s : List UInt8} {x y z : Nat} (h : gT s = some (x, y, z)) : nm s 0 = x ∧ nm s 1 = y ∧ rs3 s = z := by
  refine ⟨?_, ?_, by unfold rs3; rw [h]; rfl⟩
  all_goals
    unfold gT at h
    split at h
    · next e => cases h; rw [lnn_nm e]; rfl
    · next e =>
      rw [lnn_nm e]
      split at h
      · cases h; rfl
      · split at h
        · cases h; rfl
        · split at h
          · cases h; rfl
          · cases h
    · cases h
theorem gG_nm {s : List UInt8} {x y z : Nat} (h : gG s = some (x, y, z)) : nm s 0 = x ∧ nm s 1 = y ∧ nm s 2 = z := by
  unfold gG at h
  split at h
  · next e => cases h; rw [lnn_nm e, lnn_nm e, lnn_nm e]; exact ⟨rfl, rfl, rfl⟩
  · cases h
theorem back_agr (h : Bn r) : Agr (rdR (txL r) r.ct) r := by
  have e0 : (if r.ct.b = 0 then r.ct.o else r.ct.b) = r.nb := by
    show (if r.nb = 0 then 0 else r.nb) = r.nb
    split <;> omega
  refine ⟨?_, rfl, rfl, rfl, e0, rfl, fun j hj => ?_, fun j hj => ?_, fun j hj => ?_, fun j hj => ?_, fun j hj => ?_⟩
  · show ((r.m.toNat : Nat) : Int) = r.m
    have := h.m; omega
  · show ((nm (lnA (txL r) (1 + j)) 0 : Nat) : Int) = _
    have h1 := h.ip j hj
    rw [tx_ip (r := r) (j := j) hj, (gL_nm (gL_one (by omega))).1]; omega
  · have h1 := h.ll j hj
    have h2 := h.la j hj
    have h3 := h.lb j hj
    have e := gT_nm (gT_tri h1 h2 h3)
    show ((nm (lnA (txL r) (1 + r.ni + j)) 0 : Nat) : Int) = _ ∧ ((nm (lnA (txL r) (1 + r.ni + j)) 1 : Nat) : Int) = _ ∧ ((rs3 (lnA (txL r) (1 + r.ni + j)) : Nat) : Int) = _
    rw [tx_ll (r := r) (j := j) hj, e.1, e.2.1, e.2.2]
    omega
  · have h1 := h.gl j hj
    have h2 := h.ga j hj
    have h3 := h.gb j hj
    have e := gG_nm (gG_tri (show 0 ≤ r.gl j ∧ r.gl j ≤ 2001 by omega) h2 h3)
    have e1 : r.ct.p6 + j = 1 + r.ni + r.nl + r.nb + r.nc + j := by show 1 + r.ni + r.nl + 0 + r.nb + r.nc + j = _; omega
    show ((nm (lnA (txL r) (r.ct.p6 + j)) 0 : Nat) : Int) = _ ∧ ((nm (lnA (txL r) (r.ct.p6 + j)) 1 : Nat) : Int) = _ ∧ ((nm (lnA (txL r) (r.ct.p6 + j)) 2 : Nat) : Int) = _
    rw [e1, tx_gl (r := r) (j := j) hj, e.1, e.2.1, e.2.2]
    omega
  · have hj' : j < r.nb := by rw [← e0]; exact hj
    have h1 := h.bd j hj'
    have e1 : (if r.ct.b = 0 then r.ct.p3 else r.ct.p4) + j = 1 + r.ni + r.nl + j := by
      show (if r.nb = 0 then 1 + r.ni + r.nl else 1 + r.ni + r.nl + 0) + j = _
      split <;> omega
    show ((nm (lnA (txL r) ((if r.ct.b = 0 then r.ct.p3 else r.ct.p4) + j)) 0 : Nat) : Int) = _
    rw [e1, tx_bd hj', (gL_nm (gL_one h1)).1]; omega
  · have h1 := h.cn j hj
    have e1 : r.ct.p5 + j = 1 + r.ni + r.nl + r.nb + j := by show 1 + r.ni + r.nl + 0 + r.nb + j = _; omega
    show ((nm (lnA (txL r) (r.ct.p5 + j)) 0 : Nat) : Int) = _
    rw [e1, tx_cn (r := r) (j := j) hj, (gL_nm (gL_one h1)).1]; omega
theorem back_ok (h : Bn r) {i : Nat} (h1 : 1 ≤ i) (h2 : i < r.ct.p7) : okL (txL r) r.ct i = true := by
  have hp2 : r.ct.p2 = 1 + r.ni := rfl
  have hp3 : r.ct.p3 = 1 + r.ni + r.nl := rfl
  have hp6 : r.ct.p6 = 1 + r.ni + r.nl + 0 + r.nb + r.nc := rfl
  have hp7 : r.ct.p7 = 1 + r.ni + r.nl + 0 + r.nb + r.nc + r.na := rfl
  unfold okL
  split
  · have e := tx_ip (r := r) (j := i - 1) (by omega)
    rw [show 1 + (i - 1) = i by omega] at e
    have h3 := h.ip (i - 1) (by omega)
    rw [e, gL_one (by omega)]; rfl
  · split
    · have e := tx_ll (r := r) (j := i - (1 + r.ni)) (by omega)
      rw [show 1 + r.ni + (i - (1 + r.ni)) = i by omega] at e
      rw [e, gT_tri (h.ll _ (by omega)) (h.la _ (by omega)) (h.lb _ (by omega))]; rfl
    · split
      · by_cases hb : i < 1 + r.ni + r.nl + r.nb
        · have e := tx_bd (r := r) (j := i - (1 + r.ni + r.nl)) (by omega)
          rw [show 1 + r.ni + r.nl + (i - (1 + r.ni + r.nl)) = i by omega] at e
          rw [e, gL_one (h.bd _ (by omega))]; rfl
        · have e := tx_cn (r := r) (j := i - (1 + r.ni + r.nl + r.nb)) (by omega)
          rw [show 1 + r.ni + r.nl + r.nb + (i - (1 + r.ni + r.nl + r.nb)) = i by omega] at e
          rw [e, gL_one (h.cn _ (by omega))]; rfl
      · have e := tx_gl (r := r) (j := i - (1 + r.ni + r.nl + r.nb + r.nc)) (by omega)
        rw [show 1 + r.ni + r.nl + r.nb + r.nc + (i - (1 + r.ni + r.nl + r.nb + r.nc)) = i by omega] at e
        have h3 := h.gl (i - (1 + r.ni + r.nl + r.nb + r.nc)) (by omega)
        rw [e, gG_tri (by omega) (h.ga _ (by omega)) (h.gb _ (by omega))]; rfl
theorem back_lno (h : Bn r) : lno r.txt = txL r := lno_txt (fun j hj => (hd_in h j hj).1) (fun j hj => by have := h.ip j hj; omega) (fun j hj => by have := h.ll j hj; have := h.la j hj; omega) (fun j hj => (h.bd j hj).1) (fun j hj => (h.cn j hj).1) (fun j hj => by have := h.gl j hj; have := h.ga j hj; have := h.gb j hj; omega)
theorem back_hdr (h : Bn r) : hdr (txL r) = (0, (List.range 7).map fun j => (r.hd j).toNat) := hdr_txt (hd_in h)
theorem gdL_all {L : List (List UInt8)} {n : Ct} (h : ∀ i, 1 ≤ i → i < n.p7 → okL L n i = true) : gdL L n = n.p7 - 1 := hld_end fun j hj => h (1 + j) (by omega) (by omega)
theorem back_flt (h : Bn r) : ltF (txL r) = (0, 0) := by
  unfold ltF
  rw [back_hdr h, ct_txt, gdL_all fun i h1 h2 => back_ok h h1 h2, if_neg (by simp), if_neg (by omega)]
  have e : talN (txL r) r.ct.p7 = 0 := by
    have hp7 : r.ct.p7 = 1 + r.ni + r.nl + 0 + r.nb + r.nc + r.na := rfl
    unfold talN
    rw [if_neg (by rw [tx_len, hp7]; omega)]
  rw [e, if_neg (by omega)]
end

/-! ### the fault, as it is kept line by line -/
/-- the fault behind c lines from place i on, of which m are as told -/
def flt6 (f : Nat × Int) (i m c : Nat) : Nat × Int := if f = (0, 0) then (if m < c then (i + m + 1, 12) else (0, 0)) else f
/-- either no fault up to place p, or the fault -/
def CC (L : List (List UInt8)) (n : Ct) (f : Nat × Int) (i p : Nat) : Prop := (f = (0, 0) ∧ i = p ∧ ∀ j, 1 ≤ j → j < p → okL L n j = true) ∨ (f = (gdL L n + 2, 12) ∧ gdL L n < n.p7 - 1)
theorem CC.start (L : List (List UInt8)) (n : Ct) : CC L n (0, 0) 1 1 := Or.inl ⟨rfl, rfl, fun j h1 h2 => by omega⟩
theorem CC.step {L : List (List UInt8)} {n : Ct} {f f' : Nat × Int} {i i' p c : Nat} {ok : List UInt8 → Bool} (h : CC L n f i p) (hp : 1 ≤ p) (hc : p + c ≤ n.p7)
    (hok : ∀ j, j < c → okL L n (p + j) = ok (lnA L (p + j))) (hf : f' = flt6 f i (hld (fun j => ok (lnA L (i + j))) c) c) (hi : f' = (0, 0) → i' = i + c) : CC L n f' i' (p + c) := by
  rcases h with ⟨rfl, rfl, hall⟩ | ⟨rfl, hg⟩
  · unfold flt6 at hf
    rw [if_pos rfl] at hf
    split at hf
    · next hlt =>
      right
      have e : gdL L n = i - 1 + hld (fun j => ok (lnA L (i + j))) c := by
        unfold gdL
        refine hld_at (by omega) (fun j hj => ?_) ?_
        · rcases Nat.lt_or_ge (1 + j) i with h1 | h1
          · exact hall (1 + j) (by omega) h1
          · have := hld_all _ _ (1 + j - i) (show 1 + j - i < hld (fun j => ok (lnA L (i + j))) c by omega)
            have e2 := hok (1 + j - i) (by have := hld_le (fun j => ok (lnA L (i + j))) c; omega)
            rw [show i + (1 + j - i) = 1 + j by omega] at e2 this
            exact e2.trans this
        · have := hld_no _ _ hlt
          have e2 := hok _ hlt
          rw [show 1 + (i - 1 + hld (fun j => ok (lnA L (i + j))) c) = i + hld (fun j => ok (lnA L (i + j))) c by omega]
          exact e2.trans this
      refine ⟨?_, by omega⟩
      rw [hf, e]
      congr 1
      omega
    · next hge =>
      left
      refine ⟨hf, hi hf, fun j h1 h2 => ?_⟩
      rcases Nat.lt_or_ge j i with h3 | h3
      · exact hall j h1 h3
      · have hle := hld_le (fun j => ok (lnA L (i + j))) c
        have := hld_all (fun j => ok (lnA L (i + j))) c (j - i) (by omega)
        have e2 := hok (j - i) (by omega)
        rw [show i + (j - i) = j by omega] at e2 this
        exact e2.trans this
  · right
    unfold flt6 at hf
    rw [if_neg (by simp)] at hf
    exact ⟨hf, hg⟩
/-- the fault behind all lines -/
def fltZ (L : List (List UInt8)) (f : Nat × Int) (i : Nat) : Nat × Int := if f = (0, 0) then (if 0 < talN L i then (talN L i, 38) else (0, 0)) else f
theorem CC.last {L : List (List UInt8)} {f f' : Nat × Int} {i : Nat} (he : (hdr L).1 = 0) (h : CC L (ctO (hdr L).2) f i (ctO (hdr L).2).p7) (hf : f' = fltZ L f i) : ltF L = (f'.2, f'.1) ∧ (f' = (0, 0) → f = (0, 0) ∧ i = (ctO (hdr L).2).p7) := by
  unfold ltF
  rw [if_neg (by omega)]
  rcases h with ⟨rfl, rfl, hall⟩ | ⟨rfl, hg⟩
  · rw [gdL_all fun i h1 h2 => hall i h1 h2, if_neg (by omega)]
    unfold fltZ at hf
    rw [if_pos rfl] at hf
    split at hf
    · next ht => rw [if_pos ht, hf]; exact ⟨rfl, fun h => by simp at h⟩
    · next ht => rw [if_neg ht, hf]; exact ⟨rfl, fun _ => ⟨rfl, rfl⟩⟩
  · unfold fltZ at hf
    rw [if_neg (by simp)] at hf
    rw [if_pos hg, hf]
    exact ⟨rfl, fun h => by simp at h⟩
theorem okL_1 {L : List (List UInt8)} {n : Ct} {j : Nat} (h : j < n.i) : okL L n (1 + j) = (gL (lnA L (1 + j))).isSome := by
  unfold okL; rw [if_pos (by show _ < 1 + n.i; omega)]
theorem okL_2 {L : List (List UInt8)} {n : Ct} {j : Nat} (h : j < n.l) : okL L n (n.p2 + j) = (gT (lnA L (n.p2 + j))).isSome := by
  unfold okL; rw [if_neg (by omega), if_pos (by show 1 + n.i + j < 1 + n.i + n.l; omega)]
theorem okL_3 {L : List (List UInt8)} {n : Ct} {p j : Nat} (h1 : n.p3 ≤ p) (h : p + j < n.p6) : okL L n (p + j) = (gL (lnA L (p + j))).isSome := by
  have e2 : n.p2 = 1 + n.i := rfl
  have e3 : n.p3 = 1 + n.i + n.l := rfl
  unfold okL; rw [if_neg (by omega), if_neg (by omega), if_pos h]
theorem okL_6 {L : List (List UInt8)} {n : Ct} {j : Nat} : okL L n (n.p6 + j) = (gG (lnA L (n.p6 + j))).isSome := by
  have e2 : n.p2 = 1 + n.i := rfl
  have e3 : n.p3 = 1 + n.i + n.l := rfl
  have e6 : n.p6 = 1 + n.i + n.l + n.o + n.b + n.c := rfl
  unfold okL; rw [if_neg (by omega), if_neg (by omega), if_neg (by omega)]

end Go.Proofs.YtbppdifghkkooaaDoor

namespace Go.Proofs.YtbppdifghkkooaaDoor
open Go Go.RowKit
set_option linter.unusedVariables false
set_option linter.unusedSimpArgs false

/-- a string's bytes and length, as a walk asks for them -/
structure SF (S : ByteArray) (n : Nat) (X : Nat → Int) : Prop where
  idx : ∀ (q : Nat) (x : Int), x = (q : Int) → q < n → ∀ W : World, (Instr.index 9 (.string S) (.int .i64 x)).run Tryd.prog W = .ok (.int .u8 (X q)) W
  len : ∀ W : World, (Builtin.len_ #[9] 3 #[.string S]).run Tryd.prog W = .ok (.int .i64 (n : Int)) W
theorem sf_of (l : List UInt8) : SF (str l) l.length (fun q => ((l.getD q 0).toNat : Int)) :=
  ⟨fun q x hx hq W => str_idx Tryd.underlying9 l hx hq W, fun W => str_len Tryd.underlying9 l W⟩
/-- what Number returns -/
def nbrI (l : List UInt8) : Int := match nbr l with
  | some x => (x : Int)
  | none => -1
theorem num10_le9 {l : List UInt8} (h : ∀ c ∈ l, digB c) (h9 : l.length ≤ 9) : num10 l ≤ 999999999 := by
  have key : ∀ (l : List UInt8) (a : Nat), (∀ c ∈ l, digB c) → l.foldl (fun a c => 10 * a + (c.toNat - 48)) a + 1 ≤ (a + 1) * 10 ^ l.length := by
    intro l
    induction l with
    | nil => intro a _; simp
    | cons c l ih =>
      intro a h
      have h1 := ih (10 * a + (c.toNat - 48)) fun x hx => h x (by simp [hx])
      have h2 := h c (by simp)
      unfold digB at h2
      rw [List.foldl_cons, List.length_cons, Nat.pow_succ]
      refine Nat.le_trans h1 ?_
      rw [Nat.mul_comm (10 ^ l.length) 10, ← Nat.mul_assoc]
      exact Nat.mul_le_mul_right _ (by omega)
  have h1 := key l 0 h
  have h2 : 10 ^ l.length ≤ 10 ^ 9 := Nat.pow_le_pow_right (by decide) h9
  unfold num10
  omega
theorem take_one {l : List UInt8} {q : Nat} (h : q < l.length) : l.take (q + 1) = l.take q ++ [l.getD q 0] := by
  rw [List.take_add_one, List.getElem?_eq_getElem h, List.getD_eq_getElem?_getD, List.getElem?_eq_getElem h]; rfl
theorem head_getD {l : List UInt8} (h : 0 < l.length) : l.head? = some (l.getD 0 0) := by
  match l, h with
  | x :: xs, _ => rfl
theorem nbrI_no {l : List UInt8} (h : nbr l = none) : nbrI l = -1 := by unfold nbrI; rw [h]
theorem nbrI_yes {l : List UInt8} {x : Nat} (h : nbr l = some x) : nbrI l = (x : Int) := by unfold nbrI; rw [h]

end Go.Proofs.YtbppdifghkkooaaDoor

namespace Go.Proofs.YtbppdifghkkooaaDoor
open Go Go.RowKit
set_option linter.unusedVariables false
set_option linter.unusedSimpArgs false

theorem info_str : (Tryd.prog.info? 9).map (fun i => (i.zero, i.size, i.bytes)) = some (some (.string ByteArray.empty), 1, 16) := by kernel_rfl
/-- a row that is not empty lies somewhere -/
theorem own_there {w : World} {base size n : Nat} {e : TypeId} {v : Value} {xs : List Value} (h : w.ownsRow base e size v (n + 1) xs) : ∃ g k, v = .slice (some ⟨g, 0, none⟩) (n + 1) k ∧ base ≤ g ∧ g < w.heap.size ∧ n + 1 ≤ k ∧ k ≤ maxLen := by
  have h' := h
  rcases h.2 with ⟨_, h0⟩ | ⟨g, cap, cur, rfl, hb, hh, hn, hc, _⟩
  · cases h0
  · exact ⟨g, cap, rfl, hb, (World.ownsRow.lt h' g rfl).2, hn, hc⟩
/-- the strings of a row that the call owns -/
theorem own_strs {w : World} {base : Nat} {e : TypeId} {v : Value} {n : Nat} {L : List (List UInt8)} (h : w.ownsRow base e 1 v n (strL L)) (hn : n = L.length) : ∃ A k, v = .slice A n k ∧ StrsAt w w.heap.size A n (fun j => L.getD j []) ∧ (A = none → n = 0 ∧ k = 0) ∧ (n ≤ k ∧ k ≤ maxLen) ∧ ∀ a, A = some a → base ≤ a.block := by
  have h' := h
  rcases h.2 with ⟨rfl, h0⟩ | ⟨g, cap, cur, rfl, hb, hh, hnc, hc, _⟩
  · subst h0
    exact ⟨none, 0, rfl, fun hh => absurd hh (Nat.not_lt_zero _), fun _ => ⟨rfl, rfl⟩, ⟨Nat.le_refl _, Nat.zero_le _⟩, fun a ha => by cases ha⟩
  · exact ⟨some ⟨g, 0, none⟩, cap, rfl, fun hh => ⟨_, rfl, (World.ownsRow.lt h' g rfl).2, fun j hj => h'.cells (g := g) rfl _ _ (strL_at (by omega))⟩, (fun hh => by cases hh), ⟨hnc, hc⟩, fun a ha => by cases ha; exact hb⟩

/-- the number of a word, where it is one -/
def vN (l : List UInt8) (j : Nat) : Nat := (nbr ((pcs 32 l).getD j [])).getD 0
theorem nbs_all : ∀ (L : List (List UInt8)), (∀ j, j < L.length → nbr (L.getD j []) ≠ none) → nbs L = some (L.map fun p => (nbr p).getD 0)
  | [], _ => rfl
  | p :: ps, h => by
    have h0 := h 0 (by simp)
    have ih := nbs_all ps fun j hj => by
      have := h (j + 1) (by simpa using hj)
      rwa [List.getD_eq_getElem?_getD, List.getElem?_cons_succ, ← List.getD_eq_getElem?_getD] at this
    rw [nbs, ih]
    cases e : nbr p with
    | none => exact absurd e h0
    | some x => simp [e]
theorem nbs_none : ∀ (L : List (List UInt8)) (j : Nat), j < L.length → nbr (L.getD j []) = none → nbs L = none
  | [], j, hj, _ => absurd hj (Nat.not_lt_zero _)
  | p :: ps, 0, _, h => by
    have h : nbr p = none := h
    rw [nbs, h]
  | p :: ps, j + 1, hj, h => by
    rw [List.getD_eq_getElem?_getD, List.getElem?_cons_succ, ← List.getD_eq_getElem?_getD] at h
    rw [nbs, nbs_none ps j (by simpa using hj) h]
    cases nbr p <;> rfl
theorem nbrI_ge {l : List UInt8} : nbrI l < 0 ↔ nbr l = none := by
  unfold nbrI
  split
  · next x h => rw [h]; constructor
                · intro h; omega
                · intro h; cases h
  · next h => rw [h]; exact ⟨fun _ => rfl, fun _ => by decide⟩
theorem nbrI_val {l : List UInt8} (h : nbr l ≠ none) : nbrI l = ((nbr l).getD 0 : Nat) := by
  unfold nbrI
  split
  · next x e => rw [e]; rfl
  · next e => exact absurd e h
theorem nbrI_le (l : List UInt8) : nbrI l ≤ 999999999 := by
  unfold nbrI
  split
  · next x e => have := nbr_le e; omega
  · decide
/-- when all words are numbers -/
theorem nm_all {l : List UInt8} (h : ∀ j, j < (pcs 32 l).length → nbr ((pcs 32 l).getD j []) ≠ none) : nbs (pcs 32 l) = some ((pcs 32 l).map fun p => (nbr p).getD 0) ∧ ∀ j, j < (pcs 32 l).length → nm l j = vN l j := by
  have e := nbs_all _ h
  refine ⟨e, fun j hj => ?_⟩
  unfold nm vN
  rw [e]
  show List.getD (List.map _ _) j 0 = _
  rw [List.getD_eq_getElem?_getD, List.getElem?_map, List.getD_eq_getElem?_getD, List.getElem?_eq_getElem hj]
  rfl
theorem intL_eq {f g : Nat → Int} : ∀ {n : Nat}, (∀ j, j < n → f j = g j) → intL f n = intL g n
  | 0, _ => rfl
  | n + 1, h => by rw [intL, intL, intL_eq (n := n) fun j hj => h j (by omega), h n (by omega)]
/-- too few words, or too many -/
theorem nbs_len : ∀ {L : List (List UInt8)} {l : List Nat}, nbs L = some l → l.length = L.length
  | [], l, h => by cases h; rfl
  | p :: ps, l, h => by
    rw [nbs] at h
    split at h
    · next n l' h1 h2 => cases h; rw [List.length_cons, List.length_cons, nbs_len h2]
    · cases h
theorem lnn_le (a b : Nat) (l : List UInt8) : (pcs 32 l).length < a ∨ b < (pcs 32 l).length → lnn a b l = none := fun h => by
  unfold lnn
  split
  · next xs e =>
    have := nbs_len e
    rw [if_neg (by omega)]
  · rfl
theorem app_next {w w5 : World} {base n size : Nat} {e : TypeId} {v : Value} {xs : List Value} (h : w.ownsRow base e size v n xs) (hb : Below w.heap.size w w5) : w5.ownsRow base e size v n xs := by
  refine ⟨h.1, ?_⟩
  rcases h.2 with h0 | ⟨g, cap, cur, hv, hg, hh, r⟩
  · exact Or.inl h0
  · refine Or.inr ⟨g, cap, cur, hv, hg, ?_, r⟩
    rw [hb.block g ((World.ownsRow.lt h g (by rw [hv]; rfl)).2)]
    exact hh
/-- what Numbers returns -/
def NrsIs (a b : Nat) (l : List UInt8) (w : World) (e : Ending) (w' : World) : Prop :=
  ∃ v, (∃ A m k, v = .slice A m k) ∧ e = .returned (.tuple #[v, .bool (lnn a b l).isSome]) ∧ Below w.heap.size w w' ∧ ∀ xs, lnn a b l = some xs → w'.ownsRow w.heap.size 3 1 v xs.length (intL (fun j => (nm l j : Int)) xs.length)
theorem lnn_all {a b : Nat} {l : List UInt8} (h : ∀ j, j < (pcs 32 l).length → nbr ((pcs 32 l).getD j []) ≠ none) : lnn a b l = if a ≤ (pcs 32 l).length ∧ (pcs 32 l).length ≤ b then some ((pcs 32 l).map fun p => (nbr p).getD 0) else none := by
  unfold lnn
  rw [(nm_all h).1]
  simp only [List.length_map]
theorem lnn_none {a b : Nat} {l : List UInt8} {j : Nat} (hj : j < (pcs 32 l).length) (h : nbr ((pcs 32 l).getD j []) = none) : lnn a b l = none := by
  unfold lnn
  rw [nbs_none _ j hj h]

/-- a list of strings that a call returns -/
def StrsIs (L : List (List UInt8)) (w : World) (e : Ending) (w' : World) : Prop := ∃ A k, e = .returned (.slice A L.length k) ∧ StrsAt w' w'.heap.size A L.length (lnA L) ∧ (A = none → k = 0) ∧ Below w.heap.size w w'

end Go.Proofs.YtbppdifghkkooaaDoor

namespace Go.Proofs.YtbppdifghkkooaaDoor
open Go Go.RowKit Go.Sort Go.Lib
set_option linter.unusedVariables false
set_option linter.unusedSimpArgs false

theorem grow_is (w : World) (os : Array Obj) : Below w.heap.size w (grow w os) := ⟨rfl, rfl, rfl, by simp [grow], fun i hi => by simp [grow, Array.getElem?_append, hi]⟩
theorem num_back {w : World} {u v' k : Nat} {dk : Array UInt8} (hH : Holds (fun (b : UInt8) => Value.int .u8 (b.toNat : Int)) (w.alloc (.cells Lib.zeros24 91)) w.heap.size 0 (Array.replicate (Lib.nDigits u) (0 : UInt8))) (hF : FmtInv (Lib.nDigits u) u 0 v' dk) : (convert 54 9 (.slice (some ⟨w.heap.size, 0, none⟩) (Lib.nDigits u) 24)).run Tryd.prog ((putRow (fun (b : UInt8) => Value.int .u8 (b.toNat : Int)) (w.alloc (.cells Lib.zeros24 91)) w.heap.size 0 dk).drewN k) = .ok (.string ⟨(Lib.decDigits u).toArray⟩) ((putRow (fun (b : UInt8) => Value.int .u8 (b.toNat : Int)) (w.alloc (.cells Lib.zeros24 91)) w.heap.size 0 dk).drewN k) := by
  have h := run_convert_bytes_back (P := Tryd.prog) ((putRow (fun (b : UInt8) => Value.int .u8 (b.toNat : Int)) (w.alloc (.cells Lib.zeros24 91)) w.heap.size 0 dk).drewN k) 54 9 5 ⟨w.heap.size, 0, none⟩ 24 (Lib.decDigits u) Tryd.underlying54 Tryd.underlying5 Tryd.underlying9 (fun j hj => by
    rw [Lib.row_is_numeral hF j hj, Lib.add_plain, World.cell?_drewN]
    exact cell?_putRow (fun (b : UInt8) => Value.int .u8 (b.toNat : Int)) _ w.heap.size 0 _ dk hH (by rw [hF.size, Array.size_replicate]) j (by rw [hF.size]; rw [Lib.decDigits_length] at hj; exact hj))
  rw [Lib.decDigits_length] at h
  exact h

end Go.Proofs.YtbppdifghkkooaaDoor

namespace Go.Proofs.YtbppdifghkkooaaDoor
open Go Go.RowKit
set_option linter.unusedVariables false
set_option linter.unusedSimpArgs false

end Go.Proofs.YtbppdifghkkooaaDoor

namespace Go.Proofs.YtbppdifghkkooaaDoor
open Go Go.RowKit
set_option linter.unusedVariables false
set_option linter.unusedSimpArgs false

theorem dn_two (w : World) (a b : Nat) : (w.drewN a).drewN b = w.drewN (a + b) := by
  simp [World.drewN, Nat.add_assoc]

end Go.Proofs.YtbppdifghkkooaaDoor

namespace Go.Proofs.YtbppdifghkkooaaDoor
open Go Go.RowKit
set_option linter.unusedVariables false
set_option linter.unusedSimpArgs false

end Go.Proofs.YtbppdifghkkooaaDoor

namespace Go.Proofs.YtbppdifghkkooaaDoor
open Go Go.RowKit
set_option linter.unusedVariables false
set_option linter.unusedSimpArgs false

/-- the numbers of a line that is one -/
theorem nums_cells {w : World} {base : Nat} {v : Value} {n : Nat} {f : Nat → Int} (h : w.ownsRow base 3 1 v (n + 1) (intL f (n + 1))) : ∃ g k, v = .slice (some ⟨g, 0, none⟩) (n + 1) k ∧ base ≤ g ∧ g < w.heap.size ∧ ∀ j, j < n + 1 → w.cell? ⟨g, j, none⟩ = some (.int .i64 (f j)) := by
  obtain ⟨g, k, rfl, hg, hl, _⟩ := own_there h
  refine ⟨g, k, rfl, hg, hl, fun j hj => ?_⟩
  have := h.cells (g := g) rfl j _ (intL_at f (n + 1) j hj)
  have e : (⟨g, 0, none⟩ : Addr).add j = ⟨g, j, none⟩ := by unfold Addr.add; split <;> simp_all
  rwa [e] at this
theorem gL_no {l : List UInt8} (h : lnn 1 1 l = none) : gL l = none := by unfold gL; rw [h]
theorem gL_yes {l : List UInt8} {xs : List Nat} (h : lnn 1 1 l = some xs) : gL l = some (nm l 0) ∧ xs.length = 1 := by
  have h1 := lnn_len h
  have h2 := lnn_nm h 0
  match xs, h1 with
  | [x], _ =>
    refine ⟨?_, rfl⟩
    unfold gL; rw [h, h2]; rfl
  | [], h1 => simp at h1
  | _ :: _ :: _, h1 => simp at h1

end Go.Proofs.YtbppdifghkkooaaDoor

namespace Go.Proofs.YtbppdifghkkooaaDoor
open Go Go.RowKit
set_option linter.unusedVariables false
set_option linter.unusedSimpArgs false

theorem gG_no {l : List UInt8} (h : lnn 3 3 l = none) : gG l = none := by unfold gG; rw [h]
theorem gG_yes {l : List UInt8} {xs : List Nat} (h : lnn 3 3 l = some xs) : gG l = some (nm l 0, nm l 1, nm l 2) ∧ xs.length = 3 := by
  have h1 := lnn_len h
  have h2 := lnn_nm h
  match xs, h1 with
  | [x, y, z], _ =>
    refine ⟨?_, rfl⟩
    unfold gG; rw [h, h2 0, h2 1, h2 2]; rfl
  | [], h1 => simp at h1
  | [_], h1 => simp at h1
  | [_, _], h1 => simp at h1
  | _ :: _ :: _ :: _ :: _, h1 => simp at h1
/-- what a reader of a line returns -/
def TriIs (g : Option (Nat × Nat × Nat)) (w : World) (e : Ending) (w' : World) : Prop :=
  e = .returned (.tuple #[.agg #[.int .i64 ((g.getD (0, 0, 0)).1 : Nat), .int .i64 ((g.getD (0, 0, 0)).2.1 : Nat), .int .i64 ((g.getD (0, 0, 0)).2.2 : Nat)], .bool g.isSome]) ∧ Below w.heap.size w w'
theorem set3_far {w : World} {r g j : Nat} {v : Value} (hne : r ≠ g) (u0 u1 u2 : Value) (h : w.cell? ⟨g, j, none⟩ = some v) : (((w.setCell ⟨r, 0, none⟩ u0).setCell ⟨r, 1, none⟩ u1).setCell ⟨r, 2, none⟩ u2).cell? ⟨g, j, none⟩ = some v := by
  have e : ∀ i : Nat, (⟨r, i, none⟩ : Addr) ≠ ⟨g, j, none⟩ := fun i h => hne (by injection h)
  rw [World.cell?_setCell_other _ _ _ _ (e 2), World.cell?_setCell_other _ _ _ _ (e 1), World.cell?_setCell_other _ _ _ _ (e 0)]
  exact h

end Go.Proofs.YtbppdifghkkooaaDoor

namespace Go.Proofs.YtbppdifghkkooaaDoor
open Go Go.RowKit
set_option linter.unusedVariables false
set_option linter.unusedSimpArgs false

theorem gT_no {l : List UInt8} (h : lnn 2 3 l = none) : gT l = none := by unfold gT; rw [h]
/-- the reset of a third number -/
def rsO (x z : Nat) : Option Nat := if z = 0 then some 0 else if z = 1 then some 1 else if z = x then some 2 else none
theorem gT_two {l : List UInt8} {xs : List Nat} (h : lnn 2 3 l = some xs) (h2 : xs.length = 2) : gT l = some (nm l 0, nm l 1, 0) := by
  have h3 := lnn_nm h
  match xs, h2 with
  | [x, y], _ => unfold gT; rw [h, h3 0, h3 1]; rfl
theorem gT_three {l : List UInt8} {xs : List Nat} (h : lnn 2 3 l = some xs) (h2 : xs.length = 3) : gT l = (rsO (nm l 0) (nm l 2)).map fun c => (nm l 0, nm l 1, c) := by
  have h3 := lnn_nm h
  match xs, h2 with
  | [x, y, z], _ =>
    unfold gT; rw [h, h3 0, h3 1, h3 2]
    show (if z = 0 then some (x, y, 0) else if z = 1 then some (x, y, 1) else if z = x then some (x, y, 2) else none) = (if z = 0 then some 0 else if z = 1 then some 1 else if z = x then some 2 else none).map fun c => (x, y, c)
    split
    · rfl
    · split
      · rfl
      · split <;> rfl

theorem rsO_0 {x z : Nat} (h : z = 0) : rsO x z = some 0 := if_pos h
theorem rsO_1 {x z : Nat} (h : z = 1) : rsO x z = some 1 := by subst h; rfl
theorem rsO_2 {x z : Nat} (h : ¬ z = 0) (h1 : ¬ z = 1) (h2 : z = x) : rsO x z = some 2 := by unfold rsO; rw [if_neg h, if_neg h1, if_pos h2]
theorem rsO_n {x z : Nat} (h : ¬ z = 0) (h1 : ¬ z = 1) (h2 : ¬ z = x) : rsO x z = none := by unfold rsO; rw [if_neg h, if_neg h1, if_neg h2]

end Go.Proofs.YtbppdifghkkooaaDoor
