/- Strings as lists of bytes: adding, a byte, the length, cuts. -/
import Derived.Test.YtbppdifghkkooaaDoorLitsCore
import Derived.Laws.DeepStrings4
namespace Go.Proofs.YtbppdifghkkooaaDoor
open Go Go.RowKit
set_option linter.unusedVariables false
set_option linter.unusedSimpArgs false

/-- bytes as a string -/
def str (l : List UInt8) : ByteArray := ⟨l.toArray⟩
theorem str_size (l : List UInt8) : (str l).size = l.length := by simp [str, ByteArray.size]
theorem str_list (l : List UInt8) : (str l).toList = l := by unfold str; simp
theorem str_app (l m : List UInt8) : str l ++ str m = str (l ++ m) := by
  unfold str
  show (⟨l.toArray⟩ : ByteArray) ++ ⟨m.toArray⟩ = _
  ext1
  simp
theorem str_add {l m : List UInt8} (h : l.length + m.length ≤ 10000000) (w : World) : (Op.stringOp .add (str l) (str m)).run Tryd.prog w = .ok (.string (str (l ++ m))) w := by
  rw [run_string_add_sum w _ _ (by rw [str_size, str_size]; omega), str_app]
theorem str_idx {T : TypeId} (hT : Tryd.prog.underlying T = some .string) (l : List UInt8) {x : Int} {j : Nat} (hx : x = (j : Int)) (hj : j < l.length) (W : World) :
    (Instr.index T (.string (str l)) (.int .i64 x)).run Tryd.prog W = .ok (.int .u8 ((l.getD j 0).toNat : Int)) W := by
  subst hx
  rw [run_index_string W T (str l) .i64 (j : Int) hT, dif_pos (by rw [str_size]; omega)]
  have e : (str l)[(j : Int).toNat]'(by rw [str_size]; omega) = l.getD j 0 := by
    rw [List.getD_eq_getElem?_getD, List.getElem?_eq_getElem hj]
    show (str l).data[(j : Int).toNat]'_ = _
    simp [str]
  rw [e]
theorem str_len {T u : TypeId} (hT : Tryd.prog.underlying T = some .string) (l : List UInt8) (W : World) : (Builtin.len_ #[T] u #[.string (str l)]).run Tryd.prog W = .ok (.int .i64 (l.length : Int)) W := by
  rw [run_len_string W T u (str l) hT, str_size, goInt]
theorem str_ex (l : List UInt8) (a b : Nat) : (str l).extract a b = str ((l.drop a).take (b - a)) := by
  unfold str
  ext1
  simp [ByteArray.extract, ByteArray.copySlice, List.extract_toArray]
theorem str_to {T : TypeId} (hT : Tryd.prog.underlying T = some .string) (l : List UInt8) {x : Int} {j : Nat} (hx : x = (j : Int)) (hj : j ≤ l.length) (W : World) :
    (Instr.slice T (.string (str l)) none (some (.int .i64 x)) none).run Tryd.prog W = .ok (.string (str (l.take j))) W := by
  subst hx
  rw [run_slice_string_to_if W T (str l) .i64 (j : Int) hT, if_pos (by rw [str_size]; omega), str_ex, Int.toNat_natCast, List.drop_zero, Nat.sub_zero]
theorem str_from {T : TypeId} (hT : Tryd.prog.underlying T = some .string) (l : List UInt8) {x : Int} {j : Nat} (hx : x = (j : Int)) (hj : j ≤ l.length) (W : World) :
    (Instr.slice T (.string (str l)) (some (.int .i64 x)) none none).run Tryd.prog W = .ok (.string (str (l.drop j))) W := by
  subst hx
  rw [run_slice_string_from_if W T (str l) .i64 (j : Int) hT, if_pos (by rw [str_size]; omega), str_size, str_ex, Int.toNat_natCast, List.take_of_length_le (by simp)]
theorem str_mid {T : TypeId} (hT : Tryd.prog.underlying T = some .string) (l : List UInt8) {x y : Int} {i j : Nat} (hx : x = (i : Int)) (hy : y = (j : Int)) (hi : i ≤ j) (hj : j ≤ l.length) (W : World) :
    (Instr.slice T (.string (str l)) (some (.int .i64 x)) (some (.int .i64 y)) none).run Tryd.prog W = .ok (.string (str ((l.drop i).take (j - i)))) W := by
  subst hx hy
  rw [run_slice_string_if W T (str l) .i64 .i64 (i : Int) (j : Int) hT, if_pos (by rw [str_size]; omega), if_pos (by omega), str_ex, Int.toNat_natCast, Int.toNat_natCast]

end Go.Proofs.YtbppdifghkkooaaDoor
