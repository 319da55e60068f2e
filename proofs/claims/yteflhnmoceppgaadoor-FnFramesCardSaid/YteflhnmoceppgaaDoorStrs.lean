/-
  Strings as lists of bytes: concatenation and parts.
-/
import Derived.Test.YteflhnmoceppgaaDoorWalks3
import Derived.Laws.Strings
namespace Go.Proofs.YteflhnmoceppgaaDoor
open Go.RowKit Go.PlainAid
theorem str_size (l : List UInt8) : (str l).size = l.length := by simp [ByteArray.size]
theorem bl_str (l : List UInt8) : bl (str l) = l := rfl
theorem str_app (a b : List UInt8) : str a ++ str b = str (a ++ b) := by
  apply ByteArray.ext; simp
theorem str_bl (s : ByteArray) : str (bl s) = s := by
  apply ByteArray.ext; simp

theorem str_extract (l : List UInt8) (a b : Nat) : (str l).extract a b = str ((l.drop a).take (b - a)) := by
  apply ByteArray.ext
  rw [ByteArray.data_extract]
  exact List.extract_toArray
theorem bytesOf_2 {n : Int} (h0 : 0 ≤ n) (h1 : n ≤ 65535) : bytesOf n 2 = be 2 n := okB_of (by omega) (by omega) h0 (by simp; omega)

theorem str_ne {T s : ByteArray} (h : ¬ T = s) : (T.toList == s.toList) = false := by
  refine beq_eq_false_iff_ne.2 fun e => h (ByteArray.ext ?_)
  rw [ByteArray.toList_eq, ByteArray.toList_eq] at e
  exact Array.toList_inj.1 e
def strLen : Value → Nat
  | .string t => t.size
  | _ => 0
end Go.Proofs.YteflhnmoceppgaaDoor
