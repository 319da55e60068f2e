/-
  Contracts of the sums of the internet, of the program and of the model.
-/
import Derived.Test.YteflhnmoceppgaaDoorWalks3
namespace Go.Proofs.YteflhnmoceppgaaDoor
open Go.RowKit Go.PlainAid
theorem ret_i64 {a b : Int} (h : a = b) : Ending.returned (.int .i64 a) = .returned (.int .i64 b) := by rw [h]
theorem ret_bool {a b : Bool} (h : a = b) : Ending.returned (.bool a) = .returned (.bool b) := by rw [h]

theorem psum_take1 (s : ByteArray) (k : Nat) (h : k < s.size) (h2 : k % 2 = 0) : psum ((bl s).take (k + 1)) = psum ((bl s).take k) + bt s k * 256 := by
  have hl := bl_length s
  rw [List.take_succ_eq_append_getElem (by omega), psum_snoc, bt_eq _ _ (by omega), if_pos (by rw [List.length_take]; omega)]
theorem psum_take1' (s : ByteArray) (k : Nat) (h : k < s.size) (h2 : k % 2 = 1) : psum ((bl s).take (k + 1)) = psum ((bl s).take k) + bt s k := by
  have hl := bl_length s
  rw [List.take_succ_eq_append_getElem (by omega), psum_snoc, bt_eq _ _ (by omega), if_neg (by rw [List.length_take]; omega)]
theorem psum_take2 (s : ByteArray) (k : Nat) (h : k < s.size) (h2 : k % 2 = 0) : psum ((bl s).take (k + 2)) = psum ((bl s).take k) + (bt s k * 256 + bt s (k + 1)) := by
  have hl := bl_length s
  by_cases h3 : k + 1 < s.size
  · have e1 := psum_take1' s (k + 1) h3 (by omega)
    have e0 := psum_take1 s k h h2
    rw [show k + 2 = k + 1 + 1 from rfl, e1, e0]; omega
  · have e0 := psum_take1 s k h h2
    have t : (bl s).take (k + 2) = (bl s).take (k + 1) := by rw [List.take_of_length_le (by omega), List.take_of_length_le (by omega)]
    rw [t, e0, bt_end s (show s.size ≤ k + 1 by omega)]; omega
theorem psum_take_bd (s : ByteArray) (k : Nat) (h : s.size ≤ 1099511627776) : 0 ≤ psum ((bl s).take k) ∧ psum ((bl s).take k) ≤ 72056494526300160 := by
  have h1 := psum_nonneg ((bl s).take k)
  have h2 := psum_le ((bl s).take k)
  have h3 : ((bl s).take k).length ≤ s.size := by rw [List.length_take, bl_length]; omega
  omega

/-- a sum that is fixed -/
def sumFix (a b c : Int) : Int := if inB a 0 65535 && inB b 0 65535 && inB c 0 65535 then 65535 - fold16 (65535 - a + (65535 - b) + c) else -1
theorem sumFix_ok {a b c : Int} (h1 : inB a 0 65535 = true) (h2 : inB b 0 65535 = true) (h3 : inB c 0 65535 = true) : sumFix a b c = 65535 - fold16 (65535 - a + (65535 - b) + c) := by
  unfold sumFix; rw [h1, h2, h3]; rfl
theorem sumFix_no {a b c : Int} (h : inB a 0 65535 = false ∨ inB b 0 65535 = false ∨ inB c 0 65535 = false) : sumFix a b c = -1 := by
  unfold sumFix; rcases h with h | h | h <;> rw [h] <;> simp
theorem of_inB {n lo hi : Int} (h : inB n lo hi = true) : lo ≤ n ∧ n ≤ hi := by unfold inB at h; simpa using h

end Go.Proofs.YteflhnmoceppgaaDoor
