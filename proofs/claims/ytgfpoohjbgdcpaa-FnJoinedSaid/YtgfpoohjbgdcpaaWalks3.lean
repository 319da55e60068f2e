/-
  Contracts of NumAt, of the program and of the model: the number that stands in k bytes of s from a place on.
-/
import Derived.Test.YtgfpoohjbgdcpaaWalks2
import Derived.PlainAid
namespace Go.Proofs.Ytgfpoohjbgdcpaa
open Go.RowKit Go.PlainAid
/-- a string's bytes -/
abbrev bl (s : ByteArray) : List UInt8 := s.data.toList
theorem bl_length (s : ByteArray) : (bl s).length = s.size := by rw [Array.length_toList]; rfl
theorem ipow_le {m n : Nat} (h : m ≤ n) : (256 : Int) ^ m ≤ 256 ^ n := by
  have := Nat.pow_le_pow_right (n := 256) (by decide) h
  have e : ∀ a : Nat, (256 : Int) ^ a = ((256 ^ a : Nat) : Int) := fun a => (Int.natCast_pow 256 a).symm
  rw [e, e]; exact Int.ofNat_le.2 this
theorem bt_eq (s : ByteArray) (k : Nat) (h : k < (bl s).length) : bt s k = ((bl s)[k].toNat : Int) := by
  have h' : k < s.size := by rw [bl_length] at h; exact h
  exact (get_bt s k h').symm
theorem num_take_succ (s : ByteArray) (A j : Nat) (h : A + j < s.size) : num (((bl s).drop A).take (j + 1)) = num (((bl s).drop A).take j) * 256 + bt s (A + j) := by
  rw [List.take_succ_eq_append_getElem (by rw [List.length_drop, bl_length]; omega), num_snoc, bt_eq _ _ (by rw [bl_length]; omega), List.getElem_drop]
theorem num_take_bd (l : List UInt8) (j : Nat) (h : j ≤ 7) : 0 ≤ num (l.take j) ∧ num (l.take j) ≤ 72057594037927935 := by
  have := num_bounds (l.take j)
  have h2 : (l.take j).length ≤ 7 := by rw [List.length_take]; omega
  have h3 : (256 : Int) ^ (l.take j).length ≤ 256 ^ 7 := ipow_le h2
  have h4 : (256 : Int) ^ 7 = 72057594037927936 := by decide
  omega
theorem num_take_bd6 (l : List UInt8) (j : Nat) (h : j ≤ 6) : 0 ≤ num (l.take j) ∧ num (l.take j) ≤ 281474976710655 := by
  have := num_bounds (l.take j)
  have h2 : (l.take j).length ≤ 6 := by rw [List.length_take]; omega
  have h3 : (256 : Int) ^ (l.take j).length ≤ 256 ^ 6 := ipow_le h2
  have h4 : (256 : Int) ^ 6 = 281474976710656 := by decide
  omega

/-- whether k bytes from a place on are all there, and k may be -/
def okN (s : ByteArray) (at_ k : Int) : Bool := decide (1 ≤ k ∧ k ≤ 7 ∧ 0 ≤ at_ ∧ at_ + k ≤ s.size)
def numAt (s : ByteArray) (at_ k : Int) : Int := if okN s at_ k then num (((bl s).drop at_.toNat).take k.toNat) else 0
theorem okN_true {s : ByteArray} {at_ k : Int} (h : 1 ≤ k ∧ k ≤ 7 ∧ 0 ≤ at_ ∧ at_ + k ≤ s.size) : okN s at_ k = true ∧ numAt s at_ k = num (((bl s).drop at_.toNat).take k.toNat) := by
  have e : okN s at_ k = true := by unfold okN; simpa using h
  exact ⟨e, by unfold numAt; rw [if_pos e]⟩
theorem okN_false {s : ByteArray} {at_ k : Int} (h : ¬ (1 ≤ k ∧ k ≤ 7 ∧ 0 ≤ at_ ∧ at_ + k ≤ s.size)) : okN s at_ k = false ∧ numAt s at_ k = 0 := by
  have e : okN s at_ k = false := by unfold okN; simpa using h
  exact ⟨e, by unfold numAt; rw [e]; rfl⟩

theorem ret_pair {k : IntKind} {a b : Int} {c d : Bool} (h : a = b) (h' : c = d) : Ending.returned (.tuple #[.int k a, .bool c]) = .returned (.tuple #[.int k b, .bool d]) := by rw [h, h']

end Go.Proofs.Ytgfpoohjbgdcpaa
