/-
  Contracts of HexOf and ReadHex, of the program and of the model.
-/
import Derived.Test.YteflhnmoceppgaaDoorWalks4
namespace Go.Proofs.YteflhnmoceppgaaDoor
open Go.RowKit Go.PlainAid

/-- the digits -/
abbrev digs : ByteArray := ⟨#[48, 49, 50, 51, 52, 53, 54, 55, 56, 57, 97, 98, 99, 100, 101, 102]⟩
theorem bt_digs (n : Nat) (h : n < 16) : bt digs n = ((hexd n).toNat : Int) := by
  have : n = 0 ∨ n = 1 ∨ n = 2 ∨ n = 3 ∨ n = 4 ∨ n = 5 ∨ n = 6 ∨ n = 7 ∨ n = 8 ∨ n = 9 ∨ n = 10 ∨ n = 11 ∨ n = 12 ∨ n = 13 ∨ n = 14 ∨ n = 15 := by omega
  rcases this with rfl | rfl | rfl | rfl | rfl | rfl | rfl | rfl | rfl | rfl | rfl | rfl | rfl | rfl | rfl | rfl <;> rfl
theorem hexOf_take (s : ByteArray) (k : Nat) (h : k < s.size) : hexOf ((bl s).take k) ++ [UInt8.ofNat (bt digs (bt s k / 16).toNat).toNat, UInt8.ofNat (bt digs (bt s k % 16).toNat).toNat] = hexOf ((bl s).take (k + 1)) := by
  have hl := bl_length s
  have e := bt_eq s k (by omega)
  have hc := (bl s)[k].toNat_lt
  rw [List.take_succ_eq_append_getElem (by omega), hexOf_append, e]
  have h1 : (((bl s)[k].toNat : Int) / 16).toNat = (bl s)[k].toNat / 16 := by omega
  have h2 : (((bl s)[k].toNat : Int) % 16).toNat = (bl s)[k].toNat % 16 := by omega
  rw [h1, h2, bt_digs _ (by omega), bt_digs _ (by omega)]
  simp [hexOf]

end Go.Proofs.YteflhnmoceppgaaDoor
