/-
  Contracts of ReadHex, of the program and of the model.
-/
import Derived.Test.YteflhnmoceppgaaDoorWalks5
namespace Go.Proofs.YteflhnmoceppgaaDoor
open Go.RowKit Go.PlainAid

/-- whether a byte is a digit of sixteen, and what it is -/
def isD (c : Int) : Bool := decide (48 ≤ c ∧ c ≤ 57 ∨ 97 ≤ c ∧ c ≤ 102)
def dv (c : Int) : Int := if 48 ≤ c ∧ c ≤ 57 then c - 48 else if 97 ≤ c ∧ c ≤ 102 then c - 87 else 0
def sdig (c : Int) : Int := if isD c then dv c else -1
theorem dv_bd (c : Int) : 0 ≤ dv c ∧ dv c ≤ 15 := by unfold dv; (repeat' split) <;> omega
theorem sdig_yes {c : Int} (h : isD c = true) : sdig c = dv c := by unfold sdig; rw [if_pos h]
theorem sdig_no {c : Int} (h : isD c = false) : sdig c = -1 := by unfold sdig; rw [h]; rfl
theorem isD_iff (c : UInt8) : isD (c.toNat : Int) = true ↔ isHexd c := by unfold isD isHexd; simp; omega
theorem dv_eq (c : UInt8) : dv (c.toNat : Int) = (unhexd c : Int) := by unfold dv unhexd; (repeat' split) <;> omega
theorem or_4 {x y : Int} (h₀ : 0 ≤ x) (h₁ : x ≤ 15) (hy : 0 ≤ y) (hy₁ : y ≤ 15) : bits .or .u8 (x * 16) y = x * 16 + y :=
  bits_join .u8 8 (by decide) wraps_u8 4 (x * 16) y (by omega) (by omega) (by omega) hy (by omega) (by omega)

/-- whether bytes are digits, two for each byte -/
def hexy (l : List UInt8) : Bool := decide (l.length % 2 = 0 ∧ ∀ c ∈ l, isD (c.toNat : Int) = true)
def readHex (l : List UInt8) : List UInt8 := if hexy l then unhex l else []
theorem hexy_no_len {l : List UInt8} (h : l.length % 2 ≠ 0) : hexy l = false ∧ readHex l = [] := by
  have e : hexy l = false := by unfold hexy; simp; omega
  exact ⟨e, by unfold readHex; rw [e]; rfl⟩
theorem hexy_no_digit (s : ByteArray) (j : Nat) (hj : j < s.size) (h : isD (bt s j) = false) : hexy (bl s) = false ∧ readHex (bl s) = [] := by
  have hl := bl_length s
  have e : hexy (bl s) = false := by
    unfold hexy
    rw [decide_eq_false_iff_not]
    intro ⟨_, h2⟩
    have := h2 _ (List.getElem_mem (show j < (bl s).length by omega))
    rw [← bt_eq s j (by omega), h] at this
    cases this
  exact ⟨e, by unfold readHex; rw [e]; rfl⟩
theorem hexy_yes {l : List UInt8} (h : l.length % 2 = 0) (hd : ∀ c ∈ l, isD (c.toNat : Int) = true) : hexy l = true ∧ readHex l = unhex l := by
  have e : hexy l = true := by unfold hexy; rw [decide_eq_true_iff]; exact ⟨h, hd⟩
  exact ⟨e, by unfold readHex; rw [e]; rfl⟩
theorem unhex_take (s : ByteArray) (k : Nat) (h : 2 * k + 1 < s.size) : unhex ((bl s).take (2 * k)) ++ [UInt8.ofNat (16 * dv (bt s (2 * k)) + dv (bt s (2 * k + 1))).toNat] = unhex ((bl s).take (2 * (k + 1))) := by
  have hl := bl_length s
  have e1 := bt_eq s (2 * k) (by omega)
  have e2 := bt_eq s (2 * k + 1) (by omega)
  rw [show 2 * (k + 1) = 2 * k + 1 + 1 by omega, List.take_succ_eq_append_getElem (by omega), List.take_succ_eq_append_getElem (by omega), List.append_assoc, unhex_append _ _ (by rw [List.length_take]; omega), e1, e2, dv_eq, dv_eq]
  simp only [List.cons_append, List.nil_append, unhex]
  congr 3
theorem digits_take (s : ByteArray) (k : Nat) (h : 2 * k + 1 < s.size) (h0 : ∀ c ∈ (bl s).take (2 * k), isD (c.toNat : Int) = true) (h1 : isD (bt s (2 * k)) = true) (h2 : isD (bt s (2 * k + 1)) = true) : ∀ c ∈ (bl s).take (2 * (k + 1)), isD (c.toNat : Int) = true := by
  have hl := bl_length s
  rw [show 2 * (k + 1) = 2 * k + 1 + 1 by omega, List.take_succ_eq_append_getElem (by omega), List.take_succ_eq_append_getElem (by omega)]
  intro c hc
  simp only [List.mem_append, List.mem_cons, List.not_mem_nil, or_false] at hc
  rcases hc with (hc | rfl) | rfl
  · exact h0 c hc
  · rw [← bt_eq]; exact h1
  · rw [← bt_eq]; exact h2
theorem unhex_take_len (s : ByteArray) (k : Nat) (hs : s.size ≤ 1099511627776) : (unhex ((bl s).take (2 * k))).length ≤ 70368744177664 := by
  rw [unhex_length, List.length_take, bl_length]; omega
theorem ret_sb {a b : List UInt8} {c d : Bool} (h : a = b) (h' : c = d) : Ending.returned (.tuple #[.string (str a), .bool c]) = .returned (.tuple #[.string (str b), .bool d]) := by rw [h, h']

end Go.Proofs.YteflhnmoceppgaaDoor
