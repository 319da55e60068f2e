/-
  A CRC-32 by plain mathematics: bit by bit, and by four bits.
-/
import Derived.Test.YteflhnmoceppgaaDoorStrs
namespace Go.Proofs.YteflhnmoceppgaaDoor
open Go.RowKit Go.PlainAid
/-- one bit that leaves -/
def bitF (c : Nat) : Nat := if c % 2 = 1 then (c >>> 1) ^^^ 3988292384 else c >>> 1
def bitN : Nat → Nat → Nat
  | 0, c => c
  | k + 1, c => bitN k (bitF c)
theorem bitF_xor (a b : Nat) : bitF (a ^^^ b) = bitF a ^^^ bitF b := by
  unfold bitF
  have hm := Nat.xor_mod_two_eq_one (a := a) (b := b)
  rw [Nat.shiftRight_xor_distrib]
  by_cases ha : a % 2 = 1
  · by_cases hb : b % 2 = 1
    · rw [if_neg (by rw [hm]; simp [ha, hb]), if_pos ha, if_pos hb]
      rw [Nat.xor_assoc, Nat.xor_comm 3988292384, Nat.xor_assoc, Nat.xor_self, Nat.xor_zero]
    · rw [if_pos (by rw [hm]; simp [ha, hb]), if_pos ha, if_neg hb]
      rw [Nat.xor_assoc, Nat.xor_comm _ 3988292384, ← Nat.xor_assoc]
  · by_cases hb : b % 2 = 1
    · rw [if_pos (by rw [hm]; simp [ha, hb]), if_neg ha, if_pos hb, Nat.xor_assoc]
    · rw [if_neg (by rw [hm]; simp [ha, hb]), if_neg ha, if_neg hb]
theorem bitN_xor (k : Nat) : ∀ a b : Nat, bitN k (a ^^^ b) = bitN k a ^^^ bitN k b := by
  induction k with
  | zero => intro a b; rfl
  | succ k ih => intro a b; show bitN k (bitF (a ^^^ b)) = _; rw [bitF_xor, ih]; rfl
theorem bitF_split (c : Nat) : bitF c = (c >>> 1) ^^^ bitF (c % 2) := by
  have : c % 2 = 0 ∨ c % 2 = 1 := by omega
  unfold bitF
  rcases this with h | h
  · rw [h, if_neg (by decide), if_neg (by decide)]; simp
  · rw [h, if_pos rfl, if_pos rfl]; simp
theorem bitN_split (k c : Nat) : bitN (k + 1) c = bitN k (c >>> 1) ^^^ bitN k (bitF (c % 2)) := by
  show bitN k (bitF c) = _
  rw [bitF_split, bitN_xor]
theorem bitN_add (j k c : Nat) : bitN (j + k) c = bitN k (bitN j c) := by
  induction j generalizing c with
  | zero => rw [Nat.zero_add]; rfl
  | succ j ih => rw [show j + 1 + k = (j + k) + 1 by omega]; show bitN (j + k) (bitF c) = bitN k (bitN j (bitF c)); rw [ih]
/-- what comes of the four bits that leave -/
def crcT : List Nat := [0, 498536548, 997073096, 651767980, 1994146192, 1802195444, 1303535960, 1342533948, 3988292384, 4027552580, 3604390888, 3412177804, 2607071920, 2262029012, 2685067896, 3183342108]
theorem nib_ok (c : Nat) : bitN 4 c = (c >>> 4) ^^^ crcT.getD (c % 16) 0 := by
  rw [bitN_split, bitN_split, bitN_split, bitN_split]
  have e : ∀ n, (n >>> 1) % 2 = n / 2 % 2 := fun n => by rw [Nat.shiftRight_eq_div_pow]
  have e4 : c >>> 1 >>> 1 >>> 1 >>> 1 = c >>> 4 := by rw [← Nat.shiftRight_add, ← Nat.shiftRight_add, ← Nat.shiftRight_add]
  have e0 : ∀ n, bitN 0 n = n := fun _ => rfl
  rw [e0, e4]
  have h1 : (c >>> 1) % 2 = c % 16 / 2 % 2 := by rw [e]; omega
  have h2 : (c >>> 1 >>> 1) % 2 = c % 16 / 4 % 2 := by rw [e, Nat.shiftRight_eq_div_pow]; omega
  have h3 : (c >>> 1 >>> 1 >>> 1) % 2 = c % 16 / 8 % 2 := by rw [e, Nat.shiftRight_eq_div_pow, Nat.shiftRight_eq_div_pow]; omega
  have h0 : c % 2 = c % 16 % 2 := by omega
  rw [h1, h2, h3, h0]
  have hlt : c % 16 < 16 := Nat.mod_lt _ (by decide)
  generalize c % 16 = r at *
  rw [Nat.xor_assoc, Nat.xor_assoc, Nat.xor_assoc]
  congr 1
  have key : ∀ r : Fin 16, bitN 0 (bitF (r.val / 8 % 2)) ^^^ (bitN 1 (bitF (r.val / 4 % 2)) ^^^ (bitN 2 (bitF (r.val / 2 % 2)) ^^^ bitN 3 (bitF (r.val % 2)))) = crcT.getD r.val 0 := by decide +kernel
  exact key ⟨r, hlt⟩
theorem crcT_lt (i : Nat) : crcT.getD i 0 < 4294967296 := by
  by_cases h : i < 16
  · have key : ∀ r : Fin 16, crcT.getD r.val 0 < 4294967296 := by decide
    exact key ⟨i, h⟩
  · rw [List.getD_eq_getElem?_getD, List.getElem?_eq_none (by show crcT.length ≤ i; have : crcT.length = 16 := rfl; omega)]; decide
theorem xor_lt32 {a b : Nat} (ha : a < 4294967296) (hb : b < 4294967296) : a ^^^ b < 4294967296 := Nat.xor_lt_two_pow (n := 32) ha hb
theorem bitF_lt {c : Nat} (h : c < 4294967296) : bitF c < 4294967296 := by
  unfold bitF
  have h2 : c >>> 1 < 4294967296 := by rw [Nat.shiftRight_eq_div_pow]; omega
  split
  · exact xor_lt32 h2 (by decide)
  · exact h2
theorem bitN_lt (k : Nat) : ∀ {c : Nat}, c < 4294967296 → bitN k c < 4294967296 := by
  induction k with
  | zero => intro c h; exact h
  | succ k ih => intro c h; exact ih (bitF_lt h)
/-- what a CRC is behind these bytes -/
def crcGo (c : Nat) (l : List UInt8) : Nat := l.foldl (fun c b => bitN 8 (c ^^^ b.toNat)) c
theorem crcGo_snoc (c : Nat) (l : List UInt8) (b : UInt8) : crcGo c (l ++ [b]) = bitN 8 (crcGo c l ^^^ b.toNat) := by simp [crcGo]
theorem crcGo_lt (l : List UInt8) : ∀ {c : Nat}, c < 4294967296 → crcGo c l < 4294967296 := by
  induction l with
  | nil => intro c h; exact h
  | cons b l ih => intro c h; exact ih (bitN_lt 8 (xor_lt32 h (by have := b.toNat_lt; omega)))
theorem byte_two (c : Nat) : bitN 8 c = bitN 4 (bitN 4 c) := bitN_add 4 4 c
def crcOf (l : List UInt8) : Nat := 4294967295 - crcGo 4294967295 l
theorem crcOf_lt (l : List UInt8) : crcOf l < 4294967296 := by unfold crcOf; omega
theorem take_crc (s : ByteArray) (j : Nat) (h : j < s.size) : crcGo 4294967295 ((bl s).take (j + 1)) = bitN 8 (crcGo 4294967295 ((bl s).take j) ^^^ (s[j]'h).toNat) := by
  have hl : j < (bl s).length := by rw [bl_length]; exact h
  rw [List.take_succ_eq_append_getElem hl, crcGo_snoc]
  rfl
end Go.Proofs.YteflhnmoceppgaaDoor
