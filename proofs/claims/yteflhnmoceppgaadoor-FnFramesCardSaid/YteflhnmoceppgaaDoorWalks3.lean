/-
  Contracts of NumAt, of the program and of the model: the number that stands in k bytes of s from a place on.
-/
import Derived.Test.YteflhnmoceppgaaDoorWalks2
import Derived.PlainAid
namespace Go.Proofs.YteflhnmoceppgaaDoor
open Go.RowKit Go.PlainAid
/-- a string's bytes -/
abbrev bl (s : ByteArray) : List UInt8 := s.data.toList
theorem bl_length (s : ByteArray) : (bl s).length = s.size := by rw [Array.length_toList]; rfl
theorem ipow_le {m n : Nat} (h : m ≤ n) : (256 : Int) ^ m ≤ 256 ^ n := by
  have := Nat.pow_le_pow_right (n := 256) (by decide) h
  have e : ∀ a : Nat, (256 : Int) ^ a = ((256 ^ a : Nat) : Int) := fun a => (Int.natCast_pow 256 a).symm
  rw [e, e]; exact Int.ofNat_le.2 this
theorem bt_eq (s : ByteArray) (k : Nat) (h : k < (bl s).length) : bt s k = ((bl s)[k].toNat : Int) := by
  have h' : k < s.size := by rw [bl_length] at h; exact h
  exact (get_bt s k h').symm
theorem num_take_succ (s : ByteArray) (A j : Nat) (h : A + j < s.size) : num (((bl s).drop A).take (j + 1)) = num (((bl s).drop A).take j) * 256 + bt s (A + j) := by
  rw [List.take_succ_eq_append_getElem (by rw [List.length_drop, bl_length]; omega), num_snoc, bt_eq _ _ (by rw [bl_length]; omega), List.getElem_drop]
theorem num_take_bd (l : List UInt8) (j : Nat) (h : j ≤ 7) : 0 ≤ num (l.take j) ∧ num (l.take j) ≤ 72057594037927935 := by
  have := num_bounds (l.take j)
  have h2 : (l.take j).length ≤ 7 := by rw [List.length_take]; omega
  have h3 : (256 : Int) ^ (l.take j).length ≤ 256 ^ 7 := ipow_le h2
  have h4 : (256 : Int) ^ 7 = 72057594037927936 := by decide
  omega
theorem num_take_bd6 (l : List UInt8) (j : Nat) (h : j ≤ 6) : 0 ≤ num (l.take j) ∧ num (l.take j) ≤ 281474976710655 := by
  have := num_bounds (l.take j)
  have h2 : (l.take j).length ≤ 6 := by rw [List.length_take]; omega
  have h3 : (256 : Int) ^ (l.take j).length ≤ 256 ^ 6 := ipow_le h2
  have h4 : (256 : Int) ^ 6 = 281474976710656 := by decide
  omega

/-- whether k bytes from a place on are all there, and k may be -/
def okN (s : ByteArray) (at_ k : Int) : Bool := decide (1 ≤ k ∧ k ≤ 7 ∧ 0 ≤ at_ ∧ at_ + k ≤ s.size)
def numAt (s : ByteArray) (at_ k : Int) : Int := if okN s at_ k then num (((bl s).drop at_.toNat).take k.toNat) else 0
theorem okN_true {s : ByteArray} {at_ k : Int} (h : 1 ≤ k ∧ k ≤ 7 ∧ 0 ≤ at_ ∧ at_ + k ≤ s.size) : okN s at_ k = true ∧ numAt s at_ k = num (((bl s).drop at_.toNat).take k.toNat) := by
  have e : okN s at_ k = true := by unfold okN; simpa using h
  exact ⟨e, by unfold numAt; rw [if_pos e]⟩
theorem okN_false {s : ByteArray} {at_ k : Int} (h : ¬ (1 ≤ k ∧ k ≤ 7 ∧ 0 ≤ at_ ∧ at_ + k ≤ s.size)) : okN s at_ k = false ∧ numAt s at_ k = 0 := by
  have e : okN s at_ k = false := by unfold okN; simpa using h
  exact ⟨e, by unfold numAt; rw [e]; rfl⟩

theorem ret_pair {k : IntKind} {a b : Int} {c d : Bool} (h : a = b) (h' : c = d) : Ending.returned (.tuple #[.int k a, .bool c]) = .returned (.tuple #[.int k b, .bool d]) := by rw [h, h']

set_option maxRecDepth 100000 in
set_option maxHeartbeats 1000000 in
theorem i_NumAt (s : ByteArray) (at_ k : Int) (w : World) (hs : s.size ≤ maxLen) :
    Calls Tryd.prog 31 #[.string s, .int .i64 at_, .int .i64 k] w fun e w' => e = .returned (.tuple #[.int .i64 (numAt s at_ k), .bool (okN s at_ k)]) ∧ w' = w := by
  unfold maxLen at hs
  by_cases hk : 1 ≤ k ∧ k ≤ 7
  · obtain ⟨hk1, hk2⟩ := hk
    by_cases h0 : 0 ≤ at_
    · by_cases hin : at_ ≤ s.size - k
      · have He : Hid (okN s at_ k = true ∧ numAt s at_ k = num (((bl s).drop at_.toNat).take k.toNat)) := okN_true ⟨hk1, hk2, h0, by omega⟩
        obtain ⟨K, rfl⟩ := Int.eq_ofNat_of_zero_le (show 0 ≤ k by omega)
        obtain ⟨A, rfl⟩ := Int.eq_ofNat_of_zero_le h0
        rw [Int.toNat_natCast, Int.toNat_natCast] at He
        go_enter Tryd.func31, Tryd.ntmps31
        go_wp2
        go_loop [8, 9] (fun n i => ∃ j : Nat, j ≤ K ∧ i = .int .i64 ((A : Int) + (j : Int)) ∧ n = .int .i64 (num (((bl s).drop A).take j))) (fun _ i => ((A : Int) + (K : Int) - intOf i).toNat)
        case atStart => exact ⟨0, by omega, by go_num, rfl⟩
        case round =>
          obtain ⟨j, hj, rfl, rfl⟩ := hrel
          by_cases hlt : j < K
          · have HS : Hid (num (((bl s).drop A).take (j + 1)) = num (((bl s).drop A).take j) * 256 + bt s (A + j)) := num_take_succ s A j (by omega)
            obtain ⟨hb1, hb2⟩ := num_take_bd6 ((bl s).drop A) j (by omega)
            obtain ⟨X, hX⟩ : ∃ X, X = num (((bl s).drop A).take j) := ⟨_, rfl⟩
            rw [← hX] at hb1 hb2 HS ⊢
            have hbt := get_bt s
            have hc0 := bt_nonneg s (A + j)
            have hc1 := bt_le s (A + j)
            have hor := or_8 hb1 (by omega) hc0 (by omega)
            clear hX
            go_wp2
            go_round
            case rel => exact ⟨j + 1, by omega, by go_num, by rw [HS.out]⟩
            case measure => simp [intOf]; omega
          · have hjK : j = K := by omega
            subst hjK
            go_wp2
            go_ret2
            exact ⟨ret_pair He.out.2.symm He.out.1.symm, rfl⟩
      · have He : Hid (okN s at_ k = false ∧ numAt s at_ k = 0) := okN_false (by omega)
        have hin' : (s.size : Int) - k < at_ := by omega
        clear hin
        go_enter Tryd.func31, Tryd.ntmps31
        go_wp2
        go_ret2
        exact ⟨ret_pair He.out.2.symm He.out.1.symm, rfl⟩
    · have He : Hid (okN s at_ k = false ∧ numAt s at_ k = 0) := okN_false (by omega)
      have h0' : at_ < 0 := by omega
      clear h0
      go_enter Tryd.func31, Tryd.ntmps31
      go_wp2
      go_ret2
      exact ⟨ret_pair He.out.2.symm He.out.1.symm, rfl⟩
  · have He : Hid (okN s at_ k = false ∧ numAt s at_ k = 0) := okN_false (by omega)
    have hk' : k < 1 ∨ 7 < k := by omega
    clear hk
    rcases hk' with hk | hk
    all_goals
      go_enter Tryd.func31, Tryd.ntmps31
      go_wp2
      go_ret2
      exact ⟨ret_pair He.out.2.symm He.out.1.symm, rfl⟩
end Go.Proofs.YteflhnmoceppgaaDoor
