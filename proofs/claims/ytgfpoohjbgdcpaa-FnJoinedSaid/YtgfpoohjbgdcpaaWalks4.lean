/-
  Contracts of the sums of the internet, of the program and of the model.
-/
import Derived.Test.YtgfpoohjbgdcpaaWalks3
namespace Go.Proofs.Ytgfpoohjbgdcpaa
open Go.RowKit Go.PlainAid
theorem ret_i64 {a b : Int} (h : a = b) : Ending.returned (.int .i64 a) = .returned (.int .i64 b) := by rw [h]
theorem ret_bool {a b : Bool} (h : a = b) : Ending.returned (.bool a) = .returned (.bool b) := by rw [h]

set_option maxRecDepth 100000 in
set_option maxHeartbeats 400000 in
theorem i_folded (n : Int) (w : World) (h0 : 0 ≤ n) (h1 : n ≤ 4611686018427387904) :
    Calls Try.prog 66 #[.int .i64 n] w fun e w' => e = .returned (.int .i64 (fold16 n)) ∧ w' = w := by
  go_enter Try.func66, Try.ntmps66
  go_wp2
  go_loop [0] (fun v => ∃ m : Int, 0 ≤ m ∧ m ≤ 4611686018427387904 ∧ v = .int .i64 m ∧ Hid (fold16 m = fold16 n)) (fun v => (intOf v).toNat)
  case atStart => exact ⟨n, h0, h1, rfl, rfl⟩
  case round =>
    obtain ⟨m, hm0, hm1, rfl, hm⟩ := hrel
    by_cases hlt : 65535 < m
    · have ha := and_65535 hm0 (by omega)
      have HF : Hid (fold16 (m / 65536 + m % 65536) = fold16 m) := fold16_step hlt
      go_wp2
      go_round
      case rel => exact ⟨_, by omega, by omega, rfl, HF.out.trans hm.out⟩
      case measure => simp [intOf]; omega
    · have HF : Hid (fold16 m = m) := fold16_small hm0 (by omega)
      go_wp2
      go_ret
      exact ⟨ret_i64 (HF.out.symm.trans hm.out), rfl⟩

theorem i_turned (n : Int) (w : World) (h0 : 0 ≤ n) (h1 : n ≤ 65535) :
    Calls Try.prog 68 #[.int .i64 n] w fun e w' => e = .returned (.int .i64 (65535 - n)) ∧ w' = w := by
  have hx := xor_65535 h0 h1
  go_enter Try.func68, Try.ntmps68
  go_wp2
  go_ret
  exact ⟨rfl, rfl⟩

theorem i_isPair (n : Int) (w : World) : Calls Try.prog 43 #[.int .i64 n] w fun e w' => e = .returned (.bool (inB n 0 65535)) ∧ w' = w := by
  by_cases h1 : 0 ≤ n
  · by_cases h2 : n ≤ 65535
    all_goals
      go_enter Try.func43, Try.ntmps43
      go_wp2
      go_ret
      exact ⟨by simp [h1, h2, inB], rfl⟩
  · go_enter Try.func43, Try.ntmps43
    go_wp2
    go_ret
    exact ⟨by simp [inB]; omega, rfl⟩

theorem psum_take1 (s : ByteArray) (k : Nat) (h : k < s.size) (h2 : k % 2 = 0) : psum ((bl s).take (k + 1)) = psum ((bl s).take k) + bt s k * 256 := by
  have hl := bl_length s
  rw [List.take_succ_eq_append_getElem (by omega), psum_snoc, bt_eq _ _ (by omega), if_pos (by rw [List.length_take]; omega)]
theorem psum_take1' (s : ByteArray) (k : Nat) (h : k < s.size) (h2 : k % 2 = 1) : psum ((bl s).take (k + 1)) = psum ((bl s).take k) + bt s k := by
  have hl := bl_length s
  rw [List.take_succ_eq_append_getElem (by omega), psum_snoc, bt_eq _ _ (by omega), if_neg (by rw [List.length_take]; omega)]
theorem psum_take2 (s : ByteArray) (k : Nat) (h : k < s.size) (h2 : k % 2 = 0) : psum ((bl s).take (k + 2)) = psum ((bl s).take k) + (bt s k * 256 + bt s (k + 1)) := by
  have hl := bl_length s
  by_cases h3 : k + 1 < s.size
  · have e1 := psum_take1' s (k + 1) h3 (by omega)
    have e0 := psum_take1 s k h h2
    rw [show k + 2 = k + 1 + 1 from rfl, e1, e0]; omega
  · have e0 := psum_take1 s k h h2
    have t : (bl s).take (k + 2) = (bl s).take (k + 1) := by rw [List.take_of_length_le (by omega), List.take_of_length_le (by omega)]
    rw [t, e0, bt_end s (show s.size ≤ k + 1 by omega)]; omega
theorem psum_take_bd (s : ByteArray) (k : Nat) (h : s.size ≤ 1099511627776) : 0 ≤ psum ((bl s).take k) ∧ psum ((bl s).take k) ≤ 72056494526300160 := by
  have h1 := psum_nonneg ((bl s).take k)
  have h2 := psum_le ((bl s).take k)
  have h3 : ((bl s).take k).length ≤ s.size := by rw [List.length_take, bl_length]; omega
  omega

set_option maxRecDepth 100000 in
theorem i_pairAt (s : ByteArray) (k : Nat) (w : World) (hs : s.size ≤ 1099511627776) (hk : k < s.size) :
    Calls Try.prog 67 #[.string s, .int .i64 (k : Int)] w fun e w' => e = .returned (.int .i64 (bt s k * 256 + bt s (k + 1))) ∧ w' = w := by
  have hbt := get_bt s
  have hc0 := bt_nonneg s k
  have hc1 := bt_le s k
  have hd0 := bt_nonneg s (k + 1)
  have hd1 := bt_le s (k + 1)
  by_cases h1 : k + 1 < s.size
  · have hor := or_8 hc0 (by omega) hd0 (by omega)
    go_enter Try.func67, Try.ntmps67
    go_wp2
    go_ret
    exact ⟨rfl, rfl⟩
  · have He : Hid (bt s (k + 1) = 0) := bt_end s (by omega)
    go_enter Try.func67, Try.ntmps67
    go_wp2
    go_ret
    exact ⟨ret_i64 (by rw [He.out]; simp), rfl⟩

set_option maxRecDepth 100000 in
set_option maxHeartbeats 400000 in
theorem i_SumOf (s : ByteArray) (w : World) (hs : s.size ≤ 1099511627776) :
    Calls Try.prog 41 #[.string s] w fun e w' => e = .returned (.int .i64 (sumOf (bl s))) ∧ w' = w := by
  go_enter Try.func41, Try.ntmps41
  go_wp2
  go_loop [3, 4] (fun n i => ∃ k : Nat, k ≤ s.size + 1 ∧ k % 2 = 0 ∧ i = .int .i64 (k : Int) ∧ n = .int .i64 (fold16 (psum ((bl s).take k)))) (fun _ i => ((s.size : Int) + 2 - intOf i).toNat)
  case atStart => exact ⟨0, by omega, rfl, rfl, rfl⟩
  case round =>
    obtain ⟨k, hk, hk2, rfl, rfl⟩ := hrel
    obtain ⟨hf0, hf1⟩ := fold16_bd (psum ((bl s).take k))
    by_cases hlt : k < s.size
    · have hc0 := bt_nonneg s k
      have hc1 := bt_le s k
      have hd0 := bt_nonneg s (k + 1)
      have hd1 := bt_le s (k + 1)
      have HS : Hid (fold16 (fold16 (psum ((bl s).take k)) + (bt s k * 256 + bt s (k + 1))) = fold16 (psum ((bl s).take (k + 2)))) := by
        show _ = _
        rw [psum_take2 s k hlt hk2, fold16_add (psum_take_bd s k hs).1 (by omega)]
      obtain ⟨X, hX⟩ : ∃ X, X = fold16 (psum ((bl s).take k)) := ⟨_, rfl⟩
      rw [← hX] at hf0 hf1 HS ⊢
      clear hX
      have hk2' : Hid (k % 2 = 0) := hk2
      clear hk2
      go_wp2_with (first | (go_at_call 67; refine (i_pairAt _ _ _ hs hlt).mono ?_; rintro e w' ⟨rfl, rfl⟩) | (go_at_call 66; refine (i_folded _ _ (by omega) (by omega)).mono ?_; rintro e w' ⟨rfl, rfl⟩))
      go_round
      case rel => exact ⟨k + 2, by omega, by have := hk2'.out; omega, by go_num, by rw [HS.out]⟩
      case measure => simp [intOf]; omega
    · have hT : (bl s).take k = bl s := List.take_of_length_le (by rw [bl_length]; omega)
      rw [hT] at hf0 hf1 ⊢
      clear hT hk2
      go_wp2_with (go_at_call 68; refine (i_turned _ _ hf0 hf1).mono ?_; rintro e w' ⟨rfl, rfl⟩)
      go_ret
      exact ⟨rfl, rfl⟩

/-- a sum that is fixed -/
def sumFix (a b c : Int) : Int := if inB a 0 65535 && inB b 0 65535 && inB c 0 65535 then 65535 - fold16 (65535 - a + (65535 - b) + c) else -1
theorem sumFix_ok {a b c : Int} (h1 : inB a 0 65535 = true) (h2 : inB b 0 65535 = true) (h3 : inB c 0 65535 = true) : sumFix a b c = 65535 - fold16 (65535 - a + (65535 - b) + c) := by
  unfold sumFix; rw [h1, h2, h3]; rfl
theorem sumFix_no {a b c : Int} (h : inB a 0 65535 = false ∨ inB b 0 65535 = false ∨ inB c 0 65535 = false) : sumFix a b c = -1 := by
  unfold sumFix; rcases h with h | h | h <;> rw [h] <;> simp
theorem of_inB {n lo hi : Int} (h : inB n lo hi = true) : lo ≤ n ∧ n ≤ hi := by unfold inB at h; simpa using h

end Go.Proofs.Ytgfpoohjbgdcpaa
