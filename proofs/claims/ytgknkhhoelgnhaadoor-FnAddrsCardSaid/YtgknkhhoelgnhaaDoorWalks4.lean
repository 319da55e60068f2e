/-
  Contracts of the sums of the internet, of the program and of the model.
-/
import Derived.Test.YtgknkhhoelgnhaaDoorWalks3
namespace Go.Proofs.YtgknkhhoelgnhaaDoor
open Go.RowKit Go.PlainAid
theorem ret_i64 {a b : Int} (h : a = b) : Ending.returned (.int .i64 a) = .returned (.int .i64 b) := by rw [h]
theorem ret_bool {a b : Bool} (h : a = b) : Ending.returned (.bool a) = .returned (.bool b) := by rw [h]

set_option maxRecDepth 100000 in
set_option maxHeartbeats 400000 in
theorem s_Fold (n : Int) (w : World) (h0 : 0 ≤ n) (h1 : n ≤ 4611686018427387904) :
    Calls Tryd.prog 77 #[.int .i64 n] w fun e w' => e = .returned (.int .i64 (fold16 n)) ∧ w' = w := by
  go_enter Tryd.func77, Tryd.ntmps77
  go_wp2
  go_loop [0] (fun v => ∃ m : Int, 0 ≤ m ∧ m ≤ 4611686018427387904 ∧ v = .int .i64 m ∧ Hid (fold16 m = fold16 n)) (fun v => (intOf v).toNat)
  case atStart => exact ⟨n, h0, h1, rfl, rfl⟩
  case round =>
    obtain ⟨m, hm0, hm1, rfl, hm⟩ := hrel
    by_cases hlt : 65535 < m
    · have ha := and_65535 hm0 (by omega)
      have HF : Hid (fold16 (m / 65536 + m % 65536) = fold16 m) := fold16_step hlt
      go_wp2
      go_round
      case rel => exact ⟨_, by omega, by omega, rfl, HF.out.trans hm.out⟩
      case measure => simp [intOf]; omega
    · have HF : Hid (fold16 m = m) := fold16_small hm0 (by omega)
      go_wp2
      go_ret
      exact ⟨ret_i64 (HF.out.symm.trans hm.out), rfl⟩

set_option maxRecDepth 100000 in
set_option maxHeartbeats 400000 in
theorem i_folded (n : Int) (w : World) (h0 : 0 ≤ n) (h1 : n ≤ 4611686018427387904) :
    Calls Tryd.prog 80 #[.int .i64 n] w fun e w' => e = .returned (.int .i64 (fold16 n)) ∧ w' = w := by
  go_enter Tryd.func80, Tryd.ntmps80
  go_wp2
  go_loop [0] (fun v => ∃ m : Int, 0 ≤ m ∧ m ≤ 4611686018427387904 ∧ v = .int .i64 m ∧ Hid (fold16 m = fold16 n)) (fun v => (intOf v).toNat)
  case atStart => exact ⟨n, h0, h1, rfl, rfl⟩
  case round =>
    obtain ⟨m, hm0, hm1, rfl, hm⟩ := hrel
    by_cases hlt : 65535 < m
    · have ha := and_65535 hm0 (by omega)
      have HF : Hid (fold16 (m / 65536 + m % 65536) = fold16 m) := fold16_step hlt
      go_wp2
      go_round
      case rel => exact ⟨_, by omega, by omega, rfl, HF.out.trans hm.out⟩
      case measure => simp [intOf]; omega
    · have HF : Hid (fold16 m = m) := fold16_small hm0 (by omega)
      go_wp2
      go_ret
      exact ⟨ret_i64 (HF.out.symm.trans hm.out), rfl⟩

theorem i_turned (n : Int) (w : World) (h0 : 0 ≤ n) (h1 : n ≤ 65535) :
    Calls Tryd.prog 79 #[.int .i64 n] w fun e w' => e = .returned (.int .i64 (65535 - n)) ∧ w' = w := by
  have hx := xor_65535 h0 h1
  go_enter Tryd.func79, Tryd.ntmps79
  go_wp2
  go_ret
  exact ⟨rfl, rfl⟩

theorem i_isPair (n : Int) (w : World) : Calls Tryd.prog 62 #[.int .i64 n] w fun e w' => e = .returned (.bool (inB n 0 65535)) ∧ w' = w := by
  by_cases h1 : 0 ≤ n
  · by_cases h2 : n ≤ 65535
    all_goals
      go_enter Tryd.func62, Tryd.ntmps62
      go_wp2
      go_ret
      exact ⟨by simp [h1, h2, inB], rfl⟩
  · go_enter Tryd.func62, Tryd.ntmps62
    go_wp2
    go_ret
    exact ⟨by simp [inB]; omega, rfl⟩

theorem psum_take1 (s : ByteArray) (k : Nat) (h : k < s.size) (h2 : k % 2 = 0) : psum ((bl s).take (k + 1)) = psum ((bl s).take k) + bt s k * 256 := by
  have hl := bl_length s
  rw [List.take_succ_eq_append_getElem (by omega), psum_snoc, bt_eq _ _ (by omega), if_pos (by rw [List.length_take]; omega)]
theorem psum_take1' (s : ByteArray) (k : Nat) (h : k < s.size) (h2 : k % 2 = 1) : psum ((bl s).take (k + 1)) = psum ((bl s).take k) + bt s k := by
  have hl := bl_length s
  rw [List.take_succ_eq_append_getElem (by omega), psum_snoc, bt_eq _ _ (by omega), if_neg (by rw [List.length_take]; omega)]
theorem psum_take2 (s : ByteArray) (k : Nat) (h : k < s.size) (h2 : k % 2 = 0) : psum ((bl s).take (k + 2)) = psum ((bl s).take k) + (bt s k * 256 + bt s (k + 1)) := by
  have hl := bl_length s
  by_cases h3 : k + 1 < s.size
  · have e1 := psum_take1' s (k + 1) h3 (by omega)
    have e0 := psum_take1 s k h h2
    rw [show k + 2 = k + 1 + 1 from rfl, e1, e0]; omega
  · have e0 := psum_take1 s k h h2
    have t : (bl s).take (k + 2) = (bl s).take (k + 1) := by rw [List.take_of_length_le (by omega), List.take_of_length_le (by omega)]
    rw [t, e0, bt_end s (show s.size ≤ k + 1 by omega)]; omega
theorem psum_take_bd (s : ByteArray) (k : Nat) (h : s.size ≤ 1099511627776) : 0 ≤ psum ((bl s).take k) ∧ psum ((bl s).take k) ≤ 72056494526300160 := by
  have h1 := psum_nonneg ((bl s).take k)
  have h2 := psum_le ((bl s).take k)
  have h3 : ((bl s).take k).length ≤ s.size := by rw [List.length_take, bl_length]; omega
  omega

set_option maxRecDepth 100000 in
set_option maxHeartbeats 800000 in
theorem s_Sum (s : ByteArray) (w : World) (hs : s.size ≤ 1099511627776) :
    Calls Tryd.prog 90 #[.string s] w fun e w' => e = .returned (.int .i64 (fold16 (psum (bl s)))) ∧ w' = w := by
  go_enter Tryd.func90, Tryd.ntmps90
  go_wp2
  go_loop [3, 4] (fun n i => ∃ k : Nat, k ≤ s.size ∧ i = .int .i64 (k : Int) ∧ n = .int .i64 (psum ((bl s).take k))) (fun _ i => ((s.size : Int) - intOf i).toNat)
  case atStart => exact ⟨0, by omega, rfl, rfl⟩
  case round =>
    obtain ⟨k, hk, rfl, rfl⟩ := hrel
    obtain ⟨hb0, hb1⟩ := psum_take_bd s k hs
    by_cases hlt : k < s.size
    · have hbt := get_bt s
      have hc0 := bt_nonneg s k
      have hc1 := bt_le s k
      by_cases h2 : k % 2 = 0
      · have HS : Hid (psum ((bl s).take (k + 1)) = psum ((bl s).take k) + bt s k * 256) := psum_take1 s k hlt h2
        obtain ⟨X, hX⟩ : ∃ X, X = psum ((bl s).take k) := ⟨_, rfl⟩
        rw [← hX] at hb0 hb1 HS ⊢
        clear hX
        have he : (((k : Int) % 2) == 0) = true := by simp; omega
        clear h2
        go_wp2
        go_round
        case rel => exact ⟨k + 1, by omega, by go_num, by rw [HS.out]⟩
        case measure => simp [intOf]; omega
      · have HS : Hid (psum ((bl s).take (k + 1)) = psum ((bl s).take k) + bt s k) := psum_take1' s k hlt (by omega)
        obtain ⟨X, hX⟩ : ∃ X, X = psum ((bl s).take k) := ⟨_, rfl⟩
        rw [← hX] at hb0 hb1 HS ⊢
        clear hX
        have he : (((k : Int) % 2) == 0) = false := by simp; omega
        clear h2
        go_wp2
        go_round
        case rel => exact ⟨k + 1, by omega, by go_num, by rw [HS.out]⟩
        case measure => simp [intOf]; omega
    · have hT : (bl s).take k = bl s := List.take_of_length_le (by rw [bl_length]; omega)
      rw [hT] at hb0 hb1 ⊢
      clear hT
      go_wp2_with (go_at_call 77; refine (s_Fold _ _ hb0 (by omega)).mono ?_; rintro e w' ⟨rfl, rfl⟩)
      go_ret
      exact ⟨rfl, rfl⟩

set_option maxRecDepth 100000 in
theorem s_SumOf (s : ByteArray) (w : World) (hs : s.size ≤ 1099511627776) :
    Calls Tryd.prog 56 #[.string s] w fun e w' => e = .returned (.int .i64 (sumOf (bl s))) ∧ w' = w := by
  obtain ⟨hf0, hf1⟩ := fold16_bd (psum (bl s))
  go_enter Tryd.func56, Tryd.ntmps56
  go_wp2_with (go_at_call 90; refine (s_Sum _ _ hs).mono ?_; rintro e w' ⟨rfl, rfl⟩)
  go_ret
  exact ⟨rfl, rfl⟩

set_option maxRecDepth 100000 in
theorem i_pairAt (s : ByteArray) (k : Nat) (w : World) (hs : s.size ≤ 1099511627776) (hk : k < s.size) :
    Calls Tryd.prog 84 #[.string s, .int .i64 (k : Int)] w fun e w' => e = .returned (.int .i64 (bt s k * 256 + bt s (k + 1))) ∧ w' = w := by
  have hbt := get_bt s
  have hc0 := bt_nonneg s k
  have hc1 := bt_le s k
  have hd0 := bt_nonneg s (k + 1)
  have hd1 := bt_le s (k + 1)
  by_cases h1 : k + 1 < s.size
  · have hor := or_8 hc0 (by omega) hd0 (by omega)
    go_enter Tryd.func84, Tryd.ntmps84
    go_wp2
    go_ret
    exact ⟨rfl, rfl⟩
  · have He : Hid (bt s (k + 1) = 0) := bt_end s (by omega)
    go_enter Tryd.func84, Tryd.ntmps84
    go_wp2
    go_ret
    exact ⟨ret_i64 (by rw [He.out]; simp), rfl⟩

set_option maxRecDepth 100000 in
set_option maxHeartbeats 400000 in
theorem i_SumOf (s : ByteArray) (w : World) (hs : s.size ≤ 1099511627776) :
    Calls Tryd.prog 51 #[.string s] w fun e w' => e = .returned (.int .i64 (sumOf (bl s))) ∧ w' = w := by
  go_enter Tryd.func51, Tryd.ntmps51
  go_wp2
  go_loop [3, 4] (fun n i => ∃ k : Nat, k ≤ s.size + 1 ∧ k % 2 = 0 ∧ i = .int .i64 (k : Int) ∧ n = .int .i64 (fold16 (psum ((bl s).take k)))) (fun _ i => ((s.size : Int) + 2 - intOf i).toNat)
  case atStart => exact ⟨0, by omega, rfl, rfl, rfl⟩
  case round =>
    obtain ⟨k, hk, hk2, rfl, rfl⟩ := hrel
    obtain ⟨hf0, hf1⟩ := fold16_bd (psum ((bl s).take k))
    by_cases hlt : k < s.size
    · have hc0 := bt_nonneg s k
      have hc1 := bt_le s k
      have hd0 := bt_nonneg s (k + 1)
      have hd1 := bt_le s (k + 1)
      have HS : Hid (fold16 (fold16 (psum ((bl s).take k)) + (bt s k * 256 + bt s (k + 1))) = fold16 (psum ((bl s).take (k + 2)))) := by
        show _ = _
        rw [psum_take2 s k hlt hk2, fold16_add (psum_take_bd s k hs).1 (by omega)]
      obtain ⟨X, hX⟩ : ∃ X, X = fold16 (psum ((bl s).take k)) := ⟨_, rfl⟩
      rw [← hX] at hf0 hf1 HS ⊢
      clear hX
      have hk2' : Hid (k % 2 = 0) := hk2
      clear hk2
      go_wp2_with (first | (go_at_call 84; refine (i_pairAt _ _ _ hs hlt).mono ?_; rintro e w' ⟨rfl, rfl⟩) | (go_at_call 80; refine (i_folded _ _ (by omega) (by omega)).mono ?_; rintro e w' ⟨rfl, rfl⟩))
      go_round
      case rel => exact ⟨k + 2, by omega, by have := hk2'.out; omega, by go_num, by rw [HS.out]⟩
      case measure => simp [intOf]; omega
    · have hT : (bl s).take k = bl s := List.take_of_length_le (by rw [bl_length]; omega)
      rw [hT] at hf0 hf1 ⊢
      clear hT hk2
      go_wp2_with (go_at_call 79; refine (i_turned _ _ hf0 hf1).mono ?_; rintro e w' ⟨rfl, rfl⟩)
      go_ret
      exact ⟨rfl, rfl⟩

/-- a sum that is fixed -/
def sumFix (a b c : Int) : Int := if inB a 0 65535 && inB b 0 65535 && inB c 0 65535 then 65535 - fold16 (65535 - a + (65535 - b) + c) else -1
theorem sumFix_ok {a b c : Int} (h1 : inB a 0 65535 = true) (h2 : inB b 0 65535 = true) (h3 : inB c 0 65535 = true) : sumFix a b c = 65535 - fold16 (65535 - a + (65535 - b) + c) := by
  unfold sumFix; rw [h1, h2, h3]; rfl
theorem sumFix_no {a b c : Int} (h : inB a 0 65535 = false ∨ inB b 0 65535 = false ∨ inB c 0 65535 = false) : sumFix a b c = -1 := by
  unfold sumFix; rcases h with h | h | h <;> rw [h] <;> simp
theorem of_inB {n lo hi : Int} (h : inB n lo hi = true) : lo ≤ n ∧ n ≤ hi := by unfold inB at h; simpa using h

set_option maxRecDepth 100000 in
set_option maxHeartbeats 800000 in
theorem s_SumFix (a b c : Int) (w : World) :
    Calls Tryd.prog 43 #[.int .i64 a, .int .i64 b, .int .i64 c] w fun e w' => e = .returned (.int .i64 (sumFix a b c)) ∧ w' = w := by
  cases h1 : inB a 0 65535
  · have He : Hid (sumFix a b c = -1) := sumFix_no (.inl h1)
    go_enter Tryd.func43, Tryd.ntmps43
    go_wp2_with (go_at_call 60; refine (s_In _ _ _ _).mono ?_; rintro e w' ⟨rfl, rfl⟩)
    go_ret
    exact ⟨ret_i64 He.out.symm, rfl⟩
  · cases h2 : inB b 0 65535
    · have He : Hid (sumFix a b c = -1) := sumFix_no (.inr (.inl h2))
      go_enter Tryd.func43, Tryd.ntmps43
      go_wp2_with (go_at_call 60; refine (s_In _ _ _ _).mono ?_; rintro e w' ⟨rfl, rfl⟩)
      go_ret
      exact ⟨ret_i64 He.out.symm, rfl⟩
    · cases h3 : inB c 0 65535
      · have He : Hid (sumFix a b c = -1) := sumFix_no (.inr (.inr h3))
        go_enter Tryd.func43, Tryd.ntmps43
        go_wp2_with (go_at_call 60; refine (s_In _ _ _ _).mono ?_; rintro e w' ⟨rfl, rfl⟩)
        go_ret
        exact ⟨ret_i64 He.out.symm, rfl⟩
      · have He : Hid (sumFix a b c = 65535 - fold16 (65535 - a + (65535 - b) + c)) := sumFix_ok h1 h2 h3
        obtain ⟨a0, a1⟩ := of_inB h1
        obtain ⟨b0, b1⟩ := of_inB h2
        obtain ⟨c0, c1⟩ := of_inB h3
        have hf := fold16_bd
        go_enter Tryd.func43, Tryd.ntmps43
        go_wp2_with (first | (go_at_call 60; refine (s_In _ _ _ _).mono ?_; rintro e w' ⟨rfl, rfl⟩) | (go_at_call 77; refine (s_Fold _ _ (by omega) (by omega)).mono ?_; rintro e w' ⟨rfl, rfl⟩; obtain ⟨hf0, hf1⟩ := fold16_bd (65535 - a + 65535 - b + c)))
        go_ret
        exact ⟨ret_i64 (by rw [He.out, show 65535 - a + (65535 - b) + c = 65535 - a + 65535 - b + c by omega]), rfl⟩

set_option maxRecDepth 100000 in
set_option maxHeartbeats 800000 in
theorem i_SumFix (a b c : Int) (w : World) :
    Calls Tryd.prog 48 #[.int .i64 a, .int .i64 b, .int .i64 c] w fun e w' => e = .returned (.int .i64 (sumFix a b c)) ∧ w' = w := by
  cases h1 : inB a 0 65535
  · have He : Hid (sumFix a b c = -1) := sumFix_no (.inl h1)
    go_enter Tryd.func48, Tryd.ntmps48
    go_wp2_with (go_at_call 62; refine (i_isPair _ _).mono ?_; rintro e w' ⟨rfl, rfl⟩)
    go_ret
    exact ⟨ret_i64 He.out.symm, rfl⟩
  · cases h2 : inB b 0 65535
    · have He : Hid (sumFix a b c = -1) := sumFix_no (.inr (.inl h2))
      go_enter Tryd.func48, Tryd.ntmps48
      go_wp2_with (go_at_call 62; refine (i_isPair _ _).mono ?_; rintro e w' ⟨rfl, rfl⟩)
      go_ret
      exact ⟨ret_i64 He.out.symm, rfl⟩
    · cases h3 : inB c 0 65535
      · have He : Hid (sumFix a b c = -1) := sumFix_no (.inr (.inr h3))
        go_enter Tryd.func48, Tryd.ntmps48
        go_wp2_with (go_at_call 62; refine (i_isPair _ _).mono ?_; rintro e w' ⟨rfl, rfl⟩)
        go_ret
        exact ⟨ret_i64 He.out.symm, rfl⟩
      · have He : Hid (sumFix a b c = 65535 - fold16 (65535 - a + (65535 - b) + c)) := sumFix_ok h1 h2 h3
        obtain ⟨a0, a1⟩ := of_inB h1
        obtain ⟨b0, b1⟩ := of_inB h2
        obtain ⟨c0, c1⟩ := of_inB h3
        obtain ⟨hf0, hf1⟩ := fold16_bd (65535 - a + (65535 - b) + c)
        go_enter Tryd.func48, Tryd.ntmps48
        go_wp2_with (first | (go_at_call 62; refine (i_isPair _ _).mono ?_; rintro e w' ⟨rfl, rfl⟩) | (go_at_call 80; refine (i_folded _ _ (by omega) (by omega)).mono ?_; rintro e w' ⟨rfl, rfl⟩) | (go_at_call 79; refine (i_turned _ _ (by omega) (by omega)).mono ?_; rintro e w' ⟨rfl, rfl⟩))
        go_ret
        exact ⟨ret_i64 He.out.symm, rfl⟩
end Go.Proofs.YtgknkhhoelgnhaaDoor
