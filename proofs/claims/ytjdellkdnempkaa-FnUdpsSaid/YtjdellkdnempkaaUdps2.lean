/-
  The model's bytes of what ports send; the exact law on them.
-/
import Derived.Test.YtjdellkdnempkaaUdps1
namespace Go.Proofs.Ytjdellkdnempkaa
open Go.RowKit Go.PlainAid
set_option maxRecDepth 100000 in
set_option maxHeartbeats 800000 in
theorem s_l4Ok (s d : Int) (u : UdpV) (w : World) (hl : u.data.size ≤ 1099511627776) :
    Calls Try.prog 31 #[.int .i64 s, .int .i64 d, .agg (udpL u)] w fun e w' => e = .returned (.bool (udpOk s d u)) ∧ Below w.heap.size w w' := by
  have hB : Below w.heap.size w (w.alloc (.cells (udpL u) 25)) := (Below.refl _ w).alloc (Nat.le_refl _) _
  have HK : Hid (udpOk s d u = (inB u.from_ 0 65535 && inB u.to_ 0 65535 && decide (u.data.size ≤ 65507) && addrB s && addrB d)) := rfl
  obtain ⟨fr, to, sn, data⟩ := u
  simp only [udpL] at *
  have hc : addrB s = false ∨ addrB s = true ∧ addrB d = false ∨ addrB s = true ∧ addrB d = true ∧ inB fr 0 65535 = false ∨ addrB s = true ∧ addrB d = true ∧ inB fr 0 65535 = true ∧ inB to 0 65535 = false ∨ addrB s = true ∧ addrB d = true ∧ inB fr 0 65535 = true ∧ inB to 0 65535 = true := by
    cases addrB s <;> cases addrB d <;> cases inB fr 0 65535 <;> cases inB to 0 65535 <;> decide
  rcases hc with h0 | ⟨h0, h1⟩ | ⟨h0, h1, h2⟩ | ⟨h0, h1, h2, h3⟩ | ⟨h0, h1, h2, h3⟩
  · go_enter Try.func31, Try.ntmps31
    go_wp2_with (first | (go_at_call 42; refine (s_Addr _ _).mono ?_; rintro e wz ⟨rfl, hz⟩; rw [hz]; clear hz wz) | (go_at_call 43; refine (s_In _ _ _ _).mono ?_; rintro e wz ⟨rfl, hz⟩; rw [hz]; clear hz wz))
    go_ret
    exact ⟨ret_bool (by rw [HK.out, h0]; simp), hB⟩
  · go_enter Try.func31, Try.ntmps31
    go_wp2_with (first | (go_at_call 42; refine (s_Addr _ _).mono ?_; rintro e wz ⟨rfl, hz⟩; rw [hz]; clear hz wz) | (go_at_call 43; refine (s_In _ _ _ _).mono ?_; rintro e wz ⟨rfl, hz⟩; rw [hz]; clear hz wz))
    go_ret
    exact ⟨ret_bool (by rw [HK.out, h1]; simp), hB⟩
  · go_enter Try.func31, Try.ntmps31
    go_wp2_with (first | (go_at_call 42; refine (s_Addr _ _).mono ?_; rintro e wz ⟨rfl, hz⟩; rw [hz]; clear hz wz) | (go_at_call 43; refine (s_In _ _ _ _).mono ?_; rintro e wz ⟨rfl, hz⟩; rw [hz]; clear hz wz))
    go_ret
    exact ⟨ret_bool (by rw [HK.out, h2]; simp), hB⟩
  · go_enter Try.func31, Try.ntmps31
    go_wp2_with (first | (go_at_call 42; refine (s_Addr _ _).mono ?_; rintro e wz ⟨rfl, hz⟩; rw [hz]; clear hz wz) | (go_at_call 43; refine (s_In _ _ _ _).mono ?_; rintro e wz ⟨rfl, hz⟩; rw [hz]; clear hz wz))
    go_ret
    exact ⟨ret_bool (by rw [HK.out, h3]; simp), hB⟩
  · go_enter Try.func31, Try.ntmps31
    go_wp2_with (first | (go_at_call 42; refine (s_Addr _ _).mono ?_; rintro e wz ⟨rfl, hz⟩; rw [hz]; clear hz wz) | (go_at_call 43; refine (s_In _ _ _ _).mono ?_; rintro e wz ⟨rfl, hz⟩; rw [hz]; clear hz wz))
    go_ret
    exact ⟨ret_bool (by rw [HK.out, h0, h1, h2, h3, Bool.eq_iff_iff]; simp; omega), hB⟩

set_option maxRecDepth 100000 in
set_option maxHeartbeats 1600000 in
theorem s_l4Sum (s d : Int) (u : UdpV) (w : World) (hl : u.data.size ≤ 1048576) :
    Calls Try.prog 33 #[.int .i64 s, .int .i64 d, .agg (udpL u)] w fun e w' => e = .returned (.int .i64 (udpSum s d u)) ∧ Below w.heap.size w w' := by
  have hA : Bx (w.alloc (.cells (udpL u) 25)) w.heap.size (udpL u).toList := Bx.new w _ _
  have hB : Below w.heap.size w (w.alloc (.cells (udpL u) 25)) := (Below.refl _ w).alloc (Nat.le_refl _) _
  cases hsn : u.sum
  · have HU : Hid (udpSum s d u = 0) := by show _ = _; unfold udpSum; rw [hsn]; rfl
    generalize udpSum s d u = sm at *
    obtain ⟨fr, to, sn, data⟩ := u
    simp only [udpL] at *
    subst hsn
    go_enter Try.func33, Try.ntmps33
    go_wp2
    go_ret
    exact ⟨ret_i64 HU.out.symm, hB⟩
  · have HU : Hid (udpSum s d u = if udpSumOf s d u = 0 then 65535 else udpSumOf s d u) := by show _ = _; unfold udpSum; rw [hsn]; rfl
    have B : Hid (∀ (k n : Int) (u : World), 0 ≤ k → k ≤ 8 → Calls Try.prog 32 #[.int .i64 n, .int .i64 k] u fun e w' => e = .returned (.string (str (be k.toNat n))) ∧ Below u.heap.size u w') := fun k n u h h' => be_any n k u h h'
    have HS : Hid (str (be 4 s) ++ str (be 4 d) ++ str (be 2 17) ++ str (be 2 ((u.data.size : Int) + 8)) ++ str (be 2 u.from_) ++ str (be 2 u.to_) ++ str (be 2 ((u.data.size : Int) + 8)) ++ str (be 2 0) ++ u.data = str (udpAhead s d u ++ be 2 0 ++ bl u.data)) := by
      show _ = _
      simp only [str_app]
      rw [str_app_bl, Int.add_comm]
      simp only [udpAhead, List.append_assoc]
    have CS : Hid (∀ v : World, Calls Try.prog 44 #[.string (str (udpAhead s d u ++ be 2 0 ++ bl u.data))] v fun e w' => e = .returned (.int .i64 (udpSumOf s d u)) ∧ w' = v) := fun v => by
      have := s_SumOf (str (udpAhead s d u ++ be 2 0 ++ bl u.data)) v (by rw [str_size, List.length_append, List.length_append, udpAhead_length, be_length, bl_length]; omega)
      rw [bl_str, sum_noughts _ _ (by rw [udpAhead_length])] at this
      exact this
    have b2 : ∀ n, (be 2 n).length = 2 := fun n => be_length 2 n
    have b4 : ∀ n, (be 4 n).length = 4 := fun n => be_length 4 n
    generalize str (udpAhead s d u ++ be 2 0 ++ bl u.data) = tx at *
    generalize udpSumOf s d u = sm at *
    generalize udpSum s d u = s0 at *
    obtain ⟨fr, to, sn, data⟩ := u
    simp only [udpL] at *
    subst hsn
    go_enter Try.func33, Try.ntmps33
    go_wp2_with fail
    generalize hW : w.alloc _ = w1 at *
    clear hW
    have hne := BW.some w1
    have a0 := fun u : BW w1 => (hA.ofBW u).2 0 _ rfl
    have a1 := fun u : BW w1 => (hA.ofBW u).2 1 _ rfl
    have a3 := fun u : BW w1 => (hA.ofBW u).2 3 _ rfl
    refine wp_region_below (by kernel_rfl) (by kernel_rfl) ?_
    repeat (go_big_quiet_step (first | (go_at_call 32; exact Calls.into (B.out _ _ _ (by decide) (by decide))) | (go_at_call 44; rw [HS.out]; exact Calls.into_same (CS.out _))))
    refine wpQuiet_nil ?_
    intro _ hw'
    obtain ⟨u, hw''⟩ := hw'
    subst hw''
    clear a0 a1 a3 hne HS
    by_cases hz : sm = 0
    · subst hz
      go_wp2
      go_ret
      exact ⟨ret_i64 (by rw [HU.out]; rfl), hB.trans (u.le.mono hB.size)⟩
    · have hz' : (sm == 0) = false := by simp [hz]
      rw [if_neg hz] at HU
      go_wp2
      go_ret
      exact ⟨ret_i64 (by rw [HU.out]), hB.trans (u.le.mono hB.size)⟩

set_option maxRecDepth 100000 in
set_option maxHeartbeats 1600000 in
theorem s_UdpBytes (s d : Int) (u : UdpV) (w : World) (hl : u.data.size ≤ 1099511627776) :
    Calls Try.prog 12 #[.int .i64 s, .int .i64 d, .agg (udpL u)] w fun e w' => e = .returned (.string (str (udpText s d u))) ∧ Below w.heap.size w w' := by
  have hA : Bx (w.alloc (.cells (udpL u) 25)) w.heap.size (udpL u).toList := Bx.new w _ _
  have hB : Below w.heap.size w (w.alloc (.cells (udpL u) 25)) := (Below.refl _ w).alloc (Nat.le_refl _) _
  have CK : Hid (∀ v : World, Calls Try.prog 31 #[.int .i64 s, .int .i64 d, .agg (udpL u)] v fun e w' => e = .returned (.bool (udpOk s d u)) ∧ Below v.heap.size v w') := fun v => s_l4Ok s d u v hl
  cases hk : udpOk s d u
  · have HT : Hid (udpText s d u = []) := by show _ = _; unfold udpText; rw [hk]; rfl
    rw [hk] at CK
    generalize udpText s d u = tx at *
    clear hk
    obtain ⟨fr, to, sn, data⟩ := u
    simp only [udpL] at *
    go_enter Try.func12, Try.ntmps12
    go_wp2_with (go_at_call 31; refine (CK.out _).mono ?_; rintro e w1 ⟨rfl, hb1⟩)
    go_ret
    exact ⟨by rw [HT.out]; rfl, hB.trans (hb1.mono hB.size)⟩
  · have hu : u.data.size ≤ 65507 := by
      have := hk
      simp only [udpOk, udpB, Bool.and_eq_true, decide_eq_true_eq] at this
      exact this.1.1.2
    rw [hk] at CK
    have B : Hid (∀ (k n : Int) (u : World), 0 ≤ k → k ≤ 8 → Calls Try.prog 32 #[.int .i64 n, .int .i64 k] u fun e w' => e = .returned (.string (str (be k.toNat n))) ∧ Below u.heap.size u w') := fun k n u h h' => be_any n k u h h'
    have CS : Hid (∀ v : World, Calls Try.prog 33 #[.int .i64 s, .int .i64 d, .agg (udpL u)] v fun e w' => e = .returned (.int .i64 (udpSum s d u)) ∧ Below v.heap.size v w') := fun v => s_l4Sum s d u v (by omega)
    have HS : Hid (str (be 2 u.from_) ++ str (be 2 u.to_) ++ str (be 2 ((u.data.size : Int) + 8)) ++ str (be 2 (udpSum s d u)) ++ u.data = str (udpText s d u)) := by
      show _ = _
      unfold udpText
      rw [if_pos hk, str_app, str_app, str_app, str_app_bl, Int.add_comm]; rfl
    have b2 : ∀ n, (be 2 n).length = 2 := fun n => be_length 2 n
    generalize udpText s d u = tx at *
    generalize udpSum s d u = sm at *
    clear hk
    obtain ⟨fr, to, sn, data⟩ := u
    simp only [udpL] at *
    go_enter Try.func12, Try.ntmps12
    go_wp2_with (go_at_call 31; refine (CK.out _).mono ?_; rintro e w1 ⟨rfl, hb1⟩; replace hA := hA.below hb1; replace hB := hB.trans (hb1.mono hB.size); clear hb1)
    have hne := BW.some w1
    have a0 := fun u : BW w1 => (hA.ofBW u).2 0 _ rfl
    have a1 := fun u : BW w1 => (hA.ofBW u).2 1 _ rfl
    have a2 := fun u : BW w1 => (hA.ofBW u).2 2 _ rfl
    have a3 := fun u : BW w1 => (hA.ofBW u).2 3 _ rfl
    refine wp_region_below (by kernel_rfl) (by kernel_rfl) ?_
    repeat (go_big_quiet_step (first | (go_at_call 32; exact Calls.into (B.out _ _ _ (by decide) (by decide))) | (go_at_call 33; exact Calls.into (CS.out _))))
    refine wpQuiet_nil ?_
    intro _ hw'
    obtain ⟨u, hw''⟩ := hw'
    subst hw''
    rw [HS.out]
    clear a0 a1 a2 a3 hne HS
    go_wp2
    go_ret
    exact ⟨rfl, hB.trans (u.le.mono hB.size)⟩

end Go.Proofs.Ytjdellkdnempkaa
