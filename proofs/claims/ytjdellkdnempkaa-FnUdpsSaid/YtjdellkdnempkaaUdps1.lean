/-
  Contracts on what ports send: whether it is so, its sum, its bytes, of the program and of the model.
-/
import Derived.Test.YtjdellkdnempkaaIps3
import Derived.Test.YtjdellkdnempkaaShelf
namespace Go.Proofs.Ytjdellkdnempkaa
open Go.RowKit Go.PlainAid

structure UdpV where
  from_ : Int
  to_ : Int
  sum : Bool
  data : ByteArray
def udpL (u : UdpV) : Array Value := #[.int .i64 u.from_, .int .i64 u.to_, .bool u.sum, .string u.data]
def udpB (u : UdpV) : Bool := inB u.from_ 0 65535 && inB u.to_ 0 65535 && decide (u.data.size ≤ 65507)
def udpOk (s d : Int) (u : UdpV) : Bool := udpB u && addrB s && addrB d
def udpAhead (s d : Int) (u : UdpV) : List UInt8 := be 4 s ++ be 4 d ++ be 2 17 ++ be 2 (8 + (u.data.size : Int)) ++ (be 2 u.from_ ++ be 2 u.to_) ++ be 2 (8 + (u.data.size : Int))
def udpSumOf (s d : Int) (u : UdpV) : Int := sumOf (udpAhead s d u ++ bl u.data)
def no0 (n : Int) : Int := if n = 0 then 65535 else n
def udpSum (s d : Int) (u : UdpV) : Int := if u.sum then no0 (udpSumOf s d u) else 0
def udpBytes (s d : Int) (u : UdpV) : List UInt8 := be 2 u.from_ ++ be 2 u.to_ ++ be 2 (8 + (u.data.size : Int)) ++ be 2 (udpSum s d u) ++ bl u.data
def udpText (s d : Int) (u : UdpV) : List UInt8 := if udpOk s d u then udpBytes s d u else []
theorem udpAhead_length (s d : Int) (u : UdpV) : (udpAhead s d u).length = 18 := by simp only [udpAhead, List.length_append, be_length]
theorem psum_be20 : psum (be 2 0) = 0 := psum_be2 (by decide) (by decide)
theorem sum_noughts (a b : List UInt8) (h : a.length % 2 = 0) : sumOf (a ++ be 2 0 ++ b) = sumOf (a ++ b) := by
  unfold sumOf
  rw [List.append_assoc, psum_append _ _ h, psum_append _ _ h, psum_append _ _ (by rw [be_length]), psum_be20, Int.zero_add]
theorem no0_bd {n : Int} (h : 0 ≤ n ∧ n ≤ 65535) : 1 ≤ no0 n ∧ no0 n ≤ 65535 := by unfold no0; split <;> omega
theorem udpSum_bd (s d : Int) (u : UdpV) : 0 ≤ udpSum s d u ∧ udpSum s d u ≤ 65535 := by
  unfold udpSum; split
  · have := no0_bd (sumOf_bd (udpAhead s d u ++ bl u.data)); unfold udpSumOf; omega
  · omega

set_option maxRecDepth 100000 in
theorem i_isUdp (u : UdpV) (w : World) (hd : u.data.size ≤ 1099511627776) : Calls Try.prog 23 #[.agg (udpL u)] w fun e w' => e = .returned (.bool (udpB u)) ∧ Below w.heap.size w w' := by
  have HB : Hid (udpB u = (inB u.from_ 0 65535 && inB u.to_ 0 65535 && decide (u.data.size ≤ 65507))) := rfl
  have hb0 : Below w.heap.size w (w.alloc (.cells (udpL u) 25)) := (Below.refl _ w).alloc (Nat.le_refl _) _
  obtain ⟨fr, to, sm, data⟩ := u
  simp only [udpL] at *
  cases h0 : inB fr 0 65535
  · go_enter Try.func23, Try.ntmps23
    go_wp2_with (go_at_call 37; refine (i_isPair _ _).mono ?_; rintro e w' ⟨rfl, rfl⟩)
    go_ret
    exact ⟨ret_bool (by rw [HB.out, h0]; rfl), hb0⟩
  · cases h1 : inB to 0 65535
    · go_enter Try.func23, Try.ntmps23
      go_wp2_with (go_at_call 37; refine (i_isPair _ _).mono ?_; rintro e w' ⟨rfl, rfl⟩)
      go_ret
      exact ⟨ret_bool (by rw [HB.out, h0, h1]; rfl), hb0⟩
    · go_enter Try.func23, Try.ntmps23
      go_wp2_with (go_at_call 37; refine (i_isPair _ _).mono ?_; rintro e w' ⟨rfl, rfl⟩)
      go_ret
      exact ⟨ret_bool (by rw [HB.out, h0, h1, Bool.eq_iff_iff]; simp; omega), hb0⟩

set_option maxRecDepth 100000 in
theorem i_sumOver (bk c : Nat) (xs : List ByteArray) (w : World) (hA : Bx w bk (xs.map .string)) (hc : xs.length ≤ c) (hn : xs.length ≤ 100) (hl : (Lib.join (xs.map (·.data.toList)) []).length ≤ 1099511627776) :
    Calls Try.prog 39 #[.slice (some ⟨bk, 0, none⟩) xs.length c] w fun e w' => e = .returned (.int .i64 (sumOf (Lib.join (xs.map (·.data.toList)) []))) ∧ Below w.heap.size w w' := by
  have CJ : Hid (∀ u : World, u = w → Calls Try.prog 46 #[.slice (some ⟨bk, 0, none⟩) xs.length c, .string ⟨#[]⟩] u fun e w' => e = .returned (.string (str (Lib.join (xs.map (·.data.toList)) []))) ∧ Below u.heap.size u w') := by
    rintro u rfl
    exact Try.strings_Join bk 0 c xs ⟨#[]⟩ u (fun j x hj => by have := hA.2 j (.string x) (by rw [List.getElem?_map, hj]; rfl); simpa using this) hA.1 (by omega) hc (by show (Lib.join _ []).length ≤ _; omega)
  have CS : Hid (∀ u : World, Calls Try.prog 45 #[.string (str (Lib.join (xs.map (·.data.toList)) []))] u fun e w' => e = .returned (.int .i64 (sumOf (Lib.join (xs.map (·.data.toList)) []))) ∧ w' = u) := fun u => i_SumOf _ u (by rw [str_size]; exact hl)
  generalize Lib.join (xs.map (·.data.toList)) [] = jn at *
  generalize xs.length = n at *
  clear hA
  go_enter Try.func39, Try.ntmps39
  go_wp2_with (first | (go_at_call 46; refine (CJ.out _ rfl).mono ?_; rintro e w1 ⟨rfl, hb1⟩) | (go_at_call 45; refine (CS.out _).mono ?_; rintro e w2 ⟨rfl, rfl⟩))
  go_ret
  exact ⟨rfl, hb1⟩

set_option maxRecDepth 100000 in
set_option maxHeartbeats 1600000 in
theorem i_udpSum (s d : Int) (u : UdpV) (w : World) (hs : 0 ≤ s ∧ s ≤ 4294967295) (hd : 0 ≤ d ∧ d ≤ 4294967295) (hl : u.data.size ≤ 65507) :
    Calls Try.prog 26 #[.int .i64 s, .int .i64 d, .string (str (be 2 u.from_ ++ be 2 u.to_)), .string (str (be 2 (8 + (u.data.size : Int)))), .string u.data] w fun e w' => e = .returned (.int .i64 (no0 (udpSumOf s d u))) ∧ Below w.heap.size w w' := by
  have B : Hid (∀ (k n : Int) (u : World), 1 ≤ k → k ≤ 7 → 0 ≤ n → n < 256 ^ k.toNat → n ≤ 9223372036854775807 → Calls Try.prog 25 #[.int .i64 n, .int .i64 k] u fun e w' => e = .returned (.string (str (be k.toNat n))) ∧ Below u.heap.size u w') := fun k n u k0 k1 n0 n1 n2 => by
    have := i_BytesOf n k u n2
    rw [okB_of k0 k1 n0 n1] at this
    exact this
  have HJ : Lib.join ([str (be 4 s), str (be 4 d), str (be 2 17), str (be 2 (8 + (u.data.size : Int))), str (be 2 u.from_ ++ be 2 u.to_), str (be 2 (8 + (u.data.size : Int))), u.data].map (·.data.toList)) [] = udpAhead s d u ++ bl u.data := by
    simp [Lib.join, List.intercalate, udpAhead]
  have CO : Hid (∀ (bk : Nat) (v : World), Bx v bk [.string (str (be 4 s)), .string (str (be 4 d)), .string (str (be 2 17)), .string (str (be 2 (8 + (u.data.size : Int)))), .string (str (be 2 u.from_ ++ be 2 u.to_)), .string (str (be 2 (8 + (u.data.size : Int)))), .string u.data] → Calls Try.prog 39 #[.slice (some ⟨bk, 0, none⟩) 7 7] v fun e w' => e = .returned (.int .i64 (udpSumOf s d u)) ∧ Below v.heap.size v w') := fun bk v hA => by
    have := i_sumOver bk 7 [str (be 4 s), str (be 4 d), str (be 2 17), str (be 2 (8 + (u.data.size : Int))), str (be 2 u.from_ ++ be 2 u.to_), str (be 2 (8 + (u.data.size : Int))), u.data] v hA (by simp) (by simp) (by rw [HJ, List.length_append, udpAhead_length, bl_length]; omega)
    rw [HJ] at this
    exact this
  clear HJ
  have H0 : Hid (no0 (udpSumOf s d u) = if udpSumOf s d u = 0 then 65535 else udpSumOf s d u) := rfl
  generalize udpSumOf s d u = sm at *
  generalize str (be 2 u.from_ ++ be 2 u.to_) = ps at *
  generalize str (be 2 (8 + (u.data.size : Int))) = sz at *
  obtain ⟨fr, to, sn, data⟩ := u
  simp only at *
  have hB := Below.refl w.heap.size w
  by_cases hz : sm = 0
  · subst hz
    go_enter Try.func26, Try.ntmps26
    go_wp2_with (first | (go_at_call 25; refine (B.out _ _ _ (by decide) (by decide) (by omega) (by simp only [Int.reduceToNat, Int.reducePow]; omega) (by omega)).mono ?_; rintro e wq ⟨rfl, hq⟩; replace hB := hB.trans (hq.mono hB.size); clear hq) | (go_at_call 39; refine (CO.out _ _ (Bx.new _ _ _)).mono ?_; rintro e w4 ⟨rfl, hb4⟩; replace hB := (hB.alloc hB.size _).trans (hb4.mono (by have := hB.size; simp; omega))))
    go_ret
    exact ⟨ret_i64 (by rw [H0.out]; rfl), hB⟩
  · have hz' : (sm == 0) = false := by simp [hz]
    rw [if_neg hz] at H0
    go_enter Try.func26, Try.ntmps26
    go_wp2_with (first | (go_at_call 25; refine (B.out _ _ _ (by decide) (by decide) (by omega) (by simp only [Int.reduceToNat, Int.reducePow]; omega) (by omega)).mono ?_; rintro e wq ⟨rfl, hq⟩; replace hB := hB.trans (hq.mono hB.size); clear hq) | (go_at_call 39; refine (CO.out _ _ (Bx.new _ _ _)).mono ?_; rintro e w4 ⟨rfl, hb4⟩; replace hB := (hB.alloc hB.size _).trans (hb4.mono (by have := hB.size; simp; omega))))
    go_ret
    exact ⟨ret_i64 (by rw [H0.out]), hB⟩

set_option maxRecDepth 100000 in
set_option maxHeartbeats 1600000 in
theorem i_UdpBytes (s d : Int) (u : UdpV) (w : World) (hl : u.data.size ≤ 1099511627776) :
    Calls Try.prog 8 #[.int .i64 s, .int .i64 d, .agg (udpL u)] w fun e w' => e = .returned (.string (str (udpText s d u))) ∧ Below w.heap.size w w' := by
  have hA : Bx (w.alloc (.cells (udpL u) 25)) w.heap.size (udpL u).toList := Bx.new w _ _
  have hB : Below w.heap.size w (w.alloc (.cells (udpL u) 25)) := (Below.refl _ w).alloc (Nat.le_refl _) _
  have CU : Hid (∀ v : World, Calls Try.prog 23 #[.agg (udpL u)] v fun e w' => e = .returned (.bool (udpB u)) ∧ Below v.heap.size v w') := fun v => i_isUdp u v hl
  by_cases hk : udpOk s d u = true
  · have hk' := hk
    simp only [udpOk, Bool.and_eq_true] at hk'
    obtain ⟨⟨k0, k1⟩, k2⟩ := hk'
    have hs := of_inB k1
    have hd := of_inB k2
    have hu : (0 ≤ u.from_ ∧ u.from_ ≤ 65535) ∧ (0 ≤ u.to_ ∧ u.to_ ≤ 65535) ∧ u.data.size ≤ 65507 := by
      have := k0
      simp only [udpB, inB, Bool.and_eq_true, decide_eq_true_eq] at this
      exact ⟨this.1.1, this.1.2, this.2⟩
    obtain ⟨⟨f0, f1⟩, ⟨t0, t1⟩, hl'⟩ := hu
    rw [k0] at CU
    have B : Hid (∀ (k n : Int) (u : World), 1 ≤ k → k ≤ 7 → 0 ≤ n → n < 256 ^ k.toNat → n ≤ 9223372036854775807 → Calls Try.prog 25 #[.int .i64 n, .int .i64 k] u fun e w' => e = .returned (.string (str (be k.toNat n))) ∧ Below u.heap.size u w') := fun k n u k0 k1 n0 n1 n2 => by
      have := i_BytesOf n k u n2
      rw [okB_of k0 k1 n0 n1] at this
      exact this
    have CS : Hid (∀ v : World, Calls Try.prog 26 #[.int .i64 s, .int .i64 d, .string (str (be 2 u.from_ ++ be 2 u.to_)), .string (str (be 2 (8 + (u.data.size : Int)))), .string u.data] v fun e w' => e = .returned (.int .i64 (no0 (udpSumOf s d u))) ∧ Below v.heap.size v w') := fun v => i_udpSum s d u v hs hd hl'
    have HP : Hid (str (be 2 u.from_) ++ str (be 2 u.to_) = str (be 2 u.from_ ++ be 2 u.to_)) := str_app _ _
    have lp : (be 2 u.from_ ++ be 2 u.to_).length = 4 := by rw [List.length_append, be_length, be_length]
    have HS : Hid (str (be 2 u.from_ ++ be 2 u.to_) ++ str (be 2 (8 + (u.data.size : Int))) ++ str (be 2 (udpSum s d u)) ++ u.data = str (udpText s d u)) := by
      show _ = _
      unfold udpText
      rw [if_pos hk, str_app, str_app, str_app_bl]; rfl
    have hsb := udpSum_bd s d u
    have HU : Hid (udpSum s d u = if u.sum then no0 (udpSumOf s d u) else 0) := rfl
    have b2 : ∀ n, (be 2 n).length = 2 := fun n => be_length 2 n
    clear hk
    generalize udpText s d u = tx at *
    generalize udpSum s d u = sm at *
    generalize no0 (udpSumOf s d u) = n0 at *
    obtain ⟨fr, to, sn, data⟩ := u
    simp only [udpL] at *
    generalize be 2 fr ++ be 2 to = ps at *
    have hi := k1
    have hi2 := k2
    cases sn
    all_goals
      simp only [Bool.false_eq_true, if_false, if_true] at HU
      have HUs : sm = _ := HU.out
      clear HU
      subst HUs
      go_enter Try.func8, Try.ntmps8
      go_wp2_with (first | (go_at_call 23; refine (CU.out _).mono ?_; rintro e w1 ⟨rfl, hb1⟩; replace hA := hA.below hb1; replace hB := hB.trans (hb1.mono hB.size); clear hb1) | (go_at_call 24; refine (i_isAddr _ _).mono ?_; rintro e wz ⟨rfl, hz⟩; rw [hz]; clear hz wz))
      have hne := BW.some w1
      have a0 := fun u : BW w1 => (hA.ofBW u).2 0 _ rfl
      have a1 := fun u : BW w1 => (hA.ofBW u).2 1 _ rfl
      refine wp_region_below (by kernel_rfl) (by kernel_rfl) ?_
      repeat (go_big_quiet_step ((go_at_call 25; exact Calls.into (B.out _ _ _ (by decide) (by decide) (by omega) (by simp only [Int.reduceToNat, Int.reducePow]; omega) (by omega)))))
      refine wpQuiet_nil ?_
      intro _ hw'
      obtain ⟨u, hw''⟩ := hw'
      subst hw''
      rw [HP.out]
      clear a0 a1 hne
      replace hB := hB.trans (u.le.mono hB.size)
      replace hA := hA.ofBW u
      generalize u.u = w2 at *
      clear u
      have a2 := hA.2 2 _ rfl
      have a3 := hA.2 3 _ rfl
      go_wp2_with (first | (go_at_call 25; refine (B.out _ _ _ (by decide) (by decide) (by omega) (by simp only [Int.reduceToNat, Int.reducePow]; omega) (by omega)).mono ?_; rintro e wr ⟨rfl, hq⟩; replace hA := hA.below hq; replace hB := hB.trans (hq.mono hB.size); clear hq a2 a3; have a2 := hA.2 2 _ rfl; have a3 := hA.2 3 _ rfl) | (go_at_call 26; refine (CS.out _).mono ?_; rintro e wr ⟨rfl, hq⟩; replace hA := hA.below hq; replace hB := hB.trans (hq.mono hB.size); clear hq a2 a3))
      have hne := BW.some wr
      have a3 := fun u : BW wr => (hA.ofBW u).2 3 _ rfl
      refine wp_region_below (by kernel_rfl) (by kernel_rfl) ?_
      repeat (go_big_quiet_step ((go_at_call 25; exact Calls.into (B.out _ _ _ (by decide) (by decide) (by omega) (by simp only [Int.reduceToNat, Int.reducePow]; omega) (by omega)))))
      refine wpQuiet_nil ?_
      intro _ hw'
      obtain ⟨u, hw''⟩ := hw'
      subst hw''
      rw [HS.out]
      clear a3 hne
      go_wp2
      go_ret
      exact ⟨rfl, hB.trans (u.le.mono hB.size)⟩
  · have HT : Hid (udpText s d u = []) := by show _ = _; unfold udpText; rw [if_neg hk]
    have hk' : udpB u = false ∨ udpB u = true ∧ addrB s = false ∨ udpB u = true ∧ addrB s = true ∧ addrB d = false := by
      unfold udpOk at hk
      revert hk
      cases udpB u <;> cases addrB s <;> cases addrB d <;> decide
    generalize udpText s d u = tx at *
    generalize udpB u = ub at *
    clear hk
    obtain ⟨fr, to, sn, data⟩ := u
    simp only [udpL] at *
    rcases hk' with rfl | ⟨rfl, k1⟩ | ⟨rfl, k1, k2⟩
    all_goals
      go_enter Try.func8, Try.ntmps8
      go_wp2_with (first | (go_at_call 23; refine (CU.out _).mono ?_; rintro e w1 ⟨rfl, hb1⟩; replace hB := hB.trans (hb1.mono hB.size); clear hb1) | (go_at_call 24; refine (i_isAddr _ _).mono ?_; rintro e wz ⟨rfl, hz⟩; rw [hz]; clear hz wz))
      go_ret
      exact ⟨by rw [HT.out]; rfl, hB⟩
end Go.Proofs.Ytjdellkdnempkaa
