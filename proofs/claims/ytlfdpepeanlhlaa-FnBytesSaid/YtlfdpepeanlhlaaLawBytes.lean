/-
  The walk of the law on numbers in bytes: a number comes back from its bytes, wherever they stand.
-/
import Derived.Test.YtlfdpepeanlhlaaLawBase
namespace Go.Proofs.Ytlfdpepeanlhlaa
open Go.RowKit Go.PlainAid
theorem bytesOf_ok {n k : Int} (h : okB n k = true) : bytesOf n k = be k.toNat n ∧ 1 ≤ k ∧ k ≤ 7 ∧ 0 ≤ n ∧ n < 256 ^ k.toNat := by
  have h2 : 1 ≤ k ∧ k ≤ 7 ∧ 0 ≤ n ∧ n < 256 ^ k.toNat := by unfold okB at h; simpa using h
  exact ⟨okB_of h2.1 h2.2.1 h2.2.2.1 h2.2.2.2, h2⟩
theorem bytesOf_none {n k : Int} (h : okB n k = false) : bytesOf n k = [] := by unfold bytesOf; rw [h]; rfl
theorem okN_iff {s : ByteArray} {at_ k : Int} (h : okN s at_ k = true) : 1 ≤ k ∧ k ≤ 7 ∧ 0 ≤ at_ ∧ at_ + k ≤ s.size := by unfold okN at h; simpa using h
theorem numAt_no {s : ByteArray} {at_ k : Int} (h : okN s at_ k = false) : numAt s at_ k = 0 := by unfold numAt; rw [h]; rfl

set_option maxRecDepth 100000 in
set_option maxHeartbeats 1600000 in
theorem walk_FnBytes (a : Option Addr) (len cap : Nat) (zs : List Int) (w : World) (w0 : IsRow .u8 w a len cap zs) :
    Calls Try.prog 3 #[.slice a len cap] w fun e w' => e = .returned (.bool true) ∧ Below w.heap.size w w' := by
  have hl := row_len w0
  by_cases hz : 1048576 < len
  · go_enter Try.func3, Try.ntmps3
    go_wp2
    go_ret
    exact ⟨rfl, Below.refl _ _⟩
  · have hC := code_of_row w0 (by omega)
    clear w0
    go_enter Try.func3, Try.ntmps3
    go_wp2_with fail
    refine (big_no _ _ _ _ (by omega)).mono ?_
    rintro e w' ⟨rfl, rfl⟩
    go_wp2_with fail
    refine (d_BytesOf _ a len cap _ hC).mono ?_
    rintro e w1 ⟨n, k, rfl, hn, hk, hb1⟩
    go_wp2_with fail
    refine (i_BytesOf _ _ _ hn.2).mono ?_
    rintro e w2 ⟨rfl, hb2⟩
    have hb : Below w'.heap.size w' w2 := hb1.trans (hb2.mono hb1.size)
    clear hb1 hb2
    have hC2 := hC.below hb
    go_wp2_with fail
    refine (d_NumAt _ a len cap _ hC2).mono ?_
    rintro e w3 ⟨t, at_, j, rfl, ht, hat, hj, hb3⟩
    replace hb := hb.trans (hb3.mono hb.size)
    clear hb3 hC2
    have hts : (str t).size ≤ maxLen := by rw [str_size]; unfold maxLen; omega
    go_wp2_with fail
    refine (i_NumAt _ _ _ _ hts).mono ?_
    rintro e w4 ⟨rfl, rfl⟩
    go_wp2_with fail
    refine (s_NumAt _ _ _ _ hts).mono ?_
    rintro e w4 ⟨rfl, rfl⟩
    go_wp2_with fail
    refine (s_BytesOf _ _ _).mono ?_
    rintro e w5 ⟨rfl, hb5⟩
    replace hb := hb.trans (hb5.mono hb.size)
    clear hb5
    cases hok : okB n k
    · rw [bytesOf_none hok]
      go_wp2_with fail
      refine (s_BytesOf _ _ _).mono ?_
      rintro e w6 ⟨rfl, hb6⟩
      rw [bytesOf_none hok]
      go_wp2
      go_ret
      exact ⟨rfl, hb.trans (hb6.mono hb.size)⟩
    · obtain ⟨e1, k1, k2, n0, n1⟩ := bytesOf_ok hok
      obtain ⟨K, rfl⟩ := Int.eq_ofNat_of_zero_le (show 0 ≤ k by omega)
      rw [Int.toNat_natCast] at e1 n1
      rw [e1]
      have hlen : (be K n).length = K := be_length _ _
      have hnum : num (be K n) = n := num_be K n n0 n1
      generalize be K n = sl at *
      have hne : sl.isEmpty = false := by cases sl with | nil => simp at hlen; omega | cons => rfl
      have C1 : Hid (∀ u : World, Calls Try.prog 19 #[.string (str t ++ str sl ++ str t), .int .i64 (t.length : Int), .int .i64 (K : Int)] u fun e w' => e = .returned (.tuple #[.int .i64 n, .bool true]) ∧ w' = u) := by
        intro u
        have h := i_NumAt (str t ++ str sl ++ str t) (t.length : Int) (K : Int) u (by rw [str_app, str_app, str_size]; simp; unfold maxLen; omega)
        have o := okN_true (s := str t ++ str sl ++ str t) (at_ := (t.length : Int)) (k := (K : Int)) ⟨by omega, by omega, by omega, by rw [str_app, str_app, str_size]; simp; omega⟩
        have e2 : ((bl (str t ++ str sl ++ str t)).drop (t.length : Int).toNat).take (K : Int).toNat = sl := by
          rw [str_app, str_app, bl_str, Int.toNat_natCast, Int.toNat_natCast, List.append_assoc, List.drop_left, ← hlen, List.take_left]
        rw [o.1, o.2, e2, hnum] at h
        exact h
      have hlK : ((sl.length : Int) == (K : Int)) = true := by simp; omega
      have hsl : sl.length ≤ 7 := by omega
      clear hnum e1 n0 n1 hok hlen
      cases hokN : okN (str t) at_ j
      · have hx := numAt_no hokN
        rw [hx]
        go_wp2_with fail
        refine (C1.out _).mono ?_
        rintro e w6 ⟨rfl, rfl⟩
        go_wp2_with fail
        have hnw := BW.some w6
        refine wp_region_below (by kernel_rfl) (by kernel_rfl) ?_
        repeat (go_big_quiet_step (fail))
        refine wpQuiet_nil ?_
        intro _ hw'
        obtain ⟨u, hw''⟩ := hw'
        subst hw''
        go_wp2
        go_ret
        exact ⟨rfl, hb.trans (u.le.mono hb.size)⟩
      · obtain ⟨j1, j2, a0, a1⟩ := okN_iff hokN
        have hx := (okN_true ⟨j1, j2, a0, a1⟩).2
        rw [hx]
        rw [str_size] at a1
        obtain ⟨A, rfl⟩ := Int.eq_ofNat_of_zero_le a0
        obtain ⟨J, rfl⟩ := Int.eq_ofNat_of_zero_le (show 0 ≤ j by omega)
        rw [bl_str, Int.toNat_natCast, Int.toNat_natCast]
        have hPl : ((t.drop A).take J).length = J := by simp; omega
        have hex : (str t).extract A (A + J) = str ((t.drop A).take J) := by rw [str_extract, show A + J - A = J by omega]
        have hPb := num_bounds ((t.drop A).take J)
        have hbe := be_num ((t.drop A).take J)
        rw [hPl] at hPb hbe
        generalize (t.drop A).take J = P at *
        have C2 : Hid (∀ u : World, Calls Try.prog 17 #[.int .i64 (num P), .int .i64 (J : Int)] u fun e w' => e = .returned (.string (str P)) ∧ Below u.heap.size u w') := by
          intro u
          have hlt : num P ≤ 9223372036854775807 := by
            have : (256 : Int) ^ J ≤ 256 ^ 7 := ipow_le (by omega)
            have : (256 : Int) ^ 7 = 72057594037927936 := by decide
            omega
          have h := i_BytesOf (num P) (J : Int) u hlt
          rw [okB_of (by omega) (by omega) hPb.1 (by rw [Int.toNat_natCast]; exact hPb.2), Int.toNat_natCast, hbe] at h
          exact h
        clear hbe hPb hPl hx hokN
        go_wp2_with fail
        refine (C1.out _).mono ?_
        rintro e w6 ⟨rfl, rfl⟩
        go_wp2_with fail
        have hnw := BW.some w6
        refine wp_region_below (by kernel_rfl) (by kernel_rfl) ?_
        repeat (go_big_quiet_step ((go_at_call 17; exact Calls.into (C2.out _))))
        refine wpQuiet_nil ?_
        intro _ hw'
        obtain ⟨u, hw''⟩ := hw'
        subst hw''
        go_wp2
        go_ret
        exact ⟨rfl, hb.trans (u.le.mono hb.size)⟩
end Go.Proofs.Ytlfdpepeanlhlaa
