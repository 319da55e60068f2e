/-
  The walk of the law on parts of sums.
-/
import Derived.Test.YtlfdpepeanlhlaaLawSums
namespace Go.Proofs.Ytlfdpepeanlhlaa
open Go.RowKit Go.PlainAid
set_option maxRecDepth 100000 in
set_option maxHeartbeats 1600000 in
theorem walk_FnSumParts (a : Option Addr) (len cap : Nat) (zs : List Int) (w : World) (w0 : IsRow .u8 w a len cap zs) :
    Calls Try.prog 8 #[.slice a len cap] w fun e w' => e = .returned (.bool true) ∧ Below w.heap.size w w' := by
  have hl := row_len w0
  by_cases hz : 1048576 < len
  · go_enter Try.func8, Try.ntmps8
    go_wp2
    go_ret
    exact ⟨rfl, Below.refl _ _⟩
  · have hC := code_of_row w0 (by omega)
    clear w0
    go_enter Try.func8, Try.ntmps8
    go_wp2_with fail
    refine (big_no _ _ _ _ (by omega)).mono ?_
    rintro e w' ⟨rfl, rfl⟩
    go_wp2_with fail
    refine (d_SumOf _ a len cap _ hC).mono ?_
    rintro e w1 ⟨l, rfl, hl1, hb1⟩
    have hC1 := hC.below hb1
    go_wp2_with fail
    refine (i_SumOf _ _ (by rw [str_size]; omega)).mono ?_
    rintro e w' ⟨rfl, rfl⟩
    rw [bl_str]
    go_wp2_with fail
    refine (l_place _ _ _ _ _ _ (by omega) hC1).mono ?_
    rintro e w' ⟨x, rfl, hx0, hx1, rfl⟩
    obtain ⟨k, rfl⟩ := Int.eq_ofNat_of_zero_le hx0
    have hk : 2 * k ≤ l.length := by omega
    obtain ⟨V, hV⟩ : ∃ V, V = sumOf (l.take (2 * k)) := ⟨_, rfl⟩
    have hV0 : 0 ≤ V ∧ V ≤ 65535 := by rw [hV]; exact sumOf_bd _
    have heq : str (bytesOf (65535 - V) 2) ++ (str l).extract (2 * k) l.length = str (be 2 (65535 - V) ++ l.drop (2 * k)) := by
      rw [bytesOf_2 (by omega) (by omega), str_extract, str_app, List.take_of_length_le (by simp)]
    have hbl : (bytesOf (65535 - V) 2).length = 2 := by rw [bytesOf_2 (by omega) (by omega), be_length]
    have C0 : Hid (∀ u : World, Calls Try.prog 24 #[.string (str l)] u fun e w' => e = .returned (.int .i64 (sumOf l)) ∧ w' = u) :=
      fun u => s_SumOf' _ _ u (by rw [str_size]; omega) rfl
    have C1 : Hid (∀ u : World, Calls Try.prog 23 #[.string ((str l).extract 0 (2 * k))] u fun e w' => e = .returned (.int .i64 V) ∧ w' = u) :=
      fun u => i_SumOf' _ _ u (by rw [str_extract, str_size]; simp; omega) (by rw [str_extract, bl_str, hV, List.drop_zero, Nat.sub_zero])
    have C2 : Hid (∀ u : World, Calls Try.prog 23 #[.string (str (bytesOf (65535 - V) 2) ++ (str l).extract (2 * k) l.length)] u fun e w' => e = .returned (.int .i64 (sumOf l)) ∧ w' = u) :=
      fun u => i_SumOf' _ _ u (by rw [heq, str_size, List.length_append, be_length]; simp; omega) (by rw [heq, bl_str, hV, sum_parts _ _ (by simp; omega), List.take_append_drop])
    obtain ⟨hV1, hV2⟩ := hV0
    clear heq hV hx0 hx1
    have hsl1 : 0 ≤ 2 * (k : Int) := by omega
    have hsl2 : 2 * (k : Int) ≤ (l.length : Int) := by omega
    go_wp2
    have hne := BW.some w'
    refine wp_region_below (by kernel_rfl) (by kernel_rfl) ?_
    repeat (go_big_quiet_step ((go_at_call 24; exact Calls.into_same (C0.out _))))
    go_big_quiet_step (exact Calls.into_same (C1.out _))
    repeat (go_big_quiet_step ((go_at_call 21; exact Calls.into (s_BytesOf _ _ _))))
    go_big_quiet_step (exact Calls.into_same (C2.out _))
    repeat (go_big_quiet_step (fail))
    refine wpQuiet_nil ?_
    intro _ hw'
    obtain ⟨u, hw''⟩ := hw'
    subst hw''
    go_wp2
    go_ret
    exact ⟨rfl, hb1.trans (u.le.mono hb1.size)⟩
end Go.Proofs.Ytlfdpepeanlhlaa
