/-
  The walks of the laws on sums: each returns true at every code, and nothing that was there is written.
-/
import Derived.Test.YtlfdpepeanlhlaaLawBase
import Derived.Deep.RegionWith
namespace Go.Proofs.Ytlfdpepeanlhlaa
open Go.RowKit Go.PlainAid
set_option maxRecDepth 100000 in
set_option maxHeartbeats 800000 in
theorem walk_FnSumZero (a : Option Addr) (len cap : Nat) (zs : List Int) (w : World) (w0 : IsRow .u8 w a len cap zs) :
    Calls Try.prog 4 #[.slice a len cap] w fun e w' => e = .returned (.bool true) ∧ Below w.heap.size w w' := by
  have hl := row_len w0
  by_cases hz : 1048576 < len
  · go_enter Try.func4, Try.ntmps4
    go_wp2
    go_ret
    exact ⟨rfl, Below.refl _ _⟩
  · have hC := code_of_row w0 (by omega)
    clear w0
    go_enter Try.func4, Try.ntmps4
    go_wp2_with fail
    refine (big_no _ _ _ _ (by omega)).mono ?_
    rintro e w' ⟨rfl, rfl⟩
    go_wp2_with fail
    refine (d_SumOf _ a len cap _ hC).mono ?_
    rintro e w1 ⟨l, rfl, hl1, hb1⟩
    go_wp2_with fail
    refine (i_SumOf _ _ (by rw [str_size]; omega)).mono ?_
    rintro e w' ⟨rfl, rfl⟩
    rw [bl_str]
    go_wp2_with fail
    refine (s_SumOf _ _ (by rw [str_size]; omega)).mono ?_
    rintro e w' ⟨rfl, rfl⟩
    rw [bl_str]
    by_cases hodd : l.length % 2 = 1
    · have ho : ((l.length : Int) % 2 == 1) = true := by simp; omega
      go_wp2_with fail
      refine (s_SumOf _ _ (by rw [str_size]; omega)).mono ?_
      rintro e w' ⟨rfl, rfl⟩
      rw [bl_str]
      go_wp2
      go_ret
      exact ⟨rfl, hb1⟩
    · have ho : ((l.length : Int) % 2 == 1) = false := by simp; omega
      obtain ⟨hn0, hn1⟩ := sumOf_bd l
      have hz : Hid (sumOf (l ++ be 2 (sumOf l)) = 0) := sum_zero l (by omega)
      go_wp2_with fail
      refine (i_BytesOf _ _ _ (by omega)).mono ?_
      rintro e w2 ⟨rfl, hb2⟩
      rw [bytesOf_2 hn0 hn1]
      have hbl : (be 2 (sumOf l)).length = 2 := be_length _ _
      go_wp2_with fail
      rw [str_app]
      refine (i_SumOf _ _ (by rw [str_size, List.length_append]; omega)).mono ?_
      rintro e w' ⟨rfl, rfl⟩
      rw [bl_str, hz.out]
      go_wp2
      go_ret
      exact ⟨rfl, hb1.trans (hb2.mono hb1.size)⟩

set_option maxRecDepth 100000 in
set_option maxHeartbeats 800000 in
theorem walk_FnSumOrder (a : Option Addr) (len cap : Nat) (zs : List Int) (w : World) (w0 : IsRow .u8 w a len cap zs) :
    Calls Try.prog 5 #[.slice a len cap] w fun e w' => e = .returned (.bool true) ∧ Below w.heap.size w w' := by
  have hl := row_len w0
  by_cases hz : 1048576 < len
  · go_enter Try.func5, Try.ntmps5
    go_wp2
    go_ret
    exact ⟨rfl, Below.refl _ _⟩
  · have hC := code_of_row w0 (by omega)
    clear w0
    go_enter Try.func5, Try.ntmps5
    go_wp2_with fail
    refine (big_no _ _ _ _ (by omega)).mono ?_
    rintro e w' ⟨rfl, rfl⟩
    go_wp2_with fail
    refine (d_SumOf _ a len cap _ hC).mono ?_
    rintro e w1 ⟨l, rfl, hl1, hb1⟩
    have hC1 := hC.below hb1
    go_wp2_with fail
    refine (i_SumOf _ _ (by rw [str_size]; omega)).mono ?_
    rintro e w' ⟨rfl, rfl⟩
    rw [bl_str]
    go_wp2_with fail
    refine (s_SumOf _ _ (by rw [str_size]; omega)).mono ?_
    rintro e w' ⟨rfl, rfl⟩
    rw [bl_str]
    by_cases hodd : l.length % 2 = 1
    · have ho : ((l.length : Int) % 2 == 1) = true := by simp; omega
      have HS : Hid (sumOf (l ++ [0]) = sumOf l) := sum_nought l hodd
      go_wp2_with fail
      have e1 : str l ++ ⟨#[0]⟩ = str (l ++ [0]) := str_app l [0]
      rw [e1]
      refine (i_SumOf _ _ (by rw [str_size, List.length_append]; simp; omega)).mono ?_
      rintro e w' ⟨rfl, rfl⟩
      rw [bl_str, HS.out]
      go_wp2
      go_ret
      exact ⟨rfl, hb1⟩
    · have ho : ((l.length : Int) % 2 == 1) = false := by simp; omega
      go_wp2_with fail
      refine (l_place _ _ _ _ _ _ (by omega) hC1).mono ?_
      rintro e w' ⟨x, rfl, hx0, hx1, rfl⟩
      obtain ⟨k, rfl⟩ := Int.eq_ofNat_of_zero_le hx0
      have hk : 2 * k ≤ l.length := by omega
      have heq : (str l).extract (2 * k) l.length ++ (str l).extract 0 (2 * k) = str (l.drop (2 * k) ++ l.take (2 * k)) := by
        rw [str_extract, str_extract, str_app, List.take_of_length_le (by simp), List.drop_zero]; simp
      have hsz : Hid (((str l).extract (2 * k) l.length ++ (str l).extract 0 (2 * k)).size ≤ 1099511627776) := by
        show _ ≤ _; rw [heq, str_size]; simp; omega
      have hv : Hid (sumOf (bl ((str l).extract (2 * k) l.length ++ (str l).extract 0 (2 * k))) = sumOf l) := by
        show _ = _
        rw [heq, bl_str, sum_order _ _ (by simp; omega) (by simp; omega), List.take_append_drop]
      clear heq
      go_wp2
      go_region_with (go_at_call 23; refine (i_SumOf' _ _ _ hsz.out hv.out).mono ?_; rintro e w' ⟨rfl, rfl⟩)
      all_goals
        go_wp2
        go_ret
        exact ⟨rfl, hb1.drew⟩
end Go.Proofs.Ytlfdpepeanlhlaa
