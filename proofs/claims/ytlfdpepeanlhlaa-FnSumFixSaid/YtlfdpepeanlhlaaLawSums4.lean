/-
  The walk of the law on sums that are fixed: the Go text.
-/
import Derived.Test.YtlfdpepeanlhlaaLawSums3
namespace Go.Proofs.Ytlfdpepeanlhlaa
open Go.RowKit Go.PlainAid
set_option maxRecDepth 100000 in
set_option maxHeartbeats 1600000 in
theorem walk_FnSumFix (a : Option Addr) (len cap : Nat) (zs : List Int) (w : World) (w0 : IsRow .u8 w a len cap zs) :
    Calls Try.prog 6 #[.slice a len cap] w fun e w' => e = .returned (.bool true) ∧ Below w.heap.size w w' := by
  have hl := row_len w0
  by_cases hz : 1048576 < len
  · go_enter Try.func6, Try.ntmps6
    go_wp2
    go_ret
    exact ⟨rfl, Below.refl _ _⟩
  · have hC := code_of_row w0 (by omega)
    clear w0
    go_enter Try.func6, Try.ntmps6
    go_wp2_with fail
    refine (big_no _ _ _ _ (by omega)).mono ?_
    rintro e w' ⟨rfl, rfl⟩
    go_wp2_with fail
    refine (d_SumOf _ a len cap _ hC).mono ?_
    rintro e w1 ⟨l, rfl, hl1, hb1⟩
    have hC1 := hC.below hb1
    go_wp2_with fail
    refine (d_SumFix _ a len cap _ hC1).mono ?_
    rintro e w2 ⟨x, y, c, rfl, hx, hy, hc, hb2⟩
    have hb : Below w'.heap.size w' w2 := hb1.trans (hb2.mono hb1.size)
    have hC2 := hC.below hb
    clear hC1 hb1 hb2 hx hy
    go_wp2_with fail
    refine (i_SumFix _ _ _ _).mono ?_
    rintro e w3 ⟨rfl, rfl⟩
    go_wp2_with fail
    refine (s_SumFix _ _ _ _).mono ?_
    rintro e w3 ⟨rfl, rfl⟩
    by_cases hlen : l.length < 2
    · go_wp2_with fail
      refine (i_SumFix _ _ _ _).mono ?_
      rintro e w4 ⟨rfl, rfl⟩
      go_wp2_with fail
      refine (s_SumFix _ _ _ _).mono ?_
      rintro e w4 ⟨rfl, rfl⟩
      go_wp2
      go_ret
      exact ⟨rfl, hb⟩
    · by_cases hcc : 0 ≤ c ∧ c ≤ 65535
      · obtain ⟨c0, c1⟩ := hcc
        go_wp2_with fail
        refine (l_place _ _ _ _ _ _ (by omega) hC2).mono ?_
        rintro e w4 ⟨q, rfl, hq0, hq1, rfl⟩
        obtain ⟨k, rfl⟩ := Int.eq_ofNat_of_zero_le hq0
        have hk : 2 * k + 2 ≤ l.length := by omega
        have C1 : Hid (∀ u : World, Calls Try.prog 20 #[.string (str l), .int .i64 (2 * (k : Int)), .int .i64 2] u fun e w' => e = .returned (.tuple #[.int .i64 (num ((l.drop (2 * k)).take 2)), .bool true]) ∧ w' = u) := by
          intro u
          have h := s_NumAt (str l) (2 * (k : Int)) 2 u (by rw [str_size]; unfold maxLen; omega)
          have o := okN_true (s := str l) (at_ := 2 * (k : Int)) (k := 2) ⟨by omega, by omega, by omega, by rw [str_size]; omega⟩
          rw [o.1, o.2, bl_str, show (2 * (k : Int)).toNat = 2 * k by omega] at h
          exact h
        have heq := changed_str l k c c0 c1
        have hcl : (changed l k c).length = l.length := by unfold changed; simp [be_length]; omega
        have hfix := fixed l k c hk c0 c1
        generalize hT : changed l k c = t at *
        have hbl : (bytesOf c 2).length = 2 := by rw [bytesOf_2 c0 c1, be_length]
        generalize hO : num ((l.drop (2 * k)).take 2) = o at *
        have Heq : Hid ((str l).extract 0 (2 * k) ++ str (bytesOf c 2) ++ (str l).extract (2 * k + 2) l.length = str t) := heq
        have Hcl : Hid (t.length = l.length) := hcl
        have Hfix : Hid ((zB t = true → sumFix (sumOf l) o c = 0) ∧ (zB t = false → sumFix (sumOf l) o c = sumOf t)) := hfix
        clear heq hcl hfix hT hO hq0 hq1
        have hsl1 : 0 ≤ 2 * (k : Int) := by omega
        have hsl2 : 2 * (k : Int) ≤ (l.length : Int) := by omega
        have hsl3 : 2 * (k : Int) + 2 ≤ (l.length : Int) := by omega
        go_wp2_with fail
        refine (C1.out _).mono ?_
        rintro e w5 ⟨rfl, rfl⟩
        go_wp2_with fail
        have hne := BW.some w5
        refine wp_region_below (by kernel_rfl) (by kernel_rfl) ?_
        repeat (go_big_quiet_step ((go_at_call 21; exact Calls.into (s_BytesOf _ _ _))))
        refine wpQuiet_nil ?_
        intro _ hw'
        obtain ⟨u, hw''⟩ := hw'
        subst hw''
        rw [Heq.out]
        go_wp2_with fail
        refine (i_SumOf' _ (sumOf l) _ (by rw [str_size]; omega) rfl).mono ?_
        rintro e w6 ⟨rfl, rfl⟩
        go_wp2_with fail
        refine (i_SumFix _ _ _ _).mono ?_
        rintro e w6 ⟨rfl, rfl⟩
        have htl : t.length ≤ 60 := by have := Hcl.out; omega
        generalize hN : sumFix (sumOf l) o c = n at *
        have hbt := get_bt (str t)
        go_wp2_with fail
        go_loop [12, 13] (fun v i => ∃ j : Nat, j ≤ t.length ∧ i = .int .i64 (j : Int) ∧ v = .bool (zB (t.take j))) (fun _ i => ((t.length : Int) - intOf i).toNat)
        case atStart => exact ⟨0, by omega, rfl, rfl⟩
        case round =>
          obtain ⟨j, hj, rfl, rfl⟩ := hrel
          by_cases hjl : j < t.length
          · have HZ : Hid (zB (t.take (j + 1)) = (zB (t.take j) && (bt (str t) j == 0))) := zB_take t j hjl
            cases hz1 : zB (t.take j)
            · go_wp2
              go_round
              case rel => exact ⟨j + 1, by omega, by go_num, by rw [HZ.out, hz1]; rfl⟩
              case measure => simp [intOf]; omega
            · have hc0 := bt_nonneg (str t) j
              have hc1 := bt_le (str t) j
              go_wp2
              go_round
              case rel => exact ⟨j + 1, by omega, by go_num, by rw [HZ.out, hz1]; rfl⟩
              case measure => simp [intOf]; omega
          · have hT : t.take j = t := List.take_of_length_le (by omega)
            rw [hT]
            clear hT
            cases hz1 : zB t
            · have hn : n = sumOf t := Hfix.out.2 hz1
              subst hn
              go_wp2_with fail
              refine (i_SumOf' _ (sumOf t) _ (by rw [str_size]; omega) rfl).mono ?_
              rintro e w7 ⟨rfl, rfl⟩
              go_wp2
              go_ret
              exact ⟨rfl, hb.trans (u.le.mono hb.size)⟩
            · have hn : n = 0 := Hfix.out.1 hz1
              subst hn
              go_wp2
              go_ret
              exact ⟨rfl, hb.trans (u.le.mono hb.size)⟩
      · have hcc' : c < 0 ∨ 65535 < c := by omega
        clear hcc
        rcases hcc' with hcc | hcc
        all_goals
          go_wp2_with fail
          refine (i_SumFix _ _ _ _).mono ?_
          rintro e w4 ⟨rfl, rfl⟩
          go_wp2_with fail
          refine (s_SumFix _ _ _ _).mono ?_
          rintro e w4 ⟨rfl, rfl⟩
          go_wp2
          go_ret
          exact ⟨rfl, hb⟩
end Go.Proofs.Ytlfdpepeanlhlaa
