/-
  What the exact laws on datagrams do with their argument: sizes, copies.
-/
import Derived.Test.YtllaghicmmkpcaaIps4
namespace Go.Proofs.Ytllaghicmmkpcaa
open Go.RowKit Go.PlainAid
set_option maxRecDepth 100000 in
theorem l_szIp_yes (p : IpV) (w : World) (h : p.opts.size + p.data.size ≤ 1048576) :
    Calls Try.prog 10 #[.agg (ipL p), .int .i64 1048576] w fun e w' => e = .returned (.int .i64 (1048576 - (p.opts.size : Int) - (p.data.size : Int))) ∧ Below w.heap.size w w' := by
  obtain ⟨tos, id, df, mf, off, ttl, pro, src, dst, opts, data⟩ := p
  simp only [ipL] at *
  go_enter Try.func10, Try.ntmps10
  go_wp2
  go_ret
  exact ⟨rfl, (Below.refl _ w).alloc (Nat.le_refl _) _⟩
set_option maxRecDepth 100000 in
theorem l_szIp_no (p : IpV) (w : World) (h : 1048576 < p.opts.size + p.data.size) (hn : p.opts.size ≤ 9223372036854775807) (hx : p.data.size ≤ 9223372036854775807) :
    Calls Try.prog 10 #[.agg (ipL p), .int .i64 1048576] w fun e w' => e = .returned (.int .i64 (-1)) ∧ Below w.heap.size w w' := by
  obtain ⟨tos, id, df, mf, off, ttl, pro, src, dst, opts, data⟩ := p
  simp only [ipL] at *
  by_cases h1 : opts.size ≤ 1048576
  all_goals
    go_enter Try.func10, Try.ntmps10
    go_wp2
    go_ret
    exact ⟨rfl, (Below.refl _ w).alloc (Nat.le_refl _) _⟩
set_option maxRecDepth 100000 in
set_option maxHeartbeats 1600000 in
theorem l_toIp (p : IpV) (w : World) :
    Calls Try.prog 12 #[.agg (ipL p)] w fun e w' => e = .returned (.agg (ipL p)) ∧ Below w.heap.size w w' := by
  obtain ⟨tos, id, df, mf, off, ttl, pro, src, dst, opts, data⟩ := p
  simp only [ipL] at *
  go_enter Try.func12, Try.ntmps12
  go_wp2
  refine bodyPost_ret (v := .agg #[.int .i64 tos, .int .i64 id, .bool df, .bool mf, .int .i64 off, .int .i64 ttl, .int .i64 pro, .int .i64 src, .int .i64 dst, .string opts, .string data]) ?_ rfl ⟨rfl, ?_⟩
  · simp [results, Try.results12, go_sem]
  · go_grown
set_option maxRecDepth 100000 in
set_option maxHeartbeats 1600000 in
theorem walk_FnExactIpOk (p : IpV) (w : World) (ho : p.opts.size ≤ maxLen) (hd : p.data.size ≤ maxLen) :
    Calls Try.prog 3 #[.agg (ipL p)] w fun e w' => e = .returned (.bool true) ∧ Below w.heap.size w w' := by
  unfold maxLen at ho hd
  have hb0 : Below w.heap.size w (w.alloc (.cells (ipL p) 23)) := (Below.refl _ w).alloc (Nat.le_refl _) _
  by_cases hz : 1048576 < p.opts.size + p.data.size
  · have CZ : Hid (∀ u : World, Calls Try.prog 10 #[.agg (ipL p), .int .i64 1048576] u fun e w' => e = .returned (.int .i64 (-1)) ∧ Below u.heap.size u w') := fun u => l_szIp_no p u hz (by omega) (by omega)
    obtain ⟨tos, id, df, mf, off, ttl, pro, src, dst, opts, data⟩ := p
    simp only [ipL] at *
    go_enter Try.func3, Try.ntmps3
    go_wp2_with (go_at_call 10; refine (CZ.out _).mono ?_; rintro e w1 ⟨rfl, hb1⟩)
    go_ret
    exact ⟨rfl, hb0.trans (hb1.mono hb0.size)⟩
  · have CZ : Hid (∀ u : World, Calls Try.prog 10 #[.agg (ipL p), .int .i64 1048576] u fun e w' => e = .returned (.int .i64 (1048576 - (p.opts.size : Int) - (p.data.size : Int))) ∧ Below u.heap.size u w') := fun u => l_szIp_yes p u (by omega)
    have CT : Hid (∀ u : World, Calls Try.prog 12 #[.agg (ipL p)] u fun e w' => e = .returned (.agg (ipL p)) ∧ Below u.heap.size u w') := fun u => l_toIp p u
    have CI : Hid (∀ u : World, Calls Try.prog 13 #[.agg (ipL p)] u fun e w' => e = .returned (.bool (ipOk p)) ∧ Below u.heap.size u w') := fun u => i_IpOk p u (by omega) (by omega)
    have CS : Hid (∀ u : World, Calls Try.prog 11 #[.agg (ipL p)] u fun e w' => e = .returned (.bool (ipOk p)) ∧ Below u.heap.size u w') := fun u => s_IpOk p u (by omega) (by omega)
    have hA : Bx (w.alloc (.cells (ipL p) 23)) w.heap.size (ipL p).toList := Bx.new w _ _
    generalize ipOk p = ok at CI CS
    obtain ⟨tos, id, df, mf, off, ttl, pro, src, dst, opts, data⟩ := p
    simp only [ipL] at *
    have hne : (ok != ok) = false := by simp
    go_enter Try.func3, Try.ntmps3
    go_wp2_with (first
      | (go_at_call 10; refine (CZ.out _).mono ?_; rintro e w1 ⟨rfl, hb1⟩; have hA1 := hA.below hb1; have hB := hb0.trans (hb1.mono hb0.size); clear hA hb0 hb1; have a0 := hA1.2 0 _ rfl; have a1 := hA1.2 1 _ rfl; have a2 := hA1.2 2 _ rfl; have a3 := hA1.2 3 _ rfl; have a4 := hA1.2 4 _ rfl; have a5 := hA1.2 5 _ rfl; have a6 := hA1.2 6 _ rfl; have a7 := hA1.2 7 _ rfl; have a8 := hA1.2 8 _ rfl; have a9 := hA1.2 9 _ rfl; have a10 := hA1.2 10 _ rfl)
      | (go_at_call 12; refine (CT.out _).mono ?_; rintro e w2 ⟨rfl, hb2⟩)
      | (go_at_call 11; refine (CS.out _).mono ?_; rintro e w3 ⟨rfl, hb3⟩; have hb4 := hb2.trans (hb3.mono hb2.size); have hA3 := hA1.below hb4; replace hB := hB.trans (hb4.mono hB.size); clear a0 a1 a2 a3 a4 a5 a6 a7 a8 a9 a10 hb2 hb3 hb4; have a0 := hA3.2 0 _ rfl; have a1 := hA3.2 1 _ rfl; have a2 := hA3.2 2 _ rfl; have a3 := hA3.2 3 _ rfl; have a4 := hA3.2 4 _ rfl; have a5 := hA3.2 5 _ rfl; have a6 := hA3.2 6 _ rfl; have a7 := hA3.2 7 _ rfl; have a8 := hA3.2 8 _ rfl; have a9 := hA3.2 9 _ rfl; have a10 := hA3.2 10 _ rfl)
      | (go_at_call 13; refine (CI.out _).mono ?_; rintro e w4 ⟨rfl, hb4⟩))
    go_ret
    exact ⟨rfl, hB.trans ((hb2.trans (hb4.mono hb2.size)).mono hB.size)⟩
set_option maxRecDepth 100000 in
set_option maxHeartbeats 1600000 in
theorem walk_FnExactIpBytes (p : IpV) (w : World) (ho : p.opts.size ≤ maxLen) (hd : p.data.size ≤ maxLen) :
    Calls Try.prog 4 #[.agg (ipL p)] w fun e w' => e = .returned (.bool true) ∧ Below w.heap.size w w' := by
  unfold maxLen at ho hd
  have hb0 : Below w.heap.size w (w.alloc (.cells (ipL p) 23)) := (Below.refl _ w).alloc (Nat.le_refl _) _
  by_cases hz : 1048576 < p.opts.size + p.data.size
  · have CZ : Hid (∀ u : World, Calls Try.prog 10 #[.agg (ipL p), .int .i64 1048576] u fun e w' => e = .returned (.int .i64 (-1)) ∧ Below u.heap.size u w') := fun u => l_szIp_no p u hz (by omega) (by omega)
    obtain ⟨tos, id, df, mf, off, ttl, pro, src, dst, opts, data⟩ := p
    simp only [ipL] at *
    go_enter Try.func4, Try.ntmps4
    go_wp2_with (go_at_call 10; refine (CZ.out _).mono ?_; rintro e w1 ⟨rfl, hb1⟩)
    go_ret
    exact ⟨rfl, hb0.trans (hb1.mono hb0.size)⟩
  · have CZ : Hid (∀ u : World, Calls Try.prog 10 #[.agg (ipL p), .int .i64 1048576] u fun e w' => e = .returned (.int .i64 (1048576 - (p.opts.size : Int) - (p.data.size : Int))) ∧ Below u.heap.size u w') := fun u => l_szIp_yes p u (by omega)
    have CT : Hid (∀ u : World, Calls Try.prog 12 #[.agg (ipL p)] u fun e w' => e = .returned (.agg (ipL p)) ∧ Below u.heap.size u w') := fun u => l_toIp p u
    have CI : Hid (∀ u : World, Calls Try.prog 15 #[.agg (ipL p)] u fun e w' => e = .returned (.string (str (ipText p))) ∧ Below u.heap.size u w') := fun u => i_IpBytes p u (by omega) (by omega)
    have CS : Hid (∀ u : World, Calls Try.prog 14 #[.agg (ipL p)] u fun e w' => e = .returned (.string (str (ipText p))) ∧ Below u.heap.size u w') := fun u => s_IpBytes p u (by omega) (by omega)
    have hA : Bx (w.alloc (.cells (ipL p) 23)) w.heap.size (ipL p).toList := Bx.new w _ _
    generalize str (ipText p) = ok at CI CS
    obtain ⟨tos, id, df, mf, off, ttl, pro, src, dst, opts, data⟩ := p
    simp only [ipL] at *
    go_enter Try.func4, Try.ntmps4
    go_wp2_with (first
      | (go_at_call 10; refine (CZ.out _).mono ?_; rintro e w1 ⟨rfl, hb1⟩; have hA1 := hA.below hb1; have hB := hb0.trans (hb1.mono hb0.size); clear hA hb0 hb1; have a0 := hA1.2 0 _ rfl; have a1 := hA1.2 1 _ rfl; have a2 := hA1.2 2 _ rfl; have a3 := hA1.2 3 _ rfl; have a4 := hA1.2 4 _ rfl; have a5 := hA1.2 5 _ rfl; have a6 := hA1.2 6 _ rfl; have a7 := hA1.2 7 _ rfl; have a8 := hA1.2 8 _ rfl; have a9 := hA1.2 9 _ rfl; have a10 := hA1.2 10 _ rfl)
      | (go_at_call 12; refine (CT.out _).mono ?_; rintro e w2 ⟨rfl, hb2⟩)
      | (go_at_call 14; refine (CS.out _).mono ?_; rintro e w3 ⟨rfl, hb3⟩; have hb4 := hb2.trans (hb3.mono hb2.size); have hA3 := hA1.below hb4; replace hB := hB.trans (hb4.mono hB.size); clear a0 a1 a2 a3 a4 a5 a6 a7 a8 a9 a10 hb2 hb3 hb4; have a0 := hA3.2 0 _ rfl; have a1 := hA3.2 1 _ rfl; have a2 := hA3.2 2 _ rfl; have a3 := hA3.2 3 _ rfl; have a4 := hA3.2 4 _ rfl; have a5 := hA3.2 5 _ rfl; have a6 := hA3.2 6 _ rfl; have a7 := hA3.2 7 _ rfl; have a8 := hA3.2 8 _ rfl; have a9 := hA3.2 9 _ rfl; have a10 := hA3.2 10 _ rfl)
      | (go_at_call 15; refine (CI.out _).mono ?_; rintro e w4 ⟨rfl, hb4⟩))
    go_ret
    exact ⟨rfl, hB.trans ((hb2.trans (hb4.mono hb2.size)).mono hB.size)⟩
end Go.Proofs.Ytllaghicmmkpcaa
