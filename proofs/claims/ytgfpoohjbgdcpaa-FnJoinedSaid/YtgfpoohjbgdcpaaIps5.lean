/-
  What the exact laws on datagrams do with their argument: sizes, copies.
-/
import Derived.Test.YtgfpoohjbgdcpaaIps4
namespace Go.Proofs.Ytgfpoohjbgdcpaa
open Go.RowKit Go.PlainAid
set_option maxRecDepth 100000 in
theorem l_szIp_yes (p : IpV) (w : World) (h : p.opts.size + p.data.size ≤ 1048576) :
    Calls Try.prog 8 #[.agg (ipL p), .int .i64 1048576] w fun e w' => e = .returned (.int .i64 (1048576 - (p.opts.size : Int) - (p.data.size : Int))) ∧ Below w.heap.size w w' := by
  obtain ⟨tos, id, df, mf, off, ttl, pro, src, dst, opts, data⟩ := p
  simp only [ipL] at *
  go_enter Try.func8, Try.ntmps8
  go_wp2
  go_ret
  exact ⟨rfl, (Below.refl _ w).alloc (Nat.le_refl _) _⟩
set_option maxRecDepth 100000 in
theorem l_szIp_no (p : IpV) (w : World) (h : 1048576 < p.opts.size + p.data.size) (hn : p.opts.size ≤ 9223372036854775807) (hx : p.data.size ≤ 9223372036854775807) :
    Calls Try.prog 8 #[.agg (ipL p), .int .i64 1048576] w fun e w' => e = .returned (.int .i64 (-1)) ∧ Below w.heap.size w w' := by
  obtain ⟨tos, id, df, mf, off, ttl, pro, src, dst, opts, data⟩ := p
  simp only [ipL] at *
  by_cases h1 : opts.size ≤ 1048576
  all_goals
    go_enter Try.func8, Try.ntmps8
    go_wp2
    go_ret
    exact ⟨rfl, (Below.refl _ w).alloc (Nat.le_refl _) _⟩
set_option maxRecDepth 100000 in
set_option maxHeartbeats 1600000 in
theorem l_toIp (p : IpV) (w : World) :
    Calls Try.prog 10 #[.agg (ipL p)] w fun e w' => e = .returned (.agg (ipL p)) ∧ Below w.heap.size w w' := by
  obtain ⟨tos, id, df, mf, off, ttl, pro, src, dst, opts, data⟩ := p
  simp only [ipL] at *
  go_enter Try.func10, Try.ntmps10
  go_wp2
  refine bodyPost_ret (v := .agg #[.int .i64 tos, .int .i64 id, .bool df, .bool mf, .int .i64 off, .int .i64 ttl, .int .i64 pro, .int .i64 src, .int .i64 dst, .string opts, .string data]) ?_ rfl ⟨rfl, ?_⟩
  · simp [results, Try.results10, go_sem]
  · go_grown
end Go.Proofs.Ytgfpoohjbgdcpaa
