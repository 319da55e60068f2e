/-
  The exact law of ReadIp: its walk.
-/
import Derived.Test.YtapcidlcmglcbaaDoorIpRd5
namespace Go.Proofs.YtapcidlcmglcbaaDoor
open Go.RowKit Go.PlainAid
theorem s_ReadIp (s : ByteArray) (w : World) (hs : s.size ≤ 1099511627776) :
    Calls Tryd.prog 13 #[.string s] w fun e w' => e = .returned (.tuple #[.agg (ipL (readIp s)), .int .i64 (ipCode s)]) ∧ Below w.heap.size w w' := by
  by_cases h0 : mhCode s = 0
  · exact s_ReadIp_late s w hs h0
  · have := mh_code h0
    have h4 := mhCode_le s
    exact s_ReadIp_early s w hs ⟨by omega, by omega⟩
set_option maxRecDepth 100000 in
set_option maxHeartbeats 1600000 in
theorem l_eqIpR (a : IpV) (w : World) :
    Calls Tryd.prog 15 #[.agg (ipL a), .agg (ipL a)] w fun e w' => e = .returned (.bool true) ∧ Below w.heap.size w w' := by
  obtain ⟨qtos, qid, qdf, qmf, qoff, qttl, qpro, qsrc, qdst, qopts, qdata⟩ := a
  simp only [ipL] at *
  go_enter Tryd.func15, Tryd.ntmps15
  go_wp2
  go_ret
  exact ⟨rfl, ((Below.refl _ w).alloc (Nat.le_refl _) _).alloc (by simp) _⟩
set_option maxRecDepth 100000 in
set_option maxHeartbeats 3200000 in
theorem walk_FnExactReadIp (A : Nat → Addr) (s : ByteArray) (hs : s.size ≤ maxLen) (w : World) (hE : Errs A w) :
    Calls Tryd.prog 3 #[.string s] w fun e w' => e = .returned (.bool true) ∧ Below w.heap.size w w' := by
  unfold maxLen at hs
  by_cases hz : 1048576 < s.size
  · go_enter Tryd.func3, Tryd.ntmps3
    go_wp2
    go_ret
    exact ⟨rfl, Below.refl _ _⟩
  · have CS : Hid (∀ u : World, Calls Tryd.prog 13 #[.string s] u fun e w' => e = .returned (.tuple #[.agg (ipL (readIp s)), .int .i64 (ipCode s)]) ∧ Below u.heap.size u w') := fun u => s_ReadIp s u (by omega)
    have CI : Hid (∀ u : World, Below w.heap.size w u → Calls Tryd.prog 14 #[.string s] u fun e w' => e = .returned (.tuple #[.agg (ipL (readIp s)), .int .i64 (ipCode s)]) ∧ Below u.heap.size u w') := fun u hb => i_ReadIp A s u (by omega) (hE.below hb)
    have CE : Hid (∀ u : World, Calls Tryd.prog 15 #[.agg (ipL (readIp s)), .agg (ipL (readIp s))] u fun e w' => e = .returned (.bool true) ∧ Below u.heap.size u w') := fun u => l_eqIpR (readIp s) u
    clear hE
    generalize readIp s = rp at *
    generalize ipCode s = cc at *
    obtain ⟨tos, id, df, mf, off, ttl, pro, src, dst, opts, data⟩ := rp
    simp only [ipL] at *
    have hcc : (cc != cc) = false := by simp
    go_enter Tryd.func3, Tryd.ntmps3
    go_wp2_with fail
    go_at_call 13
    refine (CS.out _).mono ?_
    rintro e w1 ⟨rfl, hB⟩
    have hq := (Below.refl w1.heap.size w1).alloc (Nat.le_refl _) (.cells #[.int .i64 tos, .int .i64 id, .bool df, .bool mf, .int .i64 off, .int .i64 ttl, .int .i64 pro, .int .i64 src, .int .i64 dst, .string opts, .string data] 23)
    have hX := Bx.new w1 #[.int .i64 tos, .int .i64 id, .bool df, .bool mf, .int .i64 off, .int .i64 ttl, .int .i64 pro, .int .i64 src, .int .i64 dst, .string opts, .string data] 23
    replace hB := hB.trans (hq.mono hB.size)
    clear hq CS
    go_wp2_with fail
    generalize hU : w1.alloc _ = u1 at *
    clear hU
    go_at_call 14
    refine (CI.out _ hB).mono ?_
    rintro e w2 ⟨rfl, hb⟩
    replace hX := hX.below hb
    replace hB := hB.trans (hb.mono hB.size)
    have x0 := hX.2 0 _ rfl; have x1 := hX.2 1 _ rfl; have x2 := hX.2 2 _ rfl; have x3 := hX.2 3 _ rfl; have x4 := hX.2 4 _ rfl; have x5 := hX.2 5 _ rfl; have x6 := hX.2 6 _ rfl; have x7 := hX.2 7 _ rfl; have x8 := hX.2 8 _ rfl; have x9 := hX.2 9 _ rfl; have x10 := hX.2 10 _ rfl
    have hlt := hX.1
    have hn1 : ¬ (w1.heap.size = w2.heap.size) := by omega
    have hn2 : ¬ (w2.heap.size = w1.heap.size) := by omega
    have hq := (Below.refl w2.heap.size w2).alloc (Nat.le_refl _) (.cells #[.int .i64 tos, .int .i64 id, .bool df, .bool mf, .int .i64 off, .int .i64 ttl, .int .i64 pro, .int .i64 src, .int .i64 dst, .string opts, .string data] 23)
    replace hB := hB.trans (hq.mono hB.size)
    clear hq CI hb
    go_wp2_with (go_at_call 15; refine (CE.out _).mono ?_; rintro e w3 ⟨rfl, hb⟩)
    go_ret
    exact ⟨rfl, hB.trans (hb.mono hB.size)⟩
end Go.Proofs.YtapcidlcmglcbaaDoor
