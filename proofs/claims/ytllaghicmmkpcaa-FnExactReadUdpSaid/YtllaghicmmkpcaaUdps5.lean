/-
  The walk of the exact law on ReadUdp.
-/
import Derived.Test.YtllaghicmmkpcaaUdps4
namespace Go.Proofs.Ytllaghicmmkpcaa
open Go.RowKit Go.PlainAid
set_option maxRecDepth 100000 in
set_option maxHeartbeats 1600000 in
theorem l_eqUdp (u : UdpV) (w : World) :
    Calls Try.prog 22 #[.agg (udpL u), .agg (udpL u)] w fun e w' => e = .returned (.bool true) ∧ Below w.heap.size w w' := by
  have hb : Below w.heap.size w ((w.alloc (.cells (udpL u) 34)).alloc (.cells (udpL u) 34)) := ((Below.refl _ w).alloc (Nat.le_refl _) _).alloc (by simp) _
  obtain ⟨fr, to, sn, data⟩ := u
  simp only [udpL] at *
  have e1 : (fr != fr) = false := by simp
  have e2 : (to != to) = false := by simp
  have e3 : (sn != sn) = false := by simp
  go_enter Try.func22, Try.ntmps22
  go_wp2
  go_ret
  exact ⟨rfl, hb⟩
set_option maxRecDepth 100000 in
set_option maxHeartbeats 1600000 in
theorem walk_FnExactReadUdp (a b : Int) (s : ByteArray) (_w0 : (Lit.int .i64 a).wf = true) (_w1 : (Lit.int .i64 b).wf = true) (hs : s.size ≤ maxLen) (w : World) :
    Calls Try.prog 6 #[.int .i64 a, .int .i64 b, .string s] w fun e w' => e = .returned (.bool true) ∧ Below w.heap.size w w' := by
  unfold maxLen at hs
  by_cases hz : 1048576 < s.size
  · go_enter Try.func6, Try.ntmps6
    go_wp2
    go_ret
    exact ⟨rfl, Below.refl _ _⟩
  · have CI : Hid (∀ v : World, Calls Try.prog 21 #[.int .i64 a, .int .i64 b, .string s] v fun e w' => e = .returned (.tuple #[.agg (udpL (readUdp a b s)), .bool (okUdp a b s)]) ∧ Below v.heap.size v w') := fun v => i_ReadUdp a b s v (by omega)
    have CS : Hid (∀ v : World, Calls Try.prog 20 #[.int .i64 a, .int .i64 b, .string s] v fun e w' => e = .returned (.tuple #[.agg (udpL (readUdp a b s)), .bool (okUdp a b s)]) ∧ Below v.heap.size v w') := fun v => s_ReadUdp a b s v (by omega)
    have CE : Hid (∀ v : World, Calls Try.prog 22 #[.agg (udpL (readUdp a b s)), .agg (udpL (readUdp a b s))] v fun e w' => e = .returned (.bool true) ∧ Below v.heap.size v w') := fun v => l_eqUdp _ v
    generalize okUdp a b s = ok at *
    generalize readUdp a b s = u at *
    obtain ⟨fr, to, sn, data⟩ := u
    simp only [udpL] at *
    have e3 : (ok != ok) = false := by simp
    have hB := Below.refl w.heap.size w
    go_enter Try.func6, Try.ntmps6
    go_wp2_with fail
    refine (CS.out _).mono ?_
    rintro e w1 ⟨rfl, hb1⟩
    replace hB := hB.trans (hb1.mono hB.size)
    clear hb1
    have hA := Bx.new w1 #[.int .i64 fr, .int .i64 to, .bool sn, .string data] 34
    have hB1 := hB.alloc hB.size (.cells #[.int .i64 fr, .int .i64 to, .bool sn, .string data] 34)
    go_wp2_with fail
    refine (CI.out _).mono ?_
    rintro e w2 ⟨rfl, hb2⟩
    have hA2 := hA.below hb2
    have hB2 := hB1.trans (hb2.mono hB1.size)
    clear hb2 hA hB hB1
    have hA3 := hA2.below ((Below.refl _ w2).alloc (Nat.le_refl _) (.cells #[.int .i64 fr, .int .i64 to, .bool sn, .string data] 34))
    have hB3 := hB2.alloc hB2.size (.cells #[.int .i64 fr, .int .i64 to, .bool sn, .string data] 34)
    have a0 := hA2.2 0 _ rfl
    have a1 := hA2.2 1 _ rfl
    have a2 := hA2.2 2 _ rfl
    have a3 := hA2.2 3 _ rfl
    have a9 := hA2.1
    go_wp2_with (go_at_call 22; refine (CE.out _).mono ?_; rintro e w4 ⟨rfl, hb4⟩)
    go_ret
    exact ⟨rfl, hB3.trans (hb4.mono hB3.size)⟩
end Go.Proofs.Ytllaghicmmkpcaa
