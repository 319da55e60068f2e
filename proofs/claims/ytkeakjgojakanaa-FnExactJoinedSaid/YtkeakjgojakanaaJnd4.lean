/-
  The exact law of Joined: its walk.
-/
import Derived.Test.YtkeakjgojakanaaJnd3
import Derived.Test.YtkeakjgojakanaaTls4
namespace Go.Proofs.Ytkeakjgojakanaa
open Go.RowKit Go.PlainAid
set_option maxRecDepth 100000 in
set_option maxHeartbeats 3200000 in
theorem walk_FnExactJoined (T : Option Addr) (c : Nat) (l : List IpV) (w : World) (h : CellsAt w T (iqF l)) (hm : l.length ≤ maxLen) (hlong : iqLong l) :
    Calls Try.prog 6 #[.slice T l.length c] w fun e w' => e = .returned (.bool true) ∧ Below w.heap.size w w' := by
  unfold maxLen at hm
  by_cases hz : l.length + iqTot l ≤ 1048576
  · have CZ : Hid (∀ u : World, Below w.heap.size w u → Calls Try.prog 26 #[.slice T l.length c, .int .i64 1048576] u fun e w' => e = .returned (.int .i64 (1048576 - (l.length : Int) - (iqTot l : Int))) ∧ Below u.heap.size u w') := fun u hb => l_szIpS_yes T c l u (h.below hb) hz
    have CT : Hid (∀ u : World, Below w.heap.size w u → Calls Try.prog 28 #[.slice T l.length c] u fun e w' => ∃ g, e = .returned (.slice (some ⟨g, 0, none⟩) l.length l.length) ∧ ownV w' u.heap.size 42 11 (.slice (some ⟨g, 0, none⟩) l.length l.length) l.length (iqF l) ∧ Below u.heap.size u w') := fun u hb => l_toIpS T c l u (h.below hb) (by omega)
    have hsh : iqShort l := iqShort_of (by omega)
    have CS : Hid (∀ (g : Nat) (u : World), CellsAt u (some ⟨g, 0, none⟩) (iqF l) → Calls Try.prog 27 #[.slice (some ⟨g, 0, none⟩) l.length l.length] u fun e w' => e = .returned (.tuple #[.agg (ipL (jnV l)), .bool (jnOk l)]) ∧ Below u.heap.size u w') := fun g u h1 => s_Joined _ _ l u h1 hz hsh
    have CI : Hid (∀ (g : Nat) (u : World), CellsAt u (some ⟨g, 0, none⟩) (iqF l) → Calls Try.prog 29 #[.slice (some ⟨g, 0, none⟩) l.length l.length] u fun e w' => e = .returned (.tuple #[.agg (ipL (jnV l)), .bool (jnOk l)]) ∧ Below u.heap.size u w') := fun g u h1 => i_Joined _ _ l u h1 hz hsh
    have CE : Hid (∀ (g g2 : Nat) (u : World), CellsAt u (some ⟨g, 0, none⟩) (iqF l) → CellsAt u (some ⟨g2, 0, none⟩) (iqF l) → Calls Try.prog 23 #[.slice (some ⟨g, 0, none⟩) l.length l.length, .slice (some ⟨g2, 0, none⟩) l.length l.length] u fun e w' => e = .returned (.bool true) ∧ Below u.heap.size u w') := fun g g2 u h1 h2 => l_eqIpS _ _ _ _ l u h1 h2 (by omega)
    have CQ : Hid (∀ u : World, Calls Try.prog 30 #[.agg (ipL (jnV l)), .agg (ipL (jnV l))] u fun e w' => e = .returned (.bool true) ∧ Below u.heap.size u w') := fun u => l_eqIp (jnV l) u
    generalize jnV l = jv at *
    generalize jnOk l = fo at *
    obtain ⟨tos, id, df, mf, off, ttl, pro, src, dst, opts, data⟩ := jv
    simp only [ipL] at CS CI CQ
    obtain ⟨lf, hlf, hlf'⟩ : ∃ lf : Int, lf ≤ 1048576 - (l.length : Int) - (iqTot l : Int) ∧ 1048576 - (l.length : Int) - (iqTot l : Int) ≤ lf := ⟨_, Int.le_refl _, Int.le_refl _⟩
    rw [show 1048576 - (l.length : Int) - (iqTot l : Int) = lf from by omega] at CZ
    have hlf0 : 0 ≤ lf := by omega
    go_enter Try.func6, Try.ntmps6
    have hB := Below.refl w.heap.size w
    go_wp2_with fail
    go_at_call 26
    refine (CZ.out _ hB).mono ?_
    rintro e w0 ⟨rfl, hb⟩
    replace hB := hB.trans (hb.mono hB.size)
    clear hb
    go_wp2_with fail
    go_at_call 28
    refine (CT.out _ hB).mono ?_
    rintro e w1 ⟨g1, rfl, ho1, hb⟩
    replace hB := hB.trans (hb.mono hB.size)
    clear hb
    go_wp2_with fail
    go_at_call 27
    refine (CS.out _ _ ho1.reads.2).mono ?_
    rintro e w2 ⟨rfl, hb⟩
    replace hB := hB.trans (hb.mono hB.size)
    clear hb ho1
    have hX : Bx (w2.alloc (.cells #[.int .i64 tos, .int .i64 id, .bool df, .bool mf, .int .i64 off, .int .i64 ttl, .int .i64 pro, .int .i64 src, .int .i64 dst, .string opts, .string data] 42)) w2.heap.size [.int .i64 tos, .int .i64 id, .bool df, .bool mf, .int .i64 off, .int .i64 ttl, .int .i64 pro, .int .i64 src, .int .i64 dst, .string opts, .string data] := Bx.new11 w2 _ _ _ _ _ _ _ _ _ _ _ _
    replace hB := hB.alloc hB.size (.cells #[.int .i64 tos, .int .i64 id, .bool df, .bool mf, .int .i64 off, .int .i64 ttl, .int .i64 pro, .int .i64 src, .int .i64 dst, .string opts, .string data] 42)
    go_wp2_with fail
    go_at_call 28
    refine (CT.out _ hB).mono ?_
    rintro e w3 ⟨g2, rfl, ho2, hb⟩
    replace hB := hB.trans (hb.mono hB.size)
    replace hX := hX.below hb
    clear hb
    go_wp2_with fail
    go_at_call 29
    refine (CI.out _ _ ho2.reads.2).mono ?_
    rintro e w4 ⟨rfl, hb⟩
    replace hB := hB.trans (hb.mono hB.size)
    replace ho2 := ho2.far hb
    replace hX := hX.below hb
    clear hb
    have hY : Bx (w4.alloc (.cells #[.int .i64 tos, .int .i64 id, .bool df, .bool mf, .int .i64 off, .int .i64 ttl, .int .i64 pro, .int .i64 src, .int .i64 dst, .string opts, .string data] 42)) w4.heap.size [.int .i64 tos, .int .i64 id, .bool df, .bool mf, .int .i64 off, .int .i64 ttl, .int .i64 pro, .int .i64 src, .int .i64 dst, .string opts, .string data] := Bx.new11 w4 _ _ _ _ _ _ _ _ _ _ _ _
    replace hB := hB.alloc hB.size (.cells #[.int .i64 tos, .int .i64 id, .bool df, .bool mf, .int .i64 off, .int .i64 ttl, .int .i64 pro, .int .i64 src, .int .i64 dst, .string opts, .string data] 42)
    replace hX := hX.alloc (.cells #[.int .i64 tos, .int .i64 id, .bool df, .bool mf, .int .i64 off, .int .i64 ttl, .int .i64 pro, .int .i64 src, .int .i64 dst, .string opts, .string data] 42)
    replace ho2 := ho2.alloc (.cells #[.int .i64 tos, .int .i64 id, .bool df, .bool mf, .int .i64 off, .int .i64 ttl, .int .i64 pro, .int .i64 src, .int .i64 dst, .string opts, .string data] 42)
    have x0 := hX.2 0 _ rfl
    have y0 := hY.2 0 _ rfl
    have x1 := hX.2 1 _ rfl
    have y1 := hY.2 1 _ rfl
    have x2 := hX.2 2 _ rfl
    have y2 := hY.2 2 _ rfl
    have x3 := hX.2 3 _ rfl
    have y3 := hY.2 3 _ rfl
    have x4 := hX.2 4 _ rfl
    have y4 := hY.2 4 _ rfl
    have x5 := hX.2 5 _ rfl
    have y5 := hY.2 5 _ rfl
    have x6 := hX.2 6 _ rfl
    have y6 := hY.2 6 _ rfl
    have x7 := hX.2 7 _ rfl
    have y7 := hY.2 7 _ rfl
    have x8 := hX.2 8 _ rfl
    have y8 := hY.2 8 _ rfl
    have x9 := hX.2 9 _ rfl
    have y9 := hY.2 9 _ rfl
    have x10 := hX.2 10 _ rfl
    have y10 := hY.2 10 _ rfl
    have hfo : (fo != fo) = false := by simp
    go_wp2_with fail
    go_at_call 30
    refine (CQ.out _).mono ?_
    rintro e w4b ⟨rfl, hb⟩
    clear hX hY x0 y0 x1 y1 x2 y2 x3 y3 x4 y4 x5 y5 x6 y6 x7 y7 x8 y8 x9 y9 x10 y10
    replace hB := hB.trans (hb.mono hB.size)
    replace ho2 := ho2.far hb
    clear hb
    go_wp2_with fail
    go_at_call 28
    refine (CT.out _ hB).mono ?_
    rintro e w5 ⟨g3, rfl, ho3, hb⟩
    replace hB := hB.trans (hb.mono hB.size)
    replace ho2 := ho2.far hb
    clear hb
    go_wp2_with fail
    go_at_call 23
    refine (CE.out _ _ _ ho2.reads.2 ho3.reads.2).mono ?_
    rintro e w6 ⟨rfl, hb⟩
    replace hB := hB.trans (hb.mono hB.size)
    clear hb
    go_wp2
    go_ret
    exact ⟨rfl, hB⟩
  · have CZ : Hid (∀ u : World, Below w.heap.size w u → Calls Try.prog 26 #[.slice T l.length c, .int .i64 1048576] u fun e w' => e = .returned (.int .i64 (-1)) ∧ Below u.heap.size u w') := fun u hb => l_szIpS_no T c l u (h.below hb) (by omega) hlong (by omega)
    go_enter Try.func6, Try.ntmps6
    have hB := Below.refl w.heap.size w
    go_wp2_with fail
    go_at_call 26
    refine (CZ.out _ hB).mono ?_
    rintro e w0 ⟨rfl, hb⟩
    replace hB := hB.trans (hb.mono hB.size)
    clear hb
    go_wp2
    go_ret
    exact ⟨rfl, hB⟩
end Go.Proofs.Ytkeakjgojakanaa
