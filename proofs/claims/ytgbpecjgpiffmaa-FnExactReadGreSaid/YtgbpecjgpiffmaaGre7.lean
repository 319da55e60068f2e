/-
  The walk of the exact law on ReadGre.
-/
import Derived.Test.YtgbpecjgpiffmaaGre6
namespace Go.Proofs.Ytgbpecjgpiffmaa
open Go.RowKit Go.PlainAid
set_option maxRecDepth 100000 in
set_option maxHeartbeats 1600000 in
theorem l_eqGre (g : GrV) (w : World) :
    Calls Try.prog 12 #[.agg (grL g), .agg (grL g)] w fun e w' => e = .returned (.bool true) ∧ Below w.heap.size w w' := by
  have hb : Below w.heap.size w ((w.alloc (.cells (grL g) 23)).alloc (.cells (grL g) 23)) := ((Below.refl _ w).alloc (Nat.le_refl _) _).alloc (by simp) _
  obtain ⟨a, b, x, c, y, d⟩ := g
  simp only [grL] at *
  have e1 : (a != a) = false := by simp
  have e2 : (b != b) = false := by simp
  have e3 : (c != c) = false := by simp
  have e4 : (x != x) = false := by simp
  have e5 : (y != y) = false := by simp
  go_enter Try.func12, Try.ntmps12
  go_wp2
  go_ret
  exact ⟨rfl, hb⟩
set_option maxRecDepth 100000 in
set_option maxHeartbeats 1600000 in
theorem walk_FnExactReadGre (s : ByteArray) (hs : s.size ≤ maxLen) (w : World) :
    Calls Try.prog 3 #[.string s] w fun e w' => e = .returned (.bool true) ∧ Below w.heap.size w w' := by
  unfold maxLen at hs
  by_cases hz : 1048576 < s.size
  · go_enter Try.func3, Try.ntmps3
    go_wp2
    go_ret
    exact ⟨rfl, Below.refl _ _⟩
  · have CI : Hid (∀ v : World, Calls Try.prog 11 #[.string s] v fun e w' => e = .returned (.tuple #[.agg (grL (grR s)), .int .i64 (grC s)]) ∧ Below v.heap.size v w') := fun v => i_ReadGre s v (by omega)
    have CS : Hid (∀ v : World, Calls Try.prog 10 #[.string s] v fun e w' => e = .returned (.tuple #[.agg (grL (grR s)), .int .i64 (grC s)]) ∧ Below v.heap.size v w') := fun v => s_ReadGre s v (by omega)
    have CE : Hid (∀ v : World, Calls Try.prog 12 #[.agg (grL (grR s)), .agg (grL (grR s))] v fun e w' => e = .returned (.bool true) ∧ Below v.heap.size v w') := fun v => l_eqGre _ v
    generalize grC s = ok at *
    generalize grR s = u at *
    obtain ⟨a, b, x, c, y, d⟩ := u
    simp only [grL] at *
    have e3 : (ok != ok) = false := by simp
    have hB := Below.refl w.heap.size w
    go_enter Try.func3, Try.ntmps3
    go_wp2_with fail
    refine (CS.out _).mono ?_
    rintro e w1 ⟨rfl, hb1⟩
    replace hB := hB.trans (hb1.mono hB.size)
    clear hb1
    have hA := Bx.new w1 #[.bool a, .bool b, .int .i64 x, .bool c, .int .i64 y, .string d] 23
    have hB1 := hB.alloc hB.size (.cells #[.bool a, .bool b, .int .i64 x, .bool c, .int .i64 y, .string d] 23)
    go_wp2_with fail
    refine (CI.out _).mono ?_
    rintro e w2 ⟨rfl, hb2⟩
    have hA2 := hA.below hb2
    have hB2 := hB1.trans (hb2.mono hB1.size)
    clear hb2 hA hB hB1
    have hB3 := hB2.alloc hB2.size (.cells #[.bool a, .bool b, .int .i64 x, .bool c, .int .i64 y, .string d] 23)
    have a0 := hA2.2 0 _ rfl
    have a1 := hA2.2 1 _ rfl
    have a2 := hA2.2 2 _ rfl
    have a3 := hA2.2 3 _ rfl
    have a4 := hA2.2 4 _ rfl
    have a5 := hA2.2 5 _ rfl
    have a9 := hA2.1
    go_wp2_with (go_at_call 12; refine (CE.out _).mono ?_; rintro e w4 ⟨rfl, hb4⟩)
    go_ret
    exact ⟨rfl, hB3.trans (hb4.mono hB3.size)⟩
end Go.Proofs.Ytgbpecjgpiffmaa
