/-
  The exact law of CopiedOpts: its walk.
-/
import Derived.Test.YtkeakjgojakanaaCop3
namespace Go.Proofs.Ytkeakjgojakanaa
open Go.RowKit Go.PlainAid
set_option maxRecDepth 100000 in
set_option maxHeartbeats 1600000 in
theorem walk_FnExactCopiedOpts (s : ByteArray) (hs : s.size ≤ maxLen) (w : World) :
    Calls Try.prog 4 #[.string s] w fun e w' => e = .returned (.bool true) ∧ Below w.heap.size w w' := by
  unfold maxLen at hs
  by_cases hz : 1048576 < s.size
  · go_enter Try.func4, Try.ntmps4
    go_wp2
    go_ret
    exact ⟨rfl, Below.refl _ _⟩
  · have CS : Hid (∀ u : World, Calls Try.prog 17 #[.string s] u fun e w' => e = .returned (.tuple #[.string (cpText s), .bool (cpOk s)]) ∧ w' = u) := fun u => s_CopiedOpts s u (by omega)
    have CI : Hid (∀ u : World, Calls Try.prog 18 #[.string s] u fun e w' => e = .returned (.tuple #[.string (cpText s), .bool (cpOk s)]) ∧ Below u.heap.size u w') := fun u => i_CopiedOpts s u (by omega)
    generalize cpText s = tx at *
    generalize cpOk s = ok at *
    have e1 : (tx.toList != tx.toList) = false := by simp
    have e2 : (ok != ok) = false := by simp
    go_enter Try.func4, Try.ntmps4
    go_wp2_with fail
    go_at_call 17
    refine (CS.out _).mono ?_
    rintro e w1 ⟨rfl, rfl⟩
    go_wp2_with fail
    go_at_call 18
    refine (CI.out _).mono ?_
    rintro e w2 ⟨rfl, hb⟩
    go_wp2
    go_ret
    exact ⟨rfl, hb⟩
end Go.Proofs.Ytkeakjgojakanaa
