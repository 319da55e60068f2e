/-
  The exact law of Hopped: its walk.
-/
import Derived.Test.YtgknkhhoelgnhaaDoorIph3
namespace Go.Proofs.YtgknkhhoelgnhaaDoor
open Go.RowKit Go.PlainAid
set_option maxRecDepth 100000 in
set_option maxHeartbeats 1600000 in
theorem walk_FnExactHopped (A : Nat → Addr) (s : ByteArray) (hs : s.size ≤ maxLen) (w : World) (hE : Errs A w) :
    Calls Tryd.prog 5 #[.string s] w fun e w' => e = .returned (.bool true) ∧ Below w.heap.size w w' := by
  unfold maxLen at hs
  by_cases hz : 1048576 < s.size
  · go_enter Tryd.func5, Tryd.ntmps5
    go_wp2
    go_ret
    exact ⟨rfl, Below.refl _ _⟩
  · have CS : Hid (∀ u : World, Calls Tryd.prog 16 #[.string s] u fun e w' => e = .returned (hopV s) ∧ Below u.heap.size u w') := fun u => s_Hopped s u (by omega)
    have CI : Hid (∀ u : World, Below w.heap.size w u → Calls Tryd.prog 17 #[.string s] u fun e w' => e = .returned (hopV s) ∧ Below u.heap.size u w') := fun u hb => i_Hopped A s u (by omega) (hE.below hb)
    clear hE
    unfold hopV at CS CI
    generalize str (if hopOk s then hopT s else []) = tt at *
    generalize hopOk s = ok at *
    have hok : (ok != ok) = false := by simp
    go_enter Tryd.func5, Tryd.ntmps5
    go_wp2_with fail
    go_at_call 16
    refine (CS.out _).mono ?_
    rintro e w1 ⟨rfl, hB⟩
    go_wp2_with fail
    go_at_call 17
    refine (CI.out _ hB).mono ?_
    rintro e w2 ⟨rfl, hb⟩
    go_wp2
    go_ret
    exact ⟨rfl, hB.trans (hb.mono hB.size)⟩
end Go.Proofs.YtgknkhhoelgnhaaDoor
