/-
  The walks of the exact laws on addresses: each returns true at every input, and nothing that was there is written.
-/
import Derived.Test.YtlfdpepeanlhlabWalks9
namespace Go.Proofs.Ytlfdpepeanlhlab
open Go.RowKit Go.PlainAid
set_option maxRecDepth 100000 in
set_option maxHeartbeats 400000 in
theorem walk_FnExactMacText (a0 : Int) (_w0 : (Lit.int .i64 a0).wf = true) (w : World) :
    Calls Try.prog 10 #[.int .i64 a0] w fun e w' => e = .returned (.bool true) ∧ Below w.heap.size w w' := by
  go_enter Try.func10, Try.ntmps10
  go_wp2_with (first | (go_at_call 34; refine (s_MacText _ _).mono ?_; rintro e w1 ⟨rfl, hb1⟩) | (go_at_call 30; refine (i_MacText _ _).mono ?_; rintro e w2 ⟨rfl, hb2⟩))
  go_ret
  exact ⟨rfl, hb1.trans (hb2.mono hb1.size)⟩

set_option maxRecDepth 100000 in
set_option maxHeartbeats 400000 in
theorem walk_FnExactReadMac (s : ByteArray) (w0 : s.size ≤ maxLen) (w : World) :
    Calls Try.prog 11 #[.string s] w fun e w' => e = .returned (.bool true) ∧ Below w.heap.size w w' := by
  have h0 := w0
  unfold maxLen at h0
  by_cases hz : 1048576 < s.size
  · go_enter Try.func11, Try.ntmps11
    go_wp2
    go_ret
    exact ⟨rfl, Below.refl _ _⟩
  · have hz' : s.size ≤ 1099511627776 := by omega
    go_enter Try.func11, Try.ntmps11
    go_wp2_with (first | (go_at_call 33; refine (s_ReadMac _ _ hz').mono ?_; rintro e w1 ⟨rfl, hb1⟩) | (go_at_call 32; refine (i_ReadMac _ _ hz').mono ?_; rintro e w2 ⟨rfl, hb2⟩))
    go_ret
    exact ⟨rfl, hb1.trans (hb2.mono hb1.size)⟩
end Go.Proofs.Ytlfdpepeanlhlab
