/-
  Numbers whose bytes are known to be there, of the program and of the model.
-/
import Derived.Test.YtgknkhhoelgnhaaDoorStrs
import Derived.Test.YtgknkhhoelgnhaaDoorWalks3
namespace Go.Proofs.YtgknkhhoelgnhaaDoor
open Go.RowKit Go.PlainAid
/-- the number in k bytes at place a -/
def fld (s : ByteArray) (a k : Int) : Int := num (((bl s).drop a.toNat).take k.toNat)
theorem s_Fld (s : ByteArray) (a k : Int) (w : World) (hs : s.size ≤ 1099511627776) (h0 : 0 ≤ a) (hk : 1 ≤ k) (hk1 : k ≤ 7) (hin : a + k ≤ s.size) :
    Calls Tryd.prog 44 #[.string s, .int .i64 a, .int .i64 k] w fun e w' => e = .returned (.int .i64 (fld s a k)) ∧ w' = w := s_At s a k w (by unfold maxLen; omega) h0 (by omega) hk1 hin
theorem i_fieldAt (s : ByteArray) (a k : Int) (w : World) (hs : s.size ≤ 1099511627776) (h0 : 0 ≤ a) (hk : 1 ≤ k) (hk1 : k ≤ 7) (hin : a + k ≤ s.size) :
    Calls Tryd.prog 47 #[.string s, .int .i64 a, .int .i64 k] w fun e w' => e = .returned (.int .i64 (fld s a k)) ∧ w' = w := by
  have C : Hid (∀ u : World, Calls Tryd.prog 78 #[.string s, .int .i64 a, .int .i64 k] u fun e w' => e = .returned (.tuple #[.int .i64 (fld s a k), .bool true]) ∧ w' = u) := fun u => by
    have := i_NumAt s a k u (by unfold maxLen; omega)
    have h2 := okN_true (s := s) (at_ := a) (k := k) ⟨hk, hk1, h0, hin⟩
    rw [h2.1, h2.2] at this
    exact this
  generalize fld s a k = n at *
  go_enter Tryd.func47, Tryd.ntmps47
  go_wp2_with (go_at_call 78; refine (C.out _).mono ?_; rintro e wq ⟨rfl, hq⟩; rw [hq]; clear hq wq)
  go_ret
  exact ⟨rfl, rfl⟩
end Go.Proofs.YtgknkhhoelgnhaaDoor
