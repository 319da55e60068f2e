/-
  Rules asked exactly: what may be, what stands ahead, what fits.
-/
import Derived.Test.YtnlignfmicincaaTabM0
import Derived.Test.YtnlignfmicincaaTabExact
namespace Go.Proofs.Ytnlignfmicincaa
open Go.RowKit Go.PlainAid
def exOk (a : ExV) : Bool := keyB a.key && actB a.act
def exLt (a b : ExV) : Bool := decide (a.key < b.key)
def exFit (a : ExV) (key : Int) : Bool := decide (a.key = key)
theorem exOrd : Ord exLt := by
  refine ⟨fun a => ?_, fun a b c => ?_, fun a b c => ?_⟩
  · simp [exLt]
  · simp only [exLt, decide_eq_true_iff]; omega
  · simp only [exLt, decide_eq_true_iff]; omega
set_option maxRecDepth 100000 in
theorem i_exRight (a : ExV) (w : World) : Calls Try.prog 81 #[.agg (exL a)] w fun e w' => e = .returned (.bool (exOk a)) ∧ Below w.heap.size w w' := by
  have HK : Hid (exOk a = (keyB a.key && actB a.act)) := rfl
  obtain ⟨key, act⟩ := a
  simp only [exL] at *
  cases hk : keyB key
  · go_enter Try.func81, Try.ntmps81
    go_wp2_with (go_at_call 46; refine (i_isKey _ _).mono ?_; rintro e wz ⟨rfl, hz⟩; rw [hz]; clear hz wz)
    go_ret
    exact ⟨ret_bool (by rw [HK.out, hk]; rfl), (Below.refl _ w).alloc (Nat.le_refl _) _⟩
  · go_enter Try.func81, Try.ntmps81
    go_wp2_with (first | (go_at_call 46; refine (i_isKey _ _).mono ?_; rintro e wz ⟨rfl, hz⟩; rw [hz]; clear hz wz) | (go_at_call 83; refine (i_isAct _ _).mono ?_; rintro e wz ⟨rfl, hz⟩; rw [hz]; clear hz wz))
    go_ret
    exact ⟨ret_bool (by rw [HK.out, hk]; rfl), (Below.refl _ w).alloc (Nat.le_refl _) _⟩
set_option maxRecDepth 100000 in
theorem i_exAhead (a b : ExV) (w : World) : Calls Try.prog 82 #[.agg (exL a), .agg (exL b)] w fun e w' => e = .returned (.bool (exLt a b)) ∧ Below w.heap.size w w' := by
  obtain ⟨k0, a0⟩ := a
  obtain ⟨k1, a1⟩ := b
  simp only [exL, exLt] at *
  go_enter Try.func82, Try.ntmps82
  go_wp2
  go_ret
  exact ⟨rfl, ((Below.refl _ w).alloc (Nat.le_refl _) _).alloc (by simp) _⟩
end Go.Proofs.Ytnlignfmicincaa
