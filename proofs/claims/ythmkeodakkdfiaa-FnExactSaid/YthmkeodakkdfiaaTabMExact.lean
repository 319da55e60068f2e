/-
  Rules asked exactly: what may be, what stands ahead, what fits.
-/
import Derived.Test.YthmkeodakkdfiaaTabM0
import Derived.Test.YthmkeodakkdfiaaTabExact
namespace Go.Proofs.Ythmkeodakkdfiaa
open Go.RowKit Go.PlainAid
def exOk (a : ExV) : Bool := keyB a.key && actB a.act
def exLt (a b : ExV) : Bool := decide (a.key < b.key)
def exFit (a : ExV) (key : Int) : Bool := decide (a.key = key)
theorem exOrd : Ord exLt := by
  refine ⟨fun a => ?_, fun a b c => ?_, fun a b c => ?_⟩
  · simp [exLt]
  · simp only [exLt, decide_eq_true_iff]; omega
  · simp only [exLt, decide_eq_true_iff]; omega
set_option maxRecDepth 100000 in
theorem i_exRight (a : ExV) (w : World) : Calls Try.prog 111 #[.agg (exL a)] w fun e w' => e = .returned (.bool (exOk a)) ∧ Below w.heap.size w w' := by
  have HK : Hid (exOk a = (keyB a.key && actB a.act)) := rfl
  obtain ⟨key, act⟩ := a
  simp only [exL] at *
  cases hk : keyB key
  · go_enter Try.func111, Try.ntmps111
    go_wp2_with (go_at_call 66; refine (i_isKey _ _).mono ?_; rintro e wz ⟨rfl, hz⟩; rw [hz]; clear hz wz)
    go_ret
    exact ⟨ret_bool (by rw [HK.out, hk]; rfl), (Below.refl _ w).alloc (Nat.le_refl _) _⟩
  · go_enter Try.func111, Try.ntmps111
    go_wp2_with (first | (go_at_call 66; refine (i_isKey _ _).mono ?_; rintro e wz ⟨rfl, hz⟩; rw [hz]; clear hz wz) | (go_at_call 106; refine (i_isAct _ _).mono ?_; rintro e wz ⟨rfl, hz⟩; rw [hz]; clear hz wz))
    go_ret
    exact ⟨ret_bool (by rw [HK.out, hk]; rfl), (Below.refl _ w).alloc (Nat.le_refl _) _⟩
set_option maxRecDepth 100000 in
theorem i_exAhead (a b : ExV) (w : World) : Calls Try.prog 112 #[.agg (exL a), .agg (exL b)] w fun e w' => e = .returned (.bool (exLt a b)) ∧ Below w.heap.size w w' := by
  obtain ⟨k0, a0⟩ := a
  obtain ⟨k1, a1⟩ := b
  simp only [exL, exLt] at *
  go_enter Try.func112, Try.ntmps112
  go_wp2
  go_ret
  exact ⟨rfl, ((Below.refl _ w).alloc (Nat.le_refl _) _).alloc (by simp) _⟩
set_option maxRecDepth 100000 in
theorem i_exFits (a : ExV) (key : Int) (w : World) : Calls Try.prog 110 #[.agg (exL a), .int .i64 key] w fun e w' => e = .returned (.bool (exFit a key)) ∧ Below w.heap.size w w' := by
  obtain ⟨k0, a0⟩ := a
  simp only [exL, exFit] at *
  go_enter Try.func110, Try.ntmps110
  go_wp2
  go_ret
  exact ⟨ret_bool (by rw [Bool.eq_iff_iff]; simp), (Below.refl _ w).alloc (Nat.le_refl _) _⟩
end Go.Proofs.Ythmkeodakkdfiaa
