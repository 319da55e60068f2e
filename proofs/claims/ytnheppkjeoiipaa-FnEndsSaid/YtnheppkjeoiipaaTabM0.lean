/-
  What a key, an act are; three of them.
-/
import Derived.Test.YtnheppkjeoiipaaWalks4
import Derived.Test.YtnheppkjeoiipaaTabs0
namespace Go.Proofs.Ytnheppkjeoiipaa
open Go.RowKit Go.PlainAid
def keyB (n : Int) : Bool := inB n 0 281474976710655
def actB (n : Int) : Bool := inB n 1 99
set_option maxRecDepth 100000 in
theorem i_isAct (n : Int) (w : World) : Calls Try.prog 50 #[.int .i64 n] w fun e w' => e = .returned (.bool (actB n)) ∧ w' = w := by
  go_enter Try.func50, Try.ntmps50
  by_cases h0 : 1 ≤ n
  · go_wp2
    go_ret
    exact ⟨ret_bool (by unfold actB inB; rw [Bool.eq_iff_iff]; simp; omega), rfl⟩
  · go_wp2
    go_ret
    exact ⟨ret_bool (by unfold actB inB; rw [Bool.eq_iff_iff]; simp; omega), rfl⟩
set_option maxRecDepth 100000 in
theorem s_Act (n : Int) (w : World) : Calls Try.prog 55 #[.int .i64 n] w fun e w' => e = .returned (.bool (actB n)) ∧ w' = w := by
  go_enter Try.func55, Try.ntmps55
  go_wp2_with (go_at_call 56; refine (s_In _ _ _ _).mono ?_; rintro e wz ⟨rfl, hz⟩; rw [hz]; clear hz wz)
  go_ret
  exact ⟨rfl, rfl⟩
structure Bef (f : FuncId) (args : Array Value) (r : Bool) : Prop where
  out : ∀ u : World, Calls Try.prog f args u fun e w' => e = .returned (.bool r) ∧ Below u.heap.size u w'
theorem Bef.into {f : FuncId} {args : Array Value} {W : World} {u : BW W} {r : Bool} (h : Bef f args r) : Calls Try.prog f args u.u fun e w'' => e = .returned (.bool r) ∧ ∃ m : BW W, w'' = m.u := Calls.into (h.out u.u)
end Go.Proofs.Ytnheppkjeoiipaa
