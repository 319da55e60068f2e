/-
  A region by its invariant, where more than one datum is wanted once all is done.
-/
import Derived.Test.YteflhnmoceppgaaDoorRinv
namespace Go.Proofs.YteflhnmoceppgaaDoor
open Go
structure QK (N : Nat) (I : World → Prop) (F : Nat → Value → World → Prop) (fin : (Nat → Value) → World → Prop) (L : Nat → Bool) (v : Nat → Value) (w : World) : Prop where
  inv : I w
  F : L N = false → ∀ i, L i = true → F i (v i) w
  all : L N = true → ∀ j, j < N → L j = true
  E : L N = true → fin v w
section
variable {N : Nat} {I : World → Prop} {F : Nat → Value → World → Prop} {fin : (Nat → Value) → World → Prop} {L : Nat → Bool} {v : Nat → Value} {w w' : World}
theorem QK.hN (h : QK N I F fin L v w) {n : Nat} (hn : n < N) (hL : L n = false) : L N = false := by
  cases hq : L N with
  | false => rfl
  | true => have := h.all hq n hn; rw [hL] at this; cases this
theorem QK.start (hI : I w) (hF : ∀ i x, N < i → F i x w) (hL : ∀ j, j < N + 1 → L j = false) : QK N I F fin L v w :=
  ⟨hI, fun _ i hi => by
    by_cases h : i < N + 1
    · rw [hL i h] at hi; cases hi
    · exact hF i _ (by omega), fun h => (by rw [hL N (by omega)] at h; cases h), fun h => (by rw [hL N (by omega)] at h; cases h)⟩
theorem QK.next (h : QK N I F fin L v w) (n : Nat) (x : Value) (hn : n < N) (hL : L n = false) (hI : I w') (hS : ∀ i y, F i y w → F i y w') (hx : F n x w') : QK N I F fin (updB L n) (updV v n x) w' := by
  have h14 := h.hN hn hL
  have e14 : updB L n N = false := by unfold updB; rw [if_neg (by omega)]; exact h14
  refine ⟨hI, fun _ i hi => ?_, fun h' => (by rw [e14] at h'; cases h'), fun h' => (by rw [e14] at h'; cases h')⟩
  by_cases hin : i = n
  · subst hin; rw [updV_same]; exact hx
  · rw [updV_ne _ _ hin]
    have : L i = true := by unfold updB at hi; rw [if_neg hin] at hi; exact hi
    exact hS i _ (h.F h14 i this)
theorem QK.last (hI : I w') (hall : ∀ j, j < N → L j = true) (hE : fin v w') : QK N I F fin (updB L N) v w' := by
  have e : updB L N N = true := by unfold updB; rw [if_pos rfl]
  exact ⟨hI, fun h => (by rw [e] at h; cases h), fun _ j hj => (by unfold updB; rw [if_neg (by omega)]; exact hall j hj), fun _ => hE⟩
end
end Go.Proofs.YteflhnmoceppgaaDoor
