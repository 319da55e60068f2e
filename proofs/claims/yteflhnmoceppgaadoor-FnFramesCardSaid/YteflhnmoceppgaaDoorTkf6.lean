/-
  The exact law of TakeFrames: its walk.
-/
import Derived.Test.YteflhnmoceppgaaDoorTkf5
namespace Go.Proofs.YteflhnmoceppgaaDoor
open Go.RowKit Go.PlainAid
theorem tkF_few : ∀ f s a, a ≤ s.size → (tkF f s a).1.length + a ≤ s.size := by
  intro f
  induction f with
  | zero => intro s a h; simpa [tkF] using h
  | succ f ih =>
    intro s a h
    unfold tkF
    cases hok : tkOk s a
    · simpa using h
    · have hi := tkOk_in hok
      have := ih s (a + 8 + tkN s a) hi.2.2
      simp; omega
theorem tkR_few (s : ByteArray) : (tkR s 0).1.length ≤ s.size := by
  have := tkF_few (s.size + 1) s 0 (Nat.zero_le _)
  exact this
end Go.Proofs.YteflhnmoceppgaaDoor
