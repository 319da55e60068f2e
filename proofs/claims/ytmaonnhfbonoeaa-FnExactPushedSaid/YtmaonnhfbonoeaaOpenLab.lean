/-
  A lab that comes in, by value, opened.
-/
import Derived.Test.YtmaonnhfbonoeaaTabLabel
import Derived.ProofKit
import Derived.OpenShut
namespace Go.Proofs.Ytmaonnhfbonoeaa
open Go.ChangeShapes Go.WideShapes Go.ChangeAt Go.RowKit
theorem array3 {α : Type} {cs : Array α} (h : cs.size = 3) : ∃ c0 c1 c2, cs = #[c0, c1, c2] := by
  obtain ⟨l⟩ := cs
  match l, h with
  | [c0, c1, c2], _ => exact ⟨c0, c1, c2, rfl⟩
section
variable {H : Type} {enc : TypeId × Value → H} {W : World} {base : Nat} {spare : Nat → Bool} {held : Bool} {r : Reach} {b0 : Nat} {v : Value} {dd : DataW H} {p : List MemPlace}
theorem Try.cellsLab : Try.prog.cellsOf 58 = 3 := by kernel_rfl
theorem Try.cellsI_Lab : Try.prog.cellsOf 2 = 1 := by kernel_rfl
theorem Try.cellsB_Lab : Try.prog.cellsOf 4 = 1 := by kernel_rfl
theorem Try.cellsS_Lab : Try.prog.cellsOf 9 = 1 := by kernel_rfl
set_option maxRecDepth 100000 in
set_option maxHeartbeats 800000 in
theorem open_lab (hv : Value.okWide Try.prog W r b0 58 v) (h : DataW.Trod enc Try.prog W base spare held 58 v dd p) :
    ∃ q : LbV, v = .agg (lbL q) ∧ True := by
  obtain ⟨cs, rfl, hsz⟩ := okWide_struct Try.underlying58 hv
  obtain ⟨c0, c1, c2, rfl⟩ := array3 (hsz.trans Try.cellsLab)
  obtain ⟨fuel, hf⟩ := h
  obtain ⟨xs, n, _, _, _, hlen, hx⟩ := DataW.trod_struct Try.underlying58 hf
  have hl : xs.length = 3 := hlen
  match xs, hl with
  | [y0, y1, y2], _ =>
    have f0 : DataW.trod enc Try.prog W base spare held n 2 [c0] = some y0 := by have := hx 0 _ rfl; simpa [Value.cells, Try.cellsI_Lab, Try.cellsB_Lab, Try.cellsS_Lab] using this
    have f1 : DataW.trod enc Try.prog W base spare held n 2 [c1] = some y1 := by have := hx 1 _ rfl; simpa [Value.cells, Try.cellsI_Lab, Try.cellsB_Lab, Try.cellsS_Lab] using this
    have f2 : DataW.trod enc Try.prog W base spare held n 2 [c2] = some y2 := by have := hx 2 _ rfl; simpa [Value.cells, Try.cellsI_Lab, Try.cellsB_Lab, Try.cellsS_Lab] using this
    obtain ⟨u0, e0, _, _⟩ := DataW.trod_int Try.underlying2 f0
    obtain ⟨u1, e1, _, _⟩ := DataW.trod_int Try.underlying2 f1
    obtain ⟨u2, e2, _, _⟩ := DataW.trod_int Try.underlying2 f2
    simp at e0 e1 e2
    subst e0 e1 e2
    exact ⟨⟨u0, u1, u2⟩, rfl, trivial⟩
end
end Go.Proofs.Ytmaonnhfbonoeaa
