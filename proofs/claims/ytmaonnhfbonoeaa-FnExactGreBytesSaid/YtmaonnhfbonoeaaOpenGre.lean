/-
  A gre that comes in, by value, opened.
-/
import Derived.Test.YtmaonnhfbonoeaaGre1
import Derived.ProofKit
import Derived.OpenShut
namespace Go.Proofs.Ytmaonnhfbonoeaa
open Go.ChangeShapes Go.WideShapes Go.ChangeAt Go.RowKit
theorem array6 {α : Type} {cs : Array α} (h : cs.size = 6) : ∃ c0 c1 c2 c3 c4 c5, cs = #[c0, c1, c2, c3, c4, c5] := by
  obtain ⟨l⟩ := cs
  match l, h with
  | [c0, c1, c2, c3, c4, c5], _ => exact ⟨c0, c1, c2, c3, c4, c5, rfl⟩
theorem wf_le {n : Int} (h : (Lit.int .i64 n).wf = true) : n ≤ 9223372036854775807 := by
  simp [Lit.wf] at h; omega
section
variable {H : Type} {enc : TypeId × Value → H} {W : World} {base : Nat} {spare : Nat → Bool} {held : Bool} {r : Reach} {b0 : Nat} {v : Value} {dd : DataW H} {p : List MemPlace}
theorem Try.cellsGre : Try.prog.cellsOf 38 = 6 := by kernel_rfl
theorem Try.cellsI_Gre : Try.prog.cellsOf 2 = 1 := by kernel_rfl
theorem Try.cellsB_Gre : Try.prog.cellsOf 4 = 1 := by kernel_rfl
theorem Try.cellsS_Gre : Try.prog.cellsOf 9 = 1 := by kernel_rfl
set_option maxRecDepth 100000 in
set_option maxHeartbeats 800000 in
theorem open_gre (hv : Value.okWide Try.prog W r b0 38 v) (h : DataW.Trod enc Try.prog W base spare held 38 v dd p) :
    ∃ q : GrV, v = .agg (grL q) ∧ q.key ≤ 9223372036854775807 ∧ q.seq ≤ 9223372036854775807 ∧ q.data.size ≤ maxLen := by
  obtain ⟨cs, rfl, hsz⟩ := okWide_struct Try.underlying38 hv
  obtain ⟨c0, c1, c2, c3, c4, c5, rfl⟩ := array6 (hsz.trans Try.cellsGre)
  obtain ⟨fuel, hf⟩ := h
  obtain ⟨xs, n, _, _, _, hlen, hx⟩ := DataW.trod_struct Try.underlying38 hf
  have hl : xs.length = 6 := hlen
  match xs, hl with
  | [y0, y1, y2, y3, y4, y5], _ =>
    have f0 : DataW.trod enc Try.prog W base spare held n 4 [c0] = some y0 := by have := hx 0 _ rfl; simpa [Value.cells, Try.cellsI_Gre, Try.cellsB_Gre, Try.cellsS_Gre] using this
    have f1 : DataW.trod enc Try.prog W base spare held n 4 [c1] = some y1 := by have := hx 1 _ rfl; simpa [Value.cells, Try.cellsI_Gre, Try.cellsB_Gre, Try.cellsS_Gre] using this
    have f2 : DataW.trod enc Try.prog W base spare held n 2 [c2] = some y2 := by have := hx 2 _ rfl; simpa [Value.cells, Try.cellsI_Gre, Try.cellsB_Gre, Try.cellsS_Gre] using this
    have f3 : DataW.trod enc Try.prog W base spare held n 4 [c3] = some y3 := by have := hx 3 _ rfl; simpa [Value.cells, Try.cellsI_Gre, Try.cellsB_Gre, Try.cellsS_Gre] using this
    have f4 : DataW.trod enc Try.prog W base spare held n 2 [c4] = some y4 := by have := hx 4 _ rfl; simpa [Value.cells, Try.cellsI_Gre, Try.cellsB_Gre, Try.cellsS_Gre] using this
    have f5 : DataW.trod enc Try.prog W base spare held n 9 [c5] = some y5 := by have := hx 5 _ rfl; simpa [Value.cells, Try.cellsI_Gre, Try.cellsB_Gre, Try.cellsS_Gre] using this
    obtain ⟨u0, e0, _⟩ := DataW.trod_bool Try.underlying4 f0
    obtain ⟨u1, e1, _⟩ := DataW.trod_bool Try.underlying4 f1
    obtain ⟨u2, e2, _, k2⟩ := DataW.trod_int Try.underlying2 f2
    obtain ⟨u3, e3, _⟩ := DataW.trod_bool Try.underlying4 f3
    obtain ⟨u4, e4, _, k4⟩ := DataW.trod_int Try.underlying2 f4
    obtain ⟨u5, e5, _, s5⟩ := DataW.trod_string Try.underlying9 f5
    simp at e0 e1 e2 e3 e4 e5
    subst e0 e1 e2 e3 e4 e5
    exact ⟨⟨u0, u1, u2, u3, u4, u5⟩, rfl, wf_le k2, wf_le k4, s5⟩
end
end Go.Proofs.Ytmaonnhfbonoeaa
