/-
  A udp that comes in, by value, opened.
-/
import Derived.Test.YtllaghicmmkpcaaUdps1
import Derived.ProofKit
import Derived.OpenShut
namespace Go.Proofs.Ytllaghicmmkpcaa
open Go.ChangeShapes Go.WideShapes Go.ChangeAt Go.RowKit
theorem array4 {α : Type} {cs : Array α} (h : cs.size = 4) : ∃ c0 c1 c2 c3, cs = #[c0, c1, c2, c3] := by
  obtain ⟨l⟩ := cs
  match l, h with
  | [c0, c1, c2, c3], _ => exact ⟨c0, c1, c2, c3, rfl⟩
section
variable {H : Type} {enc : TypeId × Value → H} {W : World} {base : Nat} {spare : Nat → Bool} {held : Bool} {r : Reach} {b0 : Nat} {v : Value} {dd : DataW H} {p : List MemPlace}
theorem Try.cellsUdp : Try.prog.cellsOf 31 = 4 := by kernel_rfl
theorem Try.cellsI_Udp : Try.prog.cellsOf 2 = 1 := by kernel_rfl
theorem Try.cellsB_Udp : Try.prog.cellsOf 4 = 1 := by kernel_rfl
theorem Try.cellsS_Udp : Try.prog.cellsOf 9 = 1 := by kernel_rfl
set_option maxRecDepth 100000 in
set_option maxHeartbeats 800000 in
theorem open_udp (hv : Value.okWide Try.prog W r b0 31 v) (h : DataW.Trod enc Try.prog W base spare held 31 v dd p) :
    ∃ q : UdpV, v = .agg (udpL q) ∧ q.data.size ≤ maxLen := by
  obtain ⟨cs, rfl, hsz⟩ := okWide_struct Try.underlying31 hv
  obtain ⟨c0, c1, c2, c3, rfl⟩ := array4 (hsz.trans Try.cellsUdp)
  obtain ⟨fuel, hf⟩ := h
  obtain ⟨xs, n, _, _, _, hlen, hx⟩ := DataW.trod_struct Try.underlying31 hf
  have hl : xs.length = 4 := hlen
  match xs, hl with
  | [y0, y1, y2, y3], _ =>
    have f0 : DataW.trod enc Try.prog W base spare held n 2 [c0] = some y0 := by have := hx 0 _ rfl; simpa [Value.cells, Try.cellsI_Udp, Try.cellsB_Udp, Try.cellsS_Udp] using this
    have f1 : DataW.trod enc Try.prog W base spare held n 2 [c1] = some y1 := by have := hx 1 _ rfl; simpa [Value.cells, Try.cellsI_Udp, Try.cellsB_Udp, Try.cellsS_Udp] using this
    have f2 : DataW.trod enc Try.prog W base spare held n 4 [c2] = some y2 := by have := hx 2 _ rfl; simpa [Value.cells, Try.cellsI_Udp, Try.cellsB_Udp, Try.cellsS_Udp] using this
    have f3 : DataW.trod enc Try.prog W base spare held n 9 [c3] = some y3 := by have := hx 3 _ rfl; simpa [Value.cells, Try.cellsI_Udp, Try.cellsB_Udp, Try.cellsS_Udp] using this
    obtain ⟨u0, e0, _, _⟩ := DataW.trod_int Try.underlying2 f0
    obtain ⟨u1, e1, _, _⟩ := DataW.trod_int Try.underlying2 f1
    obtain ⟨u2, e2, _⟩ := DataW.trod_bool Try.underlying4 f2
    obtain ⟨u3, e3, _, s3⟩ := DataW.trod_string Try.underlying9 f3
    simp at e0 e1 e2 e3
    subst e0 e1 e2 e3
    exact ⟨⟨u0, u1, u2, u3⟩, rfl, s3⟩
end
end Go.Proofs.Ytllaghicmmkpcaa
