/-
  A ip that comes in, by value, opened.
-/
import Derived.Test.YtgfpoohjbgdcpaaIps1
import Derived.ProofKit
import Derived.OpenShut
namespace Go.Proofs.Ytgfpoohjbgdcpaa
open Go.ChangeShapes Go.WideShapes Go.ChangeAt Go.RowKit
theorem array11 {α : Type} {cs : Array α} (h : cs.size = 11) : ∃ c0 c1 c2 c3 c4 c5 c6 c7 c8 c9 c10, cs = #[c0, c1, c2, c3, c4, c5, c6, c7, c8, c9, c10] := by
  obtain ⟨l⟩ := cs
  match l, h with
  | [c0, c1, c2, c3, c4, c5, c6, c7, c8, c9, c10], _ => exact ⟨c0, c1, c2, c3, c4, c5, c6, c7, c8, c9, c10, rfl⟩
section
variable {H : Type} {enc : TypeId × Value → H} {W : World} {base : Nat} {spare : Nat → Bool} {held : Bool} {r : Reach} {b0 : Nat} {v : Value} {dd : DataW H} {p : List MemPlace}
theorem Try.cellsIp : Try.prog.cellsOf 23 = 11 := by kernel_rfl
theorem Try.cellsI_Ip : Try.prog.cellsOf 2 = 1 := by kernel_rfl
theorem Try.cellsB_Ip : Try.prog.cellsOf 4 = 1 := by kernel_rfl
theorem Try.cellsS_Ip : Try.prog.cellsOf 9 = 1 := by kernel_rfl
set_option maxRecDepth 100000 in
set_option maxHeartbeats 800000 in
theorem open_ip (hv : Value.okWide Try.prog W r b0 23 v) (h : DataW.Trod enc Try.prog W base spare held 23 v dd p) :
    ∃ q : IpV, v = .agg (ipL q) ∧ q.opts.size ≤ maxLen ∧ q.data.size ≤ maxLen := by
  obtain ⟨cs, rfl, hsz⟩ := okWide_struct Try.underlying23 hv
  obtain ⟨c0, c1, c2, c3, c4, c5, c6, c7, c8, c9, c10, rfl⟩ := array11 (hsz.trans Try.cellsIp)
  obtain ⟨fuel, hf⟩ := h
  obtain ⟨xs, n, _, _, _, hlen, hx⟩ := DataW.trod_struct Try.underlying23 hf
  have hl : xs.length = 11 := hlen
  match xs, hl with
  | [y0, y1, y2, y3, y4, y5, y6, y7, y8, y9, y10], _ =>
    have f0 : DataW.trod enc Try.prog W base spare held n 2 [c0] = some y0 := by have := hx 0 _ rfl; simpa [Value.cells, Try.cellsI_Ip, Try.cellsB_Ip, Try.cellsS_Ip] using this
    have f1 : DataW.trod enc Try.prog W base spare held n 2 [c1] = some y1 := by have := hx 1 _ rfl; simpa [Value.cells, Try.cellsI_Ip, Try.cellsB_Ip, Try.cellsS_Ip] using this
    have f2 : DataW.trod enc Try.prog W base spare held n 4 [c2] = some y2 := by have := hx 2 _ rfl; simpa [Value.cells, Try.cellsI_Ip, Try.cellsB_Ip, Try.cellsS_Ip] using this
    have f3 : DataW.trod enc Try.prog W base spare held n 4 [c3] = some y3 := by have := hx 3 _ rfl; simpa [Value.cells, Try.cellsI_Ip, Try.cellsB_Ip, Try.cellsS_Ip] using this
    have f4 : DataW.trod enc Try.prog W base spare held n 2 [c4] = some y4 := by have := hx 4 _ rfl; simpa [Value.cells, Try.cellsI_Ip, Try.cellsB_Ip, Try.cellsS_Ip] using this
    have f5 : DataW.trod enc Try.prog W base spare held n 2 [c5] = some y5 := by have := hx 5 _ rfl; simpa [Value.cells, Try.cellsI_Ip, Try.cellsB_Ip, Try.cellsS_Ip] using this
    have f6 : DataW.trod enc Try.prog W base spare held n 2 [c6] = some y6 := by have := hx 6 _ rfl; simpa [Value.cells, Try.cellsI_Ip, Try.cellsB_Ip, Try.cellsS_Ip] using this
    have f7 : DataW.trod enc Try.prog W base spare held n 2 [c7] = some y7 := by have := hx 7 _ rfl; simpa [Value.cells, Try.cellsI_Ip, Try.cellsB_Ip, Try.cellsS_Ip] using this
    have f8 : DataW.trod enc Try.prog W base spare held n 2 [c8] = some y8 := by have := hx 8 _ rfl; simpa [Value.cells, Try.cellsI_Ip, Try.cellsB_Ip, Try.cellsS_Ip] using this
    have f9 : DataW.trod enc Try.prog W base spare held n 9 [c9] = some y9 := by have := hx 9 _ rfl; simpa [Value.cells, Try.cellsI_Ip, Try.cellsB_Ip, Try.cellsS_Ip] using this
    have f10 : DataW.trod enc Try.prog W base spare held n 9 [c10] = some y10 := by have := hx 10 _ rfl; simpa [Value.cells, Try.cellsI_Ip, Try.cellsB_Ip, Try.cellsS_Ip] using this
    obtain ⟨u0, e0, _, _⟩ := DataW.trod_int Try.underlying2 f0
    obtain ⟨u1, e1, _, _⟩ := DataW.trod_int Try.underlying2 f1
    obtain ⟨u2, e2, _⟩ := DataW.trod_bool Try.underlying4 f2
    obtain ⟨u3, e3, _⟩ := DataW.trod_bool Try.underlying4 f3
    obtain ⟨u4, e4, _, _⟩ := DataW.trod_int Try.underlying2 f4
    obtain ⟨u5, e5, _, _⟩ := DataW.trod_int Try.underlying2 f5
    obtain ⟨u6, e6, _, _⟩ := DataW.trod_int Try.underlying2 f6
    obtain ⟨u7, e7, _, _⟩ := DataW.trod_int Try.underlying2 f7
    obtain ⟨u8, e8, _, _⟩ := DataW.trod_int Try.underlying2 f8
    obtain ⟨u9, e9, _, s9⟩ := DataW.trod_string Try.underlying9 f9
    obtain ⟨u10, e10, _, s10⟩ := DataW.trod_string Try.underlying9 f10
    simp at e0 e1 e2 e3 e4 e5 e6 e7 e8 e9 e10
    subst e0 e1 e2 e3 e4 e5 e6 e7 e8 e9 e10
    exact ⟨⟨u0, u1, u2, u3, u4, u5, u6, u7, u8, u9, u10⟩, rfl, s9, s10⟩
end
end Go.Proofs.Ytgfpoohjbgdcpaa
