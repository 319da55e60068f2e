/-
  A frame that comes in, by value, opened: its numbers, its tags and its bytes.
-/
import Derived.Test.YtlfdpepeanlhlabInts
import Derived.ProofKit
import Derived.OpenShut
namespace Go.Proofs.Ytlfdpepeanlhlab
open Go.ChangeShapes Go.WideShapes Go.ChangeAt Go.RowKit
theorem array5 {α : Type} {cs : Array α} (h : cs.size = 5) : ∃ c0 c1 c2 c3 c4, cs = #[c0, c1, c2, c3, c4] := by
  obtain ⟨l⟩ := cs
  match l, h with
  | [c0, c1, c2, c3, c4], _ => exact ⟨c0, c1, c2, c3, c4, rfl⟩
theorem ints_of {w : World} {x : Addr} {len : Nat} {zs : List Int} (hz : len ≤ zs.length) (hcell : ∀ i, i < zs.length → w.cell? (x.add i) = some (.int .i64 (zs.getD i 0))) : IntsAt w (some x) (zs.take len) := by
  by_cases h0 : len = 0
  · left; simp [h0]
  · obtain ⟨b, off, spot⟩ := x
    have hc := hcell 0 (by omega)
    have hspot : spot = none := by simpa [Addr.add] using World.cell?_spot hc
    subst hspot
    have e : ∀ i, (⟨b, off, none⟩ : Addr).add i = ⟨b, off + i, none⟩ := fun i => by unfold Addr.add; split <;> simp_all
    refine .inr ⟨b, off, rfl, lt_of_cell (e 0 ▸ hc), fun i hi => ?_⟩
    have hi' : i < len ∧ i < zs.length := by simp at hi; omega
    rw [← e, hcell i hi'.2, ia_eq _ i hi]
    simp [List.getD, hi'.2]
section
variable {H : Type} {enc : TypeId × Value → H} {W : World} {base : Nat} {spare : Nat → Bool} {held : Bool} {r : Reach} {b0 : Nat} {v : Value} {dd : DataW H} {p : List MemPlace}
theorem Try.cellsFrame : Try.prog.cellsOf 44 = 5 := by kernel_rfl
theorem Try.cellsI : Try.prog.cellsOf 2 = 1 := by kernel_rfl
theorem Try.cellsIs : Try.prog.cellsOf 24 = 1 := by kernel_rfl
theorem Try.cellsS : Try.prog.cellsOf 9 = 1 := by kernel_rfl
theorem open_frame (hv : Value.okWide Try.prog W r b0 44 v) (h : DataW.Trod enc Try.prog W base spare held 44 v dd p) :
    ∃ (d s : Int) (T : Option Addr) (c : Nat) (l : List Int) (t : Int) (x : ByteArray), v = .agg #[.int .i64 d, .int .i64 s, .slice T l.length c, .int .i64 t, .string x] ∧ IntsAt W T l ∧ l.length ≤ maxLen ∧ x.size ≤ maxLen := by
  obtain ⟨cs, rfl, hsz⟩ := okWide_struct Try.underlying44 hv
  obtain ⟨c0, c1, c2, c3, c4, rfl⟩ := array5 (hsz.trans Try.cellsFrame)
  obtain ⟨fuel, hf⟩ := h
  obtain ⟨xs, n, _, _, _, hlen, hx⟩ := DataW.trod_struct Try.underlying44 hf
  have hl5 : xs.length = 5 := hlen
  match xs, hl5 with
  | [y0, y1, y2, y3, y4], _ =>
    have f0 : DataW.trod enc Try.prog W base spare held n 2 [c0] = some y0 := by have := hx 0 _ rfl; simpa [Value.cells, Try.cellsI] using this
    have f1 : DataW.trod enc Try.prog W base spare held n 2 [c1] = some y1 := by have := hx 1 _ rfl; simpa [Value.cells, Try.cellsI] using this
    have f2 : DataW.trod enc Try.prog W base spare held n 24 [c2] = some y2 := by have := hx 2 _ rfl; simpa [Value.cells, Try.cellsIs] using this
    have f3 : DataW.trod enc Try.prog W base spare held n 2 [c3] = some y3 := by have := hx 3 _ rfl; simpa [Value.cells, Try.cellsI] using this
    have f4 : DataW.trod enc Try.prog W base spare held n 9 [c4] = some y4 := by have := hx 4 _ rfl; simpa [Value.cells, Try.cellsS] using this
    obtain ⟨d, e0, _, _⟩ := DataW.trod_int Try.underlying2 f0
    obtain ⟨s, e1, _, _⟩ := DataW.trod_int Try.underlying2 f1
    obtain ⟨t, e3, _, _⟩ := DataW.trod_int Try.underlying2 f3
    obtain ⟨x, e4, _, hxs⟩ := DataW.trod_string Try.underlying9 f4
    simp at e0 e1 e3 e4
    subst e0 e1 e3 e4
    rcases open_ints Try.underlying24 Try.underlying2 Try.cellsI f2 with ⟨e2, _⟩ | ⟨a, len, cap, zs, e2, _, hl, hm, hz, _, hcell, _⟩
    · simp at e2; subst e2
      exact ⟨d, s, none, 0, [], t, x, rfl, .inl rfl, by decide, hxs⟩
    · simp at e2; subst e2
      have hzl : len ≤ zs.length := by rw [hz]; split <;> omega
      refine ⟨d, s, some a, cap, zs.take len, t, x, ?_, ints_of hzl hcell, ?_, hxs⟩
      · rw [List.length_take, Nat.min_eq_left hzl]
      · rw [List.length_take]; omega
end
end Go.Proofs.Ytlfdpepeanlhlab
