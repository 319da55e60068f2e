/-
  A slice of the record Label that comes in, opened.
-/
import Derived.Test.YtmaonnhfbonoeaaTabLabel
import Derived.ProofKit
import Derived.OpenShut
import Derived.Deep.Slices
namespace Go.Proofs.Ytmaonnhfbonoeaa
open Go.ChangeShapes Go.WideShapes Go.ChangeAt Go.RowKit
section
variable {H : Type} {enc : TypeId × Value → H} {W : World} {base : Nat} {spare : Nat → Bool} {held : Bool} {r : Reach} {b0 : Nat} {v : Value} {dd : DataW H} {p : List MemPlace}
theorem Try.cellsELabel : Try.prog.cellsOf 58 = 3 := by kernel_rfl
theorem Try.cellsILabel : Try.prog.cellsOf 2 = 1 := by kernel_rfl
theorem lb_flat {b o : Nat} {l : List LbV} (hc : ∀ i, i < l.length → W.cell? ⟨b, o + (i * 3), none⟩ = some (.int .i64 (lbA l i).label) ∧ W.cell? ⟨b, o + (i * 3 + 1), none⟩ = some (.int .i64 (lbA l i).tc) ∧ W.cell? ⟨b, o + (i * 3 + 2), none⟩ = some (.int .i64 (lbA l i).ttl)) (i : Nat) (h : i < (lbF l).length) : W.cell? ⟨b, o + i, none⟩ = some (.int .i64 (ia (lbF l) i)) := by
  have hl := lbF_len l
  have hq : i / 3 < l.length := by omega
  have hc := hc (i / 3) hq
  have ha := lbF_at l (i / 3) hq
  have hm : i = i / 3 * 3 ∨ i = i / 3 * 3 + 1 ∨ i = i / 3 * 3 + 2 := by omega
  rcases hm with hm | hm | hm
  · have e1 := hc.1
    have e2 := ha.1
    rw [← hm] at e1 e2
    rw [e2]; exact e1
  · have e1 := hc.2.1
    have e2 := ha.2.1
    rw [← hm] at e1 e2
    rw [e2]; exact e1
  · have e1 := hc.2.2
    have e2 := ha.2.2
    rw [← hm] at e1 e2
    rw [e2]; exact e1
set_option maxRecDepth 100000 in
set_option maxHeartbeats 800000 in
theorem open_lbs (hv : Value.okWide Try.prog W r b0 47 v) (h : DataW.Trod enc Try.prog W base spare held 47 v dd p) :
    ∃ (T : Option Addr) (c : Nat) (l : List LbV), v = .slice T l.length c ∧ IntsAt W T (lbF l) ∧ l.length ≤ maxLen := by
  obtain ⟨T0, len, cap, rfl⟩ := okWide_slice Try.underlying47 hv
  obtain ⟨fuel, hf⟩ := h
  rcases Go.Deep.open_slice Try.underlying47 hf with ⟨hcs, _⟩ | ⟨a, len', cap', m, n, D, Pl, hcs, hb, hl, hm, hmm, _, hx⟩
  · simp [Value.cells] at hcs
    obtain ⟨rfl, rfl, rfl⟩ := hcs
    exact ⟨none, 0, [], rfl, .inl rfl, by decide⟩
  · simp [Value.cells] at hcs
    obtain ⟨rfl, rfl, rfl⟩ := hcs
    have hlm : len ≤ m := by rw [hmm]; split <;> omega
    have each : ∀ i, i < len → ∃ x : LbV, W.cell? (a.add (i * 3)) = some (.int .i64 x.label) ∧ W.cell? (a.add (i * 3 + 1)) = some (.int .i64 x.tc) ∧ W.cell? (a.add (i * 3 + 2)) = some (.int .i64 x.ttl) := by
      intro i hi
      obtain ⟨cs', h1, h2⟩ := hx i (by omega)
      rw [Try.cellsELabel] at h1
      obtain ⟨_, hlen, hcell⟩ := World.cells?_some h1
      obtain ⟨xs, n2, _, _, _, hxl, hf2⟩ := DataW.trod_struct Try.underlying58 h2
      have hxl' : xs.length = 3 := hxl
      match xs, hxl', cs', hlen with
      | [y0, y1, y2], _, [v0, v1, v2], _ =>
        have f0 : DataW.trod enc Try.prog W base spare held n2 2 [v0] = some y0 := by have := hf2 0 _ rfl; simpa [Try.cellsILabel] using this
        obtain ⟨u0, e0, _, _⟩ := DataW.trod_int Try.underlying2 f0
        have g0 := hcell 0 (by omega)
        rw [Go.Deep.add_add] at g0
        have f1 : DataW.trod enc Try.prog W base spare held n2 2 [v1] = some y1 := by have := hf2 1 _ rfl; simpa [Try.cellsILabel] using this
        obtain ⟨u1, e1, _, _⟩ := DataW.trod_int Try.underlying2 f1
        have g1 := hcell 1 (by omega)
        rw [Go.Deep.add_add] at g1
        have f2 : DataW.trod enc Try.prog W base spare held n2 2 [v2] = some y2 := by have := hf2 2 _ rfl; simpa [Try.cellsILabel] using this
        obtain ⟨u2, e2, _, _⟩ := DataW.trod_int Try.underlying2 f2
        have g2 := hcell 2 (by omega)
        rw [Go.Deep.add_add] at g2
        simp at e0 e1 e2
        subst e0 e1 e2
        exact ⟨⟨u0, u1, u2⟩, by simpa using g0, by simpa using g1, by simpa using g2⟩
    haveI : Inhabited LbV := ⟨⟨0, 0, 0⟩⟩
    obtain ⟨q, hq⟩ := Go.Deep.choose_lt (α := LbV) each
    have hll : ((List.range len).map q).length = len := by simp
    refine ⟨some a, cap, (List.range len).map q, by rw [hll], ?_, by rw [hll]; omega⟩
    by_cases h0 : len = 0
    · left; subst h0; rfl
    · obtain ⟨b, o, spot⟩ := a
      have hc0 := (hq 0 (by omega)).1
      have hspot : spot = none := by simpa [Addr.add] using World.cell?_spot hc0
      subst hspot
      have hb0 : b < W.heap.size := by rw [plain_add] at hc0; exact lt_of_cell hc0
      refine .inr ⟨b, o, rfl, hb0, lb_flat fun i hi => ?_⟩
      have hi' : i < len := by simpa using hi
      have hc := hq i hi'
      have e : lbA ((List.range len).map q) i = q i := by rw [lbA_eq _ _ hi]; simp
      rw [e]
      simp only [plain_add] at hc
      exact hc
end
end Go.Proofs.Ytmaonnhfbonoeaa
