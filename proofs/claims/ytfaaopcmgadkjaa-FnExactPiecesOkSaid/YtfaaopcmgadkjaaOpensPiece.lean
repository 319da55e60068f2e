/-
  A slice of the record Piece that comes in, opened.
-/
import Derived.Test.YtfaaopcmgadkjaaTabPiece
import Derived.ProofKit
import Derived.OpenShut
import Derived.Deep.Slices
namespace Go.Proofs.Ytfaaopcmgadkjaa
open Go.ChangeShapes Go.WideShapes Go.ChangeAt Go.RowKit
section
variable {H : Type} {enc : TypeId × Value → H} {W : World} {base : Nat} {spare : Nat → Bool} {held : Bool} {r : Reach} {b0 : Nat} {v : Value} {dd : DataW H} {p : List MemPlace}
theorem Try.cellsEPiece : Try.prog.cellsOf 100 = 2 := by kernel_rfl
theorem Try.cellsIPiece : Try.prog.cellsOf 2 = 1 := by kernel_rfl
theorem Try.cellsBPiece : Try.prog.cellsOf 4 = 1 := by kernel_rfl
theorem Try.cellsSPiece : Try.prog.cellsOf 9 = 1 := by kernel_rfl
set_option maxRecDepth 100000 in
set_option maxHeartbeats 1600000 in
theorem open_pcs (hv : Value.okWide Try.prog W r b0 44 v) (h : DataW.Trod enc Try.prog W base spare held 44 v dd p) :
    ∃ (T : Option Addr) (c : Nat) (l : List PcV), v = .slice T l.length c ∧ CellsAt W T (pcF l) ∧ l.length ≤ maxLen ∧ pcLong l := by
  obtain ⟨T0, len, cap, rfl⟩ := okWide_slice Try.underlying44 hv
  obtain ⟨fuel, hf⟩ := h
  rcases Go.Deep.open_slice Try.underlying44 hf with ⟨hcs, _⟩ | ⟨a, len', cap', m, n, D, Pl, hcs, hb, hl, hm, hmm, _, hx⟩
  · simp [Value.cells] at hcs
    obtain ⟨rfl, rfl, rfl⟩ := hcs
    exact ⟨none, 0, [], rfl, .inl rfl, by decide, fun i hi => absurd hi (Nat.not_lt_zero i)⟩
  · simp [Value.cells] at hcs
    obtain ⟨rfl, rfl, rfl⟩ := hcs
    have hlm : len ≤ m := by rw [hmm]; split <;> omega
    have each : ∀ i, i < len → ∃ x : PcV, (W.cell? (a.add (i * 2)) = some (.int .i64 x.pos) ∧ W.cell? (a.add (i * 2 + 1)) = some (.string x.data)) ∧ x.data.size ≤ maxLen := by
      intro i hi
      obtain ⟨cs', h1, h2⟩ := hx i (by omega)
      rw [Try.cellsEPiece] at h1
      obtain ⟨_, hlen, hcell⟩ := World.cells?_some h1
      obtain ⟨xs, n2, _, _, _, hxl, hf2⟩ := DataW.trod_struct Try.underlying100 h2
      have hxl' : xs.length = 2 := hxl
      match xs, hxl', cs', hlen with
      | [y0, y1], _, [v0, v1], _ =>
        have f0 : DataW.trod enc Try.prog W base spare held n2 2 [v0] = some y0 := by have := hf2 0 _ rfl; simpa [Try.cellsIPiece, Try.cellsBPiece, Try.cellsSPiece] using this
        obtain ⟨u0, e0, _, _⟩ := DataW.trod_int Try.underlying2 f0
        have g0 := hcell 0 (by omega)
        rw [Go.Deep.add_add] at g0
        have f1 : DataW.trod enc Try.prog W base spare held n2 9 [v1] = some y1 := by have := hf2 1 _ rfl; simpa [Try.cellsIPiece, Try.cellsBPiece, Try.cellsSPiece] using this
        obtain ⟨u1, e1, _, s1⟩ := DataW.trod_string Try.underlying9 f1
        have g1 := hcell 1 (by omega)
        rw [Go.Deep.add_add] at g1
        simp at e0 e1
        subst e0 e1
        exact ⟨⟨u0, u1⟩, ⟨by simpa using g0, by simpa using g1⟩, s1⟩
    haveI : Inhabited PcV := ⟨⟨0, ByteArray.empty⟩⟩
    obtain ⟨q, hq⟩ := Go.Deep.choose_lt (α := PcV) each
    have hll : ((List.range len).map q).length = len := by simp
    refine ⟨some a, cap, (List.range len).map q, by rw [hll], ?_, by rw [hll]; omega, ?_⟩
    · by_cases h0 : len = 0
      · left; subst h0; rfl
      · obtain ⟨b, o, spot⟩ := a
        have hc0 := (hq 0 (by omega)).1.1
        have hspot : spot = none := by simpa [Addr.add] using World.cell?_spot hc0
        subst hspot
        have hb0 : b < W.heap.size := by rw [plain_add] at hc0; exact lt_of_cell hc0
        refine .inr ⟨b, o, rfl, hb0, flat_cells (by decide) pcL_len _ fun i hi j hj => ?_⟩
        have hi' : i < len := by simpa using hi
        have hc := (hq i hi').1
        have e : ((List.range len).map q)[i] = q i := by simp
        rw [e]
        simp only [plain_add] at hc
        match j, hj with
        | 0, _ => exact hc.1
        | 1, _ => exact hc.2
    · intro i hi
      have hi' : i < len := by simpa using hi
      have hc := (hq i hi').2
      have e : pcA ((List.range len).map q) i = q i := by rw [pcA_eq _ _ hi]; simp
      rw [e]
      unfold maxLen at hc
      omega
end
end Go.Proofs.Ytfaaopcmgadkjaa
