/-
  An end that comes in, by value, opened: its numbers, its flags and its options.
-/
import Derived.Test.YtnheppkjeoiipaaEds1
import Derived.Test.YtnheppkjeoiipaaOpensOpt
import Derived.ProofKit
import Derived.OpenShut
import Derived.Deep.Slices
namespace Go.Proofs.Ytnheppkjeoiipaa
open Go.ChangeShapes Go.WideShapes Go.ChangeAt Go.RowKit
theorem array8 {α : Type} {cs : Array α} (h : cs.size = 8) : ∃ c0 c1 c2 c3 c4 c5 c6 c7, cs = #[c0, c1, c2, c3, c4, c5, c6, c7] := by
  obtain ⟨l⟩ := cs
  match l, h with
  | [c0, c1, c2, c3, c4, c5, c6, c7], _ => exact ⟨c0, c1, c2, c3, c4, c5, c6, c7, rfl⟩
section
variable {H : Type} {enc : TypeId × Value → H} {W : World} {base : Nat} {spare : Nat → Bool} {held : Bool} {r : Reach} {b0 : Nat} {v : Value} {dd : DataW H} {p : List MemPlace}
theorem Try.cellsEnd : Try.prog.cellsOf 36 = 8 := by kernel_rfl
theorem Try.cellsOs_End : Try.prog.cellsOf 34 = 1 := by kernel_rfl
set_option maxRecDepth 100000 in
set_option maxHeartbeats 1600000 in
theorem open_opsF {fuel : Nat} (hf : DataW.trod enc Try.prog W base spare held fuel 34 [v] = some (dd, p)) :
    ∃ (T : Option Addr) (c : Nat) (l : List OpV), v = .slice T l.length c ∧ CellsAt W T (opF l) ∧ l.length ≤ maxLen ∧ opLong l := by
  rcases Go.Deep.open_slice Try.underlying34 hf with ⟨hcs, _⟩ | ⟨a, len, cap, m, n, D, Pl, hcs, hb, hl, hm, hmm, _, hx⟩
  · simp at hcs
    subst hcs
    exact ⟨none, 0, [], rfl, .inl rfl, by decide, fun i hi => absurd hi (Nat.not_lt_zero i)⟩
  · simp at hcs
    subst hcs
    have hlm : len ≤ m := by rw [hmm]; split <;> omega
    have each : ∀ i, i < len → ∃ x : OpV, (W.cell? (a.add (i * 3)) = some (.int .i64 x.cls) ∧ W.cell? (a.add (i * 3 + 1)) = some (.int .i64 x.typ) ∧ W.cell? (a.add (i * 3 + 2)) = some (.string x.data)) ∧ x.data.size ≤ maxLen := by
      intro i hi
      obtain ⟨cs', h1, h2⟩ := hx i (by omega)
      rw [Try.cellsEOpt] at h1
      obtain ⟨_, hlen, hcell⟩ := World.cells?_some h1
      obtain ⟨xs, n2, _, _, _, hxl, hf2⟩ := DataW.trod_struct Try.underlying98 h2
      have hxl' : xs.length = 3 := hxl
      match xs, hxl', cs', hlen with
      | [y0, y1, y2], _, [v0, v1, v2], _ =>
        have f0 : DataW.trod enc Try.prog W base spare held n2 2 [v0] = some y0 := by have := hf2 0 _ rfl; simpa [Try.cellsIOpt, Try.cellsBOpt, Try.cellsSOpt] using this
        obtain ⟨u0, e0, _, _⟩ := DataW.trod_int Try.underlying2 f0
        have g0 := hcell 0 (by omega)
        rw [Go.Deep.add_add] at g0
        have f1 : DataW.trod enc Try.prog W base spare held n2 2 [v1] = some y1 := by have := hf2 1 _ rfl; simpa [Try.cellsIOpt, Try.cellsBOpt, Try.cellsSOpt] using this
        obtain ⟨u1, e1, _, _⟩ := DataW.trod_int Try.underlying2 f1
        have g1 := hcell 1 (by omega)
        rw [Go.Deep.add_add] at g1
        have f2 : DataW.trod enc Try.prog W base spare held n2 9 [v2] = some y2 := by have := hf2 2 _ rfl; simpa [Try.cellsIOpt, Try.cellsBOpt, Try.cellsSOpt] using this
        obtain ⟨u2, e2, _, s2⟩ := DataW.trod_string Try.underlying9 f2
        have g2 := hcell 2 (by omega)
        rw [Go.Deep.add_add] at g2
        simp at e0 e1 e2
        subst e0 e1 e2
        exact ⟨⟨u0, u1, u2⟩, ⟨by simpa using g0, by simpa using g1, by simpa using g2⟩, s2⟩
    haveI : Inhabited OpV := ⟨⟨0, 0, ByteArray.empty⟩⟩
    obtain ⟨q, hq⟩ := Go.Deep.choose_lt (α := OpV) each
    have hll : ((List.range len).map q).length = len := by simp
    refine ⟨some a, cap, (List.range len).map q, by rw [hll], ?_, by rw [hll]; omega, ?_⟩
    · by_cases h0 : len = 0
      · left; subst h0; rfl
      · obtain ⟨b, o, spot⟩ := a
        have hc0 := (hq 0 (by omega)).1.1
        have hspot : spot = none := by simpa [Addr.add] using World.cell?_spot hc0
        subst hspot
        have hb0 : b < W.heap.size := by rw [plain_add] at hc0; exact lt_of_cell hc0
        refine .inr ⟨b, o, rfl, hb0, flat_cells (by decide) opL_len _ fun i hi j hj => ?_⟩
        have hi' : i < len := by simpa using hi
        have hc := (hq i hi').1
        have e : ((List.range len).map q)[i] = q i := by simp
        rw [e]
        simp only [plain_add] at hc
        match j, hj with
        | 0, _ => exact hc.1
        | 1, _ => exact hc.2.1
        | 2, _ => exact hc.2.2
    · intro i hi
      have hi' : i < len := by simpa using hi
      have hc := (hq i hi').2
      have e : opA ((List.range len).map q) i = q i := by rw [opA_eq _ _ hi]; simp
      rw [e]
      unfold maxLen at hc
      omega
set_option maxRecDepth 100000 in
set_option maxHeartbeats 1600000 in
theorem open_end (hv : Value.okWide Try.prog W r b0 36 v) (h : DataW.Trod enc Try.prog W base spare held 36 v dd p) :
    ∃ (e : EdV) (T : Option Addr) (c : Nat), v = .agg (edL e T c) ∧ CellsAt W T (opF e.opts) ∧ e.opts.length ≤ maxLen ∧ opLong e.opts := by
  obtain ⟨cs, rfl, hsz⟩ := okWide_struct Try.underlying36 hv
  obtain ⟨c0, c1, c2, c3, c4, c5, c6, c7, rfl⟩ := array8 (hsz.trans Try.cellsEnd)
  obtain ⟨fuel, hf⟩ := h
  obtain ⟨xs, n, _, _, _, hlen, hx⟩ := DataW.trod_struct Try.underlying36 hf
  have hl8 : xs.length = 8 := hlen
  match xs, hl8 with
  | [y0, y1, y2, y3, y4, y5, y6, y7], _ =>
    have f0 : DataW.trod enc Try.prog W base spare held n 2 [c0] = some y0 := by have := hx 0 _ rfl; simpa [Value.cells, Try.cellsIOpt, Try.cellsBOpt, Try.cellsOs_End] using this
    have f1 : DataW.trod enc Try.prog W base spare held n 2 [c1] = some y1 := by have := hx 1 _ rfl; simpa [Value.cells, Try.cellsIOpt, Try.cellsBOpt, Try.cellsOs_End] using this
    have f2 : DataW.trod enc Try.prog W base spare held n 2 [c2] = some y2 := by have := hx 2 _ rfl; simpa [Value.cells, Try.cellsIOpt, Try.cellsBOpt, Try.cellsOs_End] using this
    have f3 : DataW.trod enc Try.prog W base spare held n 2 [c3] = some y3 := by have := hx 3 _ rfl; simpa [Value.cells, Try.cellsIOpt, Try.cellsBOpt, Try.cellsOs_End] using this
    have f4 : DataW.trod enc Try.prog W base spare held n 2 [c4] = some y4 := by have := hx 4 _ rfl; simpa [Value.cells, Try.cellsIOpt, Try.cellsBOpt, Try.cellsOs_End] using this
    have f5 : DataW.trod enc Try.prog W base spare held n 4 [c5] = some y5 := by have := hx 5 _ rfl; simpa [Value.cells, Try.cellsIOpt, Try.cellsBOpt, Try.cellsOs_End] using this
    have f6 : DataW.trod enc Try.prog W base spare held n 4 [c6] = some y6 := by have := hx 6 _ rfl; simpa [Value.cells, Try.cellsIOpt, Try.cellsBOpt, Try.cellsOs_End] using this
    have f7 : DataW.trod enc Try.prog W base spare held n 34 [c7] = some y7 := by have := hx 7 _ rfl; simpa [Value.cells, Try.cellsIOpt, Try.cellsBOpt, Try.cellsOs_End] using this
    obtain ⟨u0, e0, _, _⟩ := DataW.trod_int Try.underlying2 f0
    obtain ⟨u1, e1, _, _⟩ := DataW.trod_int Try.underlying2 f1
    obtain ⟨u2, e2, _, _⟩ := DataW.trod_int Try.underlying2 f2
    obtain ⟨u3, e3, _, _⟩ := DataW.trod_int Try.underlying2 f3
    obtain ⟨u4, e4, _, _⟩ := DataW.trod_int Try.underlying2 f4
    obtain ⟨u5, e5, _⟩ := DataW.trod_bool Try.underlying4 f5
    obtain ⟨u6, e6, _⟩ := DataW.trod_bool Try.underlying4 f6
    simp at e0 e1 e2 e3 e4 e5 e6
    subst e0 e1 e2 e3 e4 e5 e6
    obtain ⟨d7, p7⟩ := y7
    obtain ⟨T, c, l, rfl, hl, hm, hlong⟩ := open_opsF f7
    exact ⟨⟨u0, u1, u2, u3, u4, u5, u6, l⟩, T, c, rfl, hl, hm, hlong⟩
end
end Go.Proofs.Ytnheppkjeoiipaa
