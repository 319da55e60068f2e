/-
  A slice of the record Ip that comes in, opened.
-/
import Derived.Test.YtkeakjgojakanaaTabIp
import Derived.ProofKit
import Derived.OpenShut
import Derived.Deep.Slices
namespace Go.Proofs.Ytkeakjgojakanaa
open Go.ChangeShapes Go.WideShapes Go.ChangeAt Go.RowKit
section
variable {H : Type} {enc : TypeId × Value → H} {W : World} {base : Nat} {spare : Nat → Bool} {held : Bool} {r : Reach} {b0 : Nat} {v : Value} {dd : DataW H} {p : List MemPlace}
theorem Try.cellsEIp : Try.prog.cellsOf 37 = 11 := by kernel_rfl
theorem Try.cellsIIp : Try.prog.cellsOf 2 = 1 := by kernel_rfl
theorem Try.cellsBIp : Try.prog.cellsOf 4 = 1 := by kernel_rfl
theorem Try.cellsSIp : Try.prog.cellsOf 9 = 1 := by kernel_rfl
set_option maxRecDepth 100000 in
set_option maxHeartbeats 1600000 in
theorem open_iqs (hv : Value.okWide Try.prog W r b0 47 v) (h : DataW.Trod enc Try.prog W base spare held 47 v dd p) :
    ∃ (T : Option Addr) (c : Nat) (l : List IpV), v = .slice T l.length c ∧ CellsAt W T (iqF l) ∧ l.length ≤ maxLen ∧ iqLong l := by
  obtain ⟨T0, len, cap, rfl⟩ := okWide_slice Try.underlying47 hv
  obtain ⟨fuel, hf⟩ := h
  rcases Go.Deep.open_slice Try.underlying47 hf with ⟨hcs, _⟩ | ⟨a, len', cap', m, n, D, Pl, hcs, hb, hl, hm, hmm, _, hx⟩
  · simp [Value.cells] at hcs
    obtain ⟨rfl, rfl, rfl⟩ := hcs
    exact ⟨none, 0, [], rfl, .inl rfl, by decide, fun i hi => absurd hi (Nat.not_lt_zero i)⟩
  · simp [Value.cells] at hcs
    obtain ⟨rfl, rfl, rfl⟩ := hcs
    have hlm : len ≤ m := by rw [hmm]; split <;> omega
    have each : ∀ i, i < len → ∃ x : IpV, (W.cell? (a.add (i * 11)) = some (.int .i64 x.tos) ∧ W.cell? (a.add (i * 11 + 1)) = some (.int .i64 x.id) ∧ W.cell? (a.add (i * 11 + 2)) = some (.bool x.df) ∧ W.cell? (a.add (i * 11 + 3)) = some (.bool x.mf) ∧ W.cell? (a.add (i * 11 + 4)) = some (.int .i64 x.off) ∧ W.cell? (a.add (i * 11 + 5)) = some (.int .i64 x.ttl) ∧ W.cell? (a.add (i * 11 + 6)) = some (.int .i64 x.pro) ∧ W.cell? (a.add (i * 11 + 7)) = some (.int .i64 x.src) ∧ W.cell? (a.add (i * 11 + 8)) = some (.int .i64 x.dst) ∧ W.cell? (a.add (i * 11 + 9)) = some (.string x.opts) ∧ W.cell? (a.add (i * 11 + 10)) = some (.string x.data)) ∧ x.opts.size ≤ maxLen ∧ x.data.size ≤ maxLen := by
      intro i hi
      obtain ⟨cs', h1, h2⟩ := hx i (by omega)
      rw [Try.cellsEIp] at h1
      obtain ⟨_, hlen, hcell⟩ := World.cells?_some h1
      obtain ⟨xs, n2, _, _, _, hxl, hf2⟩ := DataW.trod_struct Try.underlying37 h2
      have hxl' : xs.length = 11 := hxl
      match xs, hxl', cs', hlen with
      | [y0, y1, y2, y3, y4, y5, y6, y7, y8, y9, y10], _, [v0, v1, v2, v3, v4, v5, v6, v7, v8, v9, v10], _ =>
        have f0 : DataW.trod enc Try.prog W base spare held n2 2 [v0] = some y0 := by have := hf2 0 _ rfl; simpa [Try.cellsIIp, Try.cellsBIp, Try.cellsSIp] using this
        obtain ⟨u0, e0, _, _⟩ := DataW.trod_int Try.underlying2 f0
        have g0 := hcell 0 (by omega)
        rw [Go.Deep.add_add] at g0
        have f1 : DataW.trod enc Try.prog W base spare held n2 2 [v1] = some y1 := by have := hf2 1 _ rfl; simpa [Try.cellsIIp, Try.cellsBIp, Try.cellsSIp] using this
        obtain ⟨u1, e1, _, _⟩ := DataW.trod_int Try.underlying2 f1
        have g1 := hcell 1 (by omega)
        rw [Go.Deep.add_add] at g1
        have f2 : DataW.trod enc Try.prog W base spare held n2 4 [v2] = some y2 := by have := hf2 2 _ rfl; simpa [Try.cellsIIp, Try.cellsBIp, Try.cellsSIp] using this
        obtain ⟨u2, e2, _⟩ := DataW.trod_bool Try.underlying4 f2
        have g2 := hcell 2 (by omega)
        rw [Go.Deep.add_add] at g2
        have f3 : DataW.trod enc Try.prog W base spare held n2 4 [v3] = some y3 := by have := hf2 3 _ rfl; simpa [Try.cellsIIp, Try.cellsBIp, Try.cellsSIp] using this
        obtain ⟨u3, e3, _⟩ := DataW.trod_bool Try.underlying4 f3
        have g3 := hcell 3 (by omega)
        rw [Go.Deep.add_add] at g3
        have f4 : DataW.trod enc Try.prog W base spare held n2 2 [v4] = some y4 := by have := hf2 4 _ rfl; simpa [Try.cellsIIp, Try.cellsBIp, Try.cellsSIp] using this
        obtain ⟨u4, e4, _, _⟩ := DataW.trod_int Try.underlying2 f4
        have g4 := hcell 4 (by omega)
        rw [Go.Deep.add_add] at g4
        have f5 : DataW.trod enc Try.prog W base spare held n2 2 [v5] = some y5 := by have := hf2 5 _ rfl; simpa [Try.cellsIIp, Try.cellsBIp, Try.cellsSIp] using this
        obtain ⟨u5, e5, _, _⟩ := DataW.trod_int Try.underlying2 f5
        have g5 := hcell 5 (by omega)
        rw [Go.Deep.add_add] at g5
        have f6 : DataW.trod enc Try.prog W base spare held n2 2 [v6] = some y6 := by have := hf2 6 _ rfl; simpa [Try.cellsIIp, Try.cellsBIp, Try.cellsSIp] using this
        obtain ⟨u6, e6, _, _⟩ := DataW.trod_int Try.underlying2 f6
        have g6 := hcell 6 (by omega)
        rw [Go.Deep.add_add] at g6
        have f7 : DataW.trod enc Try.prog W base spare held n2 2 [v7] = some y7 := by have := hf2 7 _ rfl; simpa [Try.cellsIIp, Try.cellsBIp, Try.cellsSIp] using this
        obtain ⟨u7, e7, _, _⟩ := DataW.trod_int Try.underlying2 f7
        have g7 := hcell 7 (by omega)
        rw [Go.Deep.add_add] at g7
        have f8 : DataW.trod enc Try.prog W base spare held n2 2 [v8] = some y8 := by have := hf2 8 _ rfl; simpa [Try.cellsIIp, Try.cellsBIp, Try.cellsSIp] using this
        obtain ⟨u8, e8, _, _⟩ := DataW.trod_int Try.underlying2 f8
        have g8 := hcell 8 (by omega)
        rw [Go.Deep.add_add] at g8
        have f9 : DataW.trod enc Try.prog W base spare held n2 9 [v9] = some y9 := by have := hf2 9 _ rfl; simpa [Try.cellsIIp, Try.cellsBIp, Try.cellsSIp] using this
        obtain ⟨u9, e9, _, s9⟩ := DataW.trod_string Try.underlying9 f9
        have g9 := hcell 9 (by omega)
        rw [Go.Deep.add_add] at g9
        have f10 : DataW.trod enc Try.prog W base spare held n2 9 [v10] = some y10 := by have := hf2 10 _ rfl; simpa [Try.cellsIIp, Try.cellsBIp, Try.cellsSIp] using this
        obtain ⟨u10, e10, _, s10⟩ := DataW.trod_string Try.underlying9 f10
        have g10 := hcell 10 (by omega)
        rw [Go.Deep.add_add] at g10
        simp at e0 e1 e2 e3 e4 e5 e6 e7 e8 e9 e10
        subst e0 e1 e2 e3 e4 e5 e6 e7 e8 e9 e10
        exact ⟨⟨u0, u1, u2, u3, u4, u5, u6, u7, u8, u9, u10⟩, ⟨by simpa using g0, by simpa using g1, by simpa using g2, by simpa using g3, by simpa using g4, by simpa using g5, by simpa using g6, by simpa using g7, by simpa using g8, by simpa using g9, by simpa using g10⟩, s9, s10⟩
    haveI : Inhabited IpV := ⟨⟨0, 0, false, false, 0, 0, 0, 0, 0, ByteArray.empty, ByteArray.empty⟩⟩
    obtain ⟨q, hq⟩ := Go.Deep.choose_lt (α := IpV) each
    have hll : ((List.range len).map q).length = len := by simp
    refine ⟨some a, cap, (List.range len).map q, by rw [hll], ?_, by rw [hll]; omega, ?_⟩
    · by_cases h0 : len = 0
      · left; subst h0; rfl
      · obtain ⟨b, o, spot⟩ := a
        have hc0 := (hq 0 (by omega)).1.1
        have hspot : spot = none := by simpa [Addr.add] using World.cell?_spot hc0
        subst hspot
        have hb0 : b < W.heap.size := by rw [plain_add] at hc0; exact lt_of_cell hc0
        refine .inr ⟨b, o, rfl, hb0, flat_cells (by decide) iqL_len _ fun i hi j hj => ?_⟩
        have hi' : i < len := by simpa using hi
        have hc := (hq i hi').1
        have e : ((List.range len).map q)[i] = q i := by simp
        rw [e]
        simp only [plain_add] at hc
        match j, hj with
        | 0, _ => exact hc.1
        | 1, _ => exact hc.2.1
        | 2, _ => exact hc.2.2.1
        | 3, _ => exact hc.2.2.2.1
        | 4, _ => exact hc.2.2.2.2.1
        | 5, _ => exact hc.2.2.2.2.2.1
        | 6, _ => exact hc.2.2.2.2.2.2.1
        | 7, _ => exact hc.2.2.2.2.2.2.2.1
        | 8, _ => exact hc.2.2.2.2.2.2.2.2.1
        | 9, _ => exact hc.2.2.2.2.2.2.2.2.2.1
        | 10, _ => exact hc.2.2.2.2.2.2.2.2.2.2
    · intro i hi
      have hi' : i < len := by simpa using hi
      have hc := (hq i hi').2
      have e : iqA ((List.range len).map q) i = q i := by rw [iqA_eq _ _ hi]; simp
      rw [e]
      unfold maxLen at hc
      omega
end
end Go.Proofs.Ytkeakjgojakanaa
