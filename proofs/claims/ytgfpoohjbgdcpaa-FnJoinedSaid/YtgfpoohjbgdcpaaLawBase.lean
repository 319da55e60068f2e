/-
  What the laws that draw out of a code have in common.
-/
import Derived.Test.YtgfpoohjbgdcpaaWalks6
import Derived.Test.YtgfpoohjbgdcpaaDraw4
namespace Go.Proofs.Ytgfpoohjbgdcpaa
open Go.RowKit Go.PlainAid

/-- a slice of integers that came in: nil, or a row of 'cap' cells -/
def IsRow (k : IntKind) (w : World) (a : Option Addr) (len cap : Nat) (zs : List Int) : Prop :=
  (a = none ∧ len = 0 ∧ cap = 0 ∧ zs = []) ∨
  ∃ x, a = some x ∧ len ≤ cap ∧ cap ≤ maxLen ∧ zs.length = cap ∧ (∀ i, i < zs.length → w.cell? (x.add i) = some (.int k (zs.getD i 0))) ∧ ∀ n ∈ zs, (Lit.int k n).wf = true


theorem code_of_row {w : World} {a : Option Addr} {len cap : Nat} {zs : List Int} (h : IsRow .u8 w a len cap zs) (hl : len ≤ 1048576) : Code w w.heap.size a len := by
  refine ⟨hl, Nat.le_refl _, ?_⟩
  rcases h with ⟨_, h, _⟩ | ⟨x, rfl, h1, h2, h3, h4, h5⟩
  · exact .inl h
  · by_cases h0 : len = 0
    · exact .inl h0
    · obtain ⟨b, off, spot⟩ := x
      have hc := h4 0 (by omega)
      have hspot : spot = none := by simpa [Addr.add] using World.cell?_spot hc
      subst hspot
      have hc0 : ∀ i, i < zs.length → w.cell? ⟨b, off + i, none⟩ = some (.int .u8 (zs.getD i 0)) := by
        intro i hi
        have e : (⟨b, off, none⟩ : Addr).add i = ⟨b, off + i, none⟩ := by unfold Addr.add; split <;> simp_all
        rw [← e]; exact h4 i hi
      refine .inr ⟨b, off, rfl, lt_of_cell (hc0 0 (by omega)), fun i hi => ?_⟩
      have hb := bounds_u8 (h5 (zs.getD i 0) (by
        have hi' : i < zs.length := by omega
        simp [List.getD, hi']))
      exact ⟨zs.getD i 0, hb.1, hb.2, hc0 i (by omega)⟩
theorem row_len {k : IntKind} {w : World} {a : Option Addr} {len cap : Nat} {zs : List Int} (h : IsRow k w a len cap zs) : len ≤ 9223372036854775807 := by
  rcases h with ⟨_, h, _⟩ | ⟨x, _, h1, h2, _⟩
  · omega
  · unfold maxLen at h2; omega
theorem big_no (a : Option Addr) (len cap : Nat) (w : World) (h : len ≤ 1048576) : Calls Try.prog 15 #[.slice a len cap] w fun e w' => e = .returned (.bool false) ∧ w' = w := by
  go_enter Try.func15, Try.ntmps15
  go_wp2
  go_ret
  exact ⟨ret_bool (by simp; omega), rfl⟩

set_option maxRecDepth 100000 in
set_option maxHeartbeats 400000 in
theorem l_byteOf (B : Nat) (C : Option Addr) (len cap : Nat) (i : Nat) (w : World) (hi : i ≤ 1000) (h : Code w B C len) :
    Calls Try.prog 23 #[.slice C len cap, .int .i64 (i : Int)] w fun e w' => ∃ x : Int, e = .returned (.int .i64 x) ∧ 0 ≤ x ∧ x ≤ 255 ∧ w' = w := by
  obtain ⟨h0, h1, h2⟩ := h
  by_cases hz : len = 0
  · subst hz
    go_enter Try.func23, Try.ntmps23
    go_wp2
    go_ret
    exact ⟨0, rfl, by omega, by omega, rfl⟩
  · rcases h2 with h2 | ⟨g, off, rfl, hg, hc⟩
    · omega
    · have hm : i % len < len := Nat.mod_lt _ (by omega)
      obtain ⟨c, c0, c1, hcell⟩ := hc (i % len) hm
      have e1 : ((i : Int) % (len : Int)) = ((i % len : Nat) : Int) := by simp
      have hne : ((len : Int) == 0) = false := by simp; omega
      generalize i % len = m at hm hcell e1
      clear hc
      go_enter Try.func23, Try.ntmps23
      go_wp2
      go_ret
      exact ⟨c, rfl, c0, c1, rfl⟩

theorem i_SumOf' (s : ByteArray) (v : Int) (w : World) (hs : s.size ≤ 1099511627776) (hv : sumOf (bl s) = v) :
    Calls Try.prog 41 #[.string s] w fun e w' => e = .returned (.int .i64 v) ∧ w' = w := by
  subst hv; exact i_SumOf s w hs

end Go.Proofs.Ytgfpoohjbgdcpaa
