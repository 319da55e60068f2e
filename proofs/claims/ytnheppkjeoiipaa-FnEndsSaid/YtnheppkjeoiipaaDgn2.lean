/-
  Two rows of options are the same: the laws' own comparison.
-/
import Derived.Test.YtnheppkjeoiipaaTabOpt
import Derived.Test.YtnheppkjeoiipaaLawBase
import Derived.BigQuiet
namespace Go.Proofs.Ytnheppkjeoiipaa
open Go.RowKit Go.PlainAid
theorem Try.optGuard : Try.prog.eqGuardType Try.prog.depth 33 = false := by kernel_rfl
theorem optNeq (x y : Int) (d : ByteArray) (w : World) : (binOp .neq 33 (.agg #[.int .i64 x, .int .i64 y, .string d]) (.agg #[.int .i64 x, .int .i64 y, .string d])).run Try.prog w = .ok (.bool false) w := by
  rw [run_neq_struct, run_equalIn_agg w 9999 _ _ _ (by kernel_rfl) (by kernel_rfl)]
  simp only [Program.fieldsOf, Try.underlying33]
  simp only [Op.eqFields]
  simp [go_sem, part, run_equalIn_int _ _ _ _ _ _ _ Try.underlying2, run_equalIn_string _ _ _ _ _ Try.underlying9]
set_option maxRecDepth 100000 in
set_option maxHeartbeats 1600000 in
theorem l_sameOpts (T U : Option Addr) (c e : Nat) (l : List OpV) (w : World) (h : CellsAt w T (opF l)) (k : CellsAt w U (opF l)) (hl : l.length ≤ 1099511627776) :
    Calls Try.prog 14 #[.slice T l.length c, .slice U l.length e] w fun e w' => e = .returned (.bool true) ∧ Below w.heap.size w w' := by
  have hnn : ((l.length : Int) != (l.length : Int)) = false := by simp
  have hgu := Try.optGuard
  go_enter Try.func14, Try.ntmps14
  go_wp2
  go_loopw [5] (fun i wr => ∃ j : Nat, j ≤ l.length ∧ i = .int .i64 (j : Int) ∧ Below w.heap.size w wr) (fun i _ => ((l.length : Int) - intOf i).toNat)
  case atStart => exact ⟨0, by omega, rfl, Below.refl _ _⟩
  case round =>
    obtain ⟨j, hj, rfl, hb⟩ := hrel
    by_cases hlt : j < l.length
    · rcases h.below hb with h | ⟨g, off, rfl, hg, hc⟩
      · have := opF_len l; rw [h] at this; simp at this; omega
      · rcases k.below hb with k | ⟨g2, off2, rfl, hg2, hc2⟩
        · have := opF_len l; rw [k] at this; simp at this; omega
        · have hj1 : (j : Int) < (l.length : Int) := by omega
          have hcs := op_cells hc j hlt
          have hcs2 := op_cells hc2 j hlt
          clear hc hc2
          generalize opA l j = b at *
          obtain ⟨x, y, d⟩ := b
          have hq := optNeq x y d
          go_wp2_with fail
          go_quiet (fail)
          go_wp2
          go_roundw
          case rel => exact ⟨j + 1, by omega, by go_num, hb.trans ⟨rfl, rfl, rfl, Nat.le_refl _, fun _ _ => rfl⟩⟩
          case measure => simp [intOf]; omega
    · go_wp2
      go_ret
      exact ⟨rfl, hb⟩
end Go.Proofs.Ytnheppkjeoiipaa
