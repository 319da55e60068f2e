/-
  Tables asked exactly, plainly: what a right table is; tables held against tables (no finds).
-/
import Derived.Test.YtnlignfmicincaaDtabExact
import Derived.Test.YtnlignfmicincaaTabs1
import Derived.Laws.StructEq
import Derived.Deep.QuietTactic
namespace Go.Proofs.Ytnlignfmicincaa
open Go.RowKit Go.PlainAid
theorem exTab_iff (l : List ExV) : exTab l = true ↔ l.length ≤ 32 ∧ (∀ a ∈ l, exOk a = true) ∧ l.Pairwise (fun a b => exLt a b = true) := tb_iff exOrd l ⟨0, 0⟩
theorem exput_ok {l : List ExV} {r : ExV} (h : exPutC l r = 0) : exTab l = true ∧ exOk r = true ∧ exPutR l r = putL exLt ⟨0, 0⟩ l r ∧ exTab (putL exLt ⟨0, 0⟩ l r) = true := by
  have h2 := h
  unfold exPutC at h2
  cases ht : exTab l
  · rw [ht] at h2; simp at h2
  · cases hk : exOk r
    · rw [ht, hk] at h2; simp at h2
    · rw [ht, hk] at h2
      refine ⟨rfl, rfl, by unfold exPutR; rw [if_pos h], ?_⟩
      obtain ⟨t1, t2, t3⟩ := (exTab_iff l).1 ht
      obtain ⟨q2, q3⟩ := tb_put (ok := exOk) exOrd ⟨0, 0⟩ l r hk t2 t3
      refine (exTab_iff _).2 ⟨?_, q2, q3⟩
      rw [putL_length]
      cases hth : there exLt (⟨0, 0⟩ : ExV) l r with
      | true => simp; exact t1
      | false =>
        rw [hth] at h2
        simp at h2
        simp; omega
theorem neExact (a b : Int) (w : World) : (binOp .neq 52 (.agg #[.int .i64 a, .int .i64 b]) (.agg #[.int .i64 a, .int .i64 b])).run Try.prog w = .ok (.bool false) w := by
  have u3 := Try.underlying2
  have a3 := Try.isAgg2
  have z3 := Try.sizeOf2
  have hS : Try.prog.underlying 52 = some (.struct (Try.prog.fieldsOf 52)) := by kernel_rfl
  have hp : Try.prog.stoodInHeld 52 = false := by kernel_rfl
  rw [run_neq_struct w, show (10000 : Nat) = 9999 + 1 from rfl, run_equalIn_agg w 9999 52 _ _ hS hp]
  simp only [Program.fieldsOf, Try.underlying52]
  go_simp
set_option maxRecDepth 100000 in
set_option maxHeartbeats 1600000 in
theorem l_sameExacts (T U : Option Addr) (c e : Nat) (l : List ExV) (w : World) (h : IntsAt w T (exF l)) (k : IntsAt w U (exF l)) (hl : l.length ≤ 1099511627776) :
    Calls Try.prog 8 #[.slice T l.length c, .slice U l.length e] w fun e w' => e = .returned (.bool true) ∧ Below w.heap.size w w' := by
  have hnn : ((l.length : Int) != (l.length : Int)) = false := by simp
  go_enter Try.func8, Try.ntmps8
  go_wp2
  go_loopw [5] (fun i wr => ∃ j : Nat, j ≤ l.length ∧ i = .int .i64 (j : Int) ∧ Below w.heap.size w wr) (fun i _ => ((l.length : Int) - intOf i).toNat)
  case atStart => exact ⟨0, by omega, rfl, Below.refl _ _⟩
  case round =>
    obtain ⟨j, hj, rfl, hb⟩ := hrel
    by_cases hlt : j < l.length
    · rcases h.below hb with h | ⟨g, off, rfl, hg, hc⟩
      · have := exF_len l; rw [h] at this; simp at this; omega
      · rcases k.below hb with k | ⟨g2, off2, rfl, hg2, hc2⟩
        · have := exF_len l; rw [k] at this; simp at this; omega
        · have hj1 : (j : Int) < (l.length : Int) := by omega
          have hcs := ex_cells hc j hlt
          have hcs2 := ex_cells hc2 j hlt
          clear hc hc2
          generalize exA l j = b at *
          obtain ⟨x, y⟩ := b
          have hq := neExact x y
          go_wp2_with fail
          go_quiet (fail)
          go_wp2
          go_roundw
          case rel => exact ⟨j + 1, by omega, by go_num, hb.trans ⟨rfl, rfl, rfl, Nat.le_refl _, fun _ _ => rfl⟩⟩
          case measure => simp [intOf]; omega
    · go_wp2
      go_ret
      exact ⟨rfl, hb⟩
end Go.Proofs.Ytnlignfmicincaa
