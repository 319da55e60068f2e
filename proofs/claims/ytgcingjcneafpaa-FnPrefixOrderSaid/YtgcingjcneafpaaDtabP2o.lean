/-
  Tables by prefixes, plainly; tables held against tables (no finds).
-/
import Derived.Test.YtgcingjcneafpaaDtabPrefix
import Derived.Test.YtgcingjcneafpaaTabs1
import Derived.Laws.StructEq
import Derived.Deep.QuietTactic
namespace Go.Proofs.Ytgcingjcneafpaa
open Go.RowKit Go.PlainAid
theorem pfTab_iff (l : List PfV) : pfTab l = true ↔ l.length ≤ 32 ∧ (∀ a ∈ l, pfOk a = true) ∧ l.Pairwise (fun a b => pfLt a b = true) := tb_iff pfOrd l ⟨0, 0, 0⟩
theorem pfput_ok {l : List PfV} {a0 a1 a2 : Int} (h : pfLC l a0 a1 a2 = 0) : pfTab l = true ∧ addrB a0 = true ∧ inB a1 0 32 = true ∧ pfLR l a0 a1 a2 = putL pfLt ⟨0, 0, 0⟩ l ⟨top a0 a1, a1, a2⟩ ∧ pfTab (putL pfLt ⟨0, 0, 0⟩ l ⟨top a0 a1, a1, a2⟩) = true ∧ pfOk ⟨top a0 a1, a1, a2⟩ = true := by
  have e := pfLR_yes l a0 a1 a2 h
  have h2 := h
  rw [pfLC_eq] at h2
  cases ht : pfTab l
  · rw [ht] at h2; simp at h2
  cases hk1 : inB a1 0 32
  · rw [hk1] at h2; simp at h2
  cases hk0 : addrB a0
  · rw [hk0] at h2; simp at h2
  cases hc : actB a2
  · rw [hc] at h2; simp at h2
  rw [ht, hk0, hk1, hc] at h2
  have hok : pfOk ⟨top a0 a1, a1, a2⟩ = true := by
    have := pfOk_R a0 a1 a2
    unfold pfR at this
    rw [hk0, hk1, hc] at this
    simpa using this
  refine ⟨rfl, rfl, rfl, e, ?_, hok⟩
  obtain ⟨t1, t2, t3⟩ := (pfTab_iff l).1 ht
  obtain ⟨q2, q3⟩ := tb_put (ok := pfOk) pfOrd ⟨0, 0, 0⟩ l ⟨top a0 a1, a1, a2⟩ hok t2 t3
  refine (pfTab_iff _).2 ⟨?_, q2, q3⟩
  rw [putL_length]
  cases hth : there pfLt (⟨0, 0, 0⟩ : PfV) l ⟨top a0 a1, a1, a2⟩ with
  | true => simp; exact t1
  | false =>
    rw [hth] at h2
    simp at h2
    simp; omega
theorem nePrefix (a b c : Int) (w : World) : (binOp .neq 70 (.agg #[.int .i64 a, .int .i64 b, .int .i64 c]) (.agg #[.int .i64 a, .int .i64 b, .int .i64 c])).run Try.prog w = .ok (.bool false) w := by
  have u3 := Try.underlying2
  have a3 := Try.isAgg2
  have z3 := Try.sizeOf2
  have hS : Try.prog.underlying 70 = some (.struct (Try.prog.fieldsOf 70)) := by kernel_rfl
  have hp : Try.prog.stoodInHeld 70 = false := by kernel_rfl
  rw [run_neq_struct w, show (10000 : Nat) = 9999 + 1 from rfl, run_equalIn_agg w 9999 70 _ _ hS hp]
  simp only [Program.fieldsOf, Try.underlying70]
  go_simp
set_option maxRecDepth 100000 in
set_option maxHeartbeats 1600000 in
theorem l_samePrefixes (T U : Option Addr) (c e : Nat) (l : List PfV) (w : World) (h : IntsAt w T (pfF l)) (k : IntsAt w U (pfF l)) (hl : l.length ≤ 1099511627776) :
    Calls Try.prog 17 #[.slice T l.length c, .slice U l.length e] w fun e w' => e = .returned (.bool true) ∧ Below w.heap.size w w' := by
  have hnn : ((l.length : Int) != (l.length : Int)) = false := by simp
  go_enter Try.func17, Try.ntmps17
  go_wp2
  go_loopw [5] (fun i wr => ∃ j : Nat, j ≤ l.length ∧ i = .int .i64 (j : Int) ∧ Below w.heap.size w wr) (fun i _ => ((l.length : Int) - intOf i).toNat)
  case atStart => exact ⟨0, by omega, rfl, Below.refl _ _⟩
  case round =>
    obtain ⟨j, hj, rfl, hb⟩ := hrel
    by_cases hlt : j < l.length
    · rcases h.below hb with h | ⟨g, off, rfl, hg, hc⟩
      · have := pfF_len l; rw [h] at this; simp at this; omega
      · rcases k.below hb with k | ⟨g2, off2, rfl, hg2, hc2⟩
        · have := pfF_len l; rw [k] at this; simp at this; omega
        · have hj1 : (j : Int) < (l.length : Int) := by omega
          have hcs := pf_cells hc j hlt
          have hcs2 := pf_cells hc2 j hlt
          clear hc hc2
          generalize pfA l j = b at *
          obtain ⟨x, y, z⟩ := b
          have hq := nePrefix x y z
          go_wp2_with fail
          go_quiet (fail)
          go_wp2
          go_roundw
          case rel => exact ⟨j + 1, by omega, by go_num, hb.trans ⟨rfl, rfl, rfl, Nat.le_refl _, fun _ _ => rfl⟩⟩
          case measure => simp [intOf]; omega
    · go_wp2
      go_ret
      exact ⟨rfl, hb⟩
end Go.Proofs.Ytgcingjcneafpaa
