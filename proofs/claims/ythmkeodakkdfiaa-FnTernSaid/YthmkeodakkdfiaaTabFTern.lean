/-
  What the program finds by the rule Tern; the exact law on it.
-/
import Derived.Test.YthmkeodakkdfiaaTabSTern
namespace Go.Proofs.Ythmkeodakkdfiaa
open Go.RowKit Go.PlainAid
set_option maxRecDepth 100000 in
set_option maxHeartbeats 1600000 in
theorem i_TernFind (T : Option Addr) (c : Nat) (l : List TnV) (key : Int) (w : World) (h : IntsAt w T (tnF l)) (hl : l.length ≤ 1099511627776) :
    Calls Try.prog 36 #[.slice T l.length c, .int .i64 key] w fun e w' => e = .returned (.int .i64 (tnFound l key)) ∧ Below w.heap.size w w' := by
  have CF : Hid (∀ u : World, u = w → Calls Try.prog 71 #[.slice T l.length c, .int .i64 key] u fun e w' => ∃ v, e = .returned v ∧ ownR w' u.heap.size 53 4 v (tnFilt l key).length (tnF (tnFilt l key)) ∧ Below u.heap.size u w') := by
    rintro u rfl; exact i_tnFitting T c l key u h hl
  have hle := tnFilt_le l key
  have HF : Hid (tnFound l key = ((tnFilt l key).head?.map (·.act)).getD 0) := rfl
  generalize tnFilt l key = fl at *
  generalize tnFound l key = fo at *
  go_enter Try.func36, Try.ntmps36
  go_wp2_with fail
  go_at_call 71
  refine (CF.out _ rfl).mono ?_
  rintro e w1 ⟨v, rfl, hown, hb⟩
  clear CF
  by_cases h0 : fl.length = 0
  · have hn : fl = [] := List.eq_nil_of_length_eq_zero h0
    subst hn
    rcases hown.shape with ⟨rfl, _, _⟩ | ⟨g, cap, rfl, _⟩
    · go_wp2
      go_ret
      exact ⟨ret_i64 HF.out.symm, hb⟩
    · go_wp2
      go_ret
      exact ⟨ret_i64 HF.out.symm, hb⟩
  · rcases hown.shape with ⟨_, h1, _⟩ | ⟨g, cap, rfl, hB, hg, _⟩
    · omega
    · have hn0 : ¬ ((fl.length : Int) = 0) := by omega
      have hn2 : ((fl.length : Int) == 0) = false := by rw [beq_eq_false_iff_ne]; exact hn0
      have hr := hown.cell (0 * 4 + 3) (by omega)
      have ha := (tnF_at fl 0 (by omega)).2.2.2
      rw [ha] at hr

      have hfo : fo = (tnA fl 0).act := by
        rw [HF.out, List.head?_eq_getElem?, List.getElem?_eq_getElem (show 0 < fl.length by omega), tnA_eq fl _ (by omega)]; rfl
      have hp0 : (0 : Int) < (fl.length : Int) := by omega
      simp only [Nat.zero_mul, Nat.zero_add] at hr
      generalize tnA fl 0 = b at *
      go_wp2
      go_ret
      exact ⟨ret_i64 hfo.symm, hb⟩
end Go.Proofs.Ythmkeodakkdfiaa
