/-
  What the program finds by the rule Prefix; the exact law on it.
-/
import Derived.Test.YthmkeodakkdfiaaTabSPrefix
namespace Go.Proofs.Ythmkeodakkdfiaa
open Go.RowKit Go.PlainAid
set_option maxRecDepth 100000 in
set_option maxHeartbeats 1600000 in
theorem i_PrefixFind (T : Option Addr) (c : Nat) (l : List PfV) (key : Int) (w : World) (h : IntsAt w T (pfF l)) (hl : l.length ≤ 1099511627776) :
    Calls Try.prog 27 #[.slice T l.length c, .int .i64 key] w fun e w' => e = .returned (.int .i64 (pfFound l key)) ∧ Below w.heap.size w w' := by
  have CF : Hid (∀ u : World, u = w → Calls Try.prog 62 #[.slice T l.length c, .int .i64 key] u fun e w' => ∃ v, e = .returned v ∧ ownR w' u.heap.size 41 3 v (pfFilt l key).length (pfF (pfFilt l key)) ∧ Below u.heap.size u w') := by
    rintro u rfl; exact i_pfFitting T c l key u h hl
  have hle := pfFilt_le l key
  have HF : Hid (pfFound l key = ((pfFilt l key).getLast?.map (·.act)).getD 0) := rfl
  generalize pfFilt l key = fl at *
  generalize pfFound l key = fo at *
  go_enter Try.func27, Try.ntmps27
  go_wp2_with fail
  go_at_call 62
  refine (CF.out _ rfl).mono ?_
  rintro e w1 ⟨v, rfl, hown, hb⟩
  clear CF
  by_cases h0 : fl.length = 0
  · have hn : fl = [] := List.eq_nil_of_length_eq_zero h0
    subst hn
    rcases hown.shape with ⟨rfl, _, _⟩ | ⟨g, cap, rfl, _⟩
    · go_wp2
      go_ret
      exact ⟨ret_i64 HF.out.symm, hb⟩
    · go_wp2
      go_ret
      exact ⟨ret_i64 HF.out.symm, hb⟩
  · rcases hown.shape with ⟨_, h1, _⟩ | ⟨g, cap, rfl, hB, hg, _⟩
    · omega
    · have hn0 : ¬ ((fl.length : Int) = 0) := by omega
      have hn2 : ((fl.length : Int) == 0) = false := by rw [beq_eq_false_iff_ne]; exact hn0
      have hr := hown.cell ((fl.length - 1) * 3 + 2) (by omega)
      have ha := (pfF_at fl (fl.length - 1) (by omega)).2.2
      rw [ha] at hr

      have hfo : fo = (pfA fl (fl.length - 1)).act := by
        rw [HF.out, List.getLast?_eq_getElem?, List.getElem?_eq_getElem (show fl.length - 1 < fl.length by omega), pfA_eq fl _ (by omega)]; rfl
      have hj2 : (fl.length : Int) - 1 = ((fl.length - 1 : Nat) : Int) := by omega
      have hj3 : ((fl.length - 1 : Nat) : Int) < (fl.length : Int) := by omega
      generalize pfA fl (fl.length - 1) = b at *
      go_wp2
      go_ret
      exact ⟨ret_i64 hfo.symm, hb⟩
end Go.Proofs.Ythmkeodakkdfiaa
