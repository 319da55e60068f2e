/-
  The bytes of a Geneve, by the program: an option, the head, the whole.
-/
import Derived.Test.YtkeakjgojakanaaGnv2
namespace Go.Proofs.Ytkeakjgojakanaa
open Go.RowKit Go.PlainAid
theorem gvH_len (net : Int) (l : List OpV) : (gvH net l).length = 8 := by simp only [gvH, List.length_append, be_length]
theorem opsB_facts {l : List OpV} (h : opsB l = true) : opsOk l = true ∧ opSum l ≤ 252 := by
  unfold opsB at h; rw [Bool.and_eq_true, decide_eq_true_iff] at h; exact h
end Go.Proofs.Ytkeakjgojakanaa
