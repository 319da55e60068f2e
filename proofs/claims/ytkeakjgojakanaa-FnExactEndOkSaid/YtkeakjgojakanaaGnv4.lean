/-
  The bytes of a Geneve, by the program: the whole.
-/
import Derived.Test.YtkeakjgojakanaaGnv3
namespace Go.Proofs.Ytkeakjgojakanaa
open Go.RowKit Go.PlainAid
theorem gvText_len (net : Int) (l : List OpV) (data : ByteArray) : (gvText net l data).length ≤ 260 + data.size := by
  unfold gvText; split
  · rename_i h
    simp only [Bool.and_eq_true] at h
    have := (opsB_facts h.1.2).2
    rw [List.length_append, List.length_append, gvH_len, opsText_len, bl_length]; omega
  · simp
end Go.Proofs.Ytkeakjgojakanaa
