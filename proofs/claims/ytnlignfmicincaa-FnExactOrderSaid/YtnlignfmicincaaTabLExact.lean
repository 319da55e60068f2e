/-
  The exact laws on what is put and dropped by the rule Exact.
-/
import Derived.Test.YtnlignfmicincaaTabPExact
namespace Go.Proofs.Ytnlignfmicincaa
open Go.RowKit Go.PlainAid
theorem exPut_len (l : List ExV) (a0 a1 : Int) : (exPutR l ⟨a0, a1⟩).length ≤ l.length + 1 := by
  unfold exPutR; split
  · rw [putL_length]; split <;> omega
  · simp
theorem exDrop_len (l : List ExV) (a0 : Int) : (exDropR l ⟨a0, 0⟩).length ≤ l.length := by
  unfold exDropR; split
  · exact dropL_le _ _ _
  · simp
end Go.Proofs.Ytnlignfmicincaa
