/-
  What the program and the model put into a table by masks, and drop.
-/
import Derived.Test.YtnlignfmicincaaTabKTern
import Derived.Test.YtnlignfmicincaaTabSTern
namespace Go.Proofs.Ytnlignfmicincaa
open Go.RowKit Go.PlainAid
def tnLD (l : List TnV) (a0 a1 a2 : Int) : List TnV := tnDropR l ⟨land a0 a1, a1, a2, 0⟩
theorem tnDrop_len (l : List TnV) (a0 a1 a2 : Int) : (tnLD l a0 a1 a2).length ≤ l.length := by
  unfold tnLD tnDropR; split
  · exact dropL_le _ _ _
  · simp
theorem tnSorted {l : List TnV} (h : tnTab l = true) : ∀ i, i + 1 < l.length → tnLt (l.getD i ⟨0, 0, 0, 0⟩) (l.getD (i + 1) ⟨0, 0, 0, 0⟩) = true := fun _ hi => tblB_lt h hi
def tnKeep (a : TnV) (lm a1 a2 : Int) : Bool := decide (¬ (a.value = lm ∧ a.mask = a1 ∧ a.pri = a2))
theorem tnNe (a : TnV) (lm a1 a2 : Int) : ne tnLt a ⟨lm, a1, a2, 0⟩ = tnKeep a lm a1 a2 := by
  unfold ne tnLt tnKeep
  rw [Bool.eq_iff_iff, Bool.or_eq_true, decide_eq_true_iff, decide_eq_true_iff, decide_eq_true_iff]
  simp only []
  omega
end Go.Proofs.Ytnlignfmicincaa
