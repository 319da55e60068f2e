/-
  What the program and the model drop from a table by the first bits of an address.
-/
import Derived.Test.YtgcingjcneafpaaTabKPrefix
import Derived.Test.YtgcingjcneafpaaTabSPrefix
namespace Go.Proofs.Ytgcingjcneafpaa
open Go.RowKit Go.PlainAid
def pfR (a0 a1 a2 : Int) : PfV := ⟨if addrB a0 && inB a1 0 32 then top a0 a1 else a0, a1, a2⟩
def pfLD (l : List PfV) (a0 a1 : Int) : List PfV := pfDropR l (pfR a0 a1 0)
theorem pfDrop_len (l : List PfV) (a0 a1 : Int) : (pfLD l a0 a1).length ≤ l.length := by
  unfold pfLD pfDropR; split
  · exact dropL_le _ _ _
  · simp
theorem pfSorted {l : List PfV} (h : pfTab l = true) : ∀ i, i + 1 < l.length → pfLt (l.getD i ⟨0, 0, 0⟩) (l.getD (i + 1) ⟨0, 0, 0⟩) = true := fun _ hi => tblB_lt h hi
def pfKeep (rt : Bool) (t a1 : Int) (a : PfV) : Bool := !rt || decide (¬ (a.bits = a1 ∧ a.addr = t))
theorem pfLD_eq (l : List PfV) (a0 a1 : Int) (ht : pfTab l = true) : pfLD l a0 a1 = l.filter (pfKeep (inB a1 0 32 && addrB a0) (top a0 a1) a1) := by
  unfold pfLD pfDropR
  rw [ht, if_pos rfl, ← drop_filter pfOrd l _ ⟨0, 0, 0⟩ (pfSorted ht)]
  refine List.filter_congr fun a ha => ?_
  obtain ⟨i, hi, rfl⟩ := List.getElem_of_mem ha
  have hok : pfOk l[i] = true := by have := tblB_ok ht hi; rw [pfA_eq l i hi] at this; exact this
  generalize l[i] = b at *
  obtain ⟨x, y, z⟩ := b
  unfold pfOk at hok
  simp only [Bool.and_eq_true, decide_eq_true_eq] at hok
  obtain ⟨⟨⟨o0, o1⟩, _⟩, _⟩ := hok
  unfold ne pfLt pfKeep pfR
  rw [Bool.eq_iff_iff, Bool.or_eq_true, Bool.or_eq_true, decide_eq_true_iff, decide_eq_true_iff, decide_eq_true_iff]
  cases h0 : addrB a0 <;> cases h1 : inB a1 0 32 <;> simp
  · refine Decidable.byContradiction fun hh => ?_
    obtain ⟨rfl, rfl⟩ : y = a1 ∧ x = a0 := by omega
    rw [o0] at h0; cases h0
  · refine Decidable.byContradiction fun hh => ?_
    obtain ⟨rfl, rfl⟩ : y = a1 ∧ x = a0 := by omega
    rw [o0] at h0; cases h0
  · refine Decidable.byContradiction fun hh => ?_
    obtain ⟨rfl, rfl⟩ : y = a1 ∧ x = a0 := by omega
    rw [o1] at h1; cases h1
  · omega
end Go.Proofs.Ytgcingjcneafpaa
