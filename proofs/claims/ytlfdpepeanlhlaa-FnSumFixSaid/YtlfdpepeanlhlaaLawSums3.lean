/-
  The walk of the law on sums that are fixed.
-/
import Derived.Test.YtlfdpepeanlhlaaLawSums2
namespace Go.Proofs.Ytlfdpepeanlhlaa
open Go.RowKit Go.PlainAid
/-- whether bytes are all noughts -/
def zB (l : List UInt8) : Bool := l.all (fun c => c == 0)
theorem zB_snoc (l : List UInt8) (c : UInt8) : zB (l ++ [c]) = (zB l && (c == 0)) := by simp [zB]
theorem zB_take (l : List UInt8) (k : Nat) (h : k < l.length) : zB (l.take (k + 1)) = (zB (l.take k) && (bt (str l) k == 0)) := by
  rw [List.take_succ_eq_append_getElem h, zB_snoc, bt_eq _ _ (by rw [bl_str]; exact h)]
  congr 1
  have : (bl (str l))[k]'(by rw [bl_str]; exact h) = l[k] := rfl
  rw [this]
  rw [Bool.eq_iff_iff]; simp
  constructor
  · intro e; simp [e]
  · intro e; exact UInt8.toNat.inj (by simpa using e)
theorem psum_of_zB : ∀ l : List UInt8, zB l = true → psum l = 0
  | [], _ => rfl
  | [a], h => by simp [zB] at h; simp [psum, h]
  | a :: b :: l, h => by
    have : zB l = true := by simp [zB] at h ⊢; exact h.2.2
    simp [zB] at h
    simp [psum, h.1, h.2.1, psum_of_zB l this]
theorem zB_of_psum {l : List UInt8} (h : psum l = 0) : zB l = true := by
  simp only [zB, List.all_eq_true, beq_iff_eq]; exact psum_zero l h
theorem num2 (l : List UInt8) (h : l.length = 2) : num l = psum l := by
  match l, h with
  | [a, b], _ => simp [num, psum]
/-- the bytes behind the change -/
def changed (l : List UInt8) (k : Nat) (c : Int) : List UInt8 := l.take (2 * k) ++ be 2 c ++ l.drop (2 * k + 2)
theorem changed_psum (l : List UInt8) (k : Nat) (c : Int) (h : 2 * k + 2 ≤ l.length) (c0 : 0 ≤ c) (c1 : c ≤ 65535) :
    psum l = psum (l.take (2 * k)) + num ((l.drop (2 * k)).take 2) + psum (l.drop (2 * k + 2)) ∧ psum (changed l k c) = psum (l.take (2 * k)) + c + psum (l.drop (2 * k + 2)) := by
  have hA : (l.take (2 * k)).length % 2 = 0 := by simp; omega
  have hO : ((l.drop (2 * k)).take 2).length = 2 := by simp; omega
  constructor
  · have e : l = l.take (2 * k) ++ (((l.drop (2 * k)).take 2) ++ l.drop (2 * k + 2)) := by
      rw [show l.drop (2 * k + 2) = (l.drop (2 * k)).drop 2 by rw [List.drop_drop], List.take_append_drop, List.take_append_drop]
    rw [num2 _ hO]
    calc psum l = psum (l.take (2 * k) ++ (((l.drop (2 * k)).take 2) ++ l.drop (2 * k + 2))) := by rw [← e]
      _ = _ := by rw [psum_append _ _ hA, psum_append _ _ (by omega)]; omega
  · unfold changed
    rw [List.append_assoc, psum_append _ _ hA, psum_append _ _ (by rw [be_length]), psum_be2 c0 c1]; omega
theorem fixed (l : List UInt8) (k : Nat) (c : Int) (h : 2 * k + 2 ≤ l.length) (c0 : 0 ≤ c) (c1 : c ≤ 65535) :
    let n := sumFix (sumOf l) (num ((l.drop (2 * k)).take 2)) c
    (zB (changed l k c) = true → n = 0) ∧ (zB (changed l k c) = false → n = sumOf (changed l k c)) := by
  obtain ⟨e1, e2⟩ := changed_psum l k c h c0 c1
  have hA := psum_nonneg (l.take (2 * k))
  have hR := psum_nonneg (l.drop (2 * k + 2))
  have hO : ((l.drop (2 * k)).take 2).length = 2 := by simp; omega
  have ho := num_bounds ((l.drop (2 * k)).take 2)
  rw [hO] at ho
  have hX := psum_nonneg l
  have hs := sumOf_bd l
  have hT := psum_nonneg (changed l k c)
  generalize num ((l.drop (2 * k)).take 2) = o at *
  have ho1 : o ≤ 65535 := by have : (256 : Int) ^ 2 = 65536 := by decide
                             omega
  have en : sumFix (sumOf l) o c = 65535 - fold16 (fold16 (psum l) + (65535 - o) + c) := by
    rw [sumFix_ok (inB_true hs.1 hs.2) (inB_true ho.1 ho1) (inB_true c0 c1)]
    have : 65535 - sumOf l = fold16 (psum l) := by unfold sumOf; omega
    rw [this]
  intro n
  show (_ → sumFix (sumOf l) o c = 0) ∧ (_ → sumFix (sumOf l) o c = _)
  rw [en]
  constructor
  · intro hz
    have hz0 := psum_of_zB _ hz
    rw [fold16_fix0 ho.1 ho1 (by omega) c0 (by omega)]; omega
  · intro hz
    have hp : 0 < psum (changed l k c) := by
      rcases Int.lt_or_eq_of_le hT with h | h
      · exact h
      · rw [zB_of_psum h.symm] at hz; cases hz
    have := fold16_fix (x := psum l) ho.1 ho1 c0 c1 (by omega)
    rw [this]
    unfold sumOf
    rw [show psum l - o + c = psum (changed l k c) by omega]

theorem changed_str (l : List UInt8) (k : Nat) (c : Int) (c0 : 0 ≤ c) (c1 : c ≤ 65535) : (str l).extract 0 (2 * k) ++ str (bytesOf c 2) ++ (str l).extract (2 * k + 2) l.length = str (changed l k c) := by
  have t : (l.drop (2 * k + 2)).take (l.length - (2 * k + 2)) = l.drop (2 * k + 2) := List.take_of_length_le (by simp)
  rw [bytesOf_2 c0 c1, str_extract, str_extract, t, str_app, str_app, List.drop_zero, Nat.sub_zero]; rfl
end Go.Proofs.Ytlfdpepeanlhlaa
