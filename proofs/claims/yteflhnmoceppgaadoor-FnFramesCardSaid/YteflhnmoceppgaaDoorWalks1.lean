/-
  Contracts of the small functions of chapter 1: each Go function answers just what its plain function says.
-/
import Derived.Test.YteflhnmoceppgaaDoorLaws
namespace Go.Proofs.YteflhnmoceppgaaDoor
open Go.RowKit

/-- n in k bytes, if that may be -/
def okB (n k : Int) : Bool := decide (1 ≤ k ∧ k ≤ 7 ∧ 0 ≤ n ∧ n < 256 ^ k.toNat)
def bytesOf (n k : Int) : List UInt8 := if okB n k then be k.toNat n else []
theorem okB_of {n k : Int} (h0 : 1 ≤ k) (h1 : k ≤ 7) (h2 : 0 ≤ n) (h3 : n < 256 ^ k.toNat) : bytesOf n k = be k.toNat n := by
  unfold bytesOf okB; rw [if_pos]; simp; omega
theorem not_okB {n k : Int} (h : ¬ (1 ≤ k ∧ k ≤ 7 ∧ 0 ≤ n ∧ n < 256 ^ k.toNat)) : bytesOf n k = [] := by
  unfold bytesOf okB; rw [if_neg]; simpa using h

/-- whether n lies in lo .. hi -/
def inB (n lo hi : Int) : Bool := decide (lo ≤ n ∧ n ≤ hi)
theorem inB_true {n lo hi : Int} (h1 : lo ≤ n) (h2 : n ≤ hi) : inB n lo hi = true := by unfold inB; simp; omega
theorem inB_false {n lo hi : Int} (h : n < lo ∨ hi < n) : inB n lo hi = false := by unfold inB; simp; omega
end Go.Proofs.YteflhnmoceppgaaDoor
