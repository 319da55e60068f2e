/-
  The contract of BytesOf of the program.
-/
import Derived.Test.YtkeakjgojakanaaWalks1
namespace Go.Proofs.Ytkeakjgojakanaa
open Go.RowKit
theorem set_zero (j K : Nat) (n : Int) (h : j < K) : (List.replicate (K - j) 0 ++ be j n).set (K - j - 1) (UInt8.ofNat (n / 256 ^ j % 256).toNat) = List.replicate (K - (j + 1)) 0 ++ be (j + 1) n := by
  obtain ⟨m, rfl⟩ : ∃ m, K = j + 1 + m := ⟨K - (j + 1), by omega⟩
  rw [be_cons, show j + 1 + m - j = m + 1 by omega, show j + 1 + m - (j + 1) = m by omega, List.replicate_succ', List.append_assoc]
  rw [List.set_append_right _ _ (by simp)]
  simp
end Go.Proofs.Ytkeakjgojakanaa
