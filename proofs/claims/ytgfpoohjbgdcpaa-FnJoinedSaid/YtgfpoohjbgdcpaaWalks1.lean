/-
  Contracts of the small functions of chapter 1: each Go function answers just what its plain function says.
-/
import Derived.Test.YtgfpoohjbgdcpaaLaws
namespace Go.Proofs.Ytgfpoohjbgdcpaa
open Go.RowKit

set_option maxRecDepth 100000 in
set_option maxHeartbeats 400000 in
theorem be_any (n k : Int) (w : World) (hk : 0 ≤ k) (hk1 : k ≤ 8) :
    Calls Try.prog 82 #[.int .i64 n, .int .i64 k] w fun e w' => e = .returned (.string (str (be k.toNat n))) ∧ Below w.heap.size w w' := by
  obtain ⟨K, rfl⟩ := Int.eq_ofNat_of_zero_le hk
  rw [Int.toNat_natCast]
  go_enter Try.func82, Try.ntmps82
  go_wp2
  go_loopw [5, 6] (fun v i wr => ∃ j : Nat, j ≤ K ∧ i = .int .i64 ((K : Int) - (j : Int) - 1) ∧ ownB wr w.heap.size v (be j (n / 256 ^ (K - j))) ∧ Below w.heap.size w wr) (fun _ i _ => (intOf i + 1).toNat)
  case atStart => 
    refine ⟨0, by omega, by go_num, ?_, ?_⟩
    · exact ownB.empty w _ (Nat.le_refl _)
    · exact (Below.refl _ _).alloc (Nat.le_refl _) _
  case round =>
    obtain ⟨j, hj, rfl, hown, hb⟩ := hrel
    have hsz := hb.size
    by_cases hlt : j < K
    · have HS : Hid (be j (n / 256 ^ (K - j)) ++ [UInt8.ofNat (n / 2 ^ (8 * (K - j - 1)) % 256).toNat] = be (j + 1) (n / 256 ^ (K - (j + 1)))) := be_step n K j hlt
      have hlen : (be j (n / 256 ^ (K - j))).length ≤ 70368744177664 := by rw [be_length]; omega
      go_wp2_with (at_builtin; refine wpList_append_byte rfl _ _ rfl w.heap.size _ _ rfl hown _ rfl (by omega) (by omega) hlen hsz ?_; intro v' w1 hown1 hb1)
      rw [HS.out] at hown1
      go_roundw
      case rel => exact ⟨j + 1, by omega, by go_num, hown1, hb.trans hb1⟩
      case measure => simp [intOf]; omega
    · have hjK : j = K := by omega
      subst hjK
      have hstr := run_string_own hown
      go_wp2
      go_ret
      exact ⟨by simp, hb⟩

/-- n in k bytes, if that may be -/
def okB (n k : Int) : Bool := decide (1 ≤ k ∧ k ≤ 7 ∧ 0 ≤ n ∧ n < 256 ^ k.toNat)
def bytesOf (n k : Int) : List UInt8 := if okB n k then be k.toNat n else []
theorem okB_of {n k : Int} (h0 : 1 ≤ k) (h1 : k ≤ 7) (h2 : 0 ≤ n) (h3 : n < 256 ^ k.toNat) : bytesOf n k = be k.toNat n := by
  unfold bytesOf okB; rw [if_pos]; simp; omega
theorem not_okB {n k : Int} (h : ¬ (1 ≤ k ∧ k ≤ 7 ∧ 0 ≤ n ∧ n < 256 ^ k.toNat)) : bytesOf n k = [] := by
  unfold bytesOf okB; rw [if_neg]; simpa using h

/-- whether n lies in lo .. hi -/
def inB (n lo hi : Int) : Bool := decide (lo ≤ n ∧ n ≤ hi)
theorem inB_true {n lo hi : Int} (h1 : lo ≤ n) (h2 : n ≤ hi) : inB n lo hi = true := by unfold inB; simp; omega
theorem inB_false {n lo hi : Int} (h : n < lo ∨ hi < n) : inB n lo hi = false := by unfold inB; simp; omega
theorem s_In (n lo hi : Int) (w : World) : Calls Try.prog 28 #[.int .i64 n, .int .i64 lo, .int .i64 hi] w fun e w' => e = .returned (.bool (inB n lo hi)) ∧ w' = w := by
  by_cases h1 : lo ≤ n
  · by_cases h2 : n ≤ hi
    all_goals
      go_enter Try.func28, Try.ntmps28
      go_wp2
      go_ret
      exact ⟨by simp [h1, h2, inB], rfl⟩
  · go_enter Try.func28, Try.ntmps28
    go_wp2
    go_ret
    exact ⟨by simp [inB]; omega, rfl⟩

end Go.Proofs.Ytgfpoohjbgdcpaa
