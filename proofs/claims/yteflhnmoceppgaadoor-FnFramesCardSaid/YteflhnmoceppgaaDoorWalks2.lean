/-
  The contract of BytesOf of the program.
-/
import Derived.Test.YteflhnmoceppgaaDoorWalks1
namespace Go.Proofs.YteflhnmoceppgaaDoor
open Go.RowKit
theorem set_zero (j K : Nat) (n : Int) (h : j < K) : (List.replicate (K - j) 0 ++ be j n).set (K - j - 1) (UInt8.ofNat (n / 256 ^ j % 256).toNat) = List.replicate (K - (j + 1)) 0 ++ be (j + 1) n := by
  obtain ⟨m, rfl⟩ : ∃ m, K = j + 1 + m := ⟨K - (j + 1), by omega⟩
  rw [be_cons, show j + 1 + m - j = m + 1 by omega, show j + 1 + m - (j + 1) = m by omega, List.replicate_succ', List.append_assoc]
  rw [List.set_append_right _ _ (by simp)]
  simp
set_option maxRecDepth 100000 in
set_option maxHeartbeats 1000000 in
theorem i_BytesOf (n k : Int) (w : World) (hr : n ≤ 9223372036854775807) :
    Calls Tryd.prog 21 #[.int .i64 n, .int .i64 k] w fun e w' => e = .returned (.string (str (bytesOf n k))) ∧ Below w.heap.size w w' := by
  by_cases hk : 1 ≤ k ∧ k ≤ 7
  · obtain ⟨K, rfl⟩ := Int.eq_ofNat_of_zero_le (show 0 ≤ k by omega)
    obtain ⟨hk1, hk2⟩ := hk
    by_cases h0 : n < 0
    · have he : Hid (bytesOf n K = []) := not_okB (by omega)
      go_enter Tryd.func21, Tryd.ntmps21
      go_wp2
      go_ret
      exact ⟨by rw [he.out]; rfl, Below.refl _ _⟩
    · by_cases hn : n / 2 ^ (8 * K) = 0
      · have hp : (0 : Int) < 256 ^ K := Int.pow_pos (by decide)
        have hlt : n < 256 ^ K := by
          rw [pow_256] at hn
          have := Int.lt_ediv_add_one_mul_self n hp
          rw [hn] at this; omega
        have he : Hid (bytesOf n K = be K n) := okB_of hk1 hk2 (by omega) (by simpa using hlt)
        have hq : (n / 2 ^ (8 * K) != 0) = false := by simpa using hn
        clear hn hlt hp
        go_enter Tryd.func21, Tryd.ntmps21
        go_wp2_with (first | (at_make; refine wpList_make_bytes rfl _ _ rfl _ _ _ _ K rfl rfl rfl rfl (by omega) ?_; intro w1 hown hb) | go_in)
        go_loopw [0, 6] (fun m i wr => ∃ j : Nat, j ≤ K ∧ i = .int .i64 ((K : Int) - (j : Int) - 1) ∧ m = .int .i64 (n / 256 ^ j) ∧ ownB wr w.heap.size (.slice (some ⟨w.heap.size, 0, none⟩) K K) (List.replicate (K - j) 0 ++ be j n) ∧ Below w.heap.size w wr) (fun _ i _ => (intOf i + 1).toNat)
        case atStart => exact ⟨0, by omega, by go_num, by simp, by simpa [be] using hown, hb⟩
        case round =>
          obtain ⟨j, hj, rfl, rfl, hown, hb⟩ := hrel
          have hsz := hb.size
          by_cases hlt : j < K
          · have hll : (List.replicate (K - j) (0 : UInt8) ++ be j n).length = K := by simp [be_length]; omega
            obtain ⟨c0, hcell⟩ := hown.cell hll (K - j - 1) (by omega)
            have hfr := hown.frozen hll (K - j - 1)
            have hm0 : 0 ≤ n / 256 ^ j := Int.ediv_nonneg (by omega) (Int.le_of_lt (Int.pow_pos (by decide)))
            have hm1 : n / 256 ^ j ≤ n := Int.ediv_le_self _ (by omega)
            have ha := and_255 hm0 (by omega)
            have hst := hown.stored hll (K - j - 1) (n / 256 ^ j % 256) (by omega) (by omega)
            rw [set_zero j K n hlt] at hst
            have hst' : Hid (ownB (wr.setCell ⟨w.heap.size, K - j - 1, none⟩ (.int .u8 (n / 256 ^ j % 256))) w.heap.size (.slice (some ⟨w.heap.size, 0, none⟩) K K) (List.replicate (K - (j + 1)) 0 ++ be (j + 1) n)) := hst
            clear hst hown hll
            go_wp2
            go_roundw
            case rel => exact ⟨j + 1, by omega, by go_num, by rw [div_pow_256], hst'.out, hb.setCell (Nat.le_refl _) _⟩
            case measure => simp [intOf]; omega
          · have hjK : j = K := by omega
            subst hjK
            have hstr := run_string_own hown
            go_wp2
            go_ret
            exact ⟨by rw [he.out]; simp, hb⟩
      · have he : Hid (bytesOf n K = []) := not_okB (by
          intro h; apply hn
          rw [Int.toNat_natCast] at h; rw [pow_256]; exact Int.ediv_eq_zero_of_lt (by omega) h.2.2.2)
        have hq : (n / 2 ^ (8 * K) != 0) = true := by simpa using hn
        clear hn
        go_enter Tryd.func21, Tryd.ntmps21
        go_wp2
        go_ret
        exact ⟨by rw [he.out]; rfl, Below.refl _ _⟩
  · have he : Hid (bytesOf n k = []) := not_okB (by omega)
    have hk' : k < 1 ∨ 7 < k := by omega
    clear hk
    rcases hk' with hk | hk
    all_goals
      go_enter Tryd.func21, Tryd.ntmps21
      go_wp2
      go_ret
      exact ⟨by rw [he.out]; rfl, Below.refl _ _⟩
end Go.Proofs.YteflhnmoceppgaaDoor
