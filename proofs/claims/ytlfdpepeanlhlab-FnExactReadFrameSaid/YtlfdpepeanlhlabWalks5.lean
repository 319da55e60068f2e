/-
  Contracts of HexOf and ReadHex, of the program and of the model.
-/
import Derived.Test.YtlfdpepeanlhlabWalks4
namespace Go.Proofs.Ytlfdpepeanlhlab
open Go.RowKit Go.PlainAid

/-- the digits -/
abbrev digs : ByteArray := ⟨#[48, 49, 50, 51, 52, 53, 54, 55, 56, 57, 97, 98, 99, 100, 101, 102]⟩
theorem bt_digs (n : Nat) (h : n < 16) : bt digs n = ((hexd n).toNat : Int) := by
  have : n = 0 ∨ n = 1 ∨ n = 2 ∨ n = 3 ∨ n = 4 ∨ n = 5 ∨ n = 6 ∨ n = 7 ∨ n = 8 ∨ n = 9 ∨ n = 10 ∨ n = 11 ∨ n = 12 ∨ n = 13 ∨ n = 14 ∨ n = 15 := by omega
  rcases this with rfl | rfl | rfl | rfl | rfl | rfl | rfl | rfl | rfl | rfl | rfl | rfl | rfl | rfl | rfl | rfl <;> rfl
theorem hexOf_take (s : ByteArray) (k : Nat) (h : k < s.size) : hexOf ((bl s).take k) ++ [UInt8.ofNat (bt digs (bt s k / 16).toNat).toNat, UInt8.ofNat (bt digs (bt s k % 16).toNat).toNat] = hexOf ((bl s).take (k + 1)) := by
  have hl := bl_length s
  have e := bt_eq s k (by omega)
  have hc := (bl s)[k].toNat_lt
  rw [List.take_succ_eq_append_getElem (by omega), hexOf_append, e]
  have h1 : (((bl s)[k].toNat : Int) / 16).toNat = (bl s)[k].toNat / 16 := by omega
  have h2 : (((bl s)[k].toNat : Int) % 16).toNat = (bl s)[k].toNat % 16 := by omega
  rw [h1, h2, bt_digs _ (by omega), bt_digs _ (by omega)]
  simp [hexOf]

set_option maxRecDepth 100000 in
set_option maxHeartbeats 400000 in
theorem s_HexOf (s : ByteArray) (w : World) (hs : s.size ≤ 1099511627776) :
    Calls Try.prog 69 #[.string s] w fun e w' => e = .returned (.string (str (hexOf (bl s)))) ∧ Below w.heap.size w w' := by
  go_enter Try.func69, Try.ntmps69
  go_wp2
  go_loopw [3, 4] (fun v i wr => ∃ k : Nat, k ≤ s.size ∧ i = .int .i64 (k : Int) ∧ ownB wr w.heap.size v (hexOf ((bl s).take k)) ∧ Below w.heap.size w wr) (fun _ i _ => ((s.size : Int) - intOf i).toNat)
  case atStart => exact ⟨0, by omega, rfl, ownB.empty w _ (Nat.le_refl _), (Below.refl _ _).alloc (Nat.le_refl _) _⟩
  case round =>
    obtain ⟨k, hk, rfl, hown, hb⟩ := hrel
    have hsz := hb.size
    by_cases hlt : k < s.size
    · have HS : Hid (hexOf ((bl s).take k) ++ [UInt8.ofNat (bt digs (bt s k / 16).toNat).toNat, UInt8.ofNat (bt digs (bt s k % 16).toNat).toNat] = hexOf ((bl s).take (k + 1))) := hexOf_take s k hlt
      have hbt := get_bt s
      have hc0 := bt_nonneg s k
      have hc1 := bt_le s k
      have hlen : (hexOf ((bl s).take k)).length ≤ 70368744177664 := by rw [hexOf_length, List.length_take, bl_length]; omega
      have hand := u8_and15 _ hc0 (by omega)
      have hdt := get_bt digs
      have i1 : 0 ≤ bt s k / 16 := by omega
      have i2 : bt s k / 16 < 16 := by omega
      have i3 : 0 ≤ bt s k % 16 := by omega
      have i4 : bt s k % 16 < 16 := by omega
      go_wp2
      go_region_law (refine step_append_2 rfl _ _ rfl w.heap.size _ _ rfl hown _ _ rfl (bt_nonneg _ _) (bt_le _ _) (bt_nonneg _ _) (bt_le _ _) hlen hsz ?_; intro v' w1 hown1 hb1)
      all_goals
        rw [HS.out] at hown1
        clear hdt hand hbt hown
        go_wp2
        go_roundw
        case rel => exact ⟨k + 1, by omega, by go_num, hown1, hb.trans hb1⟩
        case measure => simp [intOf]; omega
    · have hT : (bl s).take k = bl s := List.take_of_length_le (by rw [bl_length]; omega)
      rw [hT] at hown
      have hstr := run_string_own hown
      go_wp2
      go_ret
      exact ⟨rfl, hb⟩

set_option maxRecDepth 100000 in
set_option maxHeartbeats 400000 in
theorem i_HexOf (s : ByteArray) (w : World) (hs : s.size ≤ 1099511627776) :
    Calls Try.prog 65 #[.string s] w fun e w' => e = .returned (.string (str (hexOf (bl s)))) ∧ Below w.heap.size w w' := by
  go_enter Try.func65, Try.ntmps65
  go_wp2_with (at_make; refine wpList_make_room rfl _ _ rfl _ _ _ (2 * s.size) rfl rfl (by omega) (by omega) ?_; intro w1 hown hb)
  go_loopw [3, 4] (fun v i wr => ∃ k : Nat, k ≤ s.size ∧ i = .int .i64 (k : Int) ∧ ownB wr w.heap.size v (hexOf ((bl s).take k)) ∧ Below w.heap.size w wr) (fun _ i _ => ((s.size : Int) - intOf i).toNat)
  case atStart => exact ⟨0, by omega, rfl, hown, hb⟩
  case round =>
    clear hown hb
    obtain ⟨k, hk, rfl, hown, hb⟩ := hrel
    have hsz := hb.size
    by_cases hlt : k < s.size
    · have HS : Hid (hexOf ((bl s).take k) ++ [UInt8.ofNat (bt digs (bt s k / 16).toNat).toNat, UInt8.ofNat (bt digs (bt s k % 16).toNat).toNat] = hexOf ((bl s).take (k + 1))) := hexOf_take s k hlt
      have hbt := get_bt s
      have hc0 := bt_nonneg s k
      have hc1 := bt_le s k
      have hlen : (hexOf ((bl s).take k)).length ≤ 70368744177664 := by rw [hexOf_length, List.length_take, bl_length]; omega
      have hand := u8_and15 _ hc0 (by omega)
      have hdt := get_bt digs
      have i1 : 0 ≤ bt s k / 16 := by omega
      have i2 : bt s k / 16 < 16 := by omega
      have i3 : 0 ≤ bt s k % 16 := by omega
      have i4 : bt s k % 16 < 16 := by omega
      go_wp2
      go_region_law (refine step_append_2 rfl _ _ rfl w.heap.size _ _ rfl hown _ _ rfl (bt_nonneg _ _) (bt_le _ _) (bt_nonneg _ _) (bt_le _ _) hlen hsz ?_; intro v' w1 hown1 hb1)
      all_goals
        rw [HS.out] at hown1
        clear hdt hand hbt hown
        go_wp2
        go_roundw
        case rel => exact ⟨k + 1, by omega, by go_num, hown1, hb.trans hb1⟩
        case measure => simp [intOf]; omega
    · have hT : (bl s).take k = bl s := List.take_of_length_le (by rw [bl_length]; omega)
      rw [hT] at hown
      have hstr := run_string_own hown
      go_wp2
      go_ret
      exact ⟨rfl, hb⟩
end Go.Proofs.Ytlfdpepeanlhlab
