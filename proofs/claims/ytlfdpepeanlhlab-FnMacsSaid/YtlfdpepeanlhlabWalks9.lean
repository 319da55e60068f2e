/-
  The walks of ReadMac, of the program and of the model.
-/
import Derived.Test.YtlfdpepeanlhlabWalks8
namespace Go.Proofs.Ytlfdpepeanlhlab
open Go.RowKit Go.PlainAid
theorem digs3_take (s : ByteArray) (k : Nat) (h : k < s.size) : digs3 ((bl s).take (k + 1)) = digs3 ((bl s).take k) ++ (if k % 3 = 2 then [] else [(bl s)[k]'(by rw [bl_length]; exact h)]) := by
  have hl := bl_length s
  have e : ((bl s).take k).length = k := by rw [List.length_take]; omega
  rw [List.take_succ_eq_append_getElem (by omega), digs3_snoc, e]
theorem hexnum_take2 (s : ByteArray) (k : Nat) (h : k < s.size) (h3 : k % 3 = 2) : hexnum (digs3 ((bl s).take (k + 1))) = hexnum (digs3 ((bl s).take k)) := by
  rw [digs3_take s k h, if_pos h3, List.append_nil]
theorem hexnum_take01 (s : ByteArray) (k : Nat) (h : k < s.size) (h3 : k % 3 ≠ 2) : hexnum (digs3 ((bl s).take (k + 1))) = hexnum (digs3 ((bl s).take k)) * 16 + dv (bt s k) := by
  rw [digs3_take s k h, if_neg h3, hexnum_snoc, bt_eq s k (by rw [bl_length]; exact h)]
theorem digs3_len : ∀ l : List UInt8, (digs3 l).length = l.length - l.length / 3
  | [] => rfl
  | [a] => by simp [digs3]
  | [a, b] => by simp [digs3]
  | a :: b :: d :: l => by simp only [digs3, List.length_cons, digs3_len l]; omega
theorem max_sdig (c : Int) : (if sdig c < 0 then 0 else sdig c) = dv c := by
  have h := dv_bd c
  cases hd : isD c
  · rw [sdig_no hd]
    have : dv c = 0 := by unfold isD at hd; unfold dv; simp at hd; (repeat' split) <;> omega
    rw [if_pos (by omega)]; omega
  · rw [sdig_yes hd, if_neg (by omega)]

set_option maxRecDepth 100000 in
set_option maxHeartbeats 800000 in
theorem s_ReadMac (s : ByteArray) (w : World) (hs : s.size ≤ 1099511627776) :
    Calls Try.prog 33 #[.string s] w fun e w' => e = .returned (.tuple #[.int .i64 (readMac s), .bool (okM s)]) ∧ Below w.heap.size w w' := by
  by_cases h17 : s.size = 17
  · have hne : ((s.size : Int) != 17) = false := by simp; omega
    have h17' : Hid (s.size = 17) := h17
    have hlt17 : s.size ≤ 17 := by omega
    have hge17 : 17 ≤ s.size := by omega
    clear h17
    go_enter Try.func33, Try.ntmps33
    go_wp2
    go_loop [4, 5] (fun v i => ∃ k : Nat, k ≤ 17 ∧ i = .int .i64 (k : Int) ∧ v = .int .i64 (hexnum (digs3 ((bl s).take k)))) (fun _ i => (17 - intOf i).toNat)
    case atStart => exact ⟨0, by omega, rfl, rfl⟩
    case round =>
      obtain ⟨k, hk, rfl, rfl⟩ := hrel
      have hb := hexnum_lt (digs3 ((bl s).take k)) (by rw [digs3_len, List.length_take, bl_length]; omega)
      by_cases hlt : k < 17
      · by_cases h3 : k % 3 = 2
        · have HS : Hid (hexnum (digs3 ((bl s).take (k + 1))) = hexnum (digs3 ((bl s).take k))) := hexnum_take2 s k (by omega) h3
          have hm : ((k : Int) % 3 != 2) = false := by simp; omega
          clear h3
          go_wp2
          go_round
          case rel => exact ⟨k + 1, by omega, by go_num, by rw [HS.out]⟩
          case measure => simp [intOf]; omega
        · have HS : Hid (hexnum (digs3 ((bl s).take (k + 1))) = hexnum (digs3 ((bl s).take k)) * 16 + dv (bt s k)) := hexnum_take01 s k (by omega) h3
          have hm : ((k : Int) % 3 != 2) = true := by simp; omega
          clear h3
          obtain ⟨X, hX⟩ : ∃ X, X = hexnum (digs3 ((bl s).take k)) := ⟨_, rfl⟩
          rw [← hX] at hb HS ⊢
          clear hX
          obtain ⟨hb0, hb1⟩ := hb
          have hbt := get_bt s
          have hc0 := bt_nonneg s k
          have hc1 := bt_le s k
          have hmax := max_sdig (bt s k)
          obtain ⟨hv0, hv1⟩ := dv_bd (bt s k)
          have hor := or_4i hb0 (by omega) hv0 hv1
          have hks : k < s.size := by omega
          go_wp2_with (go_at_call 68; refine (s_Digit _ _ hc0 hc1).mono ?_; rintro e w' ⟨rfl, rfl⟩)
          go_round
          case rel => exact ⟨k + 1, by omega, by go_num, by rw [HS.out]⟩
          case measure => simp [intOf]; omega
      · have hk17 : k = 17 := by omega
        subst hk17
        have hT : (bl s).take 17 = bl s := List.take_of_length_le (by rw [bl_length]; omega)
        rw [hT]
        have ht := mac_text s h17'.out
        go_wp2_with fail
        refine (s_MacText _ _).mono ?_
        rintro e w1 ⟨rfl, hb1⟩
        cases hok : okM s
        · have He : Hid (okM s = false ∧ readMac s = 0) := ⟨hok, by unfold readMac; rw [hok]; rfl⟩
          have hn : ¬ str (macText (hexnum (digs3 (bl s)))) = s := fun h => by rw [ht.1.1 h] at hok; cases hok
          generalize str (macText (hexnum (digs3 (bl s)))) = T at *
          have hq := str_ne hn
          clear ht hn
          go_wp2
          go_ret2
          exact ⟨ret_pair He.out.2.symm He.out.1.symm, hb1⟩
        · have HN : Hid (hexnum (digs3 (bl s)) = readMac s) := ht.2 hok
          rw [ht.1.2 hok]
          clear ht
          go_wp2
          go_ret2
          exact ⟨ret_pair HN.out hok.symm, hb1⟩
  · have He : Hid (okM s = false ∧ readMac s = 0) := okM_no_len h17
    have hne : ((s.size : Int) != 17) = true := by simp; omega
    clear h17
    go_enter Try.func33, Try.ntmps33
    go_wp2
    go_ret2
    exact ⟨ret_pair He.out.2.symm He.out.1.symm, Below.refl _ _⟩

theorem digs3_step (s : ByteArray) (hs : s.size = 17) (j : Nat) (hj : j < 5) : str (digs3 ((bl s).take (2 + 3 * j))) ++ s.extract (2 + 3 * j + 1) (2 + 3 * j + 3) = str (digs3 ((bl s).take (2 + 3 * (j + 1)))) := by
  have hl := bl_length s
  have e : s.extract (2 + 3 * j + 1) (2 + 3 * j + 3) = (str (bl s)).extract (2 + 3 * j + 1) (2 + 3 * j + 3) := by rw [str_bl]
  rw [e, str_extract, str_app]
  apply congrArg str
  generalize bl s = l at *
  have h17 : l.length = 17 := by omega
  clear e hl
  match l, h17 with
  | [c0, c1, c2, c3, c4, c5, c6, c7, c8, c9, c10, c11, c12, c13, c14, c15, c16], _ =>
    have : j = 0 ∨ j = 1 ∨ j = 2 ∨ j = 3 ∨ j = 4 := by omega
    rcases this with rfl | rfl | rfl | rfl | rfl <;> rfl

set_option maxRecDepth 100000 in
set_option maxHeartbeats 800000 in
theorem i_ReadMac (s : ByteArray) (w : World) (hs : s.size ≤ 1099511627776) :
    Calls Try.prog 32 #[.string s] w fun e w' => e = .returned (.tuple #[.int .i64 (readMac s), .bool (okM s)]) ∧ Below w.heap.size w w' := by
  by_cases h17 : s.size = 17
  · have hne : ((s.size : Int) != 17) = false := by simp; omega
    have h17' : Hid (s.size = 17) := h17
    have hlt17 : s.size ≤ 17 := by omega
    have hge17 : 17 ≤ s.size := by omega
    have hex : s.extract 0 2 = str (digs3 ((bl s).take 2)) := by
      have e : s.extract 0 2 = (str (bl s)).extract 0 2 := by rw [str_bl]
      have hl := bl_length s
      rw [e, str_extract]
      apply congrArg str
      generalize bl s = l at *
      match l, (show l.length = 17 by omega) with
      | [c0, c1, c2, c3, c4, c5, c6, c7, c8, c9, c10, c11, c12, c13, c14, c15, c16], _ => rfl
    clear h17
    go_enter Try.func32, Try.ntmps32
    go_wp2
    go_loop [4, 5] (fun v i => ∃ j : Nat, j ≤ 5 ∧ i = .int .i64 (2 + 3 * (j : Int)) ∧ v = .string (str (digs3 ((bl s).take (2 + 3 * j)))) ∧ Hid (cols s j)) (fun _ i => (17 - intOf i).toNat)
    case atStart => exact ⟨0, by omega, rfl, rfl, fun m hm => absurd hm (by omega)⟩
    case round =>
      obtain ⟨j, hj, rfl, rfl, hcol⟩ := hrel
      clear hex
      by_cases hlt : j < 5
      · have hbt := get_bt s
        by_cases hc : bt s (2 + 3 * j) = 58
        · have hq : (bt s (2 + 3 * j) != 58) = false := by simp [hc]
          have HC : Hid (cols s (j + 1)) := fun m hm => by
            rcases Nat.lt_or_eq_of_le (Nat.le_of_lt_succ hm) with h | h
            · exact hcol.out m h
            · rw [h]; exact hc
          have HS : Hid (str (digs3 ((bl s).take (2 + 3 * j))) ++ s.extract (2 + 3 * j + 1) (2 + 3 * j + 3) = str (digs3 ((bl s).take (2 + 3 * (j + 1))))) := digs3_step s h17'.out j hlt
          have hdl : (digs3 ((bl s).take (2 + 3 * j))).length ≤ 17 := by rw [digs3_len, List.length_take, bl_length]; omega
          clear hc
          go_wp2
          go_round
          case rel => exact ⟨j + 1, by omega, by go_num, by rw [← HS.out], HC⟩
          case measure => simp [intOf]; omega
        · have hq : (bt s (2 + 3 * j) != 58) = true := by simp [hc]
          have He : Hid (okM s = false ∧ readMac s = 0) := okM_no_col j hlt hc
          clear hc
          go_wp2
          go_ret2
          exact ⟨ret_pair He.out.2.symm He.out.1.symm, Below.refl _ _⟩
      · have hj5 : j = 5 := by omega
        subst hj5
        have hT : (bl s).take (2 + 3 * 5) = bl s := List.take_of_length_le (by rw [bl_length]; omega)
        rw [hT]
        have hdl : (digs3 (bl s)).length = 12 := by rw [digs3_len, bl_length, h17'.out]
        have C1 : Hid (∀ u : World, Calls Try.prog 66 #[.string (str (digs3 (bl s)))] u fun e w' => e = .returned (.tuple #[.string (str (readHex (digs3 (bl s)))), .bool (hexy (digs3 (bl s)))]) ∧ Below u.heap.size u w') :=
          fun u => i_ReadHex (str (digs3 (bl s))) u (by rw [str_size]; omega)
        cases hx : hexy (digs3 (bl s))
        · have He : Hid (okM s = false ∧ readMac s = 0) := okM_no_hex hx
          clear hT hdl
          go_wp2_with fail
          refine (C1.out _).mono ?_
          rintro e w1 ⟨rfl, hb1⟩
          rw [hx]
          go_wp2
          go_ret2
          exact ⟨ret_pair He.out.2.symm He.out.1.symm, hb1⟩
        · have He : Hid (okM s = true ∧ readMac s = num (unhex (digs3 (bl s)))) := okM_yes h17'.out hcol.out hx
          have hr : readHex (digs3 (bl s)) = unhex (digs3 (bl s)) := by unfold readHex; rw [hx]; rfl
          have hul : (unhex (digs3 (bl s))).length = 6 := by rw [unhex_length, hdl]
          have C2 : Hid (∀ u : World, Calls Try.prog 67 #[.string (str (unhex (digs3 (bl s)))), .int .i64 0, .int .i64 6] u fun e w' => e = .returned (.tuple #[.int .i64 (num (unhex (digs3 (bl s)))), .bool true]) ∧ w' = u) := by
            intro u
            have h := i_NumAt (str (unhex (digs3 (bl s)))) 0 6 u (by rw [str_size, hul]; decide)
            have o := okN_true (s := str (unhex (digs3 (bl s)))) (at_ := 0) (k := 6) ⟨by omega, by omega, by omega, by rw [str_size, hul]; decide⟩
            have e2 : ((bl (str (unhex (digs3 (bl s))))).drop (0 : Int).toNat).take (6 : Int).toNat = unhex (digs3 (bl s)) := by
              show (List.drop 0 _).take 6 = _
              rw [List.drop_zero, List.take_of_length_le (by rw [bl_str, hul]; omega)]
            rw [o.1, o.2, e2] at h
            exact h
          clear hT
          go_wp2_with fail
          refine (C1.out _).mono ?_
          rintro e w1 ⟨rfl, hb1⟩
          rw [hx, hr]
          clear hr hul hdl
          generalize unhex (digs3 (bl s)) = U at *
          go_wp2_with fail
          refine (C2.out _).mono ?_
          rintro e w2 ⟨rfl, rfl⟩
          go_wp2
          go_ret2
          exact ⟨ret_pair He.out.2.symm He.out.1.symm, hb1⟩
  · have He : Hid (okM s = false ∧ readMac s = 0) := okM_no_len h17
    have hne : ((s.size : Int) != 17) = true := by simp; omega
    clear h17
    go_enter Try.func32, Try.ntmps32
    go_wp2
    go_ret2
    exact ⟨ret_pair He.out.2.symm He.out.1.symm, Below.refl _ _⟩
end Go.Proofs.Ytlfdpepeanlhlab
