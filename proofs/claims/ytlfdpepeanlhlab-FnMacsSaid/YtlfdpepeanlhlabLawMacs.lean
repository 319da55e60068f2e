/-
  The walk of the law on addresses: an address comes back from its text; what is read, written again, is that text.
-/
import Derived.Test.YtlfdpepeanlhlabLawBase
import Derived.Test.YtlfdpepeanlhlabWalks9
namespace Go.Proofs.Ytlfdpepeanlhlab
open Go.RowKit Go.PlainAid
set_option maxRecDepth 100000 in
set_option maxHeartbeats 400000 in
theorem d_MacText (B : Nat) (C : Option Addr) (len cap : Nat) (w : World) (h : Code w B C len) :
    Calls Try.prog 29 #[.slice C len cap] w fun e w' => ∃ x : Int, e = .returned (.int .i64 x) ∧ I64 x ∧ Below w.heap.size w w' := by
  go_enter Try.func29, Try.ntmps29
  go_wp2_with fail
  refine (r_Open B C len cap _ h).mono ?_
  rintro e w1 ⟨rfl, hR1, hb1, hs1⟩
  go_wp2_with fail
  refine (r_once _ C len cap _ _ (by omega) (by omega) hR1).mono ?_
  rintro e w2 ⟨t, rfl, hR2, hO2⟩
  cases t
  · go_wp2_with fail
    refine (r_word _ C len cap _ hR2).mono ?_
    rintro e w3 ⟨x, rfl, hx0, hx1, hR3, hO3⟩
    go_wp2
    go_ret
    exact ⟨_, rfl, ⟨by omega, by omega⟩, hb1.trans ((hO2.trans hO3).below (Nat.le_refl _) hb1.size)⟩
  · go_wp2_with fail
    refine (r_off _ C len cap _ _ _ (by omega) (by omega) (by omega) (by omega) hR2).mono ?_
    rintro e w3 ⟨x, rfl, hx0, hx1, hR3, hO3⟩
    go_wp2
    go_ret
    exact ⟨x, rfl, ⟨hx0, hx1⟩, hb1.trans ((hO2.trans hO3).below (Nat.le_refl _) hb1.size)⟩

theorem macText_len (n : Int) : (macText n).length ≤ 17 := by
  cases h : macB n
  · rw [macText_no h]; simp
  · rw [macText_yes h, macP_length _ (by rw [hexOf_length, be_length]) 5 (by omega)]; omega

set_option maxRecDepth 100000 in
set_option maxHeartbeats 400000 in
theorem d_ReadMac (B : Nat) (C : Option Addr) (len cap : Nat) (w : World) (h : Code w B C len) :
    Calls Try.prog 31 #[.slice C len cap] w fun e w' => ∃ t : ByteArray, e = .returned (.string t) ∧ t.size ≤ 18 ∧ Below w.heap.size w w' := by
  go_enter Try.func31, Try.ntmps31
  go_wp2_with fail
  refine (r_Open B C len cap _ h).mono ?_
  rintro e w1 ⟨rfl, hR1, hb1, hs1⟩
  go_wp2_with fail
  refine (r_word _ C len cap _ hR1).mono ?_
  rintro e w2 ⟨x, rfl, hx0, hx1, hR2, hO2⟩
  go_wp2_with fail
  refine (s_MacText _ _).mono ?_
  rintro e w3 ⟨rfl, hb3⟩
  have hR3 := hR2.far hb3
  have hO3 := hO2.far hb3
  have hsz : (str (macText (x / 65536))).size ≤ 17 := by rw [str_size]; exact macText_len _
  generalize str (macText (x / 65536)) = s at *
  go_wp2_with fail
  refine (r_once _ C len cap _ _ (by omega) (by omega) hR3).mono ?_
  rintro e w4 ⟨t, rfl, hR4, hO4⟩
  cases t
  · go_wp2
    go_ret
    exact ⟨s, rfl, by omega, hb1.trans ((hO3.trans hO4).below (Nat.le_refl _) hb1.size)⟩
  · go_wp2_with fail
    refine (r_hurt _ C len cap _ _ (by omega) hR4).mono ?_
    rintro e w5 ⟨t, rfl, ht, hR5, hO5⟩
    go_wp2
    go_ret
    exact ⟨t, rfl, by omega, hb1.trans ((hO3.trans (hO4.trans hO5)).below (Nat.le_refl _) hb1.size)⟩

theorem mac_back {s : ByteArray} (h : okM s = true) : str (macText (readMac s)) = s := by
  have hs := (okM_iff h).1
  have ht := mac_text s hs
  rw [← ht.2 h]; exact ht.1.2 h
theorem mac_read {n : Int} (h : macB n = true) : okM (str (macText n)) = true ∧ readMac (str (macText n)) = n := by
  have hb := of_inB h
  have ht := list_of_text (hexOf (be 6 n)) (by rw [hexOf_length, be_length])
  have hx := hexy_hexOf (be 6 n)
  have o := okM_yes (s := str (macP (hexOf (be 6 n)) 5)) (by rw [str_size]; exact ht.1) ht.2.1 (by rw [bl_str, ht.2.2]; exact hx)
  rw [macText_yes h]
  refine ⟨o.1, ?_⟩
  rw [o.2, bl_str, ht.2.2, unhex_hexOf, num_be 6 n hb.1 (by simp; omega)]
theorem mac_read_no {n : Int} (h : macB n = false) : okM (str (macText n)) = false ∧ readMac (str (macText n)) = 0 := by
  rw [macText_no h]; exact okM_no_len (by decide)

set_option maxRecDepth 100000 in
set_option maxHeartbeats 1600000 in
theorem walk_FnMacs (a : Option Addr) (len cap : Nat) (zs : List Int) (w : World) (w0 : IsRow .u8 w a len cap zs) :
    Calls Try.prog 5 #[.slice a len cap] w fun e w' => e = .returned (.bool true) ∧ Below w.heap.size w w' := by
  have hl := row_len w0
  by_cases hz : 1048576 < len
  · go_enter Try.func5, Try.ntmps5
    go_wp2
    go_ret
    exact ⟨rfl, Below.refl _ _⟩
  · have hC := code_of_row w0 (by omega)
    clear w0
    go_enter Try.func5, Try.ntmps5
    go_wp2_with fail
    refine (big_no _ _ _ _ (by omega)).mono ?_
    rintro e w' ⟨rfl, rfl⟩
    go_wp2_with fail
    refine (d_MacText _ a len cap _ hC).mono ?_
    rintro e w1 ⟨n, rfl, hn, hb⟩
    go_wp2_with fail
    refine (i_MacText _ _).mono ?_
    rintro e w2 ⟨rfl, hb2⟩
    replace hb := hb.trans (hb2.mono hb.size)
    clear hb2
    have hC2 := hC.below hb
    go_wp2_with fail
    refine (d_ReadMac _ a len cap _ hC2).mono ?_
    rintro e w3 ⟨t, rfl, ht, hb3⟩
    replace hb := hb.trans (hb3.mono hb.size)
    clear hb3 hC2
    go_wp2_with fail
    refine (i_ReadMac _ _ (by omega)).mono ?_
    rintro e w4 ⟨rfl, hb4⟩
    replace hb := hb.trans (hb4.mono hb.size)
    clear hb4
    go_wp2_with fail
    refine (s_ReadMac _ _ (by omega)).mono ?_
    rintro e w5 ⟨rfl, hb5⟩
    replace hb := hb.trans (hb5.mono hb.size)
    clear hb5
    go_wp2_with fail
    refine (s_MacText _ _).mono ?_
    rintro e w6 ⟨rfl, hb6⟩
    replace hb := hb.trans (hb6.mono hb.size)
    clear hb6
    have hml := macText_len n
    cases hok : okM t
    · go_wp2_with fail
      refine (i_ReadMac _ _ (by rw [str_size]; omega)).mono ?_
      rintro e w7 ⟨rfl, hb7⟩
      replace hb := hb.trans (hb7.mono hb.size)
      clear hb7
      cases hm : macB n
      · obtain ⟨e1, e2⟩ := mac_read_no hm
        rw [e1, e2, macText_no hm]
        clear e1 e2
        go_wp2
        go_ret
        exact ⟨rfl, hb⟩
      · obtain ⟨e1, e2⟩ := mac_read hm
        rw [e1, e2]
        have hne : (macText n).isEmpty = false := by
          rw [macText_yes hm]
          have := macP_length (hexOf (be 6 n)) (by rw [hexOf_length, be_length]) 5 (by omega)
          cases hq : macP (hexOf (be 6 n)) 5 with
          | nil => rw [hq] at this; simp at this
          | cons => rfl
        clear e1 e2
        generalize macText n = T at *
        go_wp2
        go_ret
        exact ⟨rfl, hb⟩
    · have C1 : Hid (∀ u : World, Calls Try.prog 30 #[.int .i64 (readMac t)] u fun e w' => e = .returned (.string t) ∧ Below u.heap.size u w') := by
        intro u
        have h := i_MacText (readMac t) u
        rw [mac_back hok] at h
        exact h
      go_wp2_with fail
      refine (C1.out _).mono ?_
      rintro e w8 ⟨rfl, hb8⟩
      replace hb := hb.trans (hb8.mono hb.size)
      clear hb8
      go_wp2_with fail
      refine (i_ReadMac _ _ (by rw [str_size]; omega)).mono ?_
      rintro e w7 ⟨rfl, hb7⟩
      replace hb := hb.trans (hb7.mono hb.size)
      clear hb7
      cases hm : macB n
      · obtain ⟨e1, e2⟩ := mac_read_no hm
        rw [e1, e2, macText_no hm]
        clear e1 e2
        go_wp2
        go_ret
        exact ⟨rfl, hb⟩
      · obtain ⟨e1, e2⟩ := mac_read hm
        rw [e1, e2]
        have hne : (macText n).isEmpty = false := by
          rw [macText_yes hm]
          have := macP_length (hexOf (be 6 n)) (by rw [hexOf_length, be_length]) 5 (by omega)
          cases hq : macP (hexOf (be 6 n)) 5 with
          | nil => rw [hq] at this; simp at this
          | cons => rfl
        clear e1 e2
        generalize macText n = T at *
        go_wp2
        go_ret
        exact ⟨rfl, hb⟩
end Go.Proofs.Ytlfdpepeanlhlab
