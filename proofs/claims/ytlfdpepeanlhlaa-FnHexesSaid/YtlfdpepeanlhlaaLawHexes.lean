/-
  The walk of the law on digits: bytes come back from their digits; what is read, written again, is these.
-/
import Derived.Test.YtlfdpepeanlhlaaLawBase
namespace Go.Proofs.Ytlfdpepeanlhlaa
open Go.RowKit Go.PlainAid
theorem readHex_hexOf (l : List UInt8) : hexy (hexOf l) = true ∧ readHex (hexOf l) = l := by
  have h := hexy_yes (l := hexOf l) (by rw [hexOf_length]; omega) (fun c hc => (isD_iff c).2 (hexOf_is l c hc))
  exact ⟨h.1, by rw [h.2, unhex_hexOf]⟩
theorem hexOf_readHex (l : List UInt8) (h : hexy l = true) : hexOf (readHex l) = l := by
  have e : readHex l = unhex l := by unfold readHex; rw [if_pos h]
  unfold hexy at h
  rw [decide_eq_true_iff] at h
  rw [e, hexOf_unhex l h.1 (fun c hc => (isD_iff c).1 (h.2 c hc))]
theorem readHex_no {l : List UInt8} (h : hexy l = false) : readHex l = [] := by unfold readHex; rw [h]; rfl
theorem readHex_len (l : List UInt8) : (readHex l).length ≤ l.length := by
  unfold readHex; split
  · rw [unhex_length]; omega
  · simp

set_option maxRecDepth 100000 in
set_option maxHeartbeats 1600000 in
theorem walk_FnHexes (a : Option Addr) (len cap : Nat) (zs : List Int) (w : World) (w0 : IsRow .u8 w a len cap zs) :
    Calls Try.prog 7 #[.slice a len cap] w fun e w' => e = .returned (.bool true) ∧ Below w.heap.size w w' := by
  have hl := row_len w0
  by_cases hz : 1048576 < len
  · go_enter Try.func7, Try.ntmps7
    go_wp2
    go_ret
    exact ⟨rfl, Below.refl _ _⟩
  · have hC := code_of_row w0 (by omega)
    clear w0
    go_enter Try.func7, Try.ntmps7
    go_wp2_with fail
    refine (big_no _ _ _ _ (by omega)).mono ?_
    rintro e w' ⟨rfl, rfl⟩
    go_wp2_with fail
    refine (d_HexOf _ a len cap _ hC).mono ?_
    rintro e w1 ⟨l, rfl, hl1, hb⟩
    go_wp2_with fail
    refine (i_HexOf _ _ (by rw [str_size]; omega)).mono ?_
    rintro e w2 ⟨rfl, hb2⟩
    rw [bl_str]
    replace hb := hb.trans (hb2.mono hb.size)
    clear hb2
    have hC2 := hC.below hb
    go_wp2_with fail
    refine (d_ReadHex _ a len cap _ hC2).mono ?_
    rintro e w3 ⟨t, rfl, ht, hb3⟩
    replace hb := hb.trans (hb3.mono hb.size)
    clear hb3 hC2
    go_wp2_with fail
    refine (i_ReadHex _ _ (by omega)).mono ?_
    rintro e w4 ⟨rfl, hb4⟩
    replace hb := hb.trans (hb4.mono hb.size)
    clear hb4
    go_wp2_with fail
    refine (s_ReadHex _ _ (by omega)).mono ?_
    rintro e w5 ⟨rfl, hb5⟩
    replace hb := hb.trans (hb5.mono hb.size)
    clear hb5
    have hhl : (hexOf l).length = 2 * l.length := hexOf_length l
    have hrl := readHex_len (bl t)
    rw [bl_length] at hrl
    have hrh := readHex_hexOf l
    have hback := hexOf_readHex (bl t)
    have C1 : Hid (∀ u : World, Calls Try.prog 32 #[.string (str (hexOf l))] u fun e w' => e = .returned (.tuple #[.string (str l), .bool true]) ∧ Below u.heap.size u w') := by
      intro u
      have h := i_ReadHex (str (hexOf l)) u (by rw [str_size, hexOf_length]; omega)
      rw [bl_str, hrh.1, hrh.2] at h
      exact h
    have C2 : Hid (∀ u : World, Calls Try.prog 34 #[.string (str l)] u fun e w' => e = .returned (.string (str (hexOf l))) ∧ Below u.heap.size u w') :=
      fun u => s_HexOf (str l) u (by rw [str_size]; omega)
    have Hll : Hid ((hexOf l).length = 2 * l.length) := hhl
    generalize hexOf l = H at *
    clear hrh
    go_wp2_with fail
    refine (C1.out _).mono ?_
    rintro e w6 ⟨rfl, hb6⟩
    replace hb := hb.trans (hb6.mono hb.size)
    clear hb6
    go_wp2_with fail
    refine (C2.out _).mono ?_
    rintro e w7 ⟨rfl, hb7⟩
    replace hb := hb.trans (hb7.mono hb.size)
    clear hb7
    cases hx : hexy (bl t)
    · rw [readHex_no hx]
      clear hback hrl
      go_wp2
      go_ret
      exact ⟨rfl, hb⟩
    · replace hback := hback hx
      have C3 : Hid (∀ u : World, Calls Try.prog 30 #[.string (str (readHex (bl t)))] u fun e w' => e = .returned (.string t) ∧ Below u.heap.size u w') := by
        intro u
        have h := i_HexOf (str (readHex (bl t))) u (by rw [str_size]; omega)
        rw [bl_str, hback, str_bl] at h
        exact h
      generalize readHex (bl t) = R at *
      clear hback
      go_wp2_with fail
      refine (C3.out _).mono ?_
      rintro e w8 ⟨rfl, hb8⟩
      go_wp2
      go_ret
      exact ⟨rfl, hb.trans (hb8.mono hb.size)⟩
end Go.Proofs.Ytlfdpepeanlhlaa
