/-
  Draws of nets, of what is carried, of bytes that are bent.
-/
import Derived.Test.YtnheppkjeoiipaaLawBase
namespace Go.Proofs.Ytnheppkjeoiipaa
open Go.RowKit Go.PlainAid
set_option maxRecDepth 100000 in
set_option maxHeartbeats 800000 in
theorem r_net (b : Nat) (C : Option Addr) (len cap : Nat) (w : World) (h : RdI w b C len cap) :
    Calls Try.prog 27 #[.pointer (some ⟨b, 0, none⟩)] w fun e w' => ∃ x : Int, e = .returned (.int .i64 x) ∧ RdI w' b C len cap ∧ Only b w w' := by
  go_enter Try.func27, Try.ntmps27
  go_wp2_with fail
  refine (r_once _ C len cap _ _ (by omega) (by omega) h).mono ?_
  rintro e w2 ⟨t, rfl, hR2, hO2⟩
  cases t
  · go_wp2_with fail
    refine (r_below _ C len cap _ _ (by omega) hR2).mono ?_
    rintro e w3 ⟨x, rfl, hx0, hx1, hR3, hO3⟩
    go_wp2
    go_ret
    exact ⟨x, rfl, hR3, hO2.trans hO3⟩
  · go_wp2_with fail
    refine (r_off _ C len cap _ _ _ (by omega) (by omega) (by omega) (by omega) hR2).mono ?_
    rintro e w3 ⟨x, rfl, hx0, hx1, hR3, hO3⟩
    go_wp2
    go_ret
    exact ⟨x, rfl, hR3, hO2.trans hO3⟩
set_option maxRecDepth 100000 in
set_option maxHeartbeats 800000 in
theorem r_data (b : Nat) (C : Option Addr) (len cap : Nat) (w : World) (h : RdI w b C len cap) :
    Calls Try.prog 29 #[.pointer (some ⟨b, 0, none⟩)] w fun e w' => ∃ t : ByteArray, e = .returned (.string t) ∧ t.size ≤ 65100 ∧ RdI w' b C len cap ∧ Only b w w' := by
  go_enter Try.func29, Try.ntmps29
  go_wp2_with fail
  refine (r_once _ C len cap _ _ (by omega) (by omega) h).mono ?_
  rintro e w2 ⟨t, rfl, hR2, hO2⟩
  cases t
  · go_wp2_with fail
    refine (r_bytes _ C len cap _ _ (by omega) (by omega) hR2).mono ?_
    rintro e w3 ⟨l, rfl, hx0, hR3, hO3⟩
    go_wp2
    go_ret
    exact ⟨_, rfl, by rw [str_size]; omega, hR3, hO2.trans hO3⟩
  · go_wp2_with fail
    refine (r_below _ C len cap _ _ (by omega) hR2).mono ?_
    rintro e w3 ⟨x, rfl, hx0, hx1, hR3, hO3⟩
    obtain ⟨M, rfl⟩ := Int.eq_ofNat_of_zero_le hx0
    go_wp2_with (at_make; refine wpList_make_bytes rfl _ _ rfl _ _ _ _ (65000 + M) rfl rfl (by omega) (by omega) (by omega) ?_; intro w8 hown hbC; have hrl : (List.replicate (65000 + M) (0 : UInt8)).length ≤ 65100 := (by rw [List.length_replicate]; omega); generalize List.replicate (65000 + M) (0 : UInt8) = rl at hown hrl; have hstr := run_string_own hown)
    go_ret
    exact ⟨_, rfl, by rw [str_size]; exact hrl, hR3.far hbC, (hO2.trans hO3).trans ⟨hbC.os, hbC.tape, hbC.output, hbC.size, fun i hi _ => hbC.block i hi⟩⟩
set_option maxRecDepth 100000 in
set_option maxHeartbeats 800000 in
theorem r_bent (b : Nat) (C : Option Addr) (len cap : Nat) (s : ByteArray) (w : World) (hs : s.size ≤ 1099511627770) (h : RdI w b C len cap) :
    Calls Try.prog 31 #[.pointer (some ⟨b, 0, none⟩), .string s] w fun e w' => ∃ t : ByteArray, e = .returned (.string t) ∧ t.size ≤ s.size + 1 ∧ RdI w' b C len cap ∧ Only b w w' := by
  by_cases hz : 2000 < s.size
  · go_enter Try.func31, Try.ntmps31
    go_wp2
    go_ret
    exact ⟨s, rfl, by omega, h, Only.refl _ _⟩
  · go_enter Try.func31, Try.ntmps31
    go_wp2_with fail
    refine (r_below _ C len cap _ _ (by omega) h).mono ?_
    rintro e w2 ⟨x, rfl, hx0, hx1, hR2, hO2⟩
    by_cases h0 : x = 0
    · subst h0
      go_wp2_with fail
      refine (r_hurt _ C len cap s _ (by omega) hR2).mono ?_
      rintro e w3 ⟨t, rfl, ht, hR3, hO3⟩
      go_wp2
      go_ret
      exact ⟨t, rfl, ht, hR3, hO2.trans hO3⟩
    · have h0b : (x == 0) = false := by simp [h0]
      by_cases h1 : x = 1
      · subst h1
        go_wp2_with fail
        refine (r_below _ C len cap _ _ (by omega) hR2).mono ?_
        rintro e w3 ⟨y, rfl, hy0, hy1, hR3, hO3⟩
        obtain ⟨M, rfl⟩ := Int.eq_ofNat_of_zero_le hy0
        have hM : (M : Int) ≤ (s.size : Int) := by omega
        go_wp2
        go_ret
        exact ⟨_, rfl, by simp; omega, hR3, hO2.trans hO3⟩
      · have h1b : (x == 1) = false := by simp [h1]
        clear h0 h1
        go_wp2
        go_ret
        exact ⟨s, rfl, by omega, hR2, hO2⟩
end Go.Proofs.Ytnheppkjeoiipaa
