/-
  What is drawn to be read; the walk of the law FnUdps.
-/
import Derived.Test.YtjdellkdnempkaaUdps8
namespace Go.Proofs.Ytjdellkdnempkaa
open Go.RowKit Go.PlainAid
theorem udpText_len {a b : Int} {u : UdpV} : (udpText a b u).length ≤ 65515 := by
  cases h : udpOk a b u
  · rw [udpText_no h]; simp
  · rw [udpText_ok h, udpBytes_length]; have := udpOk_facts h; omega
set_option maxRecDepth 100000 in
set_option maxHeartbeats 1600000 in
theorem d_ReadUdp (B : Nat) (C : Option Addr) (len cap : Nat) (w : World) (h : Code w B C len) :
    Calls Try.prog 9 #[.slice C len cap] w fun e w' => ∃ (x y : Int) (t : ByteArray), e = .returned (.tuple #[.int .i64 x, .int .i64 y, .string t]) ∧ t.size ≤ 70000 ∧ Below w.heap.size w w' := by
  go_enter Try.func9, Try.ntmps9
  go_wp2_with fail
  refine (r_Open B C len cap _ h).mono ?_
  rintro e w1 ⟨rfl, hd1, hb1, hs1⟩
  have hC1 := h.below (hb1.mono h.2.1)
  go_wp2_with fail
  refine (d_UdpBytes B C len cap _ hC1).mono ?_
  rintro e w2 ⟨a, b, u0, rfl, hsz, hb2⟩
  have hd2 := hd1.kept (hb2.mono (by omega))
  have hB := hb1.trans (hb2.mono hb1.size)
  clear hb1 hb2 hd1 hC1
  obtain ⟨u, hu⟩ : ∃ u : UdpV, u = if 2000 < u0.data.size then ⟨u0.from_, u0.to_, u0.sum, ⟨#[]⟩⟩ else u0 := ⟨_, rfl⟩
  have hdu : u.data.size ≤ 65600 := by
    rw [hu]; split
    · show (⟨#[]⟩ : ByteArray).size ≤ 65600; decide
    · exact hsz
  have CS : Hid (∀ v : World, Calls Try.prog 12 #[.int .i64 a, .int .i64 b, .agg (udpL u)] v fun e w' => e = .returned (.string (str (udpText a b u))) ∧ Below v.heap.size v w') := fun v => s_UdpBytes a b u v (by omega)
  have hT : (udpText a b u).length ≤ 65515 := udpText_len
  have hTs := str_size (udpText a b u)
  generalize udpText a b u = T at *
  have hbA := (Below.refl _ w2).alloc (Nat.le_refl _) (.cells (udpL u) 25)
  have hd3 := hd2.kept (hbA.mono (by have := hd2.lt; omega))
  have hB3 := hB.trans (hbA.mono hB.size)
  clear hbA
  by_cases h2 : 2000 < u0.data.size
  · rw [if_pos h2] at hu
    subst hu
    obtain ⟨fr, to, sn, data⟩ := u0
    simp only [udpL] at *
    have h2' : (2000 : Int) < (data.size : Int) := by omega
    go_wp2_with fail
    refine (CS.out _).mono ?_
    rintro e w4 ⟨rfl, hb4⟩
    have hd4 := hd3.kept (hb4.mono (by have := hd3.lt; omega))
    have hB4 := hB3.trans (hb4.mono hB3.size)
    clear hb4
    go_wp2_with fail
    refine (r_once _ C len cap _ _ (by omega) (by omega) hd4).mono ?_
    rintro e w5 ⟨q, rfl, hd5, hO5⟩
    have hB5 := hB4.trans (hO5.below (Nat.le_refl _) hB4.size)
    cases q
    · go_wp2_with fail
      refine (r_once _ C len cap _ _ (by omega) (by omega) hd5).mono ?_
      rintro e w6 ⟨q, rfl, hd6, hO6⟩
      have hB6 := hB5.trans (hO6.below (Nat.le_refl _) hB5.size)
      cases q
      all_goals
        go_wp2
        go_ret3
        exact ⟨_, _, str T, rfl, by omega, hB6⟩
    · go_wp2_with fail
      refine (r_hurt _ C len cap _ _ (by omega) hd5).mono ?_
      rintro e w6 ⟨t, rfl, ht, hd6, hO6⟩
      have hB6 := hB5.trans (hO6.below (Nat.le_refl _) hB5.size)
      go_wp2_with fail
      refine (r_once _ C len cap _ _ (by omega) (by omega) hd6).mono ?_
      rintro e w7 ⟨q, rfl, hd7, hO7⟩
      have hB7 := hB6.trans (hO7.below (Nat.le_refl _) hB6.size)
      cases q
      all_goals
        go_wp2
        go_ret3
        exact ⟨_, _, t, rfl, by omega, hB7⟩
  · rw [if_neg h2] at hu
    subst hu
    obtain ⟨fr, to, sn, data⟩ := u
    simp only [udpL] at *
    have h2' : ¬ (2000 : Int) < (data.size : Int) := by omega
    go_wp2_with fail
    refine (CS.out _).mono ?_
    rintro e w4 ⟨rfl, hb4⟩
    have hd4 := hd3.kept (hb4.mono (by have := hd3.lt; omega))
    have hB4 := hB3.trans (hb4.mono hB3.size)
    clear hb4
    go_wp2_with fail
    refine (r_once _ C len cap _ _ (by omega) (by omega) hd4).mono ?_
    rintro e w5 ⟨q, rfl, hd5, hO5⟩
    have hB5 := hB4.trans (hO5.below (Nat.le_refl _) hB4.size)
    cases q
    · go_wp2_with fail
      refine (r_once _ C len cap _ _ (by omega) (by omega) hd5).mono ?_
      rintro e w6 ⟨q, rfl, hd6, hO6⟩
      have hB6 := hB5.trans (hO6.below (Nat.le_refl _) hB5.size)
      cases q
      all_goals
        go_wp2
        go_ret3
        exact ⟨_, _, str T, rfl, by omega, hB6⟩
    · go_wp2_with fail
      refine (r_hurt _ C len cap _ _ (by omega) hd5).mono ?_
      rintro e w6 ⟨t, rfl, ht, hd6, hO6⟩
      have hB6 := hB5.trans (hO6.below (Nat.le_refl _) hB5.size)
      go_wp2_with fail
      refine (r_once _ C len cap _ _ (by omega) (by omega) hd6).mono ?_
      rintro e w7 ⟨q, rfl, hd7, hO7⟩
      have hB7 := hB6.trans (hO7.below (Nat.le_refl _) hB6.size)
      cases q
      all_goals
        go_wp2
        go_ret3
        exact ⟨_, _, t, rfl, by omega, hB7⟩
end Go.Proofs.Ytjdellkdnempkaa
