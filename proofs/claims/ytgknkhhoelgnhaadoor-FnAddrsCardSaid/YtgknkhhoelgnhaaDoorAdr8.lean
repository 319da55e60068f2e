/-
  The draws of addresses and of their texts, and the walk of the law FnAddrs.
-/
import Derived.Test.YtgknkhhoelgnhaaDoorAdr7
import Derived.Test.YtgknkhhoelgnhaaDoorLawBase
import Derived.Test.YtgknkhhoelgnhaaDoorDraw4
namespace Go.Proofs.YtgknkhhoelgnhaaDoor
open Go.RowKit Go.PlainAid
theorem inB_both {n lo hi : Int} (h : inB n lo hi = true) : lo ≤ n ∧ n ≤ hi := by unfold inB at h; simp at h; exact h
theorem word_top {x : Int} (h0 : 0 ≤ x) (h1 : x ≤ 18446744073709551615) : IntKind.i64.wrap (x / 4294967296) = x / 4294967296 := wraps_i64 _ (by omega) (by omega)
set_option maxRecDepth 100000 in
set_option maxHeartbeats 3200000 in
theorem d_AddrText (B : Nat) (C : Option Addr) (len cap : Nat) (w : World) (h : Code w B C len) :
    Calls Tryd.prog 31 #[.slice C len cap] w fun e w' => ∃ n : Int, e = .returned (.int .i64 n) ∧ Below w.heap.size w w' := by
  go_enter Tryd.func31, Tryd.ntmps31
  go_wp2_with fail
  refine (r_Open B C len cap _ h).mono ?_
  rintro e u1 ⟨rfl, hR, hB, hs1⟩
  go_wp2_with fail
  refine (r_once _ C len cap _ _ (by omega) (by omega) hR).mono ?_
  rintro e u2 ⟨y, rfl, hR1, hO1⟩
  replace hB := hB.trans (hO1.below (Nat.le_refl _) hB.size)
  clear hR hO1
  cases y
  · go_wp2_with fail
    refine (r_word _ C len cap _ hR1).mono ?_
    rintro e u3 ⟨x, rfl, hx0, hx1, hR2, hO2⟩
    replace hB := hB.trans (hO2.below (Nat.le_refl _) hB.size)
    have hw := word_top hx0 hx1
    clear hR1 hO2 hR2
    go_wp2
    go_ret
    exact ⟨_, rfl, hB⟩
  · go_wp2_with fail
    refine (r_off _ C len cap _ _ _ (by omega) (by omega) (by omega) (by omega) hR1).mono ?_
    rintro e u3 ⟨x, rfl, hx0, hx1, hR2, hO2⟩
    replace hB := hB.trans (hO2.below (Nat.le_refl _) hB.size)
    clear hR1 hO2 hR2
    go_wp2
    go_ret
    exact ⟨_, rfl, hB⟩
theorem adText_len (n : Int) : (adText n).length ≤ 15 := by
  unfold adText
  split
  · rename_i h
    have := inB_both h
    exact (ad_len (n := n.toNat) (by omega)).2
  · simp
set_option maxRecDepth 100000 in
set_option maxHeartbeats 3200000 in
theorem d_ReadAddr (B : Nat) (C : Option Addr) (len cap : Nat) (w : World) (h : Code w B C len) :
    Calls Tryd.prog 32 #[.slice C len cap] w fun e w' => ∃ t : ByteArray, e = .returned (.string t) ∧ t.size ≤ 100 ∧ Below w.heap.size w w' := by
  go_enter Tryd.func32, Tryd.ntmps32
  go_wp2_with fail
  refine (r_Open B C len cap _ h).mono ?_
  rintro e u1 ⟨rfl, hR, hB, hs1⟩
  go_wp2_with fail
  refine (r_word _ C len cap _ hR).mono ?_
  rintro e u2 ⟨x, rfl, hx0, hx1, hR1, hO1⟩
  replace hB := hB.trans (hO1.below (Nat.le_refl _) hB.size)
  have hw := word_top hx0 hx1
  have hsz := hO1.size
  have CT : Hid (∀ u : World, Calls Tryd.prog 12 #[.int .i64 (x / 4294967296)] u fun e w' => e = .returned (.string (str (adText (x / 4294967296)))) ∧ Below u.heap.size u w') := fun u => s_AddrText _ u
  have hT : (str (adText (x / 4294967296))).size ≤ 15 := by rw [str_size]; exact adText_len _
  generalize str (adText (x / 4294967296)) = T at *
  clear hR hO1 hx0 hx1
  go_wp2_with fail
  refine (CT.out _).mono ?_
  rintro e u3 ⟨rfl, hb⟩
  replace hR1 := hR1.far hb
  replace hB := hB.trans (hb.mono hB.size)
  have hsz2 := hb.size
  clear hb CT hw
  go_wp2_with fail
  refine (r_below _ C len cap _ _ (by omega) hR1).mono ?_
  rintro e u4 ⟨y, rfl, hy0, hy1, hR2, hO2⟩
  replace hB := hB.trans (hO2.below (Nat.le_refl _) hB.size)
  have hsz3 := hO2.size
  clear hR1 hO2
  have hy : y = 0 ∨ y = 1 ∨ 1 < y := by omega
  clear hy0 hy1
  rcases hy with rfl | rfl | hy
  · go_wp2_with fail
    refine (r_hurt _ C len cap _ _ (by omega) hR2).mono ?_
    rintro e u5 ⟨t, rfl, ht, hR3, hO3⟩
    replace hB := hB.trans (hO3.below (Nat.le_refl _) hB.size)
    clear hR2 hO3 hR3
    go_wp2
    go_ret
    exact ⟨_, rfl, by omega, hB⟩
  · have hRA := fun v => hR2.alloc v
    go_wp2_with fail
    refine (r_below _ C len cap _ _ (by omega) (hR2.alloc _)).mono ?_
    rintro e u5 ⟨z, rfl, hz0, hz1, hR3, hO3⟩
    have hc := fun j => hO3.cell (g := u4.heap.size) (j := j) (by simp) (by omega)
    have k0 := hc 0; have k1 := hc 1; have k2 := hc 2; have k3 := hc 3; have k4 := hc 4; have k5 := hc 5; have k6 := hc 6; have k7 := hc 7
    simp at k0 k1 k2 k3 k4 k5 k6 k7
    clear hc hRA
    replace hB := (hB.alloc hB.size _).trans (hO3.below (Nat.le_refl _) (by have := hB.size; simp; omega))
    have hz : z = 0 ∨ z = 1 ∨ z = 2 ∨ z = 3 ∨ z = 4 ∨ z = 5 ∨ z = 6 ∨ z = 7 := by omega
    clear hz0 hz1 hR2 hO3
    rcases hz with rfl | rfl | rfl | rfl | rfl | rfl | rfl | rfl
    all_goals
      go_wp2
      go_ret
      exact ⟨_, rfl, by decide, hB⟩
  · have y0 : (y == 0) = false := by simp; omega
    have y1 : (y == 1) = false := by simp; omega
    go_wp2
    go_ret
    exact ⟨_, rfl, by omega, hB⟩
/-- what is read as an address is its text -/
theorem ad_text {l : List UInt8} (h : adB l = true) : str (adText (adR l)) = str l := by
  unfold adB at h
  obtain ⟨N, hN⟩ := Option.isSome_iff_exists.1 h
  obtain ⟨n, rfl, hn, rfl⟩ := adRd_some hN
  have : adR (adT n) = (n : Int) := by unfold adR; rw [hN]; rfl
  rw [this]
  unfold adText
  rw [show addrB (n : Int) = true from inB_true (by omega) (by omega), if_pos rfl, Int.toNat_natCast]
/-- an address's text is read as it -/
theorem ad_back (n : Int) : (adB (adText n) = true ∧ adR (adText n) = n ∧ ¬ str (adText n) = ⟨#[]⟩) ∨ (adB (adText n) = false ∧ str (adText n) = ⟨#[]⟩) := by
  unfold adText
  by_cases h : addrB n = true
  · left
    rw [if_pos h]
    have hb := inB_both h
    have hn : n.toNat < 4294967296 := by omega
    obtain ⟨a, b⟩ := ad_yes hn rfl
    refine ⟨b, by rw [a]; omega, fun hq => ?_⟩
    have h7 := (ad_len hn).1
    have := congrArg ByteArray.size hq
    rw [str_size] at this
    have e0 : (⟨#[]⟩ : ByteArray).size = 0 := rfl
    omega
  · right
    rw [if_neg h]
    refine ⟨(ad_no (l := []) fun m hm e => ?_).2, rfl⟩
    have h7 := (ad_len hm).1
    rw [e] at h7
    simp at h7
set_option maxRecDepth 100000 in
set_option maxHeartbeats 6400000 in
theorem walk_FnAddrs (C : Option Addr) (len cap : Nat) (zs : List Int) (w : World) (w0 : IsRow .u8 w C len cap zs) (hL : LibW w) :
    Calls Tryd.prog 10 #[.slice C len cap] w fun e w' => e = .returned (.bool true) ∧ Below w.heap.size w w' := by
  have hl := row_len w0
  by_cases hz : 1048576 < len
  · go_enter Tryd.func10, Tryd.ntmps10
    go_wp2
    go_ret
    exact ⟨rfl, Below.refl _ _⟩
  · have hC := code_of_row w0 (by omega)
    clear w0
    have CI : Hid (∀ (n : Int) (u : World), Below w.heap.size w u → Calls Tryd.prog 13 #[.int .i64 n] u fun e w' => e = .returned (.string (str (adText n))) ∧ Below u.heap.size u w') := fun n u hb => i_AddrText n u (hL.pow.below hb)
    have CS : Hid (∀ (n : Int) (u : World), Calls Tryd.prog 12 #[.int .i64 n] u fun e w' => e = .returned (.string (str (adText n))) ∧ Below u.heap.size u w') := fun n u => s_AddrText n u
    have RI : Hid (∀ (s : ByteArray) (u : World), Below w.heap.size w u → s.size ≤ 1048576 → Calls Tryd.prog 15 #[.string s] u fun e w' => e = .returned (adV (bl s)) ∧ Below u.heap.size u w') := fun s u hb hs => i_ReadAddr s u hs (hL.below hb)
    have RS : Hid (∀ (s : ByteArray) (u : World), s.size ≤ 1048576 → Calls Tryd.prog 14 #[.string s] u fun e w' => e = .returned (adV (bl s)) ∧ Below u.heap.size u w') := fun s u hs => s_ReadAddr s u (by omega)
    clear hL
    go_enter Tryd.func10, Tryd.ntmps10
    go_wp2_with fail
    refine (big_no _ _ _ _ (by omega)).mono ?_
    rintro e w' ⟨rfl, hw'⟩
    rw [hw']
    clear hw' w'
    go_wp2_with fail
    refine (d_AddrText _ C len cap _ hC).mono ?_
    rintro e w1 ⟨n, rfl, hB⟩
    go_wp2_with fail
    refine (CI.out _ _ hB).mono ?_
    rintro e w2 ⟨rfl, hX⟩
    replace hB := hB.trans (hX.mono hB.size)
    clear hX
    have hS15 : (str (adText n)).size ≤ 15 := by rw [str_size]; exact adText_len n
    have CSn : Hid (∀ u : World, Calls Tryd.prog 12 #[.int .i64 n] u fun e w' => e = .returned (.string (str (adText n))) ∧ Below u.heap.size u w') := CS.out n
    have RIs : Hid (∀ u : World, Below w.heap.size w u → Calls Tryd.prog 15 #[.string (str (adText n))] u fun e w' => e = .returned (adV (adText n)) ∧ Below u.heap.size u w') := fun u hb => by
      have := RI.out (str (adText n)) u hb (by omega)
      rw [bl_str] at this
      exact this
    have HK := ad_back n
    unfold adV at RIs
    clear CS hS15
    generalize adB (adText n) = sb at *
    generalize adR (adText n) = sr at *
    generalize str (adText n) = s at *
    have hC2 := hC.below hB
    go_wp2_with fail
    refine (d_ReadAddr _ C len cap _ hC2).mono ?_
    rintro e w3 ⟨t, rfl, ht, hX⟩
    replace hB := hB.trans (hX.mono hC2.2.1)
    clear hX hC2
    have RIt : Hid (∀ u : World, Below w.heap.size w u → Calls Tryd.prog 15 #[.string t] u fun e w' => e = .returned (adV (bl t)) ∧ Below u.heap.size u w') := fun u hb => RI.out t u hb (by omega)
    have RSt : Hid (∀ u : World, Calls Tryd.prog 14 #[.string t] u fun e w' => e = .returned (adV (bl t)) ∧ Below u.heap.size u w') := fun u => RS.out t u (by omega)
    have HT : adB (bl t) = true → Hid (∀ u : World, Below w.heap.size w u → Calls Tryd.prog 13 #[.int .i64 (adR (bl t))] u fun e w' => e = .returned (.string t) ∧ Below u.heap.size u w') := fun h u hb => by
      have := CI.out (adR (bl t)) u hb
      rw [ad_text h, str_bl] at this
      exact this
    unfold adV at RIt RSt
    clear RI RS CI
    generalize adB (bl t) = tb at *
    generalize adR (bl t) = tr at *
    go_wp2_with fail
    refine (RIt.out _ hB).mono ?_
    rintro e w4 ⟨rfl, hX⟩
    replace hB := hB.trans (hX.mono hB.size)
    clear hX RIt
    go_wp2_with fail
    refine (RSt.out _).mono ?_
    rintro e w5 ⟨rfl, hX⟩
    replace hB := hB.trans (hX.mono hB.size)
    clear hX RSt
    go_wp2_with fail
    refine (CSn.out _).mono ?_
    rintro e w6 ⟨rfl, hX⟩
    replace hB := hB.trans (hX.mono hB.size)
    clear hX CSn
    have hEnd : ∀ (wX : World), Below w.heap.size w wX → (∀ u : World, Below w.heap.size w u → Calls Tryd.prog 15 #[.string s] u fun e w' => e = .returned (.tuple #[.int .i64 sr, .bool sb]) ∧ Below u.heap.size u w') := fun _ _ u hb => RIs.out u hb
    clear hEnd
    cases tb
    · go_wp2_with fail
      refine (RIs.out _ hB).mono ?_
      rintro e w8 ⟨rfl, hX⟩
      replace hB := hB.trans (hX.mono hB.size)
      clear hX RIs
      rcases HK with ⟨rfl, rfl, hne⟩ | ⟨rfl, rfl⟩
      · have e2 : ¬ s.toList = [] := fun hh => by have := str_ne hne; rw [hh] at this; simp at this
        go_wp2
        go_ret
        exact ⟨by first | rfl | exact ret_bool (by simp [e2]), hB⟩
      · go_wp2
        go_ret
        exact ⟨by first | rfl | exact ret_bool (by simp), hB⟩
    · have HT2 := HT rfl
      clear HT
      go_wp2_with fail
      refine (HT2.out _ hB).mono ?_
      rintro e w7 ⟨rfl, hX⟩
      replace hB := hB.trans (hX.mono hB.size)
      clear hX HT2
      go_wp2_with fail
      refine (RIs.out _ hB).mono ?_
      rintro e w8 ⟨rfl, hX⟩
      replace hB := hB.trans (hX.mono hB.size)
      clear hX RIs
      rcases HK with ⟨rfl, rfl, hne⟩ | ⟨rfl, rfl⟩
      · have e2 : ¬ s.toList = [] := fun hh => by have := str_ne hne; rw [hh] at this; simp at this
        go_wp2
        go_ret
        exact ⟨by first | rfl | exact ret_bool (by simp [e2]), hB⟩
      · go_wp2
        go_ret
        exact ⟨by first | rfl | exact ret_bool (by simp), hB⟩
end Go.Proofs.YtgknkhhoelgnhaaDoor
