/-
  The walk of the law FnUdps.
-/
import Derived.Test.YtjdellkdnempkaaUdps11
namespace Go.Proofs.Ytjdellkdnempkaa
open Go.RowKit Go.PlainAid
theorem okUdp_nil (a b : Int) : okUdp a b (str []) = false := by
  unfold okUdp
  rw [decide_eq_false (by rw [str_size]; simp)]
  rfl
theorem udp_again {c d : Int} {t : ByteArray} (h : okUdp c d t = true) : str (udpText c d (readUdp c d t)) = t := by
  unfold readUdp
  rw [h, if_pos rfl]
  unfold okUdp at h
  rw [Bool.and_eq_true, decide_eq_true_eq, decide_eq_true_eq] at h
  exact h.2
theorem readUdp_size (c d : Int) (t : ByteArray) : (readUdp c d t).data.size ≤ t.size := by
  unfold readUdp
  split
  · show (t.extract 8 t.size).size ≤ _; simp
  · exact Nat.zero_le _
set_option maxRecDepth 100000 in
set_option maxHeartbeats 6400000 in
theorem walk_FnUdps (C : Option Addr) (len cap : Nat) (zs : List Int) (w : World) (w0 : IsRow .u8 w C len cap zs) :
    Calls Try.prog 3 #[.slice C len cap] w fun e w' => e = .returned (.bool true) ∧ Below w.heap.size w w' := by
  have hl := row_len w0
  by_cases hz : 1048576 < len
  · go_enter Try.func3, Try.ntmps3
    go_wp2
    go_ret
    exact ⟨rfl, Below.refl _ _⟩
  · have hC := code_of_row w0 (by omega)
    clear w0
    go_enter Try.func3, Try.ntmps3
    go_wp2_with fail
    refine (big_no _ _ _ _ (by omega)).mono ?_
    rintro e w' ⟨rfl, hw'⟩
    rw [hw']
    clear hw' w'
    go_wp2_with fail
    refine (d_UdpBytes _ C len cap _ hC).mono ?_
    rintro e w1 ⟨a, b, u, rfl, hsz, hB⟩
    have CI : Hid (∀ v : World, Calls Try.prog 8 #[.int .i64 a, .int .i64 b, .agg (udpL u)] v fun e w' => e = .returned (.string (str (udpText a b u))) ∧ Below v.heap.size v w') := fun v => i_UdpBytes a b u v (by omega)
    have CS : Hid (∀ v : World, Calls Try.prog 12 #[.int .i64 a, .int .i64 b, .agg (udpL u)] v fun e w' => e = .returned (.string (str (udpText a b u))) ∧ Below v.heap.size v w') := fun v => s_UdpBytes a b u v (by omega)
    have CR : Hid (∀ v : World, Calls Try.prog 10 #[.int .i64 a, .int .i64 b, .string (str (udpText a b u))] v fun e w' => e = .returned (.tuple #[.agg (udpL (readUdp a b (str (udpText a b u)))), .bool (okUdp a b (str (udpText a b u)))]) ∧ Below v.heap.size v w') := fun v => i_ReadUdp a b _ v (by rw [str_size]; have := udpText_len (a := a) (b := b) (u := u); omega)
    have HZ : Hid (udpOk a b u = false ∧ udpText a b u = [] ∧ okUdp a b (str (udpText a b u)) = false ∨ udpOk a b u = true ∧ (udpText a b u).isEmpty = false ∧ (udpText a b u).length = 8 + u.data.size ∧ okUdp a b (str (udpText a b u)) = true ∧ readUdp a b (str (udpText a b u)) = u) := by
      show _ ∨ _
      cases hk : udpOk a b u
      · exact .inl ⟨rfl, udpText_no hk, by rw [udpText_no hk, okUdp_nil]⟩
      · refine .inr ⟨rfl, ?_, ?_, ?_, ?_⟩
        · rw [udpText_ok hk]; exact udpBytes_some a b u
        · rw [udpText_ok hk]; exact udpBytes_length a b u
        · rw [udpText_ok hk]; exact ok_udpBytes hk
        · unfold readUdp; rw [udpText_ok hk, ok_udpBytes hk, if_pos rfl, rd_udpBytes hk]
    have hTl : (udpText a b u).length ≤ 65515 := udpText_len
    have hTs := str_size (udpText a b u)
    generalize okUdp a b (str (udpText a b u)) = ok2 at *
    generalize readUdp a b (str (udpText a b u)) = u2 at *
    generalize udpOk a b u = ok0 at *
    generalize udpText a b u = T at *
    have hA := Bx.new w1 (udpL u) 25
    have hB1 := hB.alloc hB.size (.cells (udpL u) 25)
    have hdl : u.data.size ≤ 65600 := hsz
    clear hB hsz
    obtain ⟨fr, to, sn, data⟩ := u
    simp only [udpL] at hA hB1 CI CS hdl HZ CR ⊢
    go_wp2_with fail
    refine (CI.out _).mono ?_
    rintro e w2 ⟨rfl, hb2⟩
    replace hA := hA.below hb2
    replace hB1 := hB1.trans (hb2.mono hB1.size)
    clear hb2 CI
    have hC2 := hC.below hB1
    go_wp2_with fail
    refine (d_ReadUdp _ C len cap _ hC2).mono ?_
    rintro e w3 ⟨c, d, t, rfl, ht, hb3⟩
    replace hA := hA.below hb3
    replace hB1 := hB1.trans (hb3.mono hB1.size)
    clear hb3 hC2
    have DI : Hid (∀ v : World, Calls Try.prog 10 #[.int .i64 c, .int .i64 d, .string t] v fun e w' => e = .returned (.tuple #[.agg (udpL (readUdp c d t)), .bool (okUdp c d t)]) ∧ Below v.heap.size v w') := fun v => i_ReadUdp c d t v (by omega)
    have DS : Hid (∀ v : World, Calls Try.prog 11 #[.int .i64 c, .int .i64 d, .string t] v fun e w' => e = .returned (.tuple #[.agg (udpL (readUdp c d t)), .bool (okUdp c d t)]) ∧ Below v.heap.size v w') := fun v => s_ReadUdp c d t v (by omega)
    have DA : Hid (∀ v : World, okUdp c d t = true → Calls Try.prog 8 #[.int .i64 c, .int .i64 d, .agg (udpL (readUdp c d t))] v fun e w' => e = .returned (.string t) ∧ Below v.heap.size v w') := fun v ho => by
      have := i_UdpBytes c d (readUdp c d t) v (by have := readUdp_size c d t; omega)
      rw [udp_again ho] at this
      exact this
    generalize okUdp c d t = is at *
    generalize readUdp c d t = x at *
    obtain ⟨xf, xt, xs, xd⟩ := x
    simp only [udpL] at DI DS DA ⊢
    go_wp2_with fail
    refine (DI.out _).mono ?_
    rintro e w4 ⟨rfl, hb4⟩
    replace hA := hA.below hb4
    replace hB1 := hB1.trans (hb4.mono hB1.size)
    clear hb4 DI
    have hX := Bx.new w4 #[.int .i64 xf, .int .i64 xt, .bool xs, .string xd] 25
    have hb5 := (Below.refl _ w4).alloc (Nat.le_refl _) (.cells #[.int .i64 xf, .int .i64 xt, .bool xs, .string xd] 25)
    replace hA := hA.below hb5
    replace hB1 := hB1.trans (hb5.mono hB1.size)
    clear hb5
    go_wp2_with fail
    refine (DS.out _).mono ?_
    rintro e w5 ⟨rfl, hb5⟩
    replace hA := hA.below hb5
    replace hX := hX.below hb5
    replace hB1 := hB1.trans (hb5.mono hB1.size)
    clear hb5 DS
    have hY := Bx.new w5 #[.int .i64 xf, .int .i64 xt, .bool xs, .string xd] 25
    have hb6 := (Below.refl _ w5).alloc (Nat.le_refl _) (.cells #[.int .i64 xf, .int .i64 xt, .bool xs, .string xd] 25)
    replace hA := hA.below hb6
    replace hX := hX.below hb6
    replace hB1 := hB1.trans (hb6.mono hB1.size)
    clear hb6
    have a0 := hA.2 0 _ rfl
    have a1 := hA.2 1 _ rfl
    have a2 := hA.2 2 _ rfl
    have a3 := hA.2 3 _ rfl
    go_wp2_with fail
    refine (CS.out _).mono ?_
    rintro e w6 ⟨rfl, hb6⟩
    replace hA := hA.below hb6
    replace hX := hX.below hb6
    replace hY := hY.below hb6
    replace hB1 := hB1.trans (hb6.mono hB1.size)
    clear hb6 a0 a1 a2 a3
    have x0 := hX.2 0 _ rfl
    have x1 := hX.2 1 _ rfl
    have x2 := hX.2 2 _ rfl
    have x3 := hX.2 3 _ rfl
    have y0 := hY.2 0 _ rfl
    have y1 := hY.2 1 _ rfl
    have y2 := hY.2 2 _ rfl
    have y3 := hY.2 3 _ rfl
    obtain ⟨u2f, u2t, u2s, u2d⟩ := u2
    simp only at CR
    cases is
    · go_wp2_with fail
      refine (CR.out _).mono ?_
      rintro e w7 ⟨rfl, hb7⟩
      replace hA := hA.below hb7
      replace hB1 := hB1.trans (hb7.mono hB1.size)
      clear hb7
      have hB2 := hB1.alloc hB1.size (.cells #[.int .i64 u2f, .int .i64 u2t, .bool u2s, .string u2d] 25)
      have a0 := hA.2 0 _ rfl
      have a1 := hA.2 1 _ rfl
      have a2 := hA.2 2 _ rfl
      have a3 := hA.2 3 _ rfl
      have a9 := hA.1
      rcases HZ.out with ⟨_, rfl, rfl⟩ | ⟨_, hE, hL, rfl, hu⟩
      · clear HZ
        go_wp2
        go_ret
        exact ⟨rfl, hB2⟩
      · clear HZ
        cases hu
        have hL' : (T.length : Int) = 8 + (data.size : Int) := by omega
        go_wp2
        go_ret
        exact ⟨by simp, hB2⟩
    · have DA2 : Hid (∀ v : World, Calls Try.prog 8 #[.int .i64 c, .int .i64 d, .agg #[.int .i64 xf, .int .i64 xt, .bool xs, .string xd]] v fun e w' => e = .returned (.string t) ∧ Below v.heap.size v w') := fun v => DA.out v rfl
      clear DA
      go_wp2_with fail
      refine (DA2.out _).mono ?_
      rintro e w8 ⟨rfl, hb8⟩
      replace hA := hA.below hb8
      replace hB1 := hB1.trans (hb8.mono hB1.size)
      clear hb8
      go_wp2_with fail
      refine (CR.out _).mono ?_
      rintro e w7 ⟨rfl, hb7⟩
      replace hA := hA.below hb7
      replace hB1 := hB1.trans (hb7.mono hB1.size)
      clear hb7
      have hB2 := hB1.alloc hB1.size (.cells #[.int .i64 u2f, .int .i64 u2t, .bool u2s, .string u2d] 25)
      have a0 := hA.2 0 _ rfl
      have a1 := hA.2 1 _ rfl
      have a2 := hA.2 2 _ rfl
      have a3 := hA.2 3 _ rfl
      have a9 := hA.1
      rcases HZ.out with ⟨_, rfl, rfl⟩ | ⟨_, hE, hL, rfl, hu⟩
      · clear HZ
        go_wp2
        go_ret
        exact ⟨rfl, hB2⟩
      · clear HZ
        cases hu
        have hL' : (T.length : Int) = 8 + (data.size : Int) := by omega
        go_wp2
        go_ret
        exact ⟨by simp, hB2⟩
end Go.Proofs.Ytjdellkdnempkaa
