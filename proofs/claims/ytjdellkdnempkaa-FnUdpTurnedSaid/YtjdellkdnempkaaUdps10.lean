/-
  The walk of the law FnUdpTurned.
-/
import Derived.Test.YtjdellkdnempkaaUdps9
namespace Go.Proofs.Ytjdellkdnempkaa
open Go.RowKit Go.PlainAid
set_option maxRecDepth 100000 in
set_option maxHeartbeats 3200000 in
theorem walk_FnUdpTurned (C : Option Addr) (len cap : Nat) (zs : List Int) (w : World) (w0 : IsRow .u8 w C len cap zs) :
    Calls Try.prog 4 #[.slice C len cap] w fun e w' => e = .returned (.bool true) ∧ Below w.heap.size w w' := by
  have hl := row_len w0
  by_cases hz : 1048576 < len
  · go_enter Try.func4, Try.ntmps4
    go_wp2
    go_ret
    exact ⟨rfl, Below.refl _ _⟩
  · have hC := code_of_row w0 (by omega)
    clear w0
    go_enter Try.func4, Try.ntmps4
    go_wp2_with fail
    refine (big_no _ _ _ _ (by omega)).mono ?_
    rintro e w' ⟨rfl, hw'⟩
    rw [hw']
    clear hw' w'
    go_wp2_with fail
    refine (d_UdpBytes _ C len cap _ hC).mono ?_
    rintro e w1 ⟨a, b, u0, rfl, hsz, hB⟩
    obtain ⟨u, hu⟩ : ∃ u : UdpV, u = ⟨u0.from_, u0.to_, true, u0.data⟩ := ⟨_, rfl⟩
    have hsu : u.sum = true := by rw [hu]
    have hdu : u.data = u0.data := by rw [hu]
    have CI : Hid (∀ v : World, Calls Try.prog 8 #[.int .i64 a, .int .i64 b, .agg (udpL u)] v fun e w' => e = .returned (.string (str (udpText a b u))) ∧ Below v.heap.size v w') := fun v => i_UdpBytes a b u v (by rw [hdu]; omega)
    have CS : Hid (∀ v : World, Calls Try.prog 12 #[.int .i64 a, .int .i64 b, .agg (udpL u)] v fun e w' => e = .returned (.string (str (udpText a b u))) ∧ Below v.heap.size v w') := fun v => s_UdpBytes a b u v (by rw [hdu]; omega)
    have hA := Bx.new w1 (udpL u) 25
    have hB1 := hB.alloc hB.size (.cells (udpL u) 25)
    cases hk : udpOk a b u
    · rw [udpText_no hk] at CI CS
      clear hk hB
      subst hu
      obtain ⟨fr, to, sn, data⟩ := u0
      simp only [udpL] at *
      go_wp2_with fail
      refine (CI.out _).mono ?_
      rintro e w2 ⟨rfl, hb2⟩
      replace hA := hA.below hb2
      replace hB1 := hB1.trans (hb2.mono hB1.size)
      clear hb2
      have a0 := hA.2 0 _ rfl
      have a1 := hA.2 1 _ rfl
      have a2 := hA.2 2 _ rfl
      have a3 := hA.2 3 _ rfl
      go_wp2_with fail
      refine (CS.out _).mono ?_
      rintro e w3 ⟨rfl, hb3⟩
      replace hA := hA.below hb3
      replace hB1 := hB1.trans (hb3.mono hB1.size)
      clear hb3 a0 a1 a2 a3
      have a0 := hA.2 0 _ rfl
      have a1 := hA.2 1 _ rfl
      have a2 := hA.2 2 _ rfl
      have a3 := hA.2 3 _ rfl
      go_wp2_with fail
      refine (CS.out _).mono ?_
      rintro e w4 ⟨rfl, hb4⟩
      replace hB1 := hB1.trans (hb4.mono hB1.size)
      go_wp2
      go_ret
      exact ⟨rfl, hB1⟩
    · have hF := udpOk_facts hk
      have hE := udpBytes_some a b u
      have hlen := udpBytes_length a b u
      have CR : Hid (∀ v : World, Calls Try.prog 10 #[.int .i64 a, .int .i64 b, .string (str (udpBytes a b u))] v fun e w' => e = .returned (.tuple #[.agg (udpL u), .bool true]) ∧ Below v.heap.size v w') := fun v => by
        have := i_ReadUdp a b (str (udpBytes a b u)) v (by rw [str_size, udpBytes_length]; omega)
        unfold readUdp at this
        rw [ok_udpBytes hk, if_pos rfl, rd_udpBytes hk] at this
        exact this
      have CO : Hid (∀ (i : Nat) (c : UInt8) (v : World), i < (udpBytes a b u).length → i ≠ 6 → i ≠ 7 → (udpBytes a b u)[i]? ≠ some c → ∃ t : UdpV, Calls Try.prog 10 #[.int .i64 a, .int .i64 b, .string (str ((udpBytes a b u).set i c))] v fun e w' => e = .returned (.tuple #[.agg (udpL t), .bool false]) ∧ Below v.heap.size v w') := fun i c v hi h6 h7 hc => by
        have := i_ReadUdp a b (str ((udpBytes a b u).set i c)) v (by rw [str_size, List.length_set, udpBytes_length]; omega)
        rw [ok_turned hk hsu i hi h6 h7 c (fun e => hc (by rw [List.getElem?_eq_getElem hi, e]))] at this
        exact ⟨_, this⟩
      rw [udpText_ok hk] at CI CS
      have hlen8 : 8 ≤ (udpBytes a b u).length := by omega
      have hlen9 : (udpBytes a b u).length ≤ 70000 := by omega
      generalize udpBytes a b u = T at *
      clear hk hF hlen hdu hsu hB
      subst hu
      obtain ⟨fr, to, sn, data⟩ := u0
      simp only [udpL] at *
      have hTs : (str T).size = T.length := str_size T
      go_wp2_with fail
      refine (CI.out _).mono ?_
      rintro e w2 ⟨rfl, hb2⟩
      replace hA := hA.below hb2
      replace hB1 := hB1.trans (hb2.mono hB1.size)
      clear hb2
      have a0 := hA.2 0 _ rfl
      have a1 := hA.2 1 _ rfl
      have a2 := hA.2 2 _ rfl
      have a3 := hA.2 3 _ rfl
      go_wp2_with fail
      refine (CS.out _).mono ?_
      rintro e w3 ⟨rfl, hb3⟩
      replace hB1 := hB1.trans (hb3.mono hB1.size)
      clear hb3 a0 a1 a2 a3 hA
      have hC3 := hC.below hB1
      go_wp2_with fail
      refine (l_place _ C len cap _ _ (by omega) hC3).mono ?_
      rintro e w4 ⟨x, rfl, hx0, hx1, hw4⟩
      rw [hw4]
      clear hw4 w4
      obtain ⟨i, rfl⟩ := Int.eq_ofNat_of_zero_le hx0
      have hcase : i = 6 ∨ i = 7 ∨ i ≠ 6 ∧ i ≠ 7 := by omega
      obtain ⟨k, hk⟩ : ∃ k : Nat, (i = 6 ∨ i = 7) ∧ k = 5 ∨ (i ≠ 6 ∧ i ≠ 7) ∧ k = i := by
        rcases hcase with h | h | h
        · exact ⟨5, .inl ⟨.inl h, rfl⟩⟩
        · exact ⟨5, .inl ⟨.inr h, rfl⟩⟩
        · exact ⟨i, .inr ⟨h, rfl⟩⟩
      have hk1 : k < T.length := by omega
      have hk6 : k ≠ 6 := by omega
      have hk7 : k ≠ 7 := by omega
      have CT : Hid (∀ v : World, Code v w.heap.size C len → Calls Try.prog 14 #[.string (str T), .int .i64 (k : Int), .slice C len cap] v fun e w' => ∃ c : UInt8, T[k]? ≠ some c ∧ e = .returned (.string (str (T.set k c))) ∧ Below v.heap.size v w') := fun v hv => l_turned _ C len cap (str T) k v (by rw [hTs]; exact hk1) (by rw [hTs]; omega) hv
      rcases hk with ⟨rfl | rfl, rfl⟩ | ⟨⟨hi6, hi7⟩, rfl⟩
      all_goals
        try have d6 : ((k : Int) == 6) = false := by simp; omega
        try have d7 : ((k : Int) == 7) = false := by simp; omega
        go_wp2_with fail
        refine (CR.out _).mono ?_
        rintro e w5 ⟨rfl, hb5⟩
        have hB5 := hB1.trans (hb5.mono hB1.size)
        have hB6 := hB5.alloc hB5.size (.cells #[.int .i64 fr, .int .i64 to, .bool true, .string data] 25)
        clear hb5 hB5
        have hC6 := hC.below hB6
        go_wp2_with fail
        refine (CT.out _ hC6).mono ?_
        rintro e w7 ⟨c, hcn, rfl, hb7⟩
        have hB7 := hB6.trans (hb7.mono hB6.size)
        clear hb7
        obtain ⟨⟨tf, tt, ts, td⟩, CO'⟩ := CO.out _ c w7 hk1 hk6 hk7 hcn
        have CO2 : Hid (Calls Try.prog 10 #[.int .i64 a, .int .i64 b, .string (str (T.set _ c))] w7 fun e w' => e = .returned (.tuple #[.agg #[.int .i64 tf, .int .i64 tt, .bool ts, .string td], .bool false]) ∧ Below w7.heap.size w7 w') := CO'
        clear CO'
        go_wp2_with fail
        refine CO2.out.mono ?_
        rintro e w8 ⟨rfl, hb8⟩
        have hB8 := hB7.trans (hb8.mono hB7.size)
        have hB9 := hB8.alloc hB8.size (.cells #[.int .i64 tf, .int .i64 tt, .bool ts, .string td] 25)
        go_wp2
        go_ret
        exact ⟨rfl, hB9⟩
end Go.Proofs.Ytjdellkdnempkaa
