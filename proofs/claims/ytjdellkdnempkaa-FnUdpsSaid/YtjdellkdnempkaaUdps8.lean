/-
  The walk of the law FnUdpBack: with addresses exchanged the same is read, with another one it is not.
-/
import Derived.Test.YtjdellkdnempkaaUdps7
import Derived.Test.YtjdellkdnempkaaUdps6
namespace Go.Proofs.Ytjdellkdnempkaa
open Go.RowKit Go.PlainAid
theorem bits_xor_nat (a b : Nat) (ha : a < 2 ^ 62) (hb : b < 2 ^ 62) : bits .xor .i64 (a : Int) (b : Int) = ((a ^^^ b : Nat) : Int) := by
  simp only [bits, BitVec.ofInt_natCast, BitVec.toNat_xor, BitVec.toNat_ofNat]
  have q1 : a % 2 ^ IntKind.bits .i64 = a := Nat.mod_eq_of_lt (Nat.lt_of_lt_of_le ha (by decide))
  have q2 : b % 2 ^ IntKind.bits .i64 = b := Nat.mod_eq_of_lt (Nat.lt_of_lt_of_le hb (by decide))
  rw [q1, q2]
  have := Nat.xor_lt_two_pow ha hb
  exact wraps_i64 _ (by omega) (by omega)
theorem xor_near (a d : Nat) (ha : a < 2 ^ 32) (h0 : 1 ≤ d) (h1 : d ≤ 255) : a ^^^ d < 2 ^ 32 ∧ a ^^^ d ≠ a ∧ (a ^^^ d) / 256 = a / 256 := by
  refine ⟨Nat.xor_lt_two_pow ha (by omega), fun e => ?_, ?_⟩
  · have : a ^^^ (a ^^^ d) = a ^^^ a := by rw [e]
    rw [← Nat.xor_assoc, Nat.xor_self, Nat.zero_xor] at this
    omega
  · have e := Nat.shiftRight_xor_distrib (a := a) (b := d) (i := 8)
    rw [Nat.shiftRight_eq_div_pow, Nat.shiftRight_eq_div_pow, Nat.shiftRight_eq_div_pow] at e
    have z : d / 2 ^ 8 = 0 := Nat.div_eq_of_lt (by omega)
    rw [z, Nat.xor_zero] at e
    exact e
theorem other_addr {a x : Int} (ha : 0 ≤ a ∧ a ≤ 4294967295) (_hx : 0 ≤ x) : (0 ≤ bits .xor .i64 a (1 + x % 255) ∧ bits .xor .i64 a (1 + x % 255) ≤ 4294967295) ∧ bits .xor .i64 a (1 + x % 255) ≠ a ∧ bits .xor .i64 a (1 + x % 255) / 256 = a / 256 := by
  obtain ⟨A, rfl⟩ := Int.eq_ofNat_of_zero_le ha.1
  obtain ⟨D, hD⟩ : ∃ D : Nat, 1 + x % 255 = (D : Int) := ⟨(1 + x % 255).toNat, by omega⟩
  rw [hD]
  have := xor_near A D (by omega) (by omega) (by omega)
  rw [bits_xor_nat A D (by omega) (by omega)]
  omega
theorem udpText_ok {a b : Int} {u : UdpV} (h : udpOk a b u = true) : udpText a b u = udpBytes a b u := by unfold udpText; rw [if_pos h]
theorem udpText_no {a b : Int} {u : UdpV} (h : udpOk a b u = false) : udpText a b u = [] := by unfold udpText; rw [h]; rfl
theorem udpBytes_some (a b : Int) (u : UdpV) : (udpBytes a b u).isEmpty = false := by
  have := udpBytes_length a b u
  cases h : udpBytes a b u with
  | nil => rw [h] at this; simp at this; omega
  | cons => rfl

set_option maxRecDepth 100000 in
set_option maxHeartbeats 3200000 in
theorem walk_FnUdpBack (C : Option Addr) (len cap : Nat) (zs : List Int) (w : World) (w0 : IsRow .u8 w C len cap zs) :
    Calls Try.prog 5 #[.slice C len cap] w fun e w' => e = .returned (.bool true) ∧ Below w.heap.size w w' := by
  have hl := row_len w0
  by_cases hz : 1048576 < len
  · go_enter Try.func5, Try.ntmps5
    go_wp2
    go_ret
    exact ⟨rfl, Below.refl _ _⟩
  · have hC := code_of_row w0 (by omega)
    clear w0
    go_enter Try.func5, Try.ntmps5
    go_wp2_with fail
    refine (big_no _ _ _ _ (by omega)).mono ?_
    rintro e w' ⟨rfl, hw'⟩
    rw [hw']
    clear hw' w'
    go_wp2_with fail
    refine (d_UdpBytes _ C len cap _ hC).mono ?_
    rintro e w1 ⟨a, b, u, rfl, hsz, hB⟩
    have CI : Hid (∀ v : World, Calls Try.prog 8 #[.int .i64 a, .int .i64 b, .agg (udpL u)] v fun e w' => e = .returned (.string (str (udpText a b u))) ∧ Below v.heap.size v w') := fun v => i_UdpBytes a b u v (by omega)
    have CS : Hid (∀ v : World, Calls Try.prog 12 #[.int .i64 a, .int .i64 b, .agg (udpL u)] v fun e w' => e = .returned (.string (str (udpText a b u))) ∧ Below v.heap.size v w') := fun v => s_UdpBytes a b u v (by omega)
    have hA := Bx.new w1 (udpL u) 25
    have hB1 := hB.alloc hB.size (.cells (udpL u) 25)
    cases hk : udpOk a b u
    · rw [udpText_no hk] at CI CS
      clear hk hB
      obtain ⟨fr, to, sn, data⟩ := u
      simp only [udpL] at *
      go_wp2_with fail
      refine (CI.out _).mono ?_
      rintro e w2 ⟨rfl, hb2⟩
      replace hA := hA.below hb2
      replace hB1 := hB1.trans (hb2.mono hB1.size)
      clear hb2
      have a0 := hA.2 0 _ rfl
      have a1 := hA.2 1 _ rfl
      have a2 := hA.2 2 _ rfl
      have a3 := hA.2 3 _ rfl
      go_wp2_with fail
      refine (CS.out _).mono ?_
      rintro e w3 ⟨rfl, hb3⟩
      replace hA := hA.below hb3
      replace hB1 := hB1.trans (hb3.mono hB1.size)
      clear hb3 a0 a1 a2 a3
      have a0 := hA.2 0 _ rfl
      have a1 := hA.2 1 _ rfl
      have a2 := hA.2 2 _ rfl
      have a3 := hA.2 3 _ rfl
      go_wp2_with fail
      refine (CS.out _).mono ?_
      rintro e w4 ⟨rfl, hb4⟩
      replace hB1 := hB1.trans (hb4.mono hB1.size)
      go_wp2
      go_ret
      exact ⟨rfl, hB1⟩
    · have hF := udpOk_facts hk
      have hE := udpBytes_some a b u
      have CR : Hid (∀ v : World, Calls Try.prog 10 #[.int .i64 b, .int .i64 a, .string (str (udpBytes a b u))] v fun e w' => e = .returned (.tuple #[.agg (udpL u), .bool true]) ∧ Below v.heap.size v w') := fun v => by
        have := i_ReadUdp b a (str (udpBytes a b u)) v (by rw [str_size, udpBytes_length]; omega)
        unfold readUdp at this
        rw [ok_swap hk, if_pos rfl, rd_udpBytes hk] at this
        exact this
      have CO : Hid (∀ (x : Int) (v : World), 0 ≤ x → ∃ t : UdpV, Calls Try.prog 10 #[.int .i64 (bits .xor .i64 a (1 + x % 255)), .int .i64 b, .string (str (udpBytes a b u))] v fun e w' => e = .returned (.tuple #[.agg (udpL t), .bool (!u.sum)]) ∧ Below v.heap.size v w') := fun x v hx => by
        have := i_ReadUdp (bits .xor .i64 a (1 + x % 255)) b (str (udpBytes a b u)) v (by rw [str_size, udpBytes_length]; omega)
        have ho := other_addr hF.2.2.2.1 hx
        rw [ok_other hk ho.1 ho.2.1 ho.2.2] at this
        exact ⟨_, this⟩
      rw [udpText_ok hk] at CI CS
      have hlen : (udpBytes a b u).length ≤ 70000 := by rw [udpBytes_length]; omega
      generalize udpBytes a b u = T at *
      clear hk hF
      obtain ⟨fr, to, sn, data⟩ := u
      simp only [udpL] at *
      go_wp2_with fail
      refine (CI.out _).mono ?_
      rintro e w2 ⟨rfl, hb2⟩
      replace hA := hA.below hb2
      replace hB1 := hB1.trans (hb2.mono hB1.size)
      clear hb2
      have a0 := hA.2 0 _ rfl
      have a1 := hA.2 1 _ rfl
      have a2 := hA.2 2 _ rfl
      have a3 := hA.2 3 _ rfl
      go_wp2_with fail
      refine (CS.out _).mono ?_
      rintro e w3 ⟨rfl, hb3⟩
      replace hA := hA.below hb3
      replace hB1 := hB1.trans (hb3.mono hB1.size)
      clear hb3 a0 a1 a2 a3
      go_wp2_with fail
      refine (CR.out _).mono ?_
      rintro e w4 ⟨rfl, hb4⟩
      replace hA := hA.below hb4
      replace hB1 := hB1.trans (hb4.mono hB1.size)
      clear hb4
      have hX := Bx.new w4 #[.int .i64 fr, .int .i64 to, .bool sn, .string data] 25
      have hb5 := (Below.refl _ w4).alloc (Nat.le_refl _) (.cells #[.int .i64 fr, .int .i64 to, .bool sn, .string data] 25)
      replace hA := hA.below hb5
      replace hB1 := hB1.trans (hb5.mono hB1.size)
      clear hb5
      have hC5 := hC.below hB1
      go_wp2_with fail
      refine (l_byteOf _ C len cap 4 _ (by omega) hC5).mono ?_
      rintro e w6 ⟨x, rfl, hx0, hx1, hw6⟩
      rw [hw6]
      clear hw6 w6
      obtain ⟨⟨tf, tt, ts, td⟩, CO'⟩ := CO.out x (w4.alloc (.cells #[.int .i64 fr, .int .i64 to, .bool sn, .string data] 25)) hx0
      have CO2 : Hid (Calls Try.prog 10 #[.int .i64 (bits .xor .i64 a (1 + x % 255)), .int .i64 b, .string (str T)] (w4.alloc (.cells #[.int .i64 fr, .int .i64 to, .bool sn, .string data] 25)) fun e w' => e = .returned (.tuple #[.agg #[.int .i64 tf, .int .i64 tt, .bool ts, .string td], .bool (!sn)]) ∧ Below (w4.alloc (.cells #[.int .i64 fr, .int .i64 to, .bool sn, .string data] 25)).heap.size (w4.alloc (.cells #[.int .i64 fr, .int .i64 to, .bool sn, .string data] 25)) w') := CO'
      clear CO CO'
      go_wp2_with fail
      refine CO2.out.mono ?_
      rintro e w7 ⟨rfl, hb7⟩
      replace hA := hA.below hb7
      replace hX := hX.below hb7
      replace hB1 := hB1.trans (hb7.mono hB1.size)
      clear hb7
      have hb8 := (Below.refl _ w7).alloc (Nat.le_refl _) (.cells #[.int .i64 tf, .int .i64 tt, .bool ts, .string td] 25)
      replace hB1 := hB1.trans (hb8.mono hB1.size)
      have a0 := hA.2 0 _ rfl
      have a1 := hA.2 1 _ rfl
      have a2 := hA.2 2 _ rfl
      have a3 := hA.2 3 _ rfl
      have x0 := hX.2 0 _ rfl
      have x1 := hX.2 1 _ rfl
      have x2 := hX.2 2 _ rfl
      have x3 := hX.2 3 _ rfl
      have a9 := hA.1
      have x9 := hX.1
      go_wp2
      go_ret
      exact ⟨by simp, hB1⟩
end Go.Proofs.Ytjdellkdnempkaa
