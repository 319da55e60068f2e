/-
  Tunnels: nets, what is carried; the bytes of a VXLAN.
-/
import Derived.Test.YtnheppkjeoiipaaIps3
namespace Go.Proofs.Ytnheppkjeoiipaa
open Go.RowKit Go.PlainAid
def netB (n : Int) : Bool := inB n 0 16777215
def carB (d : ByteArray) : Bool := decide (d.size ≤ 65000)
def vxHead (net : Int) : List UInt8 := be 1 8 ++ be 3 0 ++ be 3 net ++ be 1 0
def vxText (net : Int) (data : ByteArray) : List UInt8 := if netB net && carB data then vxHead net ++ bl data else []
theorem ret_strb {a b : ByteArray} (h : a = b) : Ending.returned (.string a) = .returned (.string b) := by rw [h]
set_option maxRecDepth 100000 in
theorem s_Net (n : Int) (w : World) : Calls Try.prog 39 #[.int .i64 n] w fun e w' => e = .returned (.bool (netB n)) ∧ w' = w := by
  go_enter Try.func39, Try.ntmps39
  go_wp2_with (go_at_call 56; refine (s_In _ _ _ _).mono ?_; rintro e wz ⟨rfl, hz⟩; rw [hz]; clear hz wz)
  go_ret
  exact ⟨rfl, rfl⟩
set_option maxRecDepth 100000 in
theorem s_Long (d : ByteArray) (w : World) (hd : d.size ≤ 1099511627776) : Calls Try.prog 41 #[.string d] w fun e w' => e = .returned (.bool (!carB d)) ∧ w' = w := by
  go_enter Try.func41, Try.ntmps41
  go_wp2
  go_ret
  exact ⟨ret_bool (by unfold carB; rw [Bool.eq_iff_iff]; simp; omega), rfl⟩
set_option maxRecDepth 100000 in
theorem i_isNet (n : Int) (w : World) : Calls Try.prog 74 #[.int .i64 n] w fun e w' => e = .returned (.bool (netB n)) ∧ w' = w := by
  go_enter Try.func74, Try.ntmps74
  by_cases h0 : 0 ≤ n
  · go_wp2
    go_ret
    exact ⟨ret_bool (by unfold netB inB; rw [Bool.eq_iff_iff]; simp; omega), rfl⟩
  · go_wp2
    go_ret
    exact ⟨ret_bool (by unfold netB inB; rw [Bool.eq_iff_iff]; simp; omega), rfl⟩
theorem i_Bytes (k n : Int) (u : World) (k0 : 1 ≤ k) (k1 : k ≤ 7) (n0 : 0 ≤ n) (n1 : n < 256 ^ k.toNat) (n2 : n ≤ 9223372036854775807) : Calls Try.prog 88 #[.int .i64 n, .int .i64 k] u fun e w' => e = .returned (.string (str (be k.toNat n))) ∧ Below u.heap.size u w' := by
  have := i_BytesOf n k u n2
  rw [okB_of k0 k1 n0 n1] at this
  exact this
set_option maxRecDepth 100000 in
theorem i_vxRight (net : Int) (data : ByteArray) (w : World) : Calls Try.prog 129 #[.agg #[.int .i64 net, .string data]] w fun e w' => e = .returned (.bool (netB net)) ∧ Below w.heap.size w w' := by
  go_enter Try.func129, Try.ntmps129
  go_wp2_with (go_at_call 74; refine (i_isNet _ _).mono ?_; rintro e wz ⟨rfl, hz⟩; rw [hz]; clear hz wz)
  go_ret
  exact ⟨rfl, (Below.refl _ w).alloc (Nat.le_refl _) _⟩
set_option maxRecDepth 100000 in
theorem i_vxCar (net : Int) (data : ByteArray) (w : World) : Calls Try.prog 127 #[.agg #[.int .i64 net, .string data]] w fun e w' => e = .returned (.string data) ∧ Below w.heap.size w w' := by
  go_enter Try.func127, Try.ntmps127
  go_wp2
  go_ret
  exact ⟨rfl, (Below.refl _ w).alloc (Nat.le_refl _) _⟩
set_option maxRecDepth 100000 in
set_option maxHeartbeats 800000 in
theorem i_vxHead (net : Int) (data : ByteArray) (w : World) (h0 : 0 ≤ net) (h1 : net ≤ 16777215) : Calls Try.prog 128 #[.agg #[.int .i64 net, .string data]] w fun e w' => e = .returned (.string (str (vxHead net))) ∧ Below w.heap.size w w' := by
  have B : Hid (∀ (k n : Int) (u : World), 1 ≤ k → k ≤ 7 → 0 ≤ n → n < 256 ^ k.toNat → n ≤ 9223372036854775807 → Calls Try.prog 88 #[.int .i64 n, .int .i64 k] u fun e w' => e = .returned (.string (str (be k.toNat n))) ∧ Below u.heap.size u w') := fun k n u a b c d e => i_Bytes k n u a b c d e
  have hA : Bx (w.alloc (.cells #[.int .i64 net, .string data] 92)) w.heap.size [.int .i64 net, .string data] := Bx.new w _ _
  have hB : Below w.heap.size w (w.alloc (.cells #[.int .i64 net, .string data] 92)) := (Below.refl _ w).alloc (Nat.le_refl _) _
  have HS : Hid (str (be 1 8) ++ str (be 3 0) ++ str (be 3 net) ++ str (be 1 0) = str (vxHead net)) := by
    show _ = _
    simp only [str_app]; rfl
  have b1 : ∀ n, (be 1 n).length = 1 := fun n => be_length 1 n
  have b3 : ∀ n, (be 3 n).length = 3 := fun n => be_length 3 n
  go_enter Try.func128, Try.ntmps128
  go_wp2_with fail
  generalize hW : w.alloc _ = w1 at *
  clear hW
  have hne := BW.some w1
  have a0 := fun u : BW w1 => (hA.ofBW u).2 0 _ rfl
  refine wp_region_below (by kernel_rfl) (by kernel_rfl) ?_
  repeat (go_big_quiet_step (first | (go_at_call 88; exact Calls.into (B.out _ _ _ (by decide) (by decide) (by omega) (by simp only [Int.reduceToNat, Int.reducePow]; omega) (by omega)))))
  refine wpQuiet_nil ?_
  intro _ hw'
  obtain ⟨u, hw''⟩ := hw'
  subst hw''
  rw [HS.out]
  clear a0 hne HS
  go_wp2
  go_ret
  exact ⟨rfl, hB.trans (u.le.mono hB.size)⟩
set_option maxRecDepth 100000 in
set_option maxHeartbeats 800000 in
theorem i_tunVx (net : Int) (data : ByteArray) (w : World) (hd : data.size ≤ 1099511627776) : Calls Try.prog 30 #[.iface 92 (.agg #[.int .i64 net, .string data])] w fun e w' => e = .returned (.string (str (vxText net data))) ∧ Below w.heap.size w w' := by
  have CR : Hid (∀ u : World, Calls Try.prog 129 #[.agg #[.int .i64 net, .string data]] u fun e w' => e = .returned (.bool (netB net)) ∧ Below u.heap.size u w') := fun u => i_vxRight net data u
  have CC : Hid (∀ u : World, Calls Try.prog 127 #[.agg #[.int .i64 net, .string data]] u fun e w' => e = .returned (.string data) ∧ Below u.heap.size u w') := fun u => i_vxCar net data u
  cases hn : netB net
  · rw [hn] at CR
    have HT : Hid (vxText net data = []) := by show _ = _; unfold vxText; rw [hn]; rfl
    go_enter Try.func30, Try.ntmps30
    go_wp2_with (go_at_call 129; refine (CR.out _).mono ?_; rintro e w1 ⟨rfl, hb1⟩)
    go_ret
    exact ⟨by rw [HT.out]; rfl, hb1⟩
  · rw [hn] at CR
    obtain ⟨h0, h1⟩ := of_inB hn
    have CH : Hid (∀ u : World, Calls Try.prog 128 #[.agg #[.int .i64 net, .string data]] u fun e w' => e = .returned (.string (str (vxHead net))) ∧ Below u.heap.size u w') := fun u => i_vxHead net data u h0 h1
    by_cases hc : data.size ≤ 65000
    · have HT : Hid (str (vxHead net) ++ data = str (vxText net data)) := by show _ = _; unfold vxText carB; rw [hn, str_app_bl]; simp [hc]
      have hl : (vxHead net).length = 8 := by simp only [vxHead, List.length_append, be_length]
      generalize vxText net data = tx at *
      generalize vxHead net = hx at *
      clear hn
      go_enter Try.func30, Try.ntmps30
      go_wp2_with fail
      go_at_call 129
      refine (CR.out _).mono ?_
      rintro e w1 ⟨rfl, hb1⟩
      go_wp2_with fail
      go_at_call 127
      refine (CC.out _).mono ?_
      rintro e w2 ⟨rfl, hb2⟩
      go_wp2_with fail
      go_at_call 128
      refine (CH.out _).mono ?_
      rintro e w3 ⟨rfl, hb3⟩
      go_wp2_with fail
      go_at_call 127
      refine (CC.out _).mono ?_
      rintro e w4 ⟨rfl, hb4⟩
      go_wp2
      go_ret
      have k1 := hb1.size
      have k2 := hb2.size
      have k3 := hb3.size
      exact ⟨ret_strb HT.out, ((hb1.trans (hb2.mono (by omega))).trans (hb3.mono (by omega))).trans (hb4.mono (by omega))⟩
    · have HT : Hid (vxText net data = []) := by show _ = _; unfold vxText carB; simp [hc]
      generalize vxText net data = tx at *
      clear hn
      go_enter Try.func30, Try.ntmps30
      go_wp2_with fail
      go_at_call 129
      refine (CR.out _).mono ?_
      rintro e w1 ⟨rfl, hb1⟩
      go_wp2_with fail
      go_at_call 127
      refine (CC.out _).mono ?_
      rintro e w2 ⟨rfl, hb2⟩
      go_wp2
      go_ret
      have k1 := hb1.size
      exact ⟨by rw [HT.out]; rfl, hb1.trans (hb2.mono (by omega))⟩
theorem bne_self_str (s : ByteArray) : (s.toList != s.toList) = false := by simp
end Go.Proofs.Ytnheppkjeoiipaa
