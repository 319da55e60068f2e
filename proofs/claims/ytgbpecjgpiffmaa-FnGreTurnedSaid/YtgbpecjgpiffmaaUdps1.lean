/-
  Contracts on what ports send: whether it is so, its sum, its bytes, of the program and of the model.
-/
import Derived.Test.YtgbpecjgpiffmaaIps3
import Derived.Test.YtgbpecjgpiffmaaShelf
namespace Go.Proofs.Ytgbpecjgpiffmaa
open Go.RowKit Go.PlainAid

structure UdpV where
  from_ : Int
  to_ : Int
  sum : Bool
  data : ByteArray
def udpL (u : UdpV) : Array Value := #[.int .i64 u.from_, .int .i64 u.to_, .bool u.sum, .string u.data]
def udpB (u : UdpV) : Bool := inB u.from_ 0 65535 && inB u.to_ 0 65535 && decide (u.data.size ≤ 65507)
def udpOk (s d : Int) (u : UdpV) : Bool := udpB u && addrB s && addrB d
def udpAhead (s d : Int) (u : UdpV) : List UInt8 := be 4 s ++ be 4 d ++ be 2 17 ++ be 2 (8 + (u.data.size : Int)) ++ (be 2 u.from_ ++ be 2 u.to_) ++ be 2 (8 + (u.data.size : Int))
def udpSumOf (s d : Int) (u : UdpV) : Int := sumOf (udpAhead s d u ++ bl u.data)
def no0 (n : Int) : Int := if n = 0 then 65535 else n
def udpSum (s d : Int) (u : UdpV) : Int := if u.sum then no0 (udpSumOf s d u) else 0
def udpBytes (s d : Int) (u : UdpV) : List UInt8 := be 2 u.from_ ++ be 2 u.to_ ++ be 2 (8 + (u.data.size : Int)) ++ be 2 (udpSum s d u) ++ bl u.data
def udpText (s d : Int) (u : UdpV) : List UInt8 := if udpOk s d u then udpBytes s d u else []
theorem udpAhead_length (s d : Int) (u : UdpV) : (udpAhead s d u).length = 18 := by simp only [udpAhead, List.length_append, be_length]
theorem psum_be20 : psum (be 2 0) = 0 := psum_be2 (by decide) (by decide)
theorem sum_noughts (a b : List UInt8) (h : a.length % 2 = 0) : sumOf (a ++ be 2 0 ++ b) = sumOf (a ++ b) := by
  unfold sumOf
  rw [List.append_assoc, psum_append _ _ h, psum_append _ _ h, psum_append _ _ (by rw [be_length]), psum_be20, Int.zero_add]
theorem no0_bd {n : Int} (h : 0 ≤ n ∧ n ≤ 65535) : 1 ≤ no0 n ∧ no0 n ≤ 65535 := by unfold no0; split <;> omega
theorem udpSum_bd (s d : Int) (u : UdpV) : 0 ≤ udpSum s d u ∧ udpSum s d u ≤ 65535 := by
  unfold udpSum; split
  · have := no0_bd (sumOf_bd (udpAhead s d u ++ bl u.data)); unfold udpSumOf; omega
  · omega

set_option maxRecDepth 100000 in
theorem i_sumOver (bk c : Nat) (xs : List ByteArray) (w : World) (hA : Bx w bk (xs.map .string)) (hc : xs.length ≤ c) (hn : xs.length ≤ 100) (hl : (Lib.join (xs.map (·.data.toList)) []).length ≤ 1099511627776) :
    Calls Try.prog 67 #[.slice (some ⟨bk, 0, none⟩) xs.length c] w fun e w' => e = .returned (.int .i64 (sumOf (Lib.join (xs.map (·.data.toList)) []))) ∧ Below w.heap.size w w' := by
  have CJ : Hid (∀ u : World, u = w → Calls Try.prog 79 #[.slice (some ⟨bk, 0, none⟩) xs.length c, .string ⟨#[]⟩] u fun e w' => e = .returned (.string (str (Lib.join (xs.map (·.data.toList)) []))) ∧ Below u.heap.size u w') := by
    rintro u rfl
    exact Try.strings_Join bk 0 c xs ⟨#[]⟩ u (fun j x hj => by have := hA.2 j (.string x) (by rw [List.getElem?_map, hj]; rfl); simpa using this) hA.1 (by omega) hc (by show (Lib.join _ []).length ≤ _; omega)
  have CS : Hid (∀ u : World, Calls Try.prog 78 #[.string (str (Lib.join (xs.map (·.data.toList)) []))] u fun e w' => e = .returned (.int .i64 (sumOf (Lib.join (xs.map (·.data.toList)) []))) ∧ w' = u) := fun u => i_SumOf _ u (by rw [str_size]; exact hl)
  generalize Lib.join (xs.map (·.data.toList)) [] = jn at *
  generalize xs.length = n at *
  clear hA
  go_enter Try.func67, Try.ntmps67
  go_wp2_with (first | (go_at_call 79; refine (CJ.out _ rfl).mono ?_; rintro e w1 ⟨rfl, hb1⟩) | (go_at_call 78; refine (CS.out _).mono ?_; rintro e w2 ⟨rfl, rfl⟩))
  go_ret
  exact ⟨rfl, hb1⟩

end Go.Proofs.Ytgbpecjgpiffmaa
