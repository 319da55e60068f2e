/-
  Tunnels: nets, what is carried; the bytes of a VXLAN.
-/
import Derived.Test.YtkeakjgojakanaaIps3
namespace Go.Proofs.Ytkeakjgojakanaa
open Go.RowKit Go.PlainAid
def netB (n : Int) : Bool := inB n 0 16777215
def carB (d : ByteArray) : Bool := decide (d.size ≤ 65000)
def vxHead (net : Int) : List UInt8 := be 1 8 ++ be 3 0 ++ be 3 net ++ be 1 0
def vxText (net : Int) (data : ByteArray) : List UInt8 := if netB net && carB data then vxHead net ++ bl data else []
theorem ret_strb {a b : ByteArray} (h : a = b) : Ending.returned (.string a) = .returned (.string b) := by rw [h]
set_option maxRecDepth 100000 in
theorem s_Net (n : Int) (w : World) : Calls Try.prog 55 #[.int .i64 n] w fun e w' => e = .returned (.bool (netB n)) ∧ w' = w := by
  go_enter Try.func55, Try.ntmps55
  go_wp2_with (go_at_call 53; refine (s_In _ _ _ _).mono ?_; rintro e wz ⟨rfl, hz⟩; rw [hz]; clear hz wz)
  go_ret
  exact ⟨rfl, rfl⟩
set_option maxRecDepth 100000 in
theorem i_isNet (n : Int) (w : World) : Calls Try.prog 116 #[.int .i64 n] w fun e w' => e = .returned (.bool (netB n)) ∧ w' = w := by
  go_enter Try.func116, Try.ntmps116
  by_cases h0 : 0 ≤ n
  · go_wp2
    go_ret
    exact ⟨ret_bool (by unfold netB inB; rw [Bool.eq_iff_iff]; simp; omega), rfl⟩
  · go_wp2
    go_ret
    exact ⟨ret_bool (by unfold netB inB; rw [Bool.eq_iff_iff]; simp; omega), rfl⟩
theorem bne_self_str (s : ByteArray) : (s.toList != s.toList) = false := by simp
end Go.Proofs.Ytkeakjgojakanaa
