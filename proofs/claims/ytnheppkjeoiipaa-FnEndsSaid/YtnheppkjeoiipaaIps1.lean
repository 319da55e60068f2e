/-
  Contracts on datagrams: whether it is one, of the program and of the model.
-/
import Derived.Test.YtnheppkjeoiipaaWalks4
import Derived.Test.YtnheppkjeoiipaaStrs
namespace Go.Proofs.Ytnheppkjeoiipaa
open Go.RowKit Go.PlainAid

/-- a datagram's fields -/
structure IpV where
  tos : Int
  id : Int
  df : Bool
  mf : Bool
  off : Int
  ttl : Int
  pro : Int
  src : Int
  dst : Int
  opts : ByteArray
  data : ByteArray
/-- the cells of a datagram -/
def ipL (p : IpV) : Array Value := #[.int .i64 p.tos, .int .i64 p.id, .bool p.df, .bool p.mf, .int .i64 p.off, .int .i64 p.ttl, .int .i64 p.pro, .int .i64 p.src, .int .i64 p.dst, .string p.opts, .string p.data]

def byteB (n : Int) : Bool := inB n 0 255
def addrB (n : Int) : Bool := inB n 0 4294967295
def optsB (o : ByteArray) : Bool := decide (o.size ≤ 40) && decide (o.size % 4 = 0)
def lenB (p : IpV) : Bool := decide (20 + p.opts.size + p.data.size ≤ 65535)
def endB (p : IpV) : Bool := decide (8 * p.off + (p.data.size : Int) ≤ 65515)
def mulB (p : IpV) : Bool := !p.mf || decide (p.data.size % 8 = 0)
def placeB (p : IpV) : Bool := inB p.off 0 8191 && lenB p && endB p && mulB p
def ipOk (p : IpV) : Bool := byteB p.tos && inB p.id 0 65535 && byteB p.ttl && byteB p.pro && addrB p.src && addrB p.dst && optsB p.opts && placeB p

theorem i_isByte (n : Int) (w : World) : Calls Try.prog 91 #[.int .i64 n] w fun e w' => e = .returned (.bool (byteB n)) ∧ w' = w := by
  have hc : n < 0 ∨ 0 ≤ n ∧ n ≤ 255 ∨ 0 ≤ n ∧ 255 < n := by omega
  rcases hc with hc | ⟨h1, h2⟩ | ⟨h1, h2⟩
  all_goals
    go_enter Try.func91, Try.ntmps91
    go_wp2
    go_ret
    exact ⟨ret_bool (by unfold byteB inB; rw [Bool.eq_iff_iff]; simp <;> omega), rfl⟩
theorem i_isAddr (n : Int) (w : World) : Calls Try.prog 52 #[.int .i64 n] w fun e w' => e = .returned (.bool (addrB n)) ∧ w' = w := by
  have hc : n < 0 ∨ 0 ≤ n ∧ n ≤ 4294967295 ∨ 0 ≤ n ∧ 4294967295 < n := by omega
  rcases hc with hc | ⟨h1, h2⟩ | ⟨h1, h2⟩
  all_goals
    go_enter Try.func52, Try.ntmps52
    go_wp2
    go_ret
    exact ⟨ret_bool (by unfold addrB inB; rw [Bool.eq_iff_iff]; simp <;> omega), rfl⟩
theorem s_Byte (n : Int) (w : World) : Calls Try.prog 67 #[.int .i64 n] w fun e w' => e = .returned (.bool (byteB n)) ∧ w' = w := by
  go_enter Try.func67, Try.ntmps67
  go_wp2_with (go_at_call 56; refine (s_In _ _ _ _).mono ?_; rintro e w' ⟨rfl, rfl⟩)
  go_ret
  exact ⟨rfl, rfl⟩
theorem s_Addr (n : Int) (w : World) : Calls Try.prog 57 #[.int .i64 n] w fun e w' => e = .returned (.bool (addrB n)) ∧ w' = w := by
  go_enter Try.func57, Try.ntmps57
  go_wp2_with (go_at_call 56; refine (s_In _ _ _ _).mono ?_; rintro e w' ⟨rfl, rfl⟩)
  go_ret
  exact ⟨rfl, rfl⟩
end Go.Proofs.Ytnheppkjeoiipaa
