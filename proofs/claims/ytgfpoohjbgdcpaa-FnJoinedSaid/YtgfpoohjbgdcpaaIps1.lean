/-
  Contracts on datagrams: whether it is one, of the program and of the model.
-/
import Derived.Test.YtgfpoohjbgdcpaaWalks4
import Derived.Test.YtgfpoohjbgdcpaaStrs
namespace Go.Proofs.Ytgfpoohjbgdcpaa
open Go.RowKit Go.PlainAid

/-- a datagram's fields -/
structure IpV where
  tos : Int
  id : Int
  df : Bool
  mf : Bool
  off : Int
  ttl : Int
  pro : Int
  src : Int
  dst : Int
  opts : ByteArray
  data : ByteArray
/-- the cells of a datagram -/
def ipL (p : IpV) : Array Value := #[.int .i64 p.tos, .int .i64 p.id, .bool p.df, .bool p.mf, .int .i64 p.off, .int .i64 p.ttl, .int .i64 p.pro, .int .i64 p.src, .int .i64 p.dst, .string p.opts, .string p.data]

def byteB (n : Int) : Bool := inB n 0 255
def addrB (n : Int) : Bool := inB n 0 4294967295
def optsB (o : ByteArray) : Bool := decide (o.size ≤ 40) && decide (o.size % 4 = 0)
def lenB (p : IpV) : Bool := decide (20 + p.opts.size + p.data.size ≤ 65535)
def endB (p : IpV) : Bool := decide (8 * p.off + (p.data.size : Int) ≤ 65515)
def mulB (p : IpV) : Bool := !p.mf || decide (p.data.size % 8 = 0)
def placeB (p : IpV) : Bool := inB p.off 0 8191 && lenB p && endB p && mulB p
def ipOk (p : IpV) : Bool := byteB p.tos && inB p.id 0 65535 && byteB p.ttl && byteB p.pro && addrB p.src && addrB p.dst && optsB p.opts && placeB p

theorem i_isByte (n : Int) (w : World) : Calls Try.prog 42 #[.int .i64 n] w fun e w' => e = .returned (.bool (byteB n)) ∧ w' = w := by
  have hc : n < 0 ∨ 0 ≤ n ∧ n ≤ 255 ∨ 0 ≤ n ∧ 255 < n := by omega
  rcases hc with hc | ⟨h1, h2⟩ | ⟨h1, h2⟩
  all_goals
    go_enter Try.func42, Try.ntmps42
    go_wp2
    go_ret
    exact ⟨ret_bool (by unfold byteB inB; rw [Bool.eq_iff_iff]; simp <;> omega), rfl⟩
theorem i_isAddr (n : Int) (w : World) : Calls Try.prog 44 #[.int .i64 n] w fun e w' => e = .returned (.bool (addrB n)) ∧ w' = w := by
  have hc : n < 0 ∨ 0 ≤ n ∧ n ≤ 4294967295 ∨ 0 ≤ n ∧ 4294967295 < n := by omega
  rcases hc with hc | ⟨h1, h2⟩ | ⟨h1, h2⟩
  all_goals
    go_enter Try.func44, Try.ntmps44
    go_wp2
    go_ret
    exact ⟨ret_bool (by unfold addrB inB; rw [Bool.eq_iff_iff]; simp <;> omega), rfl⟩
theorem s_Byte (n : Int) (w : World) : Calls Try.prog 53 #[.int .i64 n] w fun e w' => e = .returned (.bool (byteB n)) ∧ w' = w := by
  go_enter Try.func53, Try.ntmps53
  go_wp2_with (go_at_call 28; refine (s_In _ _ _ _).mono ?_; rintro e w' ⟨rfl, rfl⟩)
  go_ret
  exact ⟨rfl, rfl⟩
theorem s_Addr (n : Int) (w : World) : Calls Try.prog 54 #[.int .i64 n] w fun e w' => e = .returned (.bool (addrB n)) ∧ w' = w := by
  go_enter Try.func54, Try.ntmps54
  go_wp2_with (go_at_call 28; refine (s_In _ _ _ _).mono ?_; rintro e w' ⟨rfl, rfl⟩)
  go_ret
  exact ⟨rfl, rfl⟩
theorem i_areIpOpts (o : ByteArray) (w : World) (ho : o.size ≤ 1099511627776) : Calls Try.prog 45 #[.string o] w fun e w' => e = .returned (.bool (optsB o)) ∧ w' = w := by
  have hc : 40 < o.size ∨ o.size ≤ 40 ∧ (o.size : Int) % 4 = 0 ∨ o.size ≤ 40 ∧ ¬ (o.size : Int) % 4 = 0 := by omega
  rcases hc with hc | ⟨h1, h2⟩ | ⟨h1, h2⟩
  all_goals
    go_enter Try.func45, Try.ntmps45
    go_wp2
    go_ret
    exact ⟨ret_bool (by unfold optsB; rw [Bool.eq_iff_iff]; simp <;> omega), rfl⟩
set_option maxRecDepth 100000 in
theorem i_headSize (p : IpV) (w : World) (ho : p.opts.size ≤ 1099511627776) : Calls Try.prog 55 #[.agg (ipL p)] w fun e w' => e = .returned (.int .i64 (20 + (p.opts.size : Int))) ∧ w' = w.alloc (.cells (ipL p) 28) := by
  unfold ipL
  go_enter Try.func55, Try.ntmps55
  go_wp2
  go_ret
  exact ⟨rfl, rfl⟩
set_option maxRecDepth 100000 in
theorem s_Head (p : IpV) (w : World) (ho : p.opts.size ≤ 1099511627776) : Calls Try.prog 29 #[.agg (ipL p)] w fun e w' => e = .returned (.int .i64 (20 + (p.opts.size : Int))) ∧ w' = w.alloc (.cells (ipL p) 28) := by
  unfold ipL
  go_enter Try.func29, Try.ntmps29
  go_wp2
  go_ret
  exact ⟨rfl, rfl⟩

set_option maxRecDepth 100000 in
set_option maxHeartbeats 1600000 in
theorem i_isDataInPlace (p : IpV) (w : World) (ho : p.opts.size ≤ 1099511627776) (hd : p.data.size ≤ 1099511627776) :
    Calls Try.prog 46 #[.agg (ipL p)] w fun e w' => e = .returned (.bool (placeB p)) ∧ Below w.heap.size w w' := by
  have HP : Hid (placeB p = (inB p.off 0 8191 && lenB p && endB p && mulB p)) := rfl
  have HL : Hid (lenB p = decide (20 + p.opts.size + p.data.size ≤ 65535)) := rfl
  have HE : Hid (endB p = decide (8 * p.off + (p.data.size : Int) ≤ 65515)) := rfl
  have HM : Hid (mulB p = (!p.mf || decide (p.data.size % 8 = 0))) := rfl
  have C := fun u => i_headSize p u ho
  have hb0 : ∀ cs, Below w.heap.size w (w.alloc (.cells cs 28)) := fun cs => (Below.refl _ w).alloc (Nat.le_refl _) _
  have hb1 : ∀ cs ds, Below w.heap.size w ((w.alloc (.cells cs 28)).alloc (.cells ds 28)) := fun cs ds => (hb0 cs).alloc (by simp) _
  obtain ⟨tos, id, df, mf, off, ttl, pro, src, dst, opts, data⟩ := p
  simp only [ipL] at C ⊢
  have HC : Hid (∀ u : World, Calls Try.prog 55 #[.agg #[.int .i64 tos, .int .i64 id, .bool df, .bool mf, .int .i64 off, .int .i64 ttl, .int .i64 pro, .int .i64 src, .int .i64 dst, .string opts, .string data]] u fun e w' => e = .returned (.int .i64 (20 + (opts.size : Int))) ∧ w' = u.alloc (.cells #[.int .i64 tos, .int .i64 id, .bool df, .bool mf, .int .i64 off, .int .i64 ttl, .int .i64 pro, .int .i64 src, .int .i64 dst, .string opts, .string data] 28)) := C
  clear C
  simp only at ho hd HL HE HM HP
  have hc : off < 0 ∨ 8191 < off ∨ 0 ≤ off ∧ off ≤ 8191 ∧ 65535 < 20 + (opts.size : Int) + data.size ∨ 0 ≤ off ∧ off ≤ 8191 ∧ 20 + (opts.size : Int) + data.size ≤ 65535 ∧ mf = true ∧ ¬ (data.size : Int) % 8 = 0 ∨ 0 ≤ off ∧ off ≤ 8191 ∧ 20 + (opts.size : Int) + data.size ≤ 65535 ∧ mf = true ∧ (data.size : Int) % 8 = 0 ∨ 0 ≤ off ∧ off ≤ 8191 ∧ 20 + (opts.size : Int) + data.size ≤ 65535 ∧ mf = false := by cases mf <;> simp <;> omega
  rcases hc with h1 | h1 | ⟨h1, h2, h3⟩ | ⟨h1, h2, h3, rfl, h4⟩ | ⟨h1, h2, h3, rfl, h4⟩ | ⟨h1, h2, h3, rfl⟩
  · go_enter Try.func46, Try.ntmps46
    go_wp2
    go_ret
    exact ⟨ret_bool (by rw [HP.out, inB_false (Or.inl h1)]; rfl), hb0 _⟩
  · go_enter Try.func46, Try.ntmps46
    go_wp2
    go_ret
    exact ⟨ret_bool (by rw [HP.out, inB_false (Or.inr h1)]; rfl), hb0 _⟩
  · go_enter Try.func46, Try.ntmps46
    go_wp2_with (go_at_call 55; refine (HC.out _).mono ?_; rintro e w' ⟨rfl, rfl⟩)
    go_ret
    exact ⟨ret_bool (by rw [HP.out, HL.out, decide_eq_false (by omega)]; simp), hb1 _ _⟩
  · go_enter Try.func46, Try.ntmps46
    go_wp2_with (go_at_call 55; refine (HC.out _).mono ?_; rintro e w' ⟨rfl, rfl⟩)
    go_ret
    exact ⟨ret_bool (by rw [HP.out, HM.out, decide_eq_false (p := data.size % 8 = 0) (by omega)]; simp), hb1 _ _⟩
  · go_enter Try.func46, Try.ntmps46
    go_wp2_with (go_at_call 55; refine (HC.out _).mono ?_; rintro e w' ⟨rfl, rfl⟩)
    go_ret
    exact ⟨ret_bool (by rw [HP.out, HM.out, HL.out, HE.out, inB_true h1 h2, decide_eq_true (p := data.size % 8 = 0) (by omega), decide_eq_true (p := 20 + opts.size + data.size ≤ 65535) (by omega)]; simp), hb1 _ _⟩
  · go_enter Try.func46, Try.ntmps46
    go_wp2_with (go_at_call 55; refine (HC.out _).mono ?_; rintro e w' ⟨rfl, rfl⟩)
    go_ret
    exact ⟨ret_bool (by rw [HP.out, HM.out, HL.out, HE.out, inB_true h1 h2, decide_eq_true (p := 20 + opts.size + data.size ≤ 65535) (by omega)]; simp), hb1 _ _⟩
end Go.Proofs.Ytgfpoohjbgdcpaa
