/-
  Contracts of IpOk, of the program and of the model.
-/
import Derived.Test.YtgfpoohjbgdcpaaIps1
namespace Go.Proofs.Ytgfpoohjbgdcpaa
open Go.RowKit Go.PlainAid
theorem size_head (o : ByteArray) (d : ByteArray) : (20 + o.size + d.size ≤ 65535) ↔ 20 + (o.size : Int) + (d.size : Int) ≤ 65535 := by omega
theorem first8 (b0 b1 b2 b3 b4 b5 b6 b7 : Bool) : b0 = false ∨ b0 = true ∧ b1 = false ∨ b0 = true ∧ b1 = true ∧ b2 = false ∨ b0 = true ∧ b1 = true ∧ b2 = true ∧ b3 = false ∨ b0 = true ∧ b1 = true ∧ b2 = true ∧ b3 = true ∧ b4 = false ∨ b0 = true ∧ b1 = true ∧ b2 = true ∧ b3 = true ∧ b4 = true ∧ b5 = false ∨ b0 = true ∧ b1 = true ∧ b2 = true ∧ b3 = true ∧ b4 = true ∧ b5 = true ∧ b6 = false ∨ b0 = true ∧ b1 = true ∧ b2 = true ∧ b3 = true ∧ b4 = true ∧ b5 = true ∧ b6 = true ∧ b7 = false ∨ b0 = true ∧ b1 = true ∧ b2 = true ∧ b3 = true ∧ b4 = true ∧ b5 = true ∧ b6 = true ∧ b7 = true := by
  cases b0 <;> cases b1 <;> cases b2 <;> cases b3 <;> cases b4 <;> cases b5 <;> cases b6 <;> cases b7 <;> decide
theorem first7 (b0 b1 b2 b3 b4 b5 b6 : Bool) : b0 = false ∨ b0 = true ∧ b1 = false ∨ b0 = true ∧ b1 = true ∧ b2 = false ∨ b0 = true ∧ b1 = true ∧ b2 = true ∧ b3 = false ∨ b0 = true ∧ b1 = true ∧ b2 = true ∧ b3 = true ∧ b4 = false ∨ b0 = true ∧ b1 = true ∧ b2 = true ∧ b3 = true ∧ b4 = true ∧ b5 = false ∨ b0 = true ∧ b1 = true ∧ b2 = true ∧ b3 = true ∧ b4 = true ∧ b5 = true ∧ b6 = false ∨ b0 = true ∧ b1 = true ∧ b2 = true ∧ b3 = true ∧ b4 = true ∧ b5 = true ∧ b6 = true := by
  cases b0 <;> cases b1 <;> cases b2 <;> cases b3 <;> cases b4 <;> cases b5 <;> cases b6 <;> decide
set_option maxRecDepth 100000 in
set_option maxHeartbeats 1600000 in
theorem i_IpOk (p : IpV) (w : World) (ho : p.opts.size ≤ 1099511627776) (hd : p.data.size ≤ 1099511627776) :
    Calls Try.prog 19 #[.agg (ipL p)] w fun e w' => e = .returned (.bool (ipOk p)) ∧ Below w.heap.size w w' := by
  have hb0 : ∀ cs, Below w.heap.size w (w.alloc (.cells cs 28)) := fun cs => (Below.refl _ w).alloc (Nat.le_refl _) _
  have HC : Hid (∀ u : World, Calls Try.prog 46 #[.agg (ipL p)] u fun e w' => e = .returned (.bool (placeB p)) ∧ Below u.heap.size u w') := fun u => i_isDataInPlace p u ho hd
  have HP : Hid (ipOk p = (byteB p.tos && inB p.id 0 65535 && byteB p.ttl && byteB p.pro && addrB p.src && addrB p.dst && optsB p.opts && placeB p)) := rfl
  obtain ⟨tos, id, df, mf, off, ttl, pro, src, dst, opts, data⟩ := p
  simp only [ipL]
  simp only at ho hd HP
  generalize hpl : placeB ⟨tos, id, df, mf, off, ttl, pro, src, dst, opts, data⟩ = pl at HC HP
  clear hpl
  rcases first8 (byteB tos) (inB id 0 65535) (byteB ttl) (byteB pro) (addrB src) (addrB dst) (optsB opts) (pl) with h0 | ⟨h0, h1⟩ | ⟨h0, h1, h2⟩ | ⟨h0, h1, h2, h3⟩ | ⟨h0, h1, h2, h3, h4⟩ | ⟨h0, h1, h2, h3, h4, h5⟩ | ⟨h0, h1, h2, h3, h4, h5, h6⟩ | ⟨h0, h1, h2, h3, h4, h5, h6, h7⟩ | ⟨h0, h1, h2, h3, h4, h5, h6, h7⟩
  · go_enter Try.func19, Try.ntmps19
    go_wp2_with (first | (go_at_call 42; refine (i_isByte _ _).mono ?_; rintro e w' ⟨rfl, rfl⟩) | (go_at_call 43; refine (i_isPair _ _).mono ?_; rintro e w' ⟨rfl, rfl⟩) | (go_at_call 44; refine (i_isAddr _ _).mono ?_; rintro e w' ⟨rfl, rfl⟩) | (go_at_call 45; refine (i_areIpOpts _ _ ho).mono ?_; rintro e w' ⟨rfl, rfl⟩))
    go_ret
    exact ⟨ret_bool (by rw [HP.out, h0]; rfl), hb0 _⟩
  · go_enter Try.func19, Try.ntmps19
    go_wp2_with (first | (go_at_call 42; refine (i_isByte _ _).mono ?_; rintro e w' ⟨rfl, rfl⟩) | (go_at_call 43; refine (i_isPair _ _).mono ?_; rintro e w' ⟨rfl, rfl⟩) | (go_at_call 44; refine (i_isAddr _ _).mono ?_; rintro e w' ⟨rfl, rfl⟩) | (go_at_call 45; refine (i_areIpOpts _ _ ho).mono ?_; rintro e w' ⟨rfl, rfl⟩))
    go_ret
    exact ⟨ret_bool (by rw [HP.out, h0, h1]; rfl), hb0 _⟩
  · go_enter Try.func19, Try.ntmps19
    go_wp2_with (first | (go_at_call 42; refine (i_isByte _ _).mono ?_; rintro e w' ⟨rfl, rfl⟩) | (go_at_call 43; refine (i_isPair _ _).mono ?_; rintro e w' ⟨rfl, rfl⟩) | (go_at_call 44; refine (i_isAddr _ _).mono ?_; rintro e w' ⟨rfl, rfl⟩) | (go_at_call 45; refine (i_areIpOpts _ _ ho).mono ?_; rintro e w' ⟨rfl, rfl⟩))
    go_ret
    exact ⟨ret_bool (by rw [HP.out, h0, h1, h2]; rfl), hb0 _⟩
  · go_enter Try.func19, Try.ntmps19
    go_wp2_with (first | (go_at_call 42; refine (i_isByte _ _).mono ?_; rintro e w' ⟨rfl, rfl⟩) | (go_at_call 43; refine (i_isPair _ _).mono ?_; rintro e w' ⟨rfl, rfl⟩) | (go_at_call 44; refine (i_isAddr _ _).mono ?_; rintro e w' ⟨rfl, rfl⟩) | (go_at_call 45; refine (i_areIpOpts _ _ ho).mono ?_; rintro e w' ⟨rfl, rfl⟩))
    go_ret
    exact ⟨ret_bool (by rw [HP.out, h0, h1, h2, h3]; rfl), hb0 _⟩
  · go_enter Try.func19, Try.ntmps19
    go_wp2_with (first | (go_at_call 42; refine (i_isByte _ _).mono ?_; rintro e w' ⟨rfl, rfl⟩) | (go_at_call 43; refine (i_isPair _ _).mono ?_; rintro e w' ⟨rfl, rfl⟩) | (go_at_call 44; refine (i_isAddr _ _).mono ?_; rintro e w' ⟨rfl, rfl⟩) | (go_at_call 45; refine (i_areIpOpts _ _ ho).mono ?_; rintro e w' ⟨rfl, rfl⟩))
    go_ret
    exact ⟨ret_bool (by rw [HP.out, h0, h1, h2, h3, h4]; rfl), hb0 _⟩
  · go_enter Try.func19, Try.ntmps19
    go_wp2_with (first | (go_at_call 42; refine (i_isByte _ _).mono ?_; rintro e w' ⟨rfl, rfl⟩) | (go_at_call 43; refine (i_isPair _ _).mono ?_; rintro e w' ⟨rfl, rfl⟩) | (go_at_call 44; refine (i_isAddr _ _).mono ?_; rintro e w' ⟨rfl, rfl⟩) | (go_at_call 45; refine (i_areIpOpts _ _ ho).mono ?_; rintro e w' ⟨rfl, rfl⟩))
    go_ret
    exact ⟨ret_bool (by rw [HP.out, h0, h1, h2, h3, h4, h5]; rfl), hb0 _⟩
  · go_enter Try.func19, Try.ntmps19
    go_wp2_with (first | (go_at_call 42; refine (i_isByte _ _).mono ?_; rintro e w' ⟨rfl, rfl⟩) | (go_at_call 43; refine (i_isPair _ _).mono ?_; rintro e w' ⟨rfl, rfl⟩) | (go_at_call 44; refine (i_isAddr _ _).mono ?_; rintro e w' ⟨rfl, rfl⟩) | (go_at_call 45; refine (i_areIpOpts _ _ ho).mono ?_; rintro e w' ⟨rfl, rfl⟩))
    go_ret
    exact ⟨ret_bool (by rw [HP.out, h0, h1, h2, h3, h4, h5, h6]; rfl), hb0 _⟩
  · go_enter Try.func19, Try.ntmps19
    go_wp2_with (first | (go_at_call 42; refine (i_isByte _ _).mono ?_; rintro e w' ⟨rfl, rfl⟩) | (go_at_call 43; refine (i_isPair _ _).mono ?_; rintro e w' ⟨rfl, rfl⟩) | (go_at_call 44; refine (i_isAddr _ _).mono ?_; rintro e w' ⟨rfl, rfl⟩) | (go_at_call 45; refine (i_areIpOpts _ _ ho).mono ?_; rintro e w' ⟨rfl, rfl⟩) | (go_at_call 46; refine (HC.out _).mono ?_; rintro e w' ⟨rfl, hq⟩))
    go_ret
    exact ⟨ret_bool (by rw [HP.out, h0, h1, h2, h3, h4, h5, h6, h7]; rfl), (hb0 _).trans (hq.mono (hb0 _).size)⟩
  · go_enter Try.func19, Try.ntmps19
    go_wp2_with (first | (go_at_call 42; refine (i_isByte _ _).mono ?_; rintro e w' ⟨rfl, rfl⟩) | (go_at_call 43; refine (i_isPair _ _).mono ?_; rintro e w' ⟨rfl, rfl⟩) | (go_at_call 44; refine (i_isAddr _ _).mono ?_; rintro e w' ⟨rfl, rfl⟩) | (go_at_call 45; refine (i_areIpOpts _ _ ho).mono ?_; rintro e w' ⟨rfl, rfl⟩) | (go_at_call 46; refine (HC.out _).mono ?_; rintro e w' ⟨rfl, hq⟩))
    go_ret
    exact ⟨ret_bool (by rw [HP.out, h0, h1, h2, h3, h4, h5, h6, h7]; rfl), (hb0 _).trans (hq.mono (hb0 _).size)⟩

set_option maxRecDepth 100000 in
set_option maxHeartbeats 3200000 in
theorem s_IpOk (p : IpV) (w : World) (ho : p.opts.size ≤ 1099511627776) (hd : p.data.size ≤ 1099511627776) :
    Calls Try.prog 27 #[.agg (ipL p)] w fun e w' => e = .returned (.bool (ipOk p)) ∧ Below w.heap.size w w' := by
  have hb0 : ∀ cs, Below w.heap.size w (w.alloc (.cells cs 28)) := fun cs => (Below.refl _ w).alloc (Nat.le_refl _) _
  have hb1 : ∀ cs ds, Below w.heap.size w ((w.alloc (.cells cs 28)).alloc (.cells ds 28)) := fun cs ds => (hb0 cs).alloc (by simp) _
  have HP : Hid (ipOk p = (byteB p.tos && inB p.id 0 65535 && byteB p.ttl && byteB p.pro && addrB p.src && addrB p.dst && (decide (p.opts.size ≤ 40) && decide (p.opts.size % 4 = 0)) && (inB p.off 0 8191 && decide (20 + p.opts.size + p.data.size ≤ 65535) && decide (8 * p.off + (p.data.size : Int) ≤ 65515) && (!p.mf || decide (p.data.size % 8 = 0))))) := rfl
  obtain ⟨tos, id, df, mf, off, ttl, pro, src, dst, opts, data⟩ := p
  simp only at ho hd HP
  have HC : Hid (∀ u : World, Calls Try.prog 29 #[.agg #[.int .i64 tos, .int .i64 id, .bool df, .bool mf, .int .i64 off, .int .i64 ttl, .int .i64 pro, .int .i64 src, .int .i64 dst, .string opts, .string data]] u fun e w' => e = .returned (.int .i64 (20 + (opts.size : Int))) ∧ w' = u.alloc (.cells #[.int .i64 tos, .int .i64 id, .bool df, .bool mf, .int .i64 off, .int .i64 ttl, .int .i64 pro, .int .i64 src, .int .i64 dst, .string opts, .string data] 28)) := fun u => s_Head ⟨tos, id, df, mf, off, ttl, pro, src, dst, opts, data⟩ u ho
  simp only [ipL]
  rcases first7 (byteB tos) (byteB ttl) (byteB pro) (inB id 0 65535) (inB off 0 8191) (addrB src) (addrB dst) with h0 | ⟨h0, h1⟩ | ⟨h0, h1, h2⟩ | ⟨h0, h1, h2, h3⟩ | ⟨h0, h1, h2, h3, h4⟩ | ⟨h0, h1, h2, h3, h4, h5⟩ | ⟨h0, h1, h2, h3, h4, h5, h6⟩ | ⟨h0, h1, h2, h3, h4, h5, h6⟩
  · go_enter Try.func27, Try.ntmps27
    go_wp2_with (first | (go_at_call 53; refine (s_Byte _ _).mono ?_; rintro e w' ⟨rfl, rfl⟩) | (go_at_call 28; refine (s_In _ _ _ _).mono ?_; rintro e w' ⟨rfl, rfl⟩) | (go_at_call 54; refine (s_Addr _ _).mono ?_; rintro e w' ⟨rfl, rfl⟩))
    go_ret
    exact ⟨ret_bool (by rw [HP.out, h0]; simp), hb0 _⟩
  · go_enter Try.func27, Try.ntmps27
    go_wp2_with (first | (go_at_call 53; refine (s_Byte _ _).mono ?_; rintro e w' ⟨rfl, rfl⟩) | (go_at_call 28; refine (s_In _ _ _ _).mono ?_; rintro e w' ⟨rfl, rfl⟩) | (go_at_call 54; refine (s_Addr _ _).mono ?_; rintro e w' ⟨rfl, rfl⟩))
    go_ret
    exact ⟨ret_bool (by rw [HP.out, h1]; simp), hb0 _⟩
  · go_enter Try.func27, Try.ntmps27
    go_wp2_with (first | (go_at_call 53; refine (s_Byte _ _).mono ?_; rintro e w' ⟨rfl, rfl⟩) | (go_at_call 28; refine (s_In _ _ _ _).mono ?_; rintro e w' ⟨rfl, rfl⟩) | (go_at_call 54; refine (s_Addr _ _).mono ?_; rintro e w' ⟨rfl, rfl⟩))
    go_ret
    exact ⟨ret_bool (by rw [HP.out, h2]; simp), hb0 _⟩
  · go_enter Try.func27, Try.ntmps27
    go_wp2_with (first | (go_at_call 53; refine (s_Byte _ _).mono ?_; rintro e w' ⟨rfl, rfl⟩) | (go_at_call 28; refine (s_In _ _ _ _).mono ?_; rintro e w' ⟨rfl, rfl⟩) | (go_at_call 54; refine (s_Addr _ _).mono ?_; rintro e w' ⟨rfl, rfl⟩))
    go_ret
    exact ⟨ret_bool (by rw [HP.out, h3]; simp), hb0 _⟩
  · go_enter Try.func27, Try.ntmps27
    go_wp2_with (first | (go_at_call 53; refine (s_Byte _ _).mono ?_; rintro e w' ⟨rfl, rfl⟩) | (go_at_call 28; refine (s_In _ _ _ _).mono ?_; rintro e w' ⟨rfl, rfl⟩) | (go_at_call 54; refine (s_Addr _ _).mono ?_; rintro e w' ⟨rfl, rfl⟩))
    go_ret
    exact ⟨ret_bool (by rw [HP.out, h4]; simp), hb0 _⟩
  · go_enter Try.func27, Try.ntmps27
    go_wp2_with (first | (go_at_call 53; refine (s_Byte _ _).mono ?_; rintro e w' ⟨rfl, rfl⟩) | (go_at_call 28; refine (s_In _ _ _ _).mono ?_; rintro e w' ⟨rfl, rfl⟩) | (go_at_call 54; refine (s_Addr _ _).mono ?_; rintro e w' ⟨rfl, rfl⟩))
    go_ret
    exact ⟨ret_bool (by rw [HP.out, h5]; simp), hb0 _⟩
  · go_enter Try.func27, Try.ntmps27
    go_wp2_with (first | (go_at_call 53; refine (s_Byte _ _).mono ?_; rintro e w' ⟨rfl, rfl⟩) | (go_at_call 28; refine (s_In _ _ _ _).mono ?_; rintro e w' ⟨rfl, rfl⟩) | (go_at_call 54; refine (s_Addr _ _).mono ?_; rintro e w' ⟨rfl, rfl⟩))
    go_ret
    exact ⟨ret_bool (by rw [HP.out, h6]; simp), hb0 _⟩
  · have ⟨f1, f2⟩ := of_inB h4
    have hc : 40 < (opts.size : Int) ∨ (opts.size : Int) ≤ 40 ∧ ¬ (opts.size : Int) % 4 = 0 ∨ (opts.size : Int) ≤ 40 ∧ (opts.size : Int) % 4 = 0 ∧ 65535 < 20 + (opts.size : Int) + data.size ∨ (opts.size : Int) ≤ 40 ∧ (opts.size : Int) % 4 = 0 ∧ 20 + (opts.size : Int) + data.size ≤ 65535 ∧ 65515 < 8 * off + (data.size : Int) ∨ (opts.size : Int) ≤ 40 ∧ (opts.size : Int) % 4 = 0 ∧ 20 + (opts.size : Int) + data.size ≤ 65535 ∧ 8 * off + (data.size : Int) ≤ 65515 ∧ mf = false ∨ (opts.size : Int) ≤ 40 ∧ (opts.size : Int) % 4 = 0 ∧ 20 + (opts.size : Int) + data.size ≤ 65535 ∧ 8 * off + (data.size : Int) ≤ 65515 ∧ mf = true := by cases mf <;> simp <;> omega
    rcases hc with k0 | ⟨k0, k1⟩ | ⟨k0, k1, k2⟩ | ⟨k0, k1, k2, k3⟩ | ⟨k0, k1, k2, k3, rfl⟩ | ⟨k0, k1, k2, k3, rfl⟩
    · go_enter Try.func27, Try.ntmps27
      go_wp2_with (first | (go_at_call 53; refine (s_Byte _ _).mono ?_; rintro e w' ⟨rfl, rfl⟩) | (go_at_call 28; refine (s_In _ _ _ _).mono ?_; rintro e w' ⟨rfl, rfl⟩) | (go_at_call 54; refine (s_Addr _ _).mono ?_; rintro e w' ⟨rfl, rfl⟩) | (go_at_call 29; refine (HC.out _).mono ?_; rintro e w' ⟨rfl, rfl⟩))
      go_ret
      exact ⟨ret_bool (by rw [HP.out, decide_eq_false (p := opts.size ≤ 40) (by omega)]; simp), hb0 _⟩
    · go_enter Try.func27, Try.ntmps27
      go_wp2_with (first | (go_at_call 53; refine (s_Byte _ _).mono ?_; rintro e w' ⟨rfl, rfl⟩) | (go_at_call 28; refine (s_In _ _ _ _).mono ?_; rintro e w' ⟨rfl, rfl⟩) | (go_at_call 54; refine (s_Addr _ _).mono ?_; rintro e w' ⟨rfl, rfl⟩) | (go_at_call 29; refine (HC.out _).mono ?_; rintro e w' ⟨rfl, rfl⟩))
      go_ret
      exact ⟨ret_bool (by rw [HP.out, decide_eq_false (p := opts.size % 4 = 0) (by omega)]; simp), hb0 _⟩
    · go_enter Try.func27, Try.ntmps27
      go_wp2_with (first | (go_at_call 53; refine (s_Byte _ _).mono ?_; rintro e w' ⟨rfl, rfl⟩) | (go_at_call 28; refine (s_In _ _ _ _).mono ?_; rintro e w' ⟨rfl, rfl⟩) | (go_at_call 54; refine (s_Addr _ _).mono ?_; rintro e w' ⟨rfl, rfl⟩) | (go_at_call 29; refine (HC.out _).mono ?_; rintro e w' ⟨rfl, rfl⟩))
      go_ret
      exact ⟨ret_bool (by rw [HP.out, decide_eq_false (p := 20 + opts.size + data.size ≤ 65535) (by omega)]; simp), hb1 _ _⟩
    · go_enter Try.func27, Try.ntmps27
      go_wp2_with (first | (go_at_call 53; refine (s_Byte _ _).mono ?_; rintro e w' ⟨rfl, rfl⟩) | (go_at_call 28; refine (s_In _ _ _ _).mono ?_; rintro e w' ⟨rfl, rfl⟩) | (go_at_call 54; refine (s_Addr _ _).mono ?_; rintro e w' ⟨rfl, rfl⟩) | (go_at_call 29; refine (HC.out _).mono ?_; rintro e w' ⟨rfl, rfl⟩))
      go_ret
      exact ⟨ret_bool (by rw [HP.out, decide_eq_false (p := 8 * off + (data.size : Int) ≤ 65515) (by omega)]; simp), hb1 _ _⟩
    · go_enter Try.func27, Try.ntmps27
      go_wp2_with (first | (go_at_call 53; refine (s_Byte _ _).mono ?_; rintro e w' ⟨rfl, rfl⟩) | (go_at_call 28; refine (s_In _ _ _ _).mono ?_; rintro e w' ⟨rfl, rfl⟩) | (go_at_call 54; refine (s_Addr _ _).mono ?_; rintro e w' ⟨rfl, rfl⟩) | (go_at_call 29; refine (HC.out _).mono ?_; rintro e w' ⟨rfl, rfl⟩))
      go_ret
      exact ⟨ret_bool (by rw [HP.out, h0, h1, h2, h3, h4, h5, h6, decide_eq_true (p := opts.size ≤ 40) (by omega), decide_eq_true (p := opts.size % 4 = 0) (by omega), decide_eq_true (p := 20 + opts.size + data.size ≤ 65535) (by omega), decide_eq_true (p := 8 * off + (data.size : Int) ≤ 65515) (by omega)]; simp), hb1 _ _⟩
    · go_enter Try.func27, Try.ntmps27
      go_wp2_with (first | (go_at_call 53; refine (s_Byte _ _).mono ?_; rintro e w' ⟨rfl, rfl⟩) | (go_at_call 28; refine (s_In _ _ _ _).mono ?_; rintro e w' ⟨rfl, rfl⟩) | (go_at_call 54; refine (s_Addr _ _).mono ?_; rintro e w' ⟨rfl, rfl⟩) | (go_at_call 29; refine (HC.out _).mono ?_; rintro e w' ⟨rfl, rfl⟩))
      go_ret
      exact ⟨ret_bool (by rw [HP.out, h0, h1, h2, h3, h4, h5, h6, decide_eq_true (p := opts.size ≤ 40) (by omega), decide_eq_true (p := opts.size % 4 = 0) (by omega), decide_eq_true (p := 20 + opts.size + data.size ≤ 65535) (by omega), decide_eq_true (p := 8 * off + (data.size : Int) ≤ 65515) (by omega)]; rw [Bool.eq_iff_iff]; simp; omega), hb1 _ _⟩
end Go.Proofs.Ytgfpoohjbgdcpaa
