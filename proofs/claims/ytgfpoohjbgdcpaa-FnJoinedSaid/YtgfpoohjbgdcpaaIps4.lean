/-
  Contracts of IpBytes, of the program and of the model.
-/
import Derived.Test.YtgfpoohjbgdcpaaIps3
namespace Go.Proofs.Ytgfpoohjbgdcpaa
open Go.RowKit Go.PlainAid
theorem ret_str {a b : List UInt8} (h : a = b) : Ending.returned (.string (str a)) = .returned (.string (str b)) := by rw [h]
set_option maxRecDepth 100000 in
set_option maxHeartbeats 1600000 in
theorem i_IpBytes (p : IpV) (w : World) (ho : p.opts.size ≤ 1099511627776) (hd : p.data.size ≤ 1099511627776) :
    Calls Try.prog 18 #[.agg (ipL p)] w fun e w' => e = .returned (.string (str (ipText p))) ∧ Below w.heap.size w w' := by
  have hA : Bx (w.alloc (.cells (ipL p) 28)) w.heap.size (ipL p).toList := Bx.new w _ _
  have hb0 : Below w.heap.size w (w.alloc (.cells (ipL p) 28)) := (Below.refl _ w).alloc (Nat.le_refl _) _
  cases hk : ipOk p
  · have HT : Hid (ipText p = []) := by show _ = _; unfold ipText; rw [hk]; rfl
    have CK : Hid (∀ u : World, Calls Try.prog 19 #[.agg (ipL p)] u fun e w' => e = .returned (.bool false) ∧ Below u.heap.size u w') := fun u => hk ▸ i_IpOk p u ho hd
    generalize ipText p = tx at HT
    clear hk
    obtain ⟨tos, id, df, mf, off, ttl, pro, src, dst, opts, data⟩ := p
    simp only [ipL] at *
    go_enter Try.func18, Try.ntmps18
    go_wp2_with (go_at_call 19; refine (CK.out _).mono ?_; rintro e w1 ⟨rfl, hb1⟩)
    go_ret
    exact ⟨by rw [HT.out]; rfl, hb0.trans (hb1.mono hb0.size)⟩
  · have hF := (ipOk_iff p).1 hk
    have hs0 := sumOf_bd (ipHead p 0)
    have CK : Hid (∀ u : World, Calls Try.prog 19 #[.agg (ipL p)] u fun e w' => e = .returned (.bool true) ∧ Below u.heap.size u w') := fun u => hk ▸ i_IpOk p u ho hd
    have CH : Hid (∀ (n : Int) (u : World), 0 ≤ n → n ≤ 65535 → Calls Try.prog 40 #[.agg (ipL p), .int .i64 n] u fun e w' => e = .returned (.string (str (ipHead p n))) ∧ Below u.heap.size u w') := fun n u h h' => i_headOf p n u hF h h'
    have CS : Hid (∀ u : World, Calls Try.prog 41 #[.string (str (ipHead p 0))] u fun e w' => e = .returned (.int .i64 (sumOf (ipHead p 0))) ∧ w' = u) := fun u => i_SumOf _ u (by rw [str_size, ipHead_length]; have := hF.opts; omega)
    have hL : ∀ n, (ipHead p n).length = 20 + p.opts.size := fun n => ipHead_length p n
    have HS : Hid (str (ipHead p (sumOf (ipHead p 0))) ++ p.data = str (ipText p)) := by
      show _ = _
      unfold ipText; rw [hk, if_pos rfl, str_app_bl]; rfl
    have ho' := hF.opts.1
    have hd' := hF.len
    clear hk hF
    generalize ipText p = tx at HS
    generalize sumOf (ipHead p 0) = sm at HS CS hs0
    generalize ipHead p = hd at CH CS HS hL
    obtain ⟨tos, id, df, mf, off, ttl, pro, src, dst, opts, data⟩ := p
    simp only [ipL] at *
    go_enter Try.func18, Try.ntmps18
    go_wp2_with (go_at_call 19; refine (CK.out _).mono ?_; rintro e w1 ⟨rfl, hb1⟩)
    clear CK
    replace hA := hA.below hb1
    have hB := hb0.trans (hb1.mono hb0.size)
    clear hb0 hb1
    have hne := BW.some w1
    have a0 := fun u : BW w1 => (hA.ofBW u).2 0 _ rfl
    have a1 := fun u : BW w1 => (hA.ofBW u).2 1 _ rfl
    have a2 := fun u : BW w1 => (hA.ofBW u).2 2 _ rfl
    have a3 := fun u : BW w1 => (hA.ofBW u).2 3 _ rfl
    have a4 := fun u : BW w1 => (hA.ofBW u).2 4 _ rfl
    have a5 := fun u : BW w1 => (hA.ofBW u).2 5 _ rfl
    have a6 := fun u : BW w1 => (hA.ofBW u).2 6 _ rfl
    have a7 := fun u : BW w1 => (hA.ofBW u).2 7 _ rfl
    have a8 := fun u : BW w1 => (hA.ofBW u).2 8 _ rfl
    have a9 := fun u : BW w1 => (hA.ofBW u).2 9 _ rfl
    have a10 := fun u : BW w1 => (hA.ofBW u).2 10 _ rfl
    refine wp_region_below (by kernel_rfl) (by kernel_rfl) ?_
    repeat (go_big_quiet_step (first | (go_at_call 40; exact Calls.into (CH.out _ _ (by omega) (by omega))) | (go_at_call 41; exact Calls.into_same (CS.out _))))
    refine wpQuiet_nil ?_
    intro _ hw'
    obtain ⟨u, hw''⟩ := hw'
    subst hw''
    rw [HS.out]
    clear a0 a1 a2 a3 a4 a5 a6 a7 a8 a9 a10 hne
    go_wp2
    go_ret
    exact ⟨rfl, hB.trans (u.le.mono hB.size)⟩

end Go.Proofs.Ytgfpoohjbgdcpaa
