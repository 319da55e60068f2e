/-
  Contracts of IpBytes, of the program and of the model.
-/
import Derived.Test.YtgknkhhoelgnhaaDoorIps3
namespace Go.Proofs.YtgknkhhoelgnhaaDoor
open Go.RowKit Go.PlainAid
theorem ret_str {a b : List UInt8} (h : a = b) : Ending.returned (.string (str a)) = .returned (.string (str b)) := by rw [h]
set_option maxRecDepth 100000 in
set_option maxHeartbeats 1600000 in
theorem i_IpBytes (p : IpV) (w : World) (ho : p.opts.size ≤ 1099511627776) (hd : p.data.size ≤ 1099511627776) :
    Calls Tryd.prog 20 #[.agg (ipL p)] w fun e w' => e = .returned (.string (str (ipText p))) ∧ Below w.heap.size w w' := by
  have hA : Bx (w.alloc (.cells (ipL p) 32)) w.heap.size (ipL p).toList := Bx.new w _ _
  have hb0 : Below w.heap.size w (w.alloc (.cells (ipL p) 32)) := (Below.refl _ w).alloc (Nat.le_refl _) _
  cases hk : ipOk p
  · have HT : Hid (ipText p = []) := by show _ = _; unfold ipText; rw [hk]; rfl
    have CK : Hid (∀ u : World, Calls Tryd.prog 26 #[.agg (ipL p)] u fun e w' => e = .returned (.bool false) ∧ Below u.heap.size u w') := fun u => hk ▸ i_IpOk p u ho hd
    generalize ipText p = tx at HT
    clear hk
    obtain ⟨tos, id, df, mf, off, ttl, pro, src, dst, opts, data⟩ := p
    simp only [ipL] at *
    go_enter Tryd.func20, Tryd.ntmps20
    go_wp2_with (go_at_call 26; refine (CK.out _).mono ?_; rintro e w1 ⟨rfl, hb1⟩)
    go_ret
    exact ⟨by rw [HT.out]; rfl, hb0.trans (hb1.mono hb0.size)⟩
  · have hF := (ipOk_iff p).1 hk
    have hs0 := sumOf_bd (ipHead p 0)
    have CK : Hid (∀ u : World, Calls Tryd.prog 26 #[.agg (ipL p)] u fun e w' => e = .returned (.bool true) ∧ Below u.heap.size u w') := fun u => hk ▸ i_IpOk p u ho hd
    have CH : Hid (∀ (n : Int) (u : World), 0 ≤ n → n ≤ 65535 → Calls Tryd.prog 50 #[.agg (ipL p), .int .i64 n] u fun e w' => e = .returned (.string (str (ipHead p n))) ∧ Below u.heap.size u w') := fun n u h h' => i_headOf p n u hF h h'
    have CS : Hid (∀ u : World, Calls Tryd.prog 51 #[.string (str (ipHead p 0))] u fun e w' => e = .returned (.int .i64 (sumOf (ipHead p 0))) ∧ w' = u) := fun u => i_SumOf _ u (by rw [str_size, ipHead_length]; have := hF.opts; omega)
    have hL : ∀ n, (ipHead p n).length = 20 + p.opts.size := fun n => ipHead_length p n
    have HS : Hid (str (ipHead p (sumOf (ipHead p 0))) ++ p.data = str (ipText p)) := by
      show _ = _
      unfold ipText; rw [hk, if_pos rfl, str_app_bl]; rfl
    have ho' := hF.opts.1
    have hd' := hF.len
    clear hk hF
    generalize ipText p = tx at HS
    generalize sumOf (ipHead p 0) = sm at HS CS hs0
    generalize ipHead p = hd at CH CS HS hL
    obtain ⟨tos, id, df, mf, off, ttl, pro, src, dst, opts, data⟩ := p
    simp only [ipL] at *
    go_enter Tryd.func20, Tryd.ntmps20
    go_wp2_with (go_at_call 26; refine (CK.out _).mono ?_; rintro e w1 ⟨rfl, hb1⟩)
    clear CK
    replace hA := hA.below hb1
    have hB := hb0.trans (hb1.mono hb0.size)
    clear hb0 hb1
    have hne := BW.some w1
    have a0 := fun u : BW w1 => (hA.ofBW u).2 0 _ rfl
    have a1 := fun u : BW w1 => (hA.ofBW u).2 1 _ rfl
    have a2 := fun u : BW w1 => (hA.ofBW u).2 2 _ rfl
    have a3 := fun u : BW w1 => (hA.ofBW u).2 3 _ rfl
    have a4 := fun u : BW w1 => (hA.ofBW u).2 4 _ rfl
    have a5 := fun u : BW w1 => (hA.ofBW u).2 5 _ rfl
    have a6 := fun u : BW w1 => (hA.ofBW u).2 6 _ rfl
    have a7 := fun u : BW w1 => (hA.ofBW u).2 7 _ rfl
    have a8 := fun u : BW w1 => (hA.ofBW u).2 8 _ rfl
    have a9 := fun u : BW w1 => (hA.ofBW u).2 9 _ rfl
    have a10 := fun u : BW w1 => (hA.ofBW u).2 10 _ rfl
    refine wp_region_below (by kernel_rfl) (by kernel_rfl) ?_
    repeat (go_big_quiet_step (first | (go_at_call 50; exact Calls.into (CH.out _ _ (by omega) (by omega))) | (go_at_call 51; exact Calls.into_same (CS.out _))))
    refine wpQuiet_nil ?_
    intro _ hw'
    obtain ⟨u, hw''⟩ := hw'
    subst hw''
    rw [HS.out]
    clear a0 a1 a2 a3 a4 a5 a6 a7 a8 a9 a10 hne
    go_wp2
    go_ret
    exact ⟨rfl, hB.trans (u.le.mono hB.size)⟩

set_option maxRecDepth 100000 in
set_option maxHeartbeats 3200000 in
theorem s_l3Bytes (p : IpV) (w : World) (hoff : 0 ≤ p.off ∧ p.off ≤ 8191) (ho : p.opts.size ≤ 1048576) (hd : p.data.size ≤ 1099511627776) :
    Calls Tryd.prog 45 #[.agg (ipL p)] w fun e w' => e = .returned (.string (str (ipBytes p))) ∧ Below w.heap.size w w' := by
  have hA : Bx (w.alloc (.cells (ipL p) 32)) w.heap.size (ipL p).toList := Bx.new w _ _
  have hB : Below w.heap.size w (w.alloc (.cells (ipL p) 32)) := (Below.refl _ w).alloc (Nat.le_refl _) _
  have B : Hid (∀ (k n : Int) (u : World), 0 ≤ k → k ≤ 8 → Calls Tryd.prog 46 #[.int .i64 n, .int .i64 k] u fun e w' => e = .returned (.string (str (be k.toNat n))) ∧ Below u.heap.size u w') := fun k n u h h' => be_any n k u h h'
  have CH : Hid (∀ u : World, Calls Tryd.prog 57 #[.agg (ipL p)] u fun e w' => e = .returned (.int .i64 (20 + (p.opts.size : Int))) ∧ Below u.heap.size u w') := fun u => (s_Head p u (by omega)).mono fun _ _ ⟨he, hw⟩ => ⟨he, hw ▸ (Below.refl _ _).alloc (Nat.le_refl _) _⟩
  have CS : Hid (∀ u : World, Calls Tryd.prog 56 #[.string (str (ipHead p 0))] u fun e w' => e = .returned (.int .i64 (sumOf (ipHead p 0))) ∧ w' = u) := fun u => s_SumOf _ u (by rw [str_size, ipHead_length]; omega)
  have HF : Hid (ipFlags p = p.off + (if p.df then 16384 else 0) + (if p.mf then 8192 else 0)) := rfl
  have HA : Hid (str (be 1 (64 + (20 + (p.opts.size : Int)) / 4)) ++ str (be 1 p.tos) ++ str (be 2 (20 + (p.opts.size : Int) + (p.data.size : Int))) ++ str (be 2 p.id) ++ str (be 2 (ipFlags p)) ++ str (be 1 p.ttl) ++ str (be 1 p.pro) = str (ipA p)) := by
    show _ = _
    simp only [str_app, ipA]
  have HBB : Hid (str (be 4 p.src) ++ str (be 4 p.dst) ++ p.opts = str (ipB p)) := by
    show _ = _
    rw [str_app, str_app_bl]; rfl
  have HH : Hid (str (ipA p) ++ str (be 2 0) ++ str (ipB p) = str (ipHead p 0)) := by
    show _ = _
    rw [str_app, str_app]; rfl
  have HS : Hid (str (ipA p) ++ str (be 2 (sumOf (ipHead p 0))) ++ str (ipB p) ++ p.data = str (ipBytes p)) := by
    show _ = _
    rw [str_app, str_app, str_app_bl]; rfl
  have lA := ipA_length p
  have lB := ipB_length p
  generalize ipBytes p = tx at HS
  generalize sumOf (ipHead p 0) = sm at HS CS
  generalize ipHead p 0 = h0 at HH CS
  generalize ipA p = la at *
  generalize ipB p = lb at *
  generalize ipFlags p = fl at *
  have b1 : ∀ n, (be 1 n).length = 1 := fun n => be_length 1 n
  have b2 : ∀ n, (be 2 n).length = 2 := fun n => be_length 2 n
  have b4 : ∀ n, (be 4 n).length = 4 := fun n => be_length 4 n
  obtain ⟨tos, id, df, mf, off, ttl, pro, src, dst, opts, data⟩ := p
  simp only [ipL] at *
  obtain ⟨hoff0, hoff1⟩ := hoff
  cases df <;> cases mf
  all_goals
    simp only [Bool.false_eq_true, if_false, if_true, Int.add_zero] at HF
    have HFs : fl = _ := HF.out
    clear HF
    subst HFs
    go_enter Tryd.func45, Tryd.ntmps45
    go_wp2_with fail
    generalize hW : w.alloc _ = w1 at *
    clear hW
    have hne := BW.some w1
    have a0 := fun u : BW w1 => (hA.ofBW u).2 0 _ rfl
    have a1 := fun u : BW w1 => (hA.ofBW u).2 1 _ rfl
    have a2 := fun u : BW w1 => (hA.ofBW u).2 2 _ rfl
    have a3 := fun u : BW w1 => (hA.ofBW u).2 3 _ rfl
    have a4 := fun u : BW w1 => (hA.ofBW u).2 4 _ rfl
    have a5 := fun u : BW w1 => (hA.ofBW u).2 5 _ rfl
    have a6 := fun u : BW w1 => (hA.ofBW u).2 6 _ rfl
    have a7 := fun u : BW w1 => (hA.ofBW u).2 7 _ rfl
    have a8 := fun u : BW w1 => (hA.ofBW u).2 8 _ rfl
    have a9 := fun u : BW w1 => (hA.ofBW u).2 9 _ rfl
    have a10 := fun u : BW w1 => (hA.ofBW u).2 10 _ rfl
    refine wp_region_below (by kernel_rfl) (by kernel_rfl) ?_
    repeat (go_big_quiet_step (first | (go_at_call 46; exact Calls.into (B.out _ _ _ (by decide) (by decide))) | (go_at_call 57; exact Calls.into (CH.out _))))
    refine wpQuiet_nil ?_
    intro _ hw'
    obtain ⟨u, hw''⟩ := hw'
    subst hw''
    rw [HA.out]
    clear a0 a1 a2 a3 a4 a5 a6 a7 a8 a9 a10 hne
    replace hB := hB.trans (u.le.mono hB.size)
    replace hA := hA.ofBW u
    generalize u.u = w2 at *
    clear u
    go_wp2_with fail
    have hne := BW.some w2
    have a7 := fun u : BW w2 => (hA.ofBW u).2 7 _ rfl
    have a8 := fun u : BW w2 => (hA.ofBW u).2 8 _ rfl
    have a9 := fun u : BW w2 => (hA.ofBW u).2 9 _ rfl
    refine wp_region_below (by kernel_rfl) (by kernel_rfl) ?_
    repeat (go_big_quiet_step ((go_at_call 46; exact Calls.into (B.out _ _ _ (by decide) (by decide)))))
    refine wpQuiet_nil ?_
    intro _ hw'
    obtain ⟨u, hw''⟩ := hw'
    subst hw''
    rw [HBB.out]
    clear a7 a8 a9 hne
    replace hB := hB.trans (u.le.mono hB.size)
    replace hA := hA.ofBW u
    generalize u.u = w3 at *
    clear u
    go_wp2_with fail
    have hne := BW.some w3
    have a10 := fun u : BW w3 => (hA.ofBW u).2 10 _ rfl
    refine wp_region_below (by kernel_rfl) (by kernel_rfl) ?_
    repeat (go_big_quiet_step (first | (go_at_call 46; exact Calls.into (B.out _ _ _ (by decide) (by decide))) | (go_at_call 56; rw [HH.out]; exact Calls.into_same (CS.out _))))
    refine wpQuiet_nil ?_
    intro _ hw'
    obtain ⟨u, hw''⟩ := hw'
    subst hw''
    rw [HS.out]
    clear a10 hne
    go_wp2
    go_ret
    exact ⟨rfl, hB.trans (u.le.mono hB.size)⟩

set_option maxRecDepth 100000 in
theorem s_IpBytes (p : IpV) (w : World) (ho : p.opts.size ≤ 1099511627776) (hd : p.data.size ≤ 1099511627776) :
    Calls Tryd.prog 24 #[.agg (ipL p)] w fun e w' => e = .returned (.string (str (ipText p))) ∧ Below w.heap.size w w' := by
  have hb0 : Below w.heap.size w (w.alloc (.cells (ipL p) 32)) := (Below.refl _ w).alloc (Nat.le_refl _) _
  cases hk : ipOk p
  · have HT : Hid (ipText p = []) := by show _ = _; unfold ipText; rw [hk]; rfl
    have CK : Hid (∀ u : World, Calls Tryd.prog 25 #[.agg (ipL p)] u fun e w' => e = .returned (.bool false) ∧ Below u.heap.size u w') := fun u => hk ▸ s_IpOk p u ho hd
    generalize ipText p = tx at HT
    clear hk
    obtain ⟨tos, id, df, mf, off, ttl, pro, src, dst, opts, data⟩ := p
    simp only [ipL] at *
    go_enter Tryd.func24, Tryd.ntmps24
    go_wp2_with (go_at_call 25; refine (CK.out _).mono ?_; rintro e w1 ⟨rfl, hb1⟩)
    go_ret
    exact ⟨by rw [HT.out]; rfl, hb0.trans (hb1.mono hb0.size)⟩
  · have hF := (ipOk_iff p).1 hk
    have hA : Bx (w.alloc (.cells (ipL p) 32)) w.heap.size (ipL p).toList := Bx.new w _ _
    have CK : Hid (∀ u : World, Calls Tryd.prog 25 #[.agg (ipL p)] u fun e w' => e = .returned (.bool true) ∧ Below u.heap.size u w') := fun u => hk ▸ s_IpOk p u ho hd
    have CB : Hid (∀ u : World, Calls Tryd.prog 45 #[.agg (ipL p)] u fun e w' => e = .returned (.string (str (ipText p))) ∧ Below u.heap.size u w') := fun u => by
      have e : ipText p = ipBytes p := by unfold ipText; rw [hk]; rfl
      rw [e]; exact s_l3Bytes p u hF.off (by have := hF.opts; omega) hd
    clear hk hF
    generalize ipText p = tx at CB
    obtain ⟨tos, id, df, mf, off, ttl, pro, src, dst, opts, data⟩ := p
    simp only [ipL] at *
    go_enter Tryd.func24, Tryd.ntmps24
    go_wp2_with (first | (go_at_call 25; refine (CK.out _).mono ?_; rintro e w1 ⟨rfl, hb1⟩; replace hA := hA.below hb1; have a0 := hA.2 0 _ rfl; have a1 := hA.2 1 _ rfl; have a2 := hA.2 2 _ rfl; have a3 := hA.2 3 _ rfl; have a4 := hA.2 4 _ rfl; have a5 := hA.2 5 _ rfl; have a6 := hA.2 6 _ rfl; have a7 := hA.2 7 _ rfl; have a8 := hA.2 8 _ rfl; have a9 := hA.2 9 _ rfl; have a10 := hA.2 10 _ rfl) | (go_at_call 45; refine (CB.out _).mono ?_; rintro e w2 ⟨rfl, hb2⟩))
    go_ret
    exact ⟨rfl, hb0.trans ((hb1.trans (hb2.mono hb1.size)).mono hb0.size)⟩
end Go.Proofs.YtgknkhhoelgnhaaDoor
