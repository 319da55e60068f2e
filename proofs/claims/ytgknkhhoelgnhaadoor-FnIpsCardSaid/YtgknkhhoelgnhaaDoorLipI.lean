/-
  The walk of the law FnIps.
-/
import Derived.Test.YtgknkhhoelgnhaaDoorLipO
import Derived.Test.YtgknkhhoelgnhaaDoorDhip
import Derived.Test.YtgknkhhoelgnhaaDoorIpRd6
namespace Go.Proofs.YtgknkhhoelgnhaaDoor
open Go.RowKit Go.PlainAid
/-- what is read, written again: all but the sum is the same -/
theorem again_parts {t : ByteArray} (h : ipCode t = 0) : (str (ipText (readIp t))).extract 0 10 = t.extract 0 10 ∧ (str (ipText (readIp t))).extract 12 (ipText (readIp t)).length = t.extract 12 t.size ∧ (ipText (readIp t)).length = t.size ∧ 20 ≤ t.size := by
  obtain ⟨hm, hk, hf⟩ := ipCode_ok h
  have hR : readIp t = ipV t := by unfold readIp; rw [if_pos h]
  have hT : ipText (readIp t) = ipT (ipV t) (sumOf (ipHead (ipV t) 0)) := by rw [hR]; unfold ipText; rw [if_pos hk]; rfl
  obtain ⟨hs, _, _, h20⟩ := read_ipT h
  have hl : (bl t).length = _ := congrArg List.length hs
  rw [bl_length, ipT_length] at hl
  have e1 : bl (t.extract 0 10) = (bl t).take 10 := by rw [bl_extract, List.drop_zero]
  have e2 : bl (t.extract 12 t.size) = (bl t).drop 12 := by rw [bl_extract, List.take_of_length_le (by rw [List.length_drop, bl_length]; omega)]
  have e : ∀ x, ipT (ipV t) x = ipA (ipV t) ++ be 2 x ++ (ipB (ipV t) ++ bl (ipV t).data) := fun x => by simp only [ipT, ipHead, List.append_assoc]
  have hlen : (ipText (readIp t)).length = t.size := by rw [hT, ipT_length, hl]
  refine ⟨?_, ?_, hlen, h20⟩
  · rw [str_extract, List.drop_zero, hT, e, List.append_assoc, List.take_left' (ipA_length _), ipA_read t hm hf, ← e1, str_bl]
  · rw [str_extract, List.take_of_length_le (by rw [List.length_drop]; omega), hT, e, List.drop_left' (by rw [List.length_append, ipA_length, be_length]), ipB_read t hm, ← e2, str_bl]
set_option maxRecDepth 100000 in
set_option maxHeartbeats 12800000 in
theorem walk_FnIps (A : Nat → Addr) (C : Option Addr) (len cap : Nat) (zs : List Int) (w : World) (w0 : IsRow .u8 w C len cap zs) (hE : Errs A w) :
    Calls Tryd.prog 6 #[.slice C len cap] w fun e w' => e = .returned (.bool true) ∧ Below w.heap.size w w' := by
  have hl := row_len w0
  by_cases hz : 1048576 < len
  · go_enter Tryd.func6, Tryd.ntmps6
    go_wp2
    go_ret
    exact ⟨rfl, Below.refl _ _⟩
  · have hC := code_of_row w0 (by omega)
    clear w0
    have CR0 : Hid (∀ (s : ByteArray) (u : World), Below w.heap.size w u → s.size ≤ 1099511627776 → Calls Tryd.prog 22 #[.string s] u fun e w' => e = .returned (.tuple #[.agg (ipL (readIp s)), .int .i64 (ipCode s)]) ∧ Below u.heap.size u w') := fun s u hb hs => i_ReadIp A s u hs (hE.below hb)
    clear hE
    go_enter Tryd.func6, Tryd.ntmps6
    go_wp2_with fail
    refine (big_no _ _ _ _ (by omega)).mono ?_
    rintro e w' ⟨rfl, hw'⟩
    rw [hw']
    clear hw' w'
    go_wp2_with fail
    refine (d_IpBytes _ C len cap _ hC).mono ?_
    rintro e w1 ⟨p, rfl, hpd, hpo, hB⟩
    have CI : Hid (∀ v : World, Calls Tryd.prog 20 #[.agg (ipL p)] v fun e w' => e = .returned (.string (str (ipText p))) ∧ Below v.heap.size v w') := fun v => i_IpBytes p v (by omega) (by omega)
    have CS : Hid (∀ v : World, Calls Tryd.prog 24 #[.agg (ipL p)] v fun e w' => e = .returned (.string (str (ipText p))) ∧ Below v.heap.size v w') := fun v => s_IpBytes p v (by omega) (by omega)
    have CK : Hid (∀ v : World, Calls Tryd.prog 26 #[.agg (ipL p)] v fun e w' => e = .returned (.bool (ipOk p)) ∧ Below v.heap.size v w') := fun v => i_IpOk p v (by omega) (by omega)
    have CL : Hid (∀ v : World, Calls Tryd.prog 25 #[.agg (ipL p)] v fun e w' => e = .returned (.bool (ipOk p)) ∧ Below v.heap.size v w') := fun v => s_IpOk p v (by omega) (by omega)
    have hTx : (ipText p).length ≤ 70000 := by
      unfold ipText
      split
      · rw [ipBytes_eq, ipT_length]; omega
      · simp
    have CR : Hid (∀ v : World, Below w.heap.size w v → Calls Tryd.prog 22 #[.string (str (ipText p))] v fun e w' => e = .returned (.tuple #[.agg (ipL (readIp (str (ipText p)))), .int .i64 (ipCode (str (ipText p)))]) ∧ Below v.heap.size v w') := fun v hb => CR0.out _ v hb (by rw [str_size]; omega)
    have HY : Hid (ipOk p = true → ipCode (str (ipText p)) = 0 ∧ readIp (str (ipText p)) = p ∧ ¬ str (ipText p) = ⟨#[]⟩) := fun h => by
      have hT : ipText p = ipBytes p := by unfold ipText; rw [if_pos h]
      obtain ⟨q1, q2⟩ := ipBytes_code p ((ipOk_iff p).1 h)
      rw [hT]
      refine ⟨q1, q2, fun hq => ?_⟩
      have := congrArg ByteArray.size hq
      rw [str_size, ipBytes_eq, ipT_length] at this
      have e0 : (⟨#[]⟩ : ByteArray).size = 0 := rfl
      omega
    have HN : Hid (ipOk p = false → str (ipText p) = ⟨#[]⟩) := fun h => by unfold ipText; rw [h]; rfl
    have HE : Hid (∀ v : World, (binOp .eql 32 (.agg (ipL p)) (.agg (ipL p))).run Tryd.prog v = .ok (.bool true) v) := fun v => ipEql p v
    have hA := Bx.new w1 (ipL p) 32
    have hB1 := hB.alloc hB.size (.cells (ipL p) 32)
    clear hTx hpd hpo
    generalize str (ipText p) = s at *
    generalize ipOk p = ok at *
    clear hB
    have HG : Hid (∃ g0 : IpV, g0 = p) := ⟨p, rfl⟩
    obtain ⟨tos, id, df, mf, off, ttl, pro, src, dst, opts, data⟩ := p
    simp only [ipL] at hA hB1 CI CS CK CL HE ⊢
    go_wp2_with fail
    generalize hW : w1.alloc _ = w2 at *
    clear hW
    generalize w1.heap.size = b3 at *
    refine (CI.out _).mono ?_
    rintro e w3 ⟨rfl, hX⟩
    replace hA := hA.below hX
    replace hB1 := hB1.trans (hX.mono hB1.size)
    clear hX CI
    have hC3 := hC.below hB1
    go_wp2_with fail
    refine (d_ReadIp _ C len cap _ hC3).mono ?_
    rintro e w4 ⟨t, rfl, ht, hX⟩
    replace hA := hA.below hX
    replace hB1 := hB1.trans (hX.mono (hC3.2.1))
    clear hX hC3
    have DI : Hid (∀ v : World, Below w.heap.size w v → Calls Tryd.prog 22 #[.string t] v fun e w' => e = .returned (.tuple #[.agg (ipL (readIp t)), .int .i64 (ipCode t)]) ∧ Below v.heap.size v w') := fun v hb => CR0.out t v hb (by omega)
    have DS : Hid (∀ v : World, Calls Tryd.prog 23 #[.string t] v fun e w' => e = .returned (.tuple #[.agg (ipL (readIp t)), .int .i64 (ipCode t)]) ∧ Below v.heap.size v w') := fun v => s_ReadIp t v (by omega)
    have DA : Hid (ipCode t = 0 → ∃ G : List UInt8, (str G).extract 0 10 = t.extract 0 10 ∧ (str G).extract 12 G.length = t.extract 12 t.size ∧ G.length = t.size ∧ 20 ≤ t.size ∧ ∀ v : World, Calls Tryd.prog 20 #[.agg (ipL (readIp t))] v fun e w' => e = .returned (.string (str G)) ∧ Below v.heap.size v w') := fun h => by
      obtain ⟨g1, g2, g3, g4⟩ := again_parts h
      obtain ⟨_, hF, _, _⟩ := read_ipT h
      have hR : readIp t = ipV t := by unfold readIp; rw [if_pos h]
      exact ⟨ipText (readIp t), g1, g2, g3, g4, fun v => i_IpBytes (readIp t) v (by rw [hR]; have := hF.opts; omega) (by rw [hR]; have := hF.len; omega)⟩
    have DN : Hid (∀ v : World, (binOp .neq 32 (.agg (ipL (readIp t))) (.agg (ipL (readIp t)))).run Tryd.prog v = .ok (.bool false) v) := fun v => ipNeq _ v
    clear CR0
    generalize ipCode t = k at *
    generalize readIp t = x at *
    obtain ⟨xtos, xid, xdf, xmf, xoff, xttl, xpro, xsrc, xdst, xopts, xdata⟩ := x
    simp only [ipL] at DI DS DA DN
    go_wp2_with fail
    refine (DI.out _ hB1).mono ?_
    rintro e w5 ⟨rfl, hX⟩
    replace hA := hA.below hX
    replace hB1 := hB1.trans (hX.mono hB1.size)
    clear hX DI
    have hU := Bx.new w5 #[.int .i64 xtos, .int .i64 xid, .bool xdf, .bool xmf, .int .i64 xoff, .int .i64 xttl, .int .i64 xpro, .int .i64 xsrc, .int .i64 xdst, .string xopts, .string xdata] 32
    replace hA := hA.below ((Below.refl _ w5).alloc (Nat.le_refl _) (.cells #[.int .i64 xtos, .int .i64 xid, .bool xdf, .bool xmf, .int .i64 xoff, .int .i64 xttl, .int .i64 xpro, .int .i64 xsrc, .int .i64 xdst, .string xopts, .string xdata] 32))
    replace hB1 := hB1.alloc hB1.size (.cells #[.int .i64 xtos, .int .i64 xid, .bool xdf, .bool xmf, .int .i64 xoff, .int .i64 xttl, .int .i64 xpro, .int .i64 xsrc, .int .i64 xdst, .string xopts, .string xdata] 32)
    go_wp2_with fail
    generalize hW : w5.alloc _ = w6 at *
    clear hW
    generalize w5.heap.size = b6 at *
    refine (DS.out _).mono ?_
    rintro e w7 ⟨rfl, hX⟩
    replace hA := hA.below hX
    replace hU := hU.below hX
    replace hB1 := hB1.trans (hX.mono hB1.size)
    clear hX DS
    have hV := Bx.new w7 #[.int .i64 xtos, .int .i64 xid, .bool xdf, .bool xmf, .int .i64 xoff, .int .i64 xttl, .int .i64 xpro, .int .i64 xsrc, .int .i64 xdst, .string xopts, .string xdata] 32
    replace hA := hA.below ((Below.refl _ w7).alloc (Nat.le_refl _) (.cells #[.int .i64 xtos, .int .i64 xid, .bool xdf, .bool xmf, .int .i64 xoff, .int .i64 xttl, .int .i64 xpro, .int .i64 xsrc, .int .i64 xdst, .string xopts, .string xdata] 32))
    replace hU := hU.below ((Below.refl _ w7).alloc (Nat.le_refl _) (.cells #[.int .i64 xtos, .int .i64 xid, .bool xdf, .bool xmf, .int .i64 xoff, .int .i64 xttl, .int .i64 xpro, .int .i64 xsrc, .int .i64 xdst, .string xopts, .string xdata] 32))
    replace hB1 := hB1.alloc hB1.size (.cells #[.int .i64 xtos, .int .i64 xid, .bool xdf, .bool xmf, .int .i64 xoff, .int .i64 xttl, .int .i64 xpro, .int .i64 xsrc, .int .i64 xdst, .string xopts, .string xdata] 32)
    have e1 : (k != k) = false := by simp
    have gq := Tryd.ipGuard
    have a0 := hA.2 0 _ rfl; have a1 := hA.2 1 _ rfl; have a2 := hA.2 2 _ rfl; have a3 := hA.2 3 _ rfl; have a4 := hA.2 4 _ rfl; have a5 := hA.2 5 _ rfl; have a6 := hA.2 6 _ rfl; have a7 := hA.2 7 _ rfl; have a8 := hA.2 8 _ rfl; have a9 := hA.2 9 _ rfl; have a10 := hA.2 10 _ rfl
    go_wp2_with fail
    generalize hW : w7.alloc _ = w8 at *
    clear hW
    generalize w7.heap.size = b8 at *
    refine (CS.out _).mono ?_
    rintro e w9 ⟨rfl, hX⟩
    replace hA := hA.below hX
    replace hU := hU.below hX
    replace hV := hV.below hX
    replace hB1 := hB1.trans (hX.mono hB1.size)
    clear hX CS a0 a1 a2 a3 a4 a5 a6 a7 a8 a9 a10
    have DN9 := DN.out w9
    have u0 := hU.2 0 _ rfl; have u1 := hU.2 1 _ rfl; have u2 := hU.2 2 _ rfl; have u3 := hU.2 3 _ rfl; have u4 := hU.2 4 _ rfl; have u5 := hU.2 5 _ rfl; have u6 := hU.2 6 _ rfl; have u7 := hU.2 7 _ rfl; have u8 := hU.2 8 _ rfl; have u9 := hU.2 9 _ rfl; have u10 := hU.2 10 _ rfl
    have v0 := hV.2 0 _ rfl; have v1 := hV.2 1 _ rfl; have v2 := hV.2 2 _ rfl; have v3 := hV.2 3 _ rfl; have v4 := hV.2 4 _ rfl; have v5 := hV.2 5 _ rfl; have v6 := hV.2 6 _ rfl; have v7 := hV.2 7 _ rfl; have v8 := hV.2 8 _ rfl; have v9 := hV.2 9 _ rfl; have v10 := hV.2 10 _ rfl
    by_cases hk0 : k = 0
    · subst hk0
      obtain ⟨G, g1, g2, g3, g4, DA3⟩ := DA.out rfl
      have DA2 : Hid (∀ v : World, Calls Tryd.prog 20 #[.agg #[.int .i64 xtos, .int .i64 xid, .bool xdf, .bool xmf, .int .i64 xoff, .int .i64 xttl, .int .i64 xpro, .int .i64 xsrc, .int .i64 xdst, .string xopts, .string xdata]] v fun e w' => e = .returned (.string (str G)) ∧ Below v.heap.size v w') := DA3
      clear DA DA3
      go_wp2_with fail
      refine (DA2.out _).mono ?_
      rintro e wb ⟨rfl, hX⟩
      replace hA := hA.below hX
      replace hB1 := hB1.trans (hX.mono hB1.size)
      clear hX DN9 DN u0 u1 u2 u3 u4 u5 u6 u7 u8 u9 u10 v0 v1 v2 v3 v4 v5 v6 v7 v8 v9 v10 hU hV DA2
      have z0 : (str G).size = G.length := str_size G
      have z1 : decide ((G.length : Int) < 20) = false := by simp; omega
      have z2 : (10 : Int) ≤ (G.length : Int) := by omega
      have z3 : (12 : Int) ≤ (G.length : Int) := by omega
      have z4 : (10 : Int) ≤ (t.size : Int) := by omega
      have z5 : (12 : Int) ≤ (t.size : Int) := by omega
      have z6 : G.length ≤ 70000 := by omega
      have z7 : (t.extract 0 10).size ≤ 10 := by rw [ByteArray.size_extract]; omega
      have z8 : (t.extract 12 t.size).size ≤ 70000 := by rw [ByteArray.size_extract]; omega
      clear g3 g4
      go_wp2_with fail
      go_quiet (fail)
      have hdn : Below wb.heap.size wb (wb.drewN nq) := ⟨rfl, rfl, rfl, Nat.le_refl _, fun _ _ => rfl⟩
      replace hA := hA.below hdn
      replace hB1 := hB1.trans (hdn.mono hB1.size)
      clear hdn
      generalize wb.drewN nq = wbb at *
      cases ok
      · have e2 : s.toList = [] := by rw [HN.out rfl]; simp
        clear HN HY HE
        generalize ipCode s = j at *
        generalize readIp s = z at *
        obtain ⟨ztos, zid, zdf, zmf, zoff, zttl, zpro, zsrc, zdst, zopts, zdata⟩ := z
        simp only [ipL] at CR
        go_wp2_with fail
        refine (CR.out _ hB1).mono ?_
        rintro e wa ⟨rfl, hX⟩
        replace hA := hA.below hX
        replace hB1 := hB1.trans (hX.mono hB1.size)
        replace hA := hA.below ((Below.refl _ wa).alloc (Nat.le_refl _) (.cells #[.int .i64 ztos, .int .i64 zid, .bool zdf, .bool zmf, .int .i64 zoff, .int .i64 zttl, .int .i64 zpro, .int .i64 zsrc, .int .i64 zdst, .string zopts, .string zdata] 32))
        replace hB1 := hB1.alloc hB1.size (.cells #[.int .i64 ztos, .int .i64 zid, .bool zdf, .bool zmf, .int .i64 zoff, .int .i64 zttl, .int .i64 zpro, .int .i64 zsrc, .int .i64 zdst, .string zopts, .string zdata] 32)
        clear hX
        have a0 := hA.2 0 _ rfl; have a1 := hA.2 1 _ rfl; have a2 := hA.2 2 _ rfl; have a3 := hA.2 3 _ rfl; have a4 := hA.2 4 _ rfl; have a5 := hA.2 5 _ rfl; have a6 := hA.2 6 _ rfl; have a7 := hA.2 7 _ rfl; have a8 := hA.2 8 _ rfl; have a9 := hA.2 9 _ rfl; have a10 := hA.2 10 _ rfl
        go_wp2_with fail
        refine (CL.out _).mono ?_
        rintro e wc ⟨rfl, hX⟩
        replace hA := hA.below hX
        replace hB1 := hB1.trans (hX.mono hB1.size)
        clear hX a0 a1 a2 a3 a4 a5 a6 a7 a8 a9 a10
        have a0 := hA.2 0 _ rfl; have a1 := hA.2 1 _ rfl; have a2 := hA.2 2 _ rfl; have a3 := hA.2 3 _ rfl; have a4 := hA.2 4 _ rfl; have a5 := hA.2 5 _ rfl; have a6 := hA.2 6 _ rfl; have a7 := hA.2 7 _ rfl; have a8 := hA.2 8 _ rfl; have a9 := hA.2 9 _ rfl; have a10 := hA.2 10 _ rfl
        go_wp2_with fail
        refine (CK.out _).mono ?_
        rintro e wd ⟨rfl, hX⟩
        replace hA := hA.below hX
        replace hB1 := hB1.trans (hX.mono hB1.size)
        clear hX a0 a1 a2 a3 a4 a5 a6 a7 a8 a9 a10
        go_wp2
        go_ret
        exact ⟨by first | rfl | exact ret_bool (by simp [e2]), hB1⟩
      · obtain ⟨y1, y2, y3⟩ := HY.out rfl
        rw [y1, y2] at CR
        have e2 : ¬ s.toList = [] := fun hh => by have := str_ne y3; rw [hh] at this; simp at this
        clear HN HY y1 y2 y3
        simp only [ipL] at CR
        go_wp2_with fail
        refine (CR.out _ hB1).mono ?_
        rintro e wa ⟨rfl, hX⟩
        replace hA := hA.below hX
        replace hB1 := hB1.trans (hX.mono hB1.size)
        have hW := Bx.new wa #[.int .i64 tos, .int .i64 id, .bool df, .bool mf, .int .i64 off, .int .i64 ttl, .int .i64 pro, .int .i64 src, .int .i64 dst, .string opts, .string data] 32
        replace hA := hA.below ((Below.refl _ wa).alloc (Nat.le_refl _) (.cells #[.int .i64 tos, .int .i64 id, .bool df, .bool mf, .int .i64 off, .int .i64 ttl, .int .i64 pro, .int .i64 src, .int .i64 dst, .string opts, .string data] 32))
        replace hB1 := hB1.alloc hB1.size (.cells #[.int .i64 tos, .int .i64 id, .bool df, .bool mf, .int .i64 off, .int .i64 ttl, .int .i64 pro, .int .i64 src, .int .i64 dst, .string opts, .string data] 32)
        clear hX
        have a0 := hA.2 0 _ rfl; have a1 := hA.2 1 _ rfl; have a2 := hA.2 2 _ rfl; have a3 := hA.2 3 _ rfl; have a4 := hA.2 4 _ rfl; have a5 := hA.2 5 _ rfl; have a6 := hA.2 6 _ rfl; have a7 := hA.2 7 _ rfl; have a8 := hA.2 8 _ rfl; have a9 := hA.2 9 _ rfl; have a10 := hA.2 10 _ rfl
        go_wp2_with fail
        generalize hW' : wa.alloc _ = we at *
        clear hW'
        generalize wa.heap.size = be at *
        refine (CL.out _).mono ?_
        rintro e wc ⟨rfl, hX⟩
        replace hA := hA.below hX
        replace hW := hW.below hX
        replace hB1 := hB1.trans (hX.mono hB1.size)
        clear hX a0 a1 a2 a3 a4 a5 a6 a7 a8 a9 a10
        have a0 := hA.2 0 _ rfl; have a1 := hA.2 1 _ rfl; have a2 := hA.2 2 _ rfl; have a3 := hA.2 3 _ rfl; have a4 := hA.2 4 _ rfl; have a5 := hA.2 5 _ rfl; have a6 := hA.2 6 _ rfl; have a7 := hA.2 7 _ rfl; have a8 := hA.2 8 _ rfl; have a9 := hA.2 9 _ rfl; have a10 := hA.2 10 _ rfl
        go_wp2_with fail
        refine (CK.out _).mono ?_
        rintro e wd ⟨rfl, hX⟩
        replace hA := hA.below hX
        replace hW := hW.below hX
        replace hB1 := hB1.trans (hX.mono hB1.size)
        clear hX a0 a1 a2 a3 a4 a5 a6 a7 a8 a9 a10
        have HE9 := HE.out wd
        have a0 := hA.2 0 _ rfl; have a1 := hA.2 1 _ rfl; have a2 := hA.2 2 _ rfl; have a3 := hA.2 3 _ rfl; have a4 := hA.2 4 _ rfl; have a5 := hA.2 5 _ rfl; have a6 := hA.2 6 _ rfl; have a7 := hA.2 7 _ rfl; have a8 := hA.2 8 _ rfl; have a9 := hA.2 9 _ rfl; have a10 := hA.2 10 _ rfl
        have c0 := hW.2 0 _ rfl; have c1 := hW.2 1 _ rfl; have c2 := hW.2 2 _ rfl; have c3 := hW.2 3 _ rfl; have c4 := hW.2 4 _ rfl; have c5 := hW.2 5 _ rfl; have c6 := hW.2 6 _ rfl; have c7 := hW.2 7 _ rfl; have c8 := hW.2 8 _ rfl; have c9 := hW.2 9 _ rfl; have c10 := hW.2 10 _ rfl
        go_wp2
        go_ret
        exact ⟨by first | rfl | exact ret_bool (by simp [e2]), hB1⟩
    · have hk1 : (k == 0) = false := by simp [hk0]
      clear hk0 DA
      cases ok
      · have e2 : s.toList = [] := by rw [HN.out rfl]; simp
        clear HN HY HE
        generalize ipCode s = j at *
        generalize readIp s = z at *
        obtain ⟨ztos, zid, zdf, zmf, zoff, zttl, zpro, zsrc, zdst, zopts, zdata⟩ := z
        simp only [ipL] at CR
        go_wp2_with fail
        clear u0 u1 u2 u3 u4 u5 u6 u7 u8 u9 u10 v0 v1 v2 v3 v4 v5 v6 v7 v8 v9 v10 hU hV DN9
        refine (CR.out _ hB1).mono ?_
        rintro e wa ⟨rfl, hX⟩
        replace hA := hA.below hX
        replace hB1 := hB1.trans (hX.mono hB1.size)
        replace hA := hA.below ((Below.refl _ wa).alloc (Nat.le_refl _) (.cells #[.int .i64 ztos, .int .i64 zid, .bool zdf, .bool zmf, .int .i64 zoff, .int .i64 zttl, .int .i64 zpro, .int .i64 zsrc, .int .i64 zdst, .string zopts, .string zdata] 32))
        replace hB1 := hB1.alloc hB1.size (.cells #[.int .i64 ztos, .int .i64 zid, .bool zdf, .bool zmf, .int .i64 zoff, .int .i64 zttl, .int .i64 zpro, .int .i64 zsrc, .int .i64 zdst, .string zopts, .string zdata] 32)
        clear hX
        have a0 := hA.2 0 _ rfl; have a1 := hA.2 1 _ rfl; have a2 := hA.2 2 _ rfl; have a3 := hA.2 3 _ rfl; have a4 := hA.2 4 _ rfl; have a5 := hA.2 5 _ rfl; have a6 := hA.2 6 _ rfl; have a7 := hA.2 7 _ rfl; have a8 := hA.2 8 _ rfl; have a9 := hA.2 9 _ rfl; have a10 := hA.2 10 _ rfl
        go_wp2_with fail
        refine (CL.out _).mono ?_
        rintro e wc ⟨rfl, hX⟩
        replace hA := hA.below hX
        replace hB1 := hB1.trans (hX.mono hB1.size)
        clear hX a0 a1 a2 a3 a4 a5 a6 a7 a8 a9 a10
        have a0 := hA.2 0 _ rfl; have a1 := hA.2 1 _ rfl; have a2 := hA.2 2 _ rfl; have a3 := hA.2 3 _ rfl; have a4 := hA.2 4 _ rfl; have a5 := hA.2 5 _ rfl; have a6 := hA.2 6 _ rfl; have a7 := hA.2 7 _ rfl; have a8 := hA.2 8 _ rfl; have a9 := hA.2 9 _ rfl; have a10 := hA.2 10 _ rfl
        go_wp2_with fail
        refine (CK.out _).mono ?_
        rintro e wd ⟨rfl, hX⟩
        replace hA := hA.below hX
        replace hB1 := hB1.trans (hX.mono hB1.size)
        clear hX a0 a1 a2 a3 a4 a5 a6 a7 a8 a9 a10
        go_wp2
        go_ret
        exact ⟨by first | rfl | exact ret_bool (by simp [e2]), hB1⟩
      · obtain ⟨y1, y2, y3⟩ := HY.out rfl
        rw [y1, y2] at CR
        have e2 : ¬ s.toList = [] := fun hh => by have := str_ne y3; rw [hh] at this; simp at this
        clear HN HY y1 y2 y3
        simp only [ipL] at CR
        go_wp2_with fail
        clear u0 u1 u2 u3 u4 u5 u6 u7 u8 u9 u10 v0 v1 v2 v3 v4 v5 v6 v7 v8 v9 v10 hU hV DN9
        refine (CR.out _ hB1).mono ?_
        rintro e wa ⟨rfl, hX⟩
        replace hA := hA.below hX
        replace hB1 := hB1.trans (hX.mono hB1.size)
        have hW := Bx.new wa #[.int .i64 tos, .int .i64 id, .bool df, .bool mf, .int .i64 off, .int .i64 ttl, .int .i64 pro, .int .i64 src, .int .i64 dst, .string opts, .string data] 32
        replace hA := hA.below ((Below.refl _ wa).alloc (Nat.le_refl _) (.cells #[.int .i64 tos, .int .i64 id, .bool df, .bool mf, .int .i64 off, .int .i64 ttl, .int .i64 pro, .int .i64 src, .int .i64 dst, .string opts, .string data] 32))
        replace hB1 := hB1.alloc hB1.size (.cells #[.int .i64 tos, .int .i64 id, .bool df, .bool mf, .int .i64 off, .int .i64 ttl, .int .i64 pro, .int .i64 src, .int .i64 dst, .string opts, .string data] 32)
        clear hX
        have a0 := hA.2 0 _ rfl; have a1 := hA.2 1 _ rfl; have a2 := hA.2 2 _ rfl; have a3 := hA.2 3 _ rfl; have a4 := hA.2 4 _ rfl; have a5 := hA.2 5 _ rfl; have a6 := hA.2 6 _ rfl; have a7 := hA.2 7 _ rfl; have a8 := hA.2 8 _ rfl; have a9 := hA.2 9 _ rfl; have a10 := hA.2 10 _ rfl
        go_wp2_with fail
        generalize hW' : wa.alloc _ = we at *
        clear hW'
        generalize wa.heap.size = be at *
        refine (CL.out _).mono ?_
        rintro e wc ⟨rfl, hX⟩
        replace hA := hA.below hX
        replace hW := hW.below hX
        replace hB1 := hB1.trans (hX.mono hB1.size)
        clear hX a0 a1 a2 a3 a4 a5 a6 a7 a8 a9 a10
        have a0 := hA.2 0 _ rfl; have a1 := hA.2 1 _ rfl; have a2 := hA.2 2 _ rfl; have a3 := hA.2 3 _ rfl; have a4 := hA.2 4 _ rfl; have a5 := hA.2 5 _ rfl; have a6 := hA.2 6 _ rfl; have a7 := hA.2 7 _ rfl; have a8 := hA.2 8 _ rfl; have a9 := hA.2 9 _ rfl; have a10 := hA.2 10 _ rfl
        go_wp2_with fail
        refine (CK.out _).mono ?_
        rintro e wd ⟨rfl, hX⟩
        replace hA := hA.below hX
        replace hW := hW.below hX
        replace hB1 := hB1.trans (hX.mono hB1.size)
        clear hX a0 a1 a2 a3 a4 a5 a6 a7 a8 a9 a10
        have HE9 := HE.out wd
        have a0 := hA.2 0 _ rfl; have a1 := hA.2 1 _ rfl; have a2 := hA.2 2 _ rfl; have a3 := hA.2 3 _ rfl; have a4 := hA.2 4 _ rfl; have a5 := hA.2 5 _ rfl; have a6 := hA.2 6 _ rfl; have a7 := hA.2 7 _ rfl; have a8 := hA.2 8 _ rfl; have a9 := hA.2 9 _ rfl; have a10 := hA.2 10 _ rfl
        have c0 := hW.2 0 _ rfl; have c1 := hW.2 1 _ rfl; have c2 := hW.2 2 _ rfl; have c3 := hW.2 3 _ rfl; have c4 := hW.2 4 _ rfl; have c5 := hW.2 5 _ rfl; have c6 := hW.2 6 _ rfl; have c7 := hW.2 7 _ rfl; have c8 := hW.2 8 _ rfl; have c9 := hW.2 9 _ rfl; have c10 := hW.2 10 _ rfl
        go_wp2
        go_ret
        exact ⟨by first | rfl | exact ret_bool (by simp [e2]), hB1⟩
end Go.Proofs.YtgknkhhoelgnhaaDoor
