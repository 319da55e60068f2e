/-
  Datagrams that are joined: the model.
-/
import Derived.Test.YtgfpoohjbgdcpaaJnd1
namespace Go.Proofs.Ytgfpoohjbgdcpaa
open Go.RowKit Go.PlainAid
theorem ownB_emptyN (w : World) (B b : Nat) (hb : b = w.heap.size) (hB : B ≤ b) : ownB (w.alloc (.cells #[] 5)) B (.slice (some ⟨b, 0, none⟩) 0 0) [] := by
  subst hb; exact ownB.empty w B hB
theorem hid_of {p : Prop} (h : p) : Hid p := h
theorem bcellJ {W w1 : World} (hb : Below W.heap.size W w1) : (∀ b o, b < W.heap.size → w1.cell? ⟨b, o, none⟩ = W.cell? ⟨b, o, none⟩) ∧ (∀ b o, b < W.heap.size → w1.frozen? ⟨b, o, none⟩ = W.frozen? ⟨b, o, none⟩) :=
  ⟨fun b o h => hb.cell (p := ⟨b, o, none⟩) h, fun b o h => hb.frozen (p := ⟨b, o, none⟩) h⟩
set_option maxRecDepth 100000 in
set_option maxHeartbeats 6400000 in
theorem s_Joined (T : Option Addr) (c : Nat) (l : List IpV) (w : World) (h : CellsAt w T (iqF l)) (hn : l.length + iqTot l ≤ 1048576) (hs : iqShort l) :
    Calls Try.prog 25 #[.slice T l.length c] w fun e w' => e = .returned (.tuple #[.agg (ipL (jnV l)), .bool (jnOk l)]) ∧ Below w.heap.size w w' := by
  have CT : Hid (∀ u : World, Below w.heap.size w u → Calls Try.prog 26 #[.slice T l.length c] u fun e w' => e = .returned (.bool (tlOk l)) ∧ Below u.heap.size u w') := fun u hu => s_Tiles T c l u (h.below hu) (by omega) hs
  have hb0 : ∀ cs, Below w.heap.size w (w.alloc (.cells cs 28)) := fun cs => (Below.refl _ w).alloc (Nat.le_refl _) _
  cases ht : tlOk l
  · have HV : Hid (ipL (jnV l) = ipL jn0 ∧ jnOk l = false) := by
      have e : jnOk l = false := by unfold jnOk; rw [ht]; rfl
      exact ⟨by unfold jnV; rw [e]; rfl, e⟩
    rw [HV.out.1, HV.out.2]
    rw [ht] at CT
    clear HV ht
    go_enter Try.func25, Try.ntmps25
    go_wp2_with fail
    go_at_call 26
    refine (CT.out _ (hb0 _)).mono ?_
    rintro e w1 ⟨rfl, hb⟩
    have hB := (hb0 _).trans (hb.mono (hb0 _).size)
    obtain ⟨hc, hf⟩ := bcellJ hb
    clear hb
    go_wp2
    refine bodyPost_ret (v := .tuple #[.agg (ipL jn0), .bool false]) ?_ rfl ⟨rfl, ?_⟩
    · simp [results, Try.results25, go_sem, hc, ipL, jn0]
    · go_grown
  · have hl0 : 0 < l.length := by
      unfold tlOk at ht
      simp only [Bool.and_eq_true, decide_eq_true_iff] at ht
      exact ht.2
    have HV : Hid (ipOk (jnW l) = true → ipL (jnV l) = ipL (jnW l) ∧ jnOk l = true) := fun hk => by
      have e : jnOk l = true := by unfold jnOk; rw [ht, hk]; rfl
      exact ⟨by unfold jnV; rw [e]; rfl, e⟩
    have HN : Hid (ipOk (jnW l) = false → ipL (jnV l) = ipL jn0 ∧ jnOk l = false) := fun hk => by
      have e : jnOk l = false := by unfold jnOk; rw [hk, ht]; rfl
      exact ⟨by unfold jnV; rw [e]; rfl, e⟩
    have HW : Hid (jnW l = ⟨(iqA l 0).tos, (iqA l 0).id, (iqA l 0).df, (iqA l (l.length - 1)).mf, (iqA l 0).off, (iqA l 0).ttl, (iqA l 0).pro, (iqA l 0).src, (iqA l 0).dst, (iqA l 0).opts, str (jnData l)⟩) := rfl
    have hos := (hs 0 hl0).1
    have CI : Hid (∀ (bs : List UInt8) (u : World), bs.length ≤ 1048576 → Calls Try.prog 27 #[.agg (ipL ⟨(iqA l 0).tos, (iqA l 0).id, (iqA l 0).df, (iqA l (l.length - 1)).mf, (iqA l 0).off, (iqA l 0).ttl, (iqA l 0).pro, (iqA l 0).src, (iqA l 0).dst, (iqA l 0).opts, str bs⟩)] u fun e w' => e = .returned (.bool (ipOk ⟨(iqA l 0).tos, (iqA l 0).id, (iqA l 0).df, (iqA l (l.length - 1)).mf, (iqA l 0).off, (iqA l 0).ttl, (iqA l 0).pro, (iqA l 0).src, (iqA l 0).dst, (iqA l 0).opts, str bs⟩)) ∧ Below u.heap.size u w') := fun bs u hb => s_IpOk _ u (by simp only; omega) (by simp only [str_size]; omega)
    have HL : Hid (∀ (bs : List UInt8), 65535 < bs.length → ipOk ⟨(iqA l 0).tos, (iqA l 0).id, (iqA l 0).df, (iqA l (l.length - 1)).mf, (iqA l 0).off, (iqA l 0).ttl, (iqA l 0).pro, (iqA l 0).src, (iqA l 0).dst, (iqA l 0).opts, str bs⟩ = false) := fun bs hb => ipOk_long (by simp only [str_size]; exact hb)
    have hdl := jnData_len l
    have HT : Hid (∀ j, j < l.length → jnData (l.take (j + 1)) = jnData (l.take j) ++ bl (iqA l j).data) := fun j hj => jnData_take l j hj
    have HLe : Hid (∀ j, (jnData (l.take j)).length ≤ (jnData l).length) := jnData_le l
    have HTa : Hid (jnData (l.take l.length) = jnData l) := by show _ = _; rw [List.take_length]
    rw [ht] at CT
    clear ht
    go_enter Try.func25, Try.ntmps25
    go_wp2_with fail
    go_at_call 26
    refine (CT.out _ (hb0 _)).mono ?_
    rintro e w1 ⟨rfl, hb⟩
    have hR1 : Bx w1 w.heap.size [.int .i64 0, .int .i64 0, .bool false, .bool false, .int .i64 0, .int .i64 0, .int .i64 0, .int .i64 0, .int .i64 0, .string ⟨#[]⟩, .string ⟨#[]⟩] := (Bx.new w _ 28).below hb
    have hG1 : Fx w1 w.heap.size := (Fx.new w _ 28).below hb
    have hB1 := (hb0 _).trans (hb.mono (hb0 _).size)
    clear hb CT
    have h1 := h.below hB1
    have hsz1 : w.heap.size < w1.heap.size := hR1.1
    rcases h1 with h1 | ⟨g, off, rfl, hg, hcs⟩
    · have := iqF_len l; rw [h1] at this; simp at this; omega
    have hcz := iq_cells hcs 0 hl0
    simp only [Nat.zero_mul, Nat.add_zero] at hcz
    have hcl := (iq_cells hcs (l.length - 1) (by omega)).2.2.2.1
    generalize hml : (iqA l (l.length - 1)).mf = ml at *
    generalize hp0 : iqA l 0 = p0 at *
    obtain ⟨ptos, pid, pdf, pmf, poff, pttl, ppro, psrc, pdst, popts, pdata⟩ := p0
    simp only at hcz hcl hos
    have hix : ((l.length : Int) - 1).toNat = l.length - 1 := by omega
    have hwx : IntKind.i64.wrap ((l.length : Int) - 1) = (l.length : Int) - 1 := wraps_i64 _ (by omega) (by omega)
    have hix0 : (0 : Int) ≤ (l.length : Int) - 1 := by omega
    have hix1 : (l.length : Int) - 1 < (l.length : Int) := by omega
    have hl0i : (0 : Int) < (l.length : Int) := by omega
    go_wp2
    go_loopw [6, 5] (fun i v wr => ∃ (j : Nat) (bs : List UInt8), i = .int .i64 (j : Int) ∧ j ≤ l.length ∧ Hid (bs = jnData (l.take j)) ∧ ownB wr (w1.heap.size + 1) v bs ∧ Bx wr w1.heap.size [.int .i64 ptos, .int .i64 pid, .bool pdf, .bool ml, .int .i64 poff, .int .i64 pttl, .int .i64 ppro, .int .i64 psrc, .int .i64 pdst, .string popts, .string pdata] ∧ Fx wr w1.heap.size ∧ Bx wr w.heap.size [.int .i64 0, .int .i64 0, .bool false, .bool false, .int .i64 0, .int .i64 0, .int .i64 0, .int .i64 0, .int .i64 0, .string ⟨#[]⟩, .string ⟨#[]⟩] ∧ Fx wr w.heap.size ∧ Below w1.heap.size w1 wr) (fun i _ _ => ((l.length : Int) - intOf i).toNat)
    case atStart =>
      have k1 : w1.heap.size ≠ w.heap.size := by omega
      refine ⟨0, [], rfl, by omega, by show _ = _; rfl, ?_, ?_, ?_, ?_, ?_, ?_⟩
      · exact ownB_emptyN _ _ _ (by simp) (Nat.le_refl _)
      · exact Bx.alloc (Bx.new11 w1 _ _ _ _ _ _ _ _ _ _ _ _) _
      · exact Fx.alloc (Fx.new w1 _ _) _
      · exact Bx.alloc (hR1.alloc _) _
      · exact Fx.alloc (hG1.alloc _) _
      · go_grown
    case round =>
      obtain ⟨j, bs, rfl, hj, HD, ho, hX, hFX, hR, hG, hB⟩ := hrel
      have hBw : Below w.heap.size w wr := hB1.trans (hB.mono hB1.size)
      have hbl : bs.length ≤ (jnData l).length := by rw [HD.out]; exact HLe.out j
      obtain ⟨Tb, cb, rfl⟩ := ownV.form (k := 1) ho
      have HE : Hid (¬ (j < l.length ∧ bs.length < 70000) → (ipOk ⟨ptos, pid, pdf, ml, poff, pttl, ppro, psrc, pdst, popts, str bs⟩ = true → bs = jnData l) ∧ ipOk ⟨ptos, pid, pdf, ml, poff, pttl, ppro, psrc, pdst, popts, str bs⟩ = ipOk (jnW l)) := fun hx => by
        by_cases h7 : bs.length < 70000
        · have e : j = l.length := by omega
          have e2 : bs = jnData l := by rw [HD.out, e, HTa.out]
          exact ⟨fun _ => e2, by rw [HW.out, e2]⟩
        · have e1 := HL.out bs (by omega)
          have e2 := HL.out (jnData l) (by omega)
          rw [HW.out, e1, e2]
          exact ⟨fun h => absurd h (by decide), rfl⟩
      by_cases hlt : j < l.length
      · have hj1 : (j : Int) < (l.length : Int) := by omega
        by_cases hsm : bs.length < 70000
        · have hsm1 : (bs.length : Int) < 70000 := by omega
          have hcj := (iq_below hB hg (iq_cells hcs j hlt)).2.2.2.2.2.2.2.2.2.2
          have HD2 : Hid (bs ++ bl (iqA l j).data = jnData (l.take (j + 1))) := by show _ = _; rw [HT.out j hlt, HD.out]
          have hsj := (hs j hlt).2
          have hq1 := hX.1
          generalize (iqA l j).data = dj at *
          clear HE
          go_wp2_with (at_builtin; refine wpList_append_text rfl _ _ rfl (w1.heap.size + 1) _ bs rfl ho dj rfl (by omega) (by omega) ?_; intro v2 w2 ho2 hb2 _)
          go_roundw
          case rel => exact ⟨j + 1, bs ++ bl dj, by go_num, by omega, HD2.out, ho2, hX.belowB hb2 (by omega), hFX.belowB hb2 (by omega), hR.belowB hb2 (by omega), hG.belowB hb2 (by omega), hB.trans (hb2.mono (by omega))⟩
          case measure => simp [intOf]; omega
        · have hsm1 : ¬ (bs.length : Int) < 70000 := by omega
          have hst := run_string_own ho
          have hX2 : Bx (wr.setCell ⟨w1.heap.size, 10, none⟩ (.string (str bs))) w1.heap.size [.int .i64 ptos, .int .i64 pid, .bool pdf, .bool ml, .int .i64 poff, .int .i64 pttl, .int .i64 ppro, .int .i64 psrc, .int .i64 pdst, .string popts, .string (str bs)] := hX.put 10 _
          have k2 : w1.heap.size ≠ w.heap.size := by omega
          have hR2 : Bx (wr.setCell ⟨w1.heap.size, 10, none⟩ (.string (str bs))) w.heap.size [.int .i64 0, .int .i64 0, .bool false, .bool false, .int .i64 0, .int .i64 0, .int .i64 0, .int .i64 0, .int .i64 0, .string ⟨#[]⟩, .string ⟨#[]⟩] := hR.other k2 _
          have hG2 : Fx (wr.setCell ⟨w1.heap.size, 10, none⟩ (.string (str bs))) w.heap.size := hG.put _ _
          have hB2 : Below w.heap.size w (wr.setCell ⟨w1.heap.size, 10, none⟩ (.string (str bs))) := hBw.setCell (p := ⟨w1.heap.size, 10, none⟩) (by simp only; omega) _
          have f10 := hFX.2 10
          have a0 := hX.2 0 _ rfl
          have a1 := hX.2 1 _ rfl
          have a2 := hX.2 2 _ rfl
          have a3 := hX.2 3 _ rfl
          have a4 := hX.2 4 _ rfl
          have a5 := hX.2 5 _ rfl
          have a6 := hX.2 6 _ rfl
          have a7 := hX.2 7 _ rfl
          have a8 := hX.2 8 _ rfl
          have a9 := hX.2 9 _ rfl
          have a10 := hX.2 10 _ rfl
          go_wp2_with fail
          generalize hWW : wr.setCell _ _ = w2 at *
          clear hWW hX hR hG hBw hB hst f10 ho a0 a1 a2 a3 a4 a5 a6 a7 a8 a9 a10
          go_at_call 27
          refine (CI.out bs _ (by omega)).mono ?_
          rintro e w3 ⟨rfl, hb3⟩
          replace hX2 := hX2.below hb3
          replace hR2 := hR2.below hb3
          replace hG2 := hG2.below hb3
          replace hB2 := hB2.trans (hb3.mono hB2.size)
          clear hb3
          have b0 := hX2.2 0 _ rfl
          have b1 := hX2.2 1 _ rfl
          have b2 := hX2.2 2 _ rfl
          have b3 := hX2.2 3 _ rfl
          have b4 := hX2.2 4 _ rfl
          have b5 := hX2.2 5 _ rfl
          have b6 := hX2.2 6 _ rfl
          have b7 := hX2.2 7 _ rfl
          have b8 := hX2.2 8 _ rfl
          have b9 := hX2.2 9 _ rfl
          have b10 := hX2.2 10 _ rfl
          have r0 := hR2.2 0 _ rfl
          have r1 := hR2.2 1 _ rfl
          have r2 := hR2.2 2 _ rfl
          have r3 := hR2.2 3 _ rfl
          have r4 := hR2.2 4 _ rfl
          have r5 := hR2.2 5 _ rfl
          have r6 := hR2.2 6 _ rfl
          have r7 := hR2.2 7 _ rfl
          have r8 := hR2.2 8 _ rfl
          have r9 := hR2.2 9 _ rfl
          have r10 := hR2.2 10 _ rfl
          have q0 := hG2.2 0
          have q1 := hG2.2 1
          have q2 := hG2.2 2
          have q3 := hG2.2 3
          have q4 := hG2.2 4
          have q5 := hG2.2 5
          have q6 := hG2.2 6
          have q7 := hG2.2 7
          have q8 := hG2.2 8
          have q9 := hG2.2 9
          have q10 := hG2.2 10
          have he := hid_of (HE.out (fun h => hsm h.2))
          generalize ipOk ⟨ptos, pid, pdf, ml, poff, pttl, ppro, psrc, pdst, popts, str bs⟩ = ok at *
          cases ok
          · have hv := hid_of (HN.out he.out.2.symm)
            go_wp2
            refine bodyPost_ret (v := .tuple #[.agg (ipL jn0), .bool false]) ?_ rfl ⟨by rw [hv.out.1, hv.out.2], ?_⟩
            · simp [results, Try.results25, go_sem, ipL, jn0, r0, r1, r2, r3, r4, r5, r6, r7, r8, r9, r10]
            · go_grown
          · have hv := hid_of (HV.out he.out.2.symm)
            have HZ : Hid (ipL (jnV l) = ipL ⟨ptos, pid, pdf, ml, poff, pttl, ppro, psrc, pdst, popts, str bs⟩) := by show _ = _; rw [hv.out.1, HW.out, ← he.out.1 rfl]
            go_wp2
            refine bodyPost_ret (v := .tuple #[.agg #[.int .i64 ptos, .int .i64 pid, .bool pdf, .bool ml, .int .i64 poff, .int .i64 pttl, .int .i64 ppro, .int .i64 psrc, .int .i64 pdst, .string popts, .string (str bs)], .bool true]) ?_ rfl ⟨by rw [HZ.out, hv.out.2]; rfl, ?_⟩
            · simp [results, Try.results25, go_sem, r0, r1, r2, r3, r4, r5, r6, r7, r8, r9, r10]
            · go_grown
      · have hj1 : ¬ (j : Int) < (l.length : Int) := by omega
        have hst := run_string_own ho
        have hX2 : Bx (wr.setCell ⟨w1.heap.size, 10, none⟩ (.string (str bs))) w1.heap.size [.int .i64 ptos, .int .i64 pid, .bool pdf, .bool ml, .int .i64 poff, .int .i64 pttl, .int .i64 ppro, .int .i64 psrc, .int .i64 pdst, .string popts, .string (str bs)] := hX.put 10 _
        have k2 : w1.heap.size ≠ w.heap.size := by omega
        have hR2 : Bx (wr.setCell ⟨w1.heap.size, 10, none⟩ (.string (str bs))) w.heap.size [.int .i64 0, .int .i64 0, .bool false, .bool false, .int .i64 0, .int .i64 0, .int .i64 0, .int .i64 0, .int .i64 0, .string ⟨#[]⟩, .string ⟨#[]⟩] := hR.other k2 _
        have hG2 : Fx (wr.setCell ⟨w1.heap.size, 10, none⟩ (.string (str bs))) w.heap.size := hG.put _ _
        have hB2 : Below w.heap.size w (wr.setCell ⟨w1.heap.size, 10, none⟩ (.string (str bs))) := hBw.setCell (p := ⟨w1.heap.size, 10, none⟩) (by simp only; omega) _
        have f10 := hFX.2 10
        have a0 := hX.2 0 _ rfl
        have a1 := hX.2 1 _ rfl
        have a2 := hX.2 2 _ rfl
        have a3 := hX.2 3 _ rfl
        have a4 := hX.2 4 _ rfl
        have a5 := hX.2 5 _ rfl
        have a6 := hX.2 6 _ rfl
        have a7 := hX.2 7 _ rfl
        have a8 := hX.2 8 _ rfl
        have a9 := hX.2 9 _ rfl
        have a10 := hX.2 10 _ rfl
        go_wp2_with fail
        generalize hWW : wr.setCell _ _ = w2 at *
        clear hWW hX hR hG hBw hB hst f10 ho a0 a1 a2 a3 a4 a5 a6 a7 a8 a9 a10
        go_at_call 27
        refine (CI.out bs _ (by omega)).mono ?_
        rintro e w3 ⟨rfl, hb3⟩
        replace hX2 := hX2.below hb3
        replace hR2 := hR2.below hb3
        replace hG2 := hG2.below hb3
        replace hB2 := hB2.trans (hb3.mono hB2.size)
        clear hb3
        have b0 := hX2.2 0 _ rfl
        have b1 := hX2.2 1 _ rfl
        have b2 := hX2.2 2 _ rfl
        have b3 := hX2.2 3 _ rfl
        have b4 := hX2.2 4 _ rfl
        have b5 := hX2.2 5 _ rfl
        have b6 := hX2.2 6 _ rfl
        have b7 := hX2.2 7 _ rfl
        have b8 := hX2.2 8 _ rfl
        have b9 := hX2.2 9 _ rfl
        have b10 := hX2.2 10 _ rfl
        have r0 := hR2.2 0 _ rfl
        have r1 := hR2.2 1 _ rfl
        have r2 := hR2.2 2 _ rfl
        have r3 := hR2.2 3 _ rfl
        have r4 := hR2.2 4 _ rfl
        have r5 := hR2.2 5 _ rfl
        have r6 := hR2.2 6 _ rfl
        have r7 := hR2.2 7 _ rfl
        have r8 := hR2.2 8 _ rfl
        have r9 := hR2.2 9 _ rfl
        have r10 := hR2.2 10 _ rfl
        have q0 := hG2.2 0
        have q1 := hG2.2 1
        have q2 := hG2.2 2
        have q3 := hG2.2 3
        have q4 := hG2.2 4
        have q5 := hG2.2 5
        have q6 := hG2.2 6
        have q7 := hG2.2 7
        have q8 := hG2.2 8
        have q9 := hG2.2 9
        have q10 := hG2.2 10
        have he := hid_of (HE.out (fun h => hlt h.1))
        generalize ipOk ⟨ptos, pid, pdf, ml, poff, pttl, ppro, psrc, pdst, popts, str bs⟩ = ok at *
        cases ok
        · have hv := hid_of (HN.out he.out.2.symm)
          go_wp2
          refine bodyPost_ret (v := .tuple #[.agg (ipL jn0), .bool false]) ?_ rfl ⟨by rw [hv.out.1, hv.out.2], ?_⟩
          · simp [results, Try.results25, go_sem, ipL, jn0, r0, r1, r2, r3, r4, r5, r6, r7, r8, r9, r10]
          · go_grown
        · have hv := hid_of (HV.out he.out.2.symm)
          have HZ : Hid (ipL (jnV l) = ipL ⟨ptos, pid, pdf, ml, poff, pttl, ppro, psrc, pdst, popts, str bs⟩) := by show _ = _; rw [hv.out.1, HW.out, ← he.out.1 rfl]
          go_wp2
          refine bodyPost_ret (v := .tuple #[.agg #[.int .i64 ptos, .int .i64 pid, .bool pdf, .bool ml, .int .i64 poff, .int .i64 pttl, .int .i64 ppro, .int .i64 psrc, .int .i64 pdst, .string popts, .string (str bs)], .bool true]) ?_ rfl ⟨by rw [HZ.out, hv.out.2]; rfl, ?_⟩
          · simp [results, Try.results25, go_sem, r0, r1, r2, r3, r4, r5, r6, r7, r8, r9, r10]
          · go_grown
end Go.Proofs.Ytgfpoohjbgdcpaa
