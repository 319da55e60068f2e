/-
  Datagrams that are joined: the program.
-/
import Derived.Test.YtgfpoohjbgdcpaaJnd2
import Derived.Test.YtgfpoohjbgdcpaaBld2
import Derived.Test.YtgfpoohjbgdcpaaClone
namespace Go.Proofs.Ytgfpoohjbgdcpaa
open Go.RowKit Go.PlainAid
theorem Bx.heap {W W' : World} {b : Nat} {vs : List Value} (h : Bx W b vs) (hb : W'.heap[b]? = W.heap[b]?) (hs : W'.heap.size = W.heap.size) : Bx W' b vs :=
  ⟨by rw [hs]; exact h.1, fun i v hv => (World.cell?_of_block (w := W) (a := ⟨b, i, none⟩) hb).trans (h.2 i v hv)⟩
theorem Fx.heap {W W' : World} {b : Nat} (h : Fx W b) (hb : W'.heap[b]? = W.heap[b]?) (hs : W'.heap.size = W.heap.size) : Fx W' b :=
  ⟨by rw [hs]; exact h.1, fun j => (World.frozen?_of_block (w := W) (a := ⟨b, j, none⟩) hb).trans (h.2 j)⟩
set_option maxRecDepth 100000 in
set_option maxHeartbeats 6400000 in
theorem i_Joined (T : Option Addr) (c : Nat) (l : List IpV) (w : World) (h : CellsAt w T (iqF l)) (hn : l.length + iqTot l ≤ 1048576) (hs : iqShort l) :
    Calls Try.prog 20 #[.slice T l.length c] w fun e w' => e = .returned (.tuple #[.agg (ipL (jnV l)), .bool (jnOk l)]) ∧ Below w.heap.size w w' := by
  have CT : Hid (∀ u : World, Below w.heap.size w u → Calls Try.prog 21 #[.slice T l.length c] u fun e w' => e = .returned (.bool (tlOk l)) ∧ Below u.heap.size u w') := fun u hu => i_Tiles T c l u (h.below hu) (by omega) hs
  have hb0 : ∀ cs, Below w.heap.size w (w.alloc (.cells cs 28)) := fun cs => (Below.refl _ w).alloc (Nat.le_refl _) _
  cases ht : tlOk l
  · have HV : Hid (ipL (jnV l) = ipL jn0 ∧ jnOk l = false) := by
      have e : jnOk l = false := by unfold jnOk; rw [ht]; rfl
      exact ⟨by unfold jnV; rw [e]; rfl, e⟩
    rw [HV.out.1, HV.out.2]
    rw [ht] at CT
    clear HV ht
    go_enter Try.func20, Try.ntmps20
    go_wp2_with fail
    go_at_call 21
    refine (CT.out _ (hb0 _)).mono ?_
    rintro e w1 ⟨rfl, hb⟩
    have hB := (hb0 _).trans (hb.mono (hb0 _).size)
    obtain ⟨hc, hf⟩ := bcellJ hb
    clear hb
    go_wp2
    refine bodyPost_ret (v := .tuple #[.agg (ipL jn0), .bool false]) ?_ rfl ⟨rfl, ?_⟩
    · simp [results, Try.results20, go_sem, hc, ipL, jn0]
    · go_grown
  · have hl0 : 0 < l.length := by
      unfold tlOk at ht
      simp only [Bool.and_eq_true, decide_eq_true_iff] at ht
      exact ht.2
    have HV : Hid (ipOk (jnW l) = true → ipL (jnV l) = ipL (jnW l) ∧ jnOk l = true) := fun hk => by
      have e : jnOk l = true := by unfold jnOk; rw [ht, hk]; rfl
      exact ⟨by unfold jnV; rw [e]; rfl, e⟩
    have HN : Hid (ipOk (jnW l) = false → ipL (jnV l) = ipL jn0 ∧ jnOk l = false) := fun hk => by
      have e : jnOk l = false := by unfold jnOk; rw [hk, ht]; rfl
      exact ⟨by unfold jnV; rw [e]; rfl, e⟩
    have HW : Hid (jnW l = ⟨(iqA l 0).tos, (iqA l 0).id, (iqA l 0).df, (iqA l (l.length - 1)).mf, (iqA l 0).off, (iqA l 0).ttl, (iqA l 0).pro, (iqA l 0).src, (iqA l 0).dst, (iqA l 0).opts, str (jnData l)⟩) := rfl
    have hos := (hs 0 hl0).1
    have hdl := jnData_len l
    have CI : Hid (∀ (u : World), Calls Try.prog 19 #[.agg (ipL ⟨(iqA l 0).tos, (iqA l 0).id, (iqA l 0).df, (iqA l (l.length - 1)).mf, (iqA l 0).off, (iqA l 0).ttl, (iqA l 0).pro, (iqA l 0).src, (iqA l 0).dst, (iqA l 0).opts, str (jnData l)⟩)] u fun e w' => e = .returned (.bool (ipOk (jnW l))) ∧ Below u.heap.size u w') := fun u => i_IpOk (jnW l) u (by simp only [jnW]; omega) (by simp only [jnW, str_size]; omega)
    have CC : Hid (∀ u : World, Calls Try.prog 48 #[.string (iqA l 0).opts] u fun e w' => e = .returned (.string (iqA l 0).opts) ∧ Below u.heap.size u w') := fun u => c_Clone _ u (by omega)
    have HT : Hid (∀ j, j < l.length → Lib.byteCells (jnData (l.take (j + 1))) = Lib.byteCells (jnData (l.take j)) ++ Lib.strCells (iqA l j).data) := fun j hj => by
      rw [jnData_take l j hj, Lib.byteCells_append, Lib.strCells_eq]
    have HLe : Hid (∀ j, (Lib.byteCells (jnData (l.take j))).length ≤ (jnData l).length) := fun j => by rw [Lib.byteCells_length]; exact jnData_le l j
    have HTa : Hid (jnData (l.take l.length) = jnData l) := by show _ = _; rw [List.take_length]
    rw [ht] at CT
    clear ht
    go_enter Try.func20, Try.ntmps20
    go_wp2_with fail
    go_at_call 21
    refine (CT.out _ (hb0 _)).mono ?_
    rintro e w1 ⟨rfl, hb⟩
    have hR1 : Bx w1 w.heap.size [.int .i64 0, .int .i64 0, .bool false, .bool false, .int .i64 0, .int .i64 0, .int .i64 0, .int .i64 0, .int .i64 0, .string ⟨#[]⟩, .string ⟨#[]⟩] := (Bx.new w _ 28).below hb
    have hG1 : Fx w1 w.heap.size := (Fx.new w _ 28).below hb
    have hB1 := (hb0 _).trans (hb.mono (hb0 _).size)
    clear hb CT
    have h1 := h.below hB1
    have hsz1 : w.heap.size < w1.heap.size := hR1.1
    rcases h1 with h1 | ⟨g, off, rfl, hg, hcs⟩
    · have := iqF_len l; rw [h1] at this; simp at this; omega
    have hcz := iq_cells hcs 0 hl0
    simp only [Nat.zero_mul, Nat.add_zero] at hcz
    have hcl := (iq_cells hcs (l.length - 1) (by omega)).2.2.2.1
    have hBN := BlN.new w1
    go_wp2
    go_loopw [14] (fun i wr => ∃ (j N : Nat), i = .int .i64 (j : Int) ∧ j ≤ l.length ∧ N ≤ wr.heap.size ∧ BlN wr w1.heap.size w1.heap.size N (Lib.byteCells (jnData (l.take j))) ∧ Bx wr w.heap.size [.int .i64 0, .int .i64 0, .bool false, .bool false, .int .i64 0, .int .i64 0, .int .i64 0, .int .i64 0, .int .i64 0, .string ⟨#[]⟩, .string ⟨#[]⟩] ∧ Fx wr w.heap.size ∧ Below w1.heap.size w1 wr) (fun i _ => ((l.length : Int) - intOf i).toNat)
    case atStart => exact ⟨0, w1.heap.size + 1, rfl, by omega, by simp, hBN, hR1.alloc _, hG1.alloc _, (Below.refl _ w1).alloc (Nat.le_refl _) _⟩
    case round =>
      clear hBN
      obtain ⟨j, N, rfl, hj, hNw, hBl, hR, hG, hB⟩ := hrel
      have hlb := HLe.out j
      by_cases hlt : j < l.length
      · have hj1 : (j : Int) < (l.length : Int) := by omega
        have hcj := iq_below hB hg (iq_cells hcs j hlt)
        have hsj := (hs j hlt).2
        have HT2 : Hid (Lib.byteCells (jnData (l.take (j + 1))) = Lib.byteCells (jnData (l.take j)) ++ Lib.strCells (iqA l j).data) := HT.out j hlt
        have hbn : w1.heap.size ≤ wr.heap.size := hB.size
        have CWr : Hid (∀ u : World, Below wr.heap.size wr u → Calls Try.prog 47 #[.pointer (some ⟨w1.heap.size, 0, none⟩), .string (iqA l j).data] u fun e w' => e = .returned (.tuple #[.int .i64 (iqA l j).data.size, .nilIface]) ∧ (BlN w' w1.heap.size w1.heap.size w'.heap.size (Lib.byteCells (jnData (l.take (j + 1)))) ∧ Below w1.heap.size u w')) := fun u hu => by
          rw [HT2.out]
          exact bl_writeN _ _ N _ _ u (hBl.far (hu.mono hNw)) (by omega) (Nat.le_trans hbn hu.size) (Nat.le_trans hNw hu.size)
        generalize iqA l j = a at *
        obtain ⟨tos1, id1, df1, mf1, off1, ttl1, pro1, src1, dst1, opts1, data1⟩ := a
        simp only at hcj hsj CWr
        go_wp2_with fail
        go_at_call 47
        refine (CWr.out _ (by go_grown)).mono ?_
        rintro e w2 ⟨rfl, hBl2, hb2⟩
        have hBa : Below w1.heap.size wr w2 := Below.trans (by go_grown) hb2
        clear hb2 CWr hcj
        go_wp2
        go_roundw
        case rel => exact ⟨j + 1, w2.heap.size, by go_num, by omega, Nat.le_refl _, hBl2, hR.belowB hBa (by omega), hG.belowB hBa (by omega), hB.trans hBa⟩
        case measure => simp [intOf]; omega
      · have hj1 : ¬ (j : Int) < (l.length : Int) := by omega
        have e : j = l.length := by omega
        subst e
        rw [HTa.out] at hBl
        have CS : Hid (∀ u : World, Below wr.heap.size wr u → Calls Try.prog 49 #[.pointer (some ⟨w1.heap.size, 0, none⟩)] u fun e w' => e = .returned (.string (str (jnData l))) ∧ (∀ i, N ≤ i → w'.heap[i]? = u.heap[i]?) ∧ w'.heap.size = u.heap.size ∧ Below w1.heap.size u w') := fun u hu => bl_stringN _ _ N _ u (hBl.far (hu.mono hNw))
        have hcz2 := iq_below hB hg (iq_cells hcs 0 hl0)
        simp only [Nat.zero_mul, Nat.add_zero] at hcz2
        clear hcz
        have hBw : Below w.heap.size w wr := hB1.trans (hB.mono hB1.size)
        have hl0i : (0 : Int) < (l.length : Int) := by omega
        have hix : ((l.length : Int) - 1).toNat = l.length - 1 := by omega
        have hwx : IntKind.i64.wrap ((l.length : Int) - 1) = (l.length : Int) - 1 := wraps_i64 _ (by omega) (by omega)
        have hix0 : (0 : Int) ≤ (l.length : Int) - 1 := by omega
        have hix1 : (l.length : Int) - 1 < (l.length : Int) := by omega
        have hbn : w1.heap.size ≤ wr.heap.size := hB.size
        generalize hml : (iqA l (l.length - 1)).mf = ml at *
        generalize hp0 : iqA l 0 = p0 at *
        obtain ⟨ptos, pid, pdf, pmf, poff, pttl, ppro, psrc, pdst, popts, pdata⟩ := p0
        simp only at hcz2 hcl hos CC CI HW
        have hX : Bx (wr.alloc (.cells #[.int .i64 ptos, .int .i64 pid, .bool pdf, .bool pmf, .int .i64 poff, .int .i64 pttl, .int .i64 ppro, .int .i64 psrc, .int .i64 pdst, .string popts, .string pdata] 28)) wr.heap.size [.int .i64 ptos, .int .i64 pid, .bool pdf, .bool pmf, .int .i64 poff, .int .i64 pttl, .int .i64 ppro, .int .i64 psrc, .int .i64 pdst, .string popts, .string pdata] := Bx.new11 wr _ _ _ _ _ _ _ _ _ _ _ _
        have hF : Fx (wr.alloc (.cells #[.int .i64 ptos, .int .i64 pid, .bool pdf, .bool pmf, .int .i64 poff, .int .i64 pttl, .int .i64 ppro, .int .i64 psrc, .int .i64 pdst, .string popts, .string pdata] 28)) wr.heap.size := Fx.new wr _ _
        have hQ : Below wr.heap.size wr (wr.alloc (.cells #[.int .i64 ptos, .int .i64 pid, .bool pdf, .bool pmf, .int .i64 poff, .int .i64 pttl, .int .i64 ppro, .int .i64 psrc, .int .i64 pdst, .string popts, .string pdata] 28)) := (Below.refl _ wr).alloc (Nat.le_refl _) _
        go_wp2_with fail
        go_at_call 48
        refine (CC.out _).mono ?_
        rintro e w2 ⟨rfl, hb⟩
        replace hX := hX.below hb
        replace hF := hF.below hb
        replace hQ := hQ.trans (hb.mono hQ.size)
        clear hb CC hcz2
        have x9 := hX.2 9 _ rfl
        have f9 := hF.2 9
        have hX2 : Bx (w2.setCell ⟨wr.heap.size, 9, none⟩ (.string popts)) wr.heap.size [.int .i64 ptos, .int .i64 pid, .bool pdf, .bool pmf, .int .i64 poff, .int .i64 pttl, .int .i64 ppro, .int .i64 psrc, .int .i64 pdst, .string popts, .string pdata] := hX.put 9 _
        have hF2 : Fx (w2.setCell ⟨wr.heap.size, 9, none⟩ (.string popts)) wr.heap.size := hF.put _ _
        have hQ2 : Below wr.heap.size wr (w2.setCell ⟨wr.heap.size, 9, none⟩ (.string popts)) := hQ.setCell (p := ⟨wr.heap.size, 9, none⟩) (Nat.le_refl _) _
        go_wp2_with fail
        generalize hWW : w2.setCell _ _ = w3 at *
        clear hWW hX hF hQ f9 x9
        go_at_call 49
        refine (CS.out _ hQ2).mono ?_
        rintro e w4 ⟨rfl, hk, hz, hb⟩
        have hX4 := hX2.heap (hk _ hNw) hz
        have hF4 := hF2.heap (hk _ hNw) hz
        have hQ4 : Below w1.heap.size wr w4 := (hQ2.mono hbn).trans hb
        have hR4 := hR.belowB hQ4 (by omega)
        have hG4 := hG.belowB hQ4 (by omega)
        have hB4 : Below w1.heap.size w1 w4 := hB.trans hQ4
        have hBw4 : Below w.heap.size w w4 := hB1.trans (hB4.mono hB1.size)
        have hcl4 := (hB4.cell (p := ⟨g, off + (l.length - 1) * 11 + 3, none⟩) hg).trans hcl
        have hw4 : wr.heap.size < w4.heap.size := hX4.1
        clear hk hz hb CS hcl hX2 hF2 hQ2 hQ4
        have y0 := hX4.2 0 _ rfl
        have y1 := hX4.2 1 _ rfl
        have y2 := hX4.2 2 _ rfl
        have y3 := hX4.2 3 _ rfl
        have y4 := hX4.2 4 _ rfl
        have y5 := hX4.2 5 _ rfl
        have y6 := hX4.2 6 _ rfl
        have y7 := hX4.2 7 _ rfl
        have y8 := hX4.2 8 _ rfl
        have y9 := hX4.2 9 _ rfl
        have y10 := hX4.2 10 _ rfl
        have z10 := hF4.2 10
        have z3 := hF4.2 3
        have k2 : wr.heap.size ≠ w.heap.size := by omega
        have hX5 : Bx ((w4.setCell ⟨wr.heap.size, 10, none⟩ (.string (str (jnData l)))).setCell ⟨wr.heap.size, 3, none⟩ (.bool ml)) wr.heap.size [.int .i64 ptos, .int .i64 pid, .bool pdf, .bool ml, .int .i64 poff, .int .i64 pttl, .int .i64 ppro, .int .i64 psrc, .int .i64 pdst, .string popts, .string (str (jnData l))] := (hX4.put 10 _).put 3 _
        have hR5 : Bx ((w4.setCell ⟨wr.heap.size, 10, none⟩ (.string (str (jnData l)))).setCell ⟨wr.heap.size, 3, none⟩ (.bool ml)) w.heap.size [.int .i64 0, .int .i64 0, .bool false, .bool false, .int .i64 0, .int .i64 0, .int .i64 0, .int .i64 0, .int .i64 0, .string ⟨#[]⟩, .string ⟨#[]⟩] := (hR4.other k2 _).other k2 _
        have hG5 : Fx ((w4.setCell ⟨wr.heap.size, 10, none⟩ (.string (str (jnData l)))).setCell ⟨wr.heap.size, 3, none⟩ (.bool ml)) w.heap.size := (hG4.put _ _).put _ _
        have hB5 : Below w.heap.size w ((w4.setCell ⟨wr.heap.size, 10, none⟩ (.string (str (jnData l)))).setCell ⟨wr.heap.size, 3, none⟩ (.bool ml)) := (hBw4.setCell (p := ⟨wr.heap.size, 10, none⟩) (by simp only; omega) _).setCell (p := ⟨wr.heap.size, 3, none⟩) (by simp only; omega) _
        have kg : g ≠ wr.heap.size := by omega
        go_wp2_with fail
        generalize hWW : World.setCell (World.setCell _ _ _) _ _ = w5 at *
        clear hWW hX4 hR4 hG4 hBw4 hB4 hcl4 hBw hB y0 y1 y2 y3 y4 y5 y6 y7 y8 y9 y10 z10 z3
        go_at_call 19
        refine (CI.out _).mono ?_
        rintro e w6 ⟨rfl, hb3⟩
        replace hX5 := hX5.below hb3
        replace hR5 := hR5.below hb3
        replace hG5 := hG5.below hb3
        replace hB5 := hB5.trans (hb3.mono hB5.size)
        clear hb3
        have b0 := hX5.2 0 _ rfl
        have b1 := hX5.2 1 _ rfl
        have b2 := hX5.2 2 _ rfl
        have b3 := hX5.2 3 _ rfl
        have b4 := hX5.2 4 _ rfl
        have b5 := hX5.2 5 _ rfl
        have b6 := hX5.2 6 _ rfl
        have b7 := hX5.2 7 _ rfl
        have b8 := hX5.2 8 _ rfl
        have b9 := hX5.2 9 _ rfl
        have b10 := hX5.2 10 _ rfl
        have r0 := hR5.2 0 _ rfl
        have r1 := hR5.2 1 _ rfl
        have r2 := hR5.2 2 _ rfl
        have r3 := hR5.2 3 _ rfl
        have r4 := hR5.2 4 _ rfl
        have r5 := hR5.2 5 _ rfl
        have r6 := hR5.2 6 _ rfl
        have r7 := hR5.2 7 _ rfl
        have r8 := hR5.2 8 _ rfl
        have r9 := hR5.2 9 _ rfl
        have r10 := hR5.2 10 _ rfl
        have q0 := hG5.2 0
        have q1 := hG5.2 1
        have q2 := hG5.2 2
        have q3 := hG5.2 3
        have q4 := hG5.2 4
        have q5 := hG5.2 5
        have q6 := hG5.2 6
        have q7 := hG5.2 7
        have q8 := hG5.2 8
        have q9 := hG5.2 9
        have q10 := hG5.2 10
        have he := hid_of (rfl : ipOk (jnW l) = ipOk (jnW l))
        generalize hok : ipOk (jnW l) = ok at HV HN ⊢
        clear hok he
        cases ok
        · have hv := hid_of (HN.out rfl)
          go_wp2
          refine bodyPost_ret (v := .tuple #[.agg (ipL jn0), .bool false]) ?_ rfl ⟨by rw [hv.out.1, hv.out.2], ?_⟩
          · simp [results, Try.results20, go_sem, ipL, jn0, r0, r1, r2, r3, r4, r5, r6, r7, r8, r9, r10]
          · go_grown
        · have hv := hid_of (HV.out rfl)
          have HZ : Hid (ipL (jnV l) = ipL ⟨ptos, pid, pdf, ml, poff, pttl, ppro, psrc, pdst, popts, str (jnData l)⟩) := by show _ = _; rw [hv.out.1, HW.out]
          go_wp2
          refine bodyPost_ret (v := .tuple #[.agg #[.int .i64 ptos, .int .i64 pid, .bool pdf, .bool ml, .int .i64 poff, .int .i64 pttl, .int .i64 ppro, .int .i64 psrc, .int .i64 pdst, .string popts, .string (str (jnData l))], .bool true]) ?_ rfl ⟨by rw [HZ.out, hv.out.2]; rfl, ?_⟩
          · simp [results, Try.results20, go_sem, r0, r1, r2, r3, r4, r5, r6, r7, r8, r9, r10]
          · go_grown
end Go.Proofs.Ytgfpoohjbgdcpaa
