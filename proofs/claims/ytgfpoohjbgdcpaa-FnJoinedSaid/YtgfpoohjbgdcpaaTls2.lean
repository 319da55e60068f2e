/-
  Datagrams that tile: the program.
-/
import Derived.Test.YtgfpoohjbgdcpaaTls1
namespace Go.Proofs.Ytgfpoohjbgdcpaa
open Go.RowKit Go.PlainAid
set_option maxRecDepth 100000 in
set_option maxHeartbeats 12800000 in
theorem i_Tiles (T : Option Addr) (c : Nat) (l : List IpV) (w : World) (h : CellsAt w T (iqF l)) (hl : l.length ≤ 1099511627776) (hs : iqShort l) :
    Calls Try.prog 21 #[.slice T l.length c] w fun e w' => e = .returned (.bool (tlOk l)) ∧ Below w.heap.size w w' := by
  have HY : Hid ((∀ i, i < l.length → tlOne l i = true) → tlOk l = decide (0 < l.length)) := tlOk_yes
  have HN0 : Hid (∀ i, i < l.length → tlOne l i = false → tlOk l = false) := fun i hi h => tlOk_no hi h
  generalize tlOk l = t at *
  go_enter Try.func21, Try.ntmps21
  go_wp2
  go_loopw [7] (fun i wr => ∃ j : Nat, j ≤ l.length ∧ i = .int .i64 (j : Int) ∧ Hid (∀ i, i < j → tlOne l i = true) ∧ Below w.heap.size w wr) (fun i _ => ((l.length : Int) - intOf i).toNat)
  case atStart => exact ⟨0, by omega, rfl, fun i hi => by omega, Below.refl _ _⟩
  case round =>
    obtain ⟨j, hj, rfl, hst, hb⟩ := hrel
    by_cases hlt : j < l.length
    · rcases h.below hb with h | ⟨g, off, rfl, hg, hc⟩
      · have := iqF_len l; rw [h] at this; simp at this; omega
      · have hj1 : (j : Int) < (l.length : Int) := by omega
        have hl0 : (0 : Int) < (l.length : Int) := by omega
        have hcs := iq_cells hc j hlt
        have hcz := iq_cells hc 0 (by omega)
        simp only [Nat.zero_mul, Nat.add_zero] at hcz
        have hcp : Hid (0 < j → wr.cell? ⟨g, off + (j - 1) * 11, none⟩ = some (.int .i64 (iqA l (j - 1)).tos) ∧ wr.cell? ⟨g, off + (j - 1) * 11 + 1, none⟩ = some (.int .i64 (iqA l (j - 1)).id) ∧ wr.cell? ⟨g, off + (j - 1) * 11 + 2, none⟩ = some (.bool (iqA l (j - 1)).df) ∧ wr.cell? ⟨g, off + (j - 1) * 11 + 3, none⟩ = some (.bool (iqA l (j - 1)).mf) ∧ wr.cell? ⟨g, off + (j - 1) * 11 + 4, none⟩ = some (.int .i64 (iqA l (j - 1)).off) ∧ wr.cell? ⟨g, off + (j - 1) * 11 + 5, none⟩ = some (.int .i64 (iqA l (j - 1)).ttl) ∧ wr.cell? ⟨g, off + (j - 1) * 11 + 6, none⟩ = some (.int .i64 (iqA l (j - 1)).pro) ∧ wr.cell? ⟨g, off + (j - 1) * 11 + 7, none⟩ = some (.int .i64 (iqA l (j - 1)).src) ∧ wr.cell? ⟨g, off + (j - 1) * 11 + 8, none⟩ = some (.int .i64 (iqA l (j - 1)).dst) ∧ wr.cell? ⟨g, off + (j - 1) * 11 + 9, none⟩ = some (.string (iqA l (j - 1)).opts) ∧ wr.cell? ⟨g, off + (j - 1) * 11 + 10, none⟩ = some (.string (iqA l (j - 1)).data)) := fun h0 => iq_cells hc (j - 1) (by omega)
        clear hc
        have HN : Hid (tlOne l j = false → t = false) := fun h => HN0.out j hlt h
        have HR : Hid (tlOne l j = true → ∀ i, i < j + 1 → tlOne l i = true) := fun h1 i hi => by
          by_cases e : i = j
          · rw [e]; exact h1
          · exact hst.out i (by omega)
        have HP : Hid (0 < j → ipOk (iqA l (j - 1)) = true) := fun h0 => (tlOne_iff.1 (hst.out (j - 1) (by omega))).1
        have HI : Hid (tlOne l j = true ↔ ipOk (iqA l j) = true ∧ (sameFl (iqA l j) (iqA l 0) = true) ∧ (j = 0 ∨ nextB (iqA l (j - 1)) (iqA l j) = true)) := tlOne_iff
        have hsj := hs j hlt
        have hsp : Hid (0 < j → (iqA l (j - 1)).opts.size ≤ 1048576 ∧ (iqA l (j - 1)).data.size ≤ 1048576) := fun h0 => hs (j - 1) (by omega)
        have CO : Hid (∀ u : World, Calls Try.prog 19 #[.agg (ipL (iqA l j))] u fun e w' => e = .returned (.bool (ipOk (iqA l j))) ∧ Below u.heap.size u w') := fun u => i_IpOk (iqA l j) u (by omega) (by omega)
        have CF : Hid (∀ (tos id : Int) (df mf : Bool) (off ttl pro src dst : Int) (opts data : ByteArray) (u : World), Calls Try.prog 50 #[.agg #[.int .i64 tos, .int .i64 id, .bool df, .bool mf, .int .i64 off, .int .i64 ttl, .int .i64 pro, .int .i64 src, .int .i64 dst, .string opts, .string data]] u fun e w' => e = .returned (.agg #[.int .i64 src, .int .i64 dst, .int .i64 pro, .int .i64 id]) ∧ Below u.heap.size u w') := fun tos id df mf off ttl pro src dst opts data u => i_flowOf ⟨tos, id, df, mf, off, ttl, pro, src, dst, opts, data⟩ u
        have CX : Hid (ipOk (iqA l j) = true → 0 < j → ∀ u : World, Calls Try.prog 51 #[.agg (ipL (iqA l (j - 1))), .agg (ipL (iqA l j))] u fun e w' => e = .returned (.bool (nextB (iqA l (j - 1)) (iqA l j))) ∧ Below u.heap.size u w') := fun hk h0 u => by
          have k1 := ipOk_off hk
          have k2 := ipOk_off (HP.out h0)
          exact i_isNext _ _ u (by omega) (by omega) (by omega) (by omega) (by omega)
        have hB1 : Below w.heap.size w (wr.alloc (.cells (ipL (iqA l j)) 28)) := hb.alloc hb.size _
        have hW1 : Below wr.heap.size wr (wr.alloc (.cells (ipL (iqA l j)) 28)) := (Below.refl _ wr).alloc (Nat.le_refl _) _
        have A1 : Bx (wr.alloc (.cells (ipL (iqA l j)) 28)) wr.heap.size (ipL (iqA l j)).toList := Bx.new wr _ _
        have HF : Hid (sameFl (iqA l j) (iqA l 0) = true ↔ (iqA l j).src = (iqA l 0).src ∧ (iqA l j).dst = (iqA l 0).dst ∧ (iqA l j).pro = (iqA l 0).pro ∧ (iqA l j).id = (iqA l 0).id) := sameFl_iff
        have HF0 : Hid (j = 0 → sameFl (iqA l j) (iqA l 0) = true) := fun e => by rw [e]; exact sameFl_iff.2 ⟨rfl, rfl, rfl, rfl⟩
        generalize tlOne l j = sb at *
        generalize sameFl (iqA l j) (iqA l 0) = sf at *
        generalize nextB (iqA l (j - 1)) (iqA l j) = nx at *
        generalize ipOk (iqA l j) = ok at *
        clear HP
        generalize iqA l j = a at *
        generalize iqA l 0 = z at *
        generalize iqA l (j - 1) = b at *
        obtain ⟨tos1, id1, df1, mf1, off1, ttl1, pro1, src1, dst1, opts1, data1⟩ := a
        obtain ⟨tos0, id0, df0, mf0, off0, ttl0, pro0, src0, dst0, opts0, data0⟩ := z
        obtain ⟨tos2, id2, df2, mf2, off2, ttl2, pro2, src2, dst2, opts2, data2⟩ := b
        simp only [ipL] at *
        go_wp2_with fail
        generalize hW : wr.alloc _ = w1 at *
        clear hW hcs
        have hne := BW.some w1
        have hB2 : ∀ u : BW w1, Below w.heap.size w u.u := fun u => hB1.trans (u.le.mono hB1.size)
        have hgz : g < w1.heap.size := Nat.lt_of_lt_of_le hg hW1.size
        have a0 := fun u : BW w1 => (A1.ofBW u).2 0 _ rfl
        have a1 := fun u : BW w1 => (A1.ofBW u).2 1 _ rfl
        have a2 := fun u : BW w1 => (A1.ofBW u).2 2 _ rfl
        have a3 := fun u : BW w1 => (A1.ofBW u).2 3 _ rfl
        have a4 := fun u : BW w1 => (A1.ofBW u).2 4 _ rfl
        have a5 := fun u : BW w1 => (A1.ofBW u).2 5 _ rfl
        have a6 := fun u : BW w1 => (A1.ofBW u).2 6 _ rfl
        have a7 := fun u : BW w1 => (A1.ofBW u).2 7 _ rfl
        have a8 := fun u : BW w1 => (A1.ofBW u).2 8 _ rfl
        have a9 := fun u : BW w1 => (A1.ofBW u).2 9 _ rfl
        have a10 := fun u : BW w1 => (A1.ofBW u).2 10 _ rfl
        have z0 := fun u : BW w1 => (u.le.cell (p := ⟨g, off, none⟩) hgz).trans ((hW1.cell (p := ⟨g, off, none⟩) hg).trans hcz.1)
        have z1 := fun u : BW w1 => (u.le.cell (p := ⟨g, off + 1, none⟩) hgz).trans ((hW1.cell (p := ⟨g, off + 1, none⟩) hg).trans hcz.2.1)
        have z2 := fun u : BW w1 => (u.le.cell (p := ⟨g, off + 2, none⟩) hgz).trans ((hW1.cell (p := ⟨g, off + 2, none⟩) hg).trans hcz.2.2.1)
        have z3 := fun u : BW w1 => (u.le.cell (p := ⟨g, off + 3, none⟩) hgz).trans ((hW1.cell (p := ⟨g, off + 3, none⟩) hg).trans hcz.2.2.2.1)
        have z4 := fun u : BW w1 => (u.le.cell (p := ⟨g, off + 4, none⟩) hgz).trans ((hW1.cell (p := ⟨g, off + 4, none⟩) hg).trans hcz.2.2.2.2.1)
        have z5 := fun u : BW w1 => (u.le.cell (p := ⟨g, off + 5, none⟩) hgz).trans ((hW1.cell (p := ⟨g, off + 5, none⟩) hg).trans hcz.2.2.2.2.2.1)
        have z6 := fun u : BW w1 => (u.le.cell (p := ⟨g, off + 6, none⟩) hgz).trans ((hW1.cell (p := ⟨g, off + 6, none⟩) hg).trans hcz.2.2.2.2.2.2.1)
        have z7 := fun u : BW w1 => (u.le.cell (p := ⟨g, off + 7, none⟩) hgz).trans ((hW1.cell (p := ⟨g, off + 7, none⟩) hg).trans hcz.2.2.2.2.2.2.2.1)
        have z8 := fun u : BW w1 => (u.le.cell (p := ⟨g, off + 8, none⟩) hgz).trans ((hW1.cell (p := ⟨g, off + 8, none⟩) hg).trans hcz.2.2.2.2.2.2.2.2.1)
        have z9 := fun u : BW w1 => (u.le.cell (p := ⟨g, off + 9, none⟩) hgz).trans ((hW1.cell (p := ⟨g, off + 9, none⟩) hg).trans hcz.2.2.2.2.2.2.2.2.2.1)
        have z10 := fun u : BW w1 => (u.le.cell (p := ⟨g, off + 10, none⟩) hgz).trans ((hW1.cell (p := ⟨g, off + 10, none⟩) hg).trans hcz.2.2.2.2.2.2.2.2.2.2)
        cases ok
        · have hbad : sb = false := by
            have hh := HI.out
            cases sb
            · rfl
            · exact absurd (hh.1 rfl) (fun h => absurd h.1 (by decide))
          refine wp_region_below (by kernel_rfl) (by kernel_rfl) ?_
          repeat (go_big_quiet_step (first | (go_at_call 19; exact Calls.into (CO.out _)) | (go_at_call 50; exact Calls.into (CF.out _ _ _ _ _ _ _ _ _ _ _ _))))
          refine wpQuiet_nil ?_
          intro _ hw'
          obtain ⟨u, hw''⟩ := hw'
          subst hw''
          clear a0 z0 a1 z1 a2 z2 a3 z3 a4 z4 a5 z5 a6 z6 a7 z7 a8 z8 a9 z9 a10 z10 hne
          go_wp2
          go_ret
          exact ⟨ret_bool (HN.out hbad).symm, hB2 u⟩
        · cases sf
          · have hnf : ¬ (src1 = src0 ∧ dst1 = dst0 ∧ pro1 = pro0 ∧ id1 = id0) := fun h => absurd (HF.out.2 h) (by decide)
            have hfl : ∀ w, (binOp .neq 72 (.agg #[.int .i64 src1, .int .i64 dst1, .int .i64 pro1, .int .i64 id1]) (.agg #[.int .i64 src0, .int .i64 dst0, .int .i64 pro0, .int .i64 id0])).run Try.prog w = .ok (.bool true) w := fun w => by rw [flowNeq, decide_eq_false hnf]; rfl
            have hgd := Try.flowGuard
            have hbad : sb = false := by
              have hh := HI.out
              cases sb
              · rfl
              · exact absurd (hh.1 rfl) (fun h => absurd h.2.1 (by decide))
            refine wp_region_below (by kernel_rfl) (by kernel_rfl) ?_
            repeat (go_big_quiet_step (first | (go_at_call 19; exact Calls.into (CO.out _)) | (go_at_call 50; exact Calls.into (CF.out _ _ _ _ _ _ _ _ _ _ _ _))))
            refine wpQuiet_nil ?_
            intro _ hw'
            obtain ⟨u, hw''⟩ := hw'
            subst hw''
            clear a0 z0 a1 z1 a2 z2 a3 z3 a4 z4 a5 z5 a6 z6 a7 z7 a8 z8 a9 z9 a10 z10 hne
            go_wp2
            go_ret
            exact ⟨ret_bool (HN.out hbad).symm, hB2 u⟩
          · have hyf := HF.out.1 rfl
            have hfl : ∀ w, (binOp .neq 72 (.agg #[.int .i64 src1, .int .i64 dst1, .int .i64 pro1, .int .i64 id1]) (.agg #[.int .i64 src0, .int .i64 dst0, .int .i64 pro0, .int .i64 id0])).run Try.prog w = .ok (.bool false) w := fun w => by rw [flowNeq, decide_eq_true hyf]; rfl
            have hgd := Try.flowGuard
            clear hyf HF
            by_cases h0 : 0 < j
            · have hpv := hcp.out h0
              have hd : decide (0 < (j : Int)) = true := by simp; omega
              have hj2 : (j : Int) - 1 = ((j - 1 : Nat) : Int) := by omega
              have hj3 : ((j - 1 : Nat) : Int) < (l.length : Int) := by omega
              have CX1 : Hid (∀ u : World, Calls Try.prog 51 _ u _) := CX.out rfl h0
              have b0 := fun u : BW w1 => (u.le.cell (p := ⟨g, off + (j - 1) * 11, none⟩) hgz).trans ((hW1.cell (p := ⟨g, off + (j - 1) * 11, none⟩) hg).trans hpv.1)
              have b1 := fun u : BW w1 => (u.le.cell (p := ⟨g, off + (j - 1) * 11 + 1, none⟩) hgz).trans ((hW1.cell (p := ⟨g, off + (j - 1) * 11 + 1, none⟩) hg).trans hpv.2.1)
              have b2 := fun u : BW w1 => (u.le.cell (p := ⟨g, off + (j - 1) * 11 + 2, none⟩) hgz).trans ((hW1.cell (p := ⟨g, off + (j - 1) * 11 + 2, none⟩) hg).trans hpv.2.2.1)
              have b3 := fun u : BW w1 => (u.le.cell (p := ⟨g, off + (j - 1) * 11 + 3, none⟩) hgz).trans ((hW1.cell (p := ⟨g, off + (j - 1) * 11 + 3, none⟩) hg).trans hpv.2.2.2.1)
              have b4 := fun u : BW w1 => (u.le.cell (p := ⟨g, off + (j - 1) * 11 + 4, none⟩) hgz).trans ((hW1.cell (p := ⟨g, off + (j - 1) * 11 + 4, none⟩) hg).trans hpv.2.2.2.2.1)
              have b5 := fun u : BW w1 => (u.le.cell (p := ⟨g, off + (j - 1) * 11 + 5, none⟩) hgz).trans ((hW1.cell (p := ⟨g, off + (j - 1) * 11 + 5, none⟩) hg).trans hpv.2.2.2.2.2.1)
              have b6 := fun u : BW w1 => (u.le.cell (p := ⟨g, off + (j - 1) * 11 + 6, none⟩) hgz).trans ((hW1.cell (p := ⟨g, off + (j - 1) * 11 + 6, none⟩) hg).trans hpv.2.2.2.2.2.2.1)
              have b7 := fun u : BW w1 => (u.le.cell (p := ⟨g, off + (j - 1) * 11 + 7, none⟩) hgz).trans ((hW1.cell (p := ⟨g, off + (j - 1) * 11 + 7, none⟩) hg).trans hpv.2.2.2.2.2.2.2.1)
              have b8 := fun u : BW w1 => (u.le.cell (p := ⟨g, off + (j - 1) * 11 + 8, none⟩) hgz).trans ((hW1.cell (p := ⟨g, off + (j - 1) * 11 + 8, none⟩) hg).trans hpv.2.2.2.2.2.2.2.2.1)
              have b9 := fun u : BW w1 => (u.le.cell (p := ⟨g, off + (j - 1) * 11 + 9, none⟩) hgz).trans ((hW1.cell (p := ⟨g, off + (j - 1) * 11 + 9, none⟩) hg).trans hpv.2.2.2.2.2.2.2.2.2.1)
              have b10 := fun u : BW w1 => (u.le.cell (p := ⟨g, off + (j - 1) * 11 + 10, none⟩) hgz).trans ((hW1.cell (p := ⟨g, off + (j - 1) * 11 + 10, none⟩) hg).trans hpv.2.2.2.2.2.2.2.2.2.2)
              clear hpv
              cases nx
              · have hbad : sb = false := by
                  have hh := HI.out
                  cases sb
                  · rfl
                  · exact absurd (hh.1 rfl) (fun h => h.2.2.elim (fun e => absurd e (by omega)) (fun e => absurd e (by decide)))
                refine wp_region_below (by kernel_rfl) (by kernel_rfl) ?_
                repeat (go_big_quiet_step (first | (go_at_call 19; exact Calls.into (CO.out _)) | (go_at_call 50; exact Calls.into (CF.out _ _ _ _ _ _ _ _ _ _ _ _)) | (go_at_call 51; exact Calls.into (CX1.out _))))
                refine wpQuiet_nil ?_
                intro _ hw'
                obtain ⟨u, hw''⟩ := hw'
                subst hw''
                clear a0 z0 a1 z1 a2 z2 a3 z3 a4 z4 a5 z5 a6 z6 a7 z7 a8 z8 a9 z9 a10 z10 hne b0 b1 b2 b3 b4 b5 b6 b7 b8 b9 b10
                go_wp2
                go_ret
                exact ⟨ret_bool (HN.out hbad).symm, hB2 u⟩
              · have hgood : sb = true := HI.out.2 ⟨rfl, rfl, .inr rfl⟩
                refine wp_region_below (by kernel_rfl) (by kernel_rfl) ?_
                repeat (go_big_quiet_step (first | (go_at_call 19; exact Calls.into (CO.out _)) | (go_at_call 50; exact Calls.into (CF.out _ _ _ _ _ _ _ _ _ _ _ _)) | (go_at_call 51; exact Calls.into (CX1.out _))))
                refine wpQuiet_nil ?_
                intro _ hw'
                obtain ⟨u, hw''⟩ := hw'
                subst hw''
                clear a0 z0 a1 z1 a2 z2 a3 z3 a4 z4 a5 z5 a6 z6 a7 z7 a8 z8 a9 z9 a10 z10 hne b0 b1 b2 b3 b4 b5 b6 b7 b8 b9 b10
                go_wp2
                go_roundw
                case rel => exact ⟨j + 1, by omega, by go_num, HR.out hgood, hB2 u⟩
                case measure => simp [intOf]; omega
            · have hj0 : j = 0 := by omega
              subst hj0
              have hgood : sb = true := HI.out.2 ⟨rfl, rfl, .inl rfl⟩
              refine wp_region_below (by kernel_rfl) (by kernel_rfl) ?_
              repeat (go_big_quiet_step (first | (go_at_call 19; exact Calls.into (CO.out _)) | (go_at_call 50; exact Calls.into (CF.out _ _ _ _ _ _ _ _ _ _ _ _))))
              refine wpQuiet_nil ?_
              intro _ hw'
              obtain ⟨u, hw''⟩ := hw'
              subst hw''
              clear a0 z0 a1 z1 a2 z2 a3 z3 a4 z4 a5 z5 a6 z6 a7 z7 a8 z8 a9 z9 a10 z10 hne
              go_wp2
              go_roundw
              case rel => exact ⟨1, by omega, by go_num, HR.out hgood, hB2 u⟩
              case measure => simp [intOf]; omega
    · have e : j = l.length := by omega
      subst e
      go_wp2
      go_ret
      exact ⟨ret_bool (by rw [HY.out hst.out]), hb⟩
end Go.Proofs.Ytgfpoohjbgdcpaa
