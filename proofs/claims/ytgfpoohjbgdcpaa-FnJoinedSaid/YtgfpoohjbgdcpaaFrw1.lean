/-
  Datagrams compared by ==; the draw of a datagram and a length.
-/
import Derived.Test.YtgfpoohjbgdcpaaDlng
import Derived.Test.YtgfpoohjbgdcpaaFrp1
namespace Go.Proofs.Ytgfpoohjbgdcpaa
open Go.RowKit Go.PlainAid
theorem Try.ipGuard : Try.prog.eqGuardType Try.prog.depth 28 = false := by kernel_rfl
theorem ipNeqS (a : IpV) (w : World) : (binOp .neq 28 (.agg (ipL a)) (.agg (ipL a))).run Try.prog w = .ok (.bool false) w := by
  simp only [ipL]
  rw [run_neq_struct, run_equalIn_agg w 9999 _ _ _ (by kernel_rfl) (by kernel_rfl)]
  simp only [Program.fieldsOf, Try.underlying28]
  simp only [Op.eqFields]
  simp [go_sem, part, run_equalIn_int _ _ _ _ _ _ _ Try.underlying2, run_equalIn_bool' _ _ _ _ _ Try.underlying4, run_equalIn_string _ _ _ _ _ Try.underlying9]
theorem ipEqlS (a : IpV) (w : World) : (binOp .eql 28 (.agg (ipL a)) (.agg (ipL a))).run Try.prog w = .ok (.bool true) w := by
  simp only [ipL]
  rw [run_eql_struct, run_equalIn_agg w 9999 _ _ _ (by kernel_rfl) (by kernel_rfl)]
  simp only [Program.fieldsOf, Try.underlying28]
  simp only [Op.eqFields]
  simp [go_sem, part, run_equalIn_int _ _ _ _ _ _ _ Try.underlying2, run_equalIn_bool' _ _ _ _ _ Try.underlying4, run_equalIn_string _ _ _ _ _ Try.underlying9]
set_option maxRecDepth 100000 in
set_option maxHeartbeats 3200000 in
theorem l_sameIps (T U : Option Addr) (c e : Nat) (l : List IpV) (w : World) (h : CellsAt w T (iqF l)) (k : CellsAt w U (iqF l)) (hl : l.length ≤ 1099511627776) :
    Calls Try.prog 17 #[.slice T l.length c, .slice U l.length e] w fun e w' => e = .returned (.bool true) ∧ Below w.heap.size w w' := by
  have hne : ((l.length : Int) != (l.length : Int)) = false := by simp
  have hgd := Try.ipGuard
  go_enter Try.func17, Try.ntmps17
  go_wp2
  go_loopw [5] (fun i wr => ∃ j : Nat, j ≤ l.length ∧ i = .int .i64 (j : Int) ∧ Below w.heap.size w wr) (fun i _ => ((l.length : Int) - intOf i).toNat)
  case atStart => exact ⟨0, by omega, rfl, Below.refl _ _⟩
  case round =>
    obtain ⟨j, hj, rfl, hb⟩ := hrel
    by_cases hlt : j < l.length
    · have hle := iqF_len l
      rcases h with h | ⟨g, off, rfl, hg, hc⟩
      · rw [h] at hle; simp at hle; omega
      · rcases k with k | ⟨g2, off2, rfl, hg2, hc2⟩
        · rw [k] at hle; simp at hle; omega
        · have hj1 : (j : Int) < (l.length : Int) := by omega
          have hcs := iq_cells hc j hlt
          have hcs2 := iq_cells hc2 j hlt
          clear hc hc2 hle
          have hNE := fun u : World => ipNeqS (iqA l j) u
          generalize iqA l j = a at *
          obtain ⟨qtos, qid, qdf, qmf, qoff, qttl, qpro, qsrc, qdst, qopts, qdata⟩ := a
          simp only [ipL] at hNE
          go_wp2_with fail
          have hne2 := BW.some wr
          have c0 := fun u : BW wr => (u.le.cell (p := ⟨g, off + j * 11, none⟩) (Nat.lt_of_lt_of_le hg hb.size)).trans ((hb.cell (p := ⟨g, off + j * 11, none⟩) hg).trans hcs.1)
          have d0 := fun u : BW wr => (u.le.cell (p := ⟨g2, off2 + j * 11, none⟩) (Nat.lt_of_lt_of_le hg2 hb.size)).trans ((hb.cell (p := ⟨g2, off2 + j * 11, none⟩) hg2).trans hcs2.1)
          have c1 := fun u : BW wr => (u.le.cell (p := ⟨g, off + j * 11 + 1, none⟩) (Nat.lt_of_lt_of_le hg hb.size)).trans ((hb.cell (p := ⟨g, off + j * 11 + 1, none⟩) hg).trans hcs.2.1)
          have d1 := fun u : BW wr => (u.le.cell (p := ⟨g2, off2 + j * 11 + 1, none⟩) (Nat.lt_of_lt_of_le hg2 hb.size)).trans ((hb.cell (p := ⟨g2, off2 + j * 11 + 1, none⟩) hg2).trans hcs2.2.1)
          have c2 := fun u : BW wr => (u.le.cell (p := ⟨g, off + j * 11 + 2, none⟩) (Nat.lt_of_lt_of_le hg hb.size)).trans ((hb.cell (p := ⟨g, off + j * 11 + 2, none⟩) hg).trans hcs.2.2.1)
          have d2 := fun u : BW wr => (u.le.cell (p := ⟨g2, off2 + j * 11 + 2, none⟩) (Nat.lt_of_lt_of_le hg2 hb.size)).trans ((hb.cell (p := ⟨g2, off2 + j * 11 + 2, none⟩) hg2).trans hcs2.2.2.1)
          have c3 := fun u : BW wr => (u.le.cell (p := ⟨g, off + j * 11 + 3, none⟩) (Nat.lt_of_lt_of_le hg hb.size)).trans ((hb.cell (p := ⟨g, off + j * 11 + 3, none⟩) hg).trans hcs.2.2.2.1)
          have d3 := fun u : BW wr => (u.le.cell (p := ⟨g2, off2 + j * 11 + 3, none⟩) (Nat.lt_of_lt_of_le hg2 hb.size)).trans ((hb.cell (p := ⟨g2, off2 + j * 11 + 3, none⟩) hg2).trans hcs2.2.2.2.1)
          have c4 := fun u : BW wr => (u.le.cell (p := ⟨g, off + j * 11 + 4, none⟩) (Nat.lt_of_lt_of_le hg hb.size)).trans ((hb.cell (p := ⟨g, off + j * 11 + 4, none⟩) hg).trans hcs.2.2.2.2.1)
          have d4 := fun u : BW wr => (u.le.cell (p := ⟨g2, off2 + j * 11 + 4, none⟩) (Nat.lt_of_lt_of_le hg2 hb.size)).trans ((hb.cell (p := ⟨g2, off2 + j * 11 + 4, none⟩) hg2).trans hcs2.2.2.2.2.1)
          have c5 := fun u : BW wr => (u.le.cell (p := ⟨g, off + j * 11 + 5, none⟩) (Nat.lt_of_lt_of_le hg hb.size)).trans ((hb.cell (p := ⟨g, off + j * 11 + 5, none⟩) hg).trans hcs.2.2.2.2.2.1)
          have d5 := fun u : BW wr => (u.le.cell (p := ⟨g2, off2 + j * 11 + 5, none⟩) (Nat.lt_of_lt_of_le hg2 hb.size)).trans ((hb.cell (p := ⟨g2, off2 + j * 11 + 5, none⟩) hg2).trans hcs2.2.2.2.2.2.1)
          have c6 := fun u : BW wr => (u.le.cell (p := ⟨g, off + j * 11 + 6, none⟩) (Nat.lt_of_lt_of_le hg hb.size)).trans ((hb.cell (p := ⟨g, off + j * 11 + 6, none⟩) hg).trans hcs.2.2.2.2.2.2.1)
          have d6 := fun u : BW wr => (u.le.cell (p := ⟨g2, off2 + j * 11 + 6, none⟩) (Nat.lt_of_lt_of_le hg2 hb.size)).trans ((hb.cell (p := ⟨g2, off2 + j * 11 + 6, none⟩) hg2).trans hcs2.2.2.2.2.2.2.1)
          have c7 := fun u : BW wr => (u.le.cell (p := ⟨g, off + j * 11 + 7, none⟩) (Nat.lt_of_lt_of_le hg hb.size)).trans ((hb.cell (p := ⟨g, off + j * 11 + 7, none⟩) hg).trans hcs.2.2.2.2.2.2.2.1)
          have d7 := fun u : BW wr => (u.le.cell (p := ⟨g2, off2 + j * 11 + 7, none⟩) (Nat.lt_of_lt_of_le hg2 hb.size)).trans ((hb.cell (p := ⟨g2, off2 + j * 11 + 7, none⟩) hg2).trans hcs2.2.2.2.2.2.2.2.1)
          have c8 := fun u : BW wr => (u.le.cell (p := ⟨g, off + j * 11 + 8, none⟩) (Nat.lt_of_lt_of_le hg hb.size)).trans ((hb.cell (p := ⟨g, off + j * 11 + 8, none⟩) hg).trans hcs.2.2.2.2.2.2.2.2.1)
          have d8 := fun u : BW wr => (u.le.cell (p := ⟨g2, off2 + j * 11 + 8, none⟩) (Nat.lt_of_lt_of_le hg2 hb.size)).trans ((hb.cell (p := ⟨g2, off2 + j * 11 + 8, none⟩) hg2).trans hcs2.2.2.2.2.2.2.2.2.1)
          have c9 := fun u : BW wr => (u.le.cell (p := ⟨g, off + j * 11 + 9, none⟩) (Nat.lt_of_lt_of_le hg hb.size)).trans ((hb.cell (p := ⟨g, off + j * 11 + 9, none⟩) hg).trans hcs.2.2.2.2.2.2.2.2.2.1)
          have d9 := fun u : BW wr => (u.le.cell (p := ⟨g2, off2 + j * 11 + 9, none⟩) (Nat.lt_of_lt_of_le hg2 hb.size)).trans ((hb.cell (p := ⟨g2, off2 + j * 11 + 9, none⟩) hg2).trans hcs2.2.2.2.2.2.2.2.2.2.1)
          have c10 := fun u : BW wr => (u.le.cell (p := ⟨g, off + j * 11 + 10, none⟩) (Nat.lt_of_lt_of_le hg hb.size)).trans ((hb.cell (p := ⟨g, off + j * 11 + 10, none⟩) hg).trans hcs.2.2.2.2.2.2.2.2.2.2)
          have d10 := fun u : BW wr => (u.le.cell (p := ⟨g2, off2 + j * 11 + 10, none⟩) (Nat.lt_of_lt_of_le hg2 hb.size)).trans ((hb.cell (p := ⟨g2, off2 + j * 11 + 10, none⟩) hg2).trans hcs2.2.2.2.2.2.2.2.2.2.2)
          refine wp_region_below (by kernel_rfl) (by kernel_rfl) ?_
          repeat (go_big_quiet_step (fail))
          refine wpQuiet_nil ?_
          intro _ hw'
          obtain ⟨u, hw''⟩ := hw'
          subst hw''
          clear c0 d0 c1 d1 c2 d2 c3 d3 c4 d4 c5 d5 c6 d6 c7 d7 c8 d8 c9 d9 c10 d10 hne2
          go_wp2
          go_roundw
          case rel => exact ⟨j + 1, by omega, by go_num, hb.trans (u.le.mono hb.size)⟩
          case measure => simp [intOf]; omega
    · go_wp2
      go_ret
      exact ⟨rfl, hb⟩
set_option maxRecDepth 100000 in
set_option maxHeartbeats 3200000 in
theorem d_Fragments (B : Nat) (C : Option Addr) (len cap : Nat) (w : World) (h : Code w B C len) :
    Calls Try.prog 16 #[.slice C len cap] w fun e w' => ∃ (p : IpV) (mtu : Int), e = .returned (.tuple #[.agg (ipL p), .int .i64 mtu]) ∧ p.data.size ≤ 65600 ∧ p.opts.size ≤ 50 ∧ Below w.heap.size w w' := by
  have hB0 : Below w.heap.size w (w.alloc (.cells zerI.toArray 28)) := (Below.refl _ w).alloc (Nat.le_refl _) _
  have hC0 := h.below (hB0.mono h.2.1)
  have hZ : OI (w.heap.size + 1) w.heap.size (w.alloc (.cells zerI.toArray 28)) w.heap.size zerI := ⟨Bx.new w _ _, Fx.new w _ _, by omega, Nat.le_refl _⟩
  have hs0 : (w.alloc (.cells zerI.toArray 28)).heap.size = w.heap.size + 1 := by simp
  go_enter Try.func16, Try.ntmps16
  go_wp2_with fail
  generalize hW0 : w.alloc _ = w0 at *
  clear hW0
  refine (r_Open B C len cap _ hC0).mono ?_
  rintro e w1 ⟨rfl, hd1, hb1, hs1⟩
  rw [hs0] at hd1 hs1 ⊢
  replace hZ := hZ.below hb1
  replace hB0 := hB0.trans (hb1.mono hB0.size)
  clear hb1 hs0 hC0 h
  go_wp2_with fail
  refine (r_long _ C len cap _ hd1).mono ?_
  rintro e w2 ⟨p, rfl, hpd, hpo, hd2, hO2⟩
  replace hZ := hZ.only hO2
  replace hB0 := hB0.trans (hO2.below (by omega) hB0.size)
  clear hO2 hd1
  go_wp2_with fail
  refine (r_hurtIp _ C len cap p _ hpd (by omega) hd2).mono ?_
  rintro e w3 ⟨q, rfl, hqd, hqo, hd3, hO3⟩
  replace hZ := hZ.only hO3
  replace hB0 := hB0.trans (hO3.below (by omega) hB0.size)
  clear hO3 hd2
  go_wp2_with fail
  refine (r_mtu _ C len cap _ hd3).mono ?_
  rintro e w4 ⟨y, rfl, hd4, hO4⟩
  replace hZ := hZ.only hO4
  replace hB0 := hB0.trans (hO4.below (by omega) hB0.size)
  clear hO4 hd3 hd4
  have z0 := hZ.bx.2 0 _ rfl; have z1 := hZ.bx.2 1 _ rfl; have z2 := hZ.bx.2 2 _ rfl; have z3 := hZ.bx.2 3 _ rfl; have z4 := hZ.bx.2 4 _ rfl; have z5 := hZ.bx.2 5 _ rfl; have z6 := hZ.bx.2 6 _ rfl; have z7 := hZ.bx.2 7 _ rfl; have z8 := hZ.bx.2 8 _ rfl; have z9 := hZ.bx.2 9 _ rfl; have z10 := hZ.bx.2 10 _ rfl
  have fz := hZ.fx.2
  obtain ⟨tos, id, df, mf, off, ttl, pro, src, dst, opts, data⟩ := q
  simp only [ipL] at *
  go_wp2
  refine bodyPost_ret (v := .tuple #[.agg #[.int .i64 tos, .int .i64 id, .bool df, .bool mf, .int .i64 off, .int .i64 ttl, .int .i64 pro, .int .i64 src, .int .i64 dst, .string opts, .string data], .int .i64 y]) ?_ rfl ⟨⟨tos, id, df, mf, off, ttl, pro, src, dst, opts, data⟩, y, rfl, hqd, hqo, ?_⟩
  · simp [results, Try.results16, go_sem, z0, z1, z2, z3, z4, z5, z6, z7, z8, z9, z10]
  · go_grown
end Go.Proofs.Ytgfpoohjbgdcpaa
