/-
  Datagrams that tile: the model.
-/
import Derived.Test.YtgfpoohjbgdcpaaTls1
namespace Go.Proofs.Ytgfpoohjbgdcpaa
open Go.RowKit Go.PlainAid
set_option maxRecDepth 100000 in
set_option maxHeartbeats 12800000 in
theorem s_Tiles (T : Option Addr) (c : Nat) (l : List IpV) (w : World) (h : CellsAt w T (iqF l)) (hl : l.length ≤ 1099511627776) (hs : iqShort l) :
    Calls Try.prog 26 #[.slice T l.length c] w fun e w' => e = .returned (.bool (tlOk l)) ∧ Below w.heap.size w w' := by
  have HY : Hid ((∀ i, i < l.length → tlOne l i = true) → tlOk l = decide (0 < l.length)) := tlOk_yes
  have HN0 : Hid (∀ i, i < l.length → tlOne l i = false → tlOk l = false) := fun i hi h => tlOk_no hi h
  generalize tlOk l = t at *
  go_enter Try.func26, Try.ntmps26
  go_wp2
  go_loopw [3] (fun i wr => ∃ j : Nat, j ≤ l.length ∧ i = .int .i64 (j : Int) ∧ Hid (∀ i, i < j → tlOne l i = true) ∧ Hid (0 < j → j < l.length → (iqA l (j - 1)).mf = true) ∧ Below w.heap.size w wr) (fun i _ => ((l.length : Int) - intOf i).toNat)
  case atStart => exact ⟨0, by omega, rfl, fun i hi => by omega, fun h => by omega, Below.refl _ _⟩
  case round =>
    obtain ⟨j, hj, rfl, hst, hmf, hb⟩ := hrel
    by_cases hlt : j < l.length
    · rcases h.below hb with h | ⟨g, off, rfl, hg, hc⟩
      · have := iqF_len l; rw [h] at this; simp at this; omega
      · have hj1 : (j : Int) < (l.length : Int) := by omega
        have hl0 : (0 : Int) < (l.length : Int) := by omega
        have hcs := iq_cells hc j hlt
        have hcz := iq_cells hc 0 (by omega)
        simp only [Nat.zero_mul, Nat.add_zero] at hcz
        have hcp : Hid (0 < j → wr.cell? ⟨g, off + (j - 1) * 11, none⟩ = some (.int .i64 (iqA l (j - 1)).tos) ∧ wr.cell? ⟨g, off + (j - 1) * 11 + 1, none⟩ = some (.int .i64 (iqA l (j - 1)).id) ∧ wr.cell? ⟨g, off + (j - 1) * 11 + 2, none⟩ = some (.bool (iqA l (j - 1)).df) ∧ wr.cell? ⟨g, off + (j - 1) * 11 + 3, none⟩ = some (.bool (iqA l (j - 1)).mf) ∧ wr.cell? ⟨g, off + (j - 1) * 11 + 4, none⟩ = some (.int .i64 (iqA l (j - 1)).off) ∧ wr.cell? ⟨g, off + (j - 1) * 11 + 5, none⟩ = some (.int .i64 (iqA l (j - 1)).ttl) ∧ wr.cell? ⟨g, off + (j - 1) * 11 + 6, none⟩ = some (.int .i64 (iqA l (j - 1)).pro) ∧ wr.cell? ⟨g, off + (j - 1) * 11 + 7, none⟩ = some (.int .i64 (iqA l (j - 1)).src) ∧ wr.cell? ⟨g, off + (j - 1) * 11 + 8, none⟩ = some (.int .i64 (iqA l (j - 1)).dst) ∧ wr.cell? ⟨g, off + (j - 1) * 11 + 9, none⟩ = some (.string (iqA l (j - 1)).opts) ∧ wr.cell? ⟨g, off + (j - 1) * 11 + 10, none⟩ = some (.string (iqA l (j - 1)).data)) := fun h0 => iq_cells hc (j - 1) (by omega)
        clear hc
        have HN : Hid (tlOne l j = false → t = false) := fun h => HN0.out j hlt h
        have HR : Hid (tlOne l j = true → ∀ i, i < j + 1 → tlOne l i = true) := fun h1 i hi => by
          by_cases e : i = j
          · rw [e]; exact h1
          · exact hst.out i (by omega)
        have HP : Hid (0 < j → ipOk (iqA l (j - 1)) = true) := fun h0 => (tlOne_iff.1 (hst.out (j - 1) (by omega))).1
        have HI : Hid (tlOne l j = true ↔ ipOk (iqA l j) = true ∧ (sameFl (iqA l j) (iqA l 0) = true) ∧ (j = 0 ∨ nextB (iqA l (j - 1)) (iqA l j) = true)) := tlOne_iff
        have hsj := hs j hlt
        have hsp : Hid (0 < j → (iqA l (j - 1)).opts.size ≤ 1048576 ∧ (iqA l (j - 1)).data.size ≤ 1048576) := fun h0 => hs (j - 1) (by omega)
        have CO : Hid (∀ u : World, Calls Try.prog 27 #[.agg (ipL (iqA l j))] u fun e w' => e = .returned (.bool (ipOk (iqA l j))) ∧ Below u.heap.size u w') := fun u => s_IpOk (iqA l j) u (by omega) (by omega)
        have HM : Hid (j + 1 < l.length → (iqA l j).mf = false → t = false) := fun h1 h2 => HN0.out (j + 1) h1 (by
          cases hx : tlOne l (j + 1)
          · rfl
          · have := (tlOne_iff.1 hx).2.2
            rcases this with e | e
            · omega
            · have := (nextB_iff.1 e).1
              rw [Nat.add_sub_cancel, h2] at this
              exact absurd this (by decide))
        have HMF : Hid ((iqA l j).mf = true ∨ ¬ j + 1 < l.length → 0 < j + 1 → j + 1 < l.length → (iqA l (j + 1 - 1)).mf = true) := fun h _ h2 => by
          rcases h with h | h
          · exact h
          · exact absurd h2 h
        have HF : Hid (sameFl (iqA l j) (iqA l 0) = true ↔ (iqA l j).src = (iqA l 0).src ∧ (iqA l j).dst = (iqA l 0).dst ∧ (iqA l j).pro = (iqA l 0).pro ∧ (iqA l j).id = (iqA l 0).id) := sameFl_iff
        have HF0 : Hid (j = 0 → sameFl (iqA l j) (iqA l 0) = true) := fun e => by rw [e]; exact sameFl_iff.2 ⟨rfl, rfl, rfl, rfl⟩
        have HX : Hid (ipOk (iqA l j) = true → 0 < j → ∃ k : Int, 0 ≤ k ∧ k ≤ 8191 ∧ ((iqA l (j - 1)).data.size : Int).tdiv 8 = k ∧ 0 ≤ (iqA l (j - 1)).off ∧ (iqA l (j - 1)).off ≤ 8191 ∧ (nextB (iqA l (j - 1)) (iqA l j) = true ↔ (iqA l j).off = (iqA l (j - 1)).off + k)) := fun hk h0 => by
          have k1 := ipOk_off hk
          have k2 := ipOk_off (HP.out h0)
          have k3 := hmf.out h0 hlt
          have k4 := k2.2.2.2 k3
          refine ⟨((iqA l (j - 1)).data.size : Int) / 8, by omega, by omega, ?_, k2.1, k2.2.1, ?_⟩
          · rw [Int.tdiv_eq_ediv_of_nonneg (by omega)]
          · rw [nextB_iff]
            constructor
            · intro h; have := h.2; omega
            · intro h; exact ⟨k3, by omega⟩
        clear HP hmf
        generalize tlOne l j = sb at *
        generalize sameFl (iqA l j) (iqA l 0) = sf at *
        generalize nextB (iqA l (j - 1)) (iqA l j) = nx at *
        generalize ipOk (iqA l j) = ok at *
        generalize iqA l j = a at *
        generalize iqA l 0 = z at *
        generalize iqA l (j - 1) = b at *
        cases ok
        · have hbad : sb = false := by
            have hh := HI.out
            cases sb
            · rfl
            · have hh := hh.1 rfl
              exact absurd (hh.1) (by decide)
          go_wp2_with fail
          go_at_call 27
          refine (CO.out _).mono ?_
          rintro e w2 ⟨rfl, hb2⟩
          have hBz := hb.trans (hb2.mono hb.size)
          have ncs := And.intro True.intro (And.intro ((hb2.cell (p := ⟨g, off + j * 11, none⟩) hg).trans hcs.1) (And.intro ((hb2.cell (p := ⟨g, off + j * 11 + 1, none⟩) hg).trans hcs.2.1) (And.intro ((hb2.cell (p := ⟨g, off + j * 11 + 2, none⟩) hg).trans hcs.2.2.1) (And.intro ((hb2.cell (p := ⟨g, off + j * 11 + 3, none⟩) hg).trans hcs.2.2.2.1) (And.intro ((hb2.cell (p := ⟨g, off + j * 11 + 4, none⟩) hg).trans hcs.2.2.2.2.1) (And.intro ((hb2.cell (p := ⟨g, off + j * 11 + 5, none⟩) hg).trans hcs.2.2.2.2.2.1) (And.intro ((hb2.cell (p := ⟨g, off + j * 11 + 6, none⟩) hg).trans hcs.2.2.2.2.2.2.1) (And.intro ((hb2.cell (p := ⟨g, off + j * 11 + 7, none⟩) hg).trans hcs.2.2.2.2.2.2.2.1) (And.intro ((hb2.cell (p := ⟨g, off + j * 11 + 8, none⟩) hg).trans hcs.2.2.2.2.2.2.2.2.1) (And.intro ((hb2.cell (p := ⟨g, off + j * 11 + 9, none⟩) hg).trans hcs.2.2.2.2.2.2.2.2.2.1) ((hb2.cell (p := ⟨g, off + j * 11 + 10, none⟩) hg).trans hcs.2.2.2.2.2.2.2.2.2.2)))))))))))
          have ncz := And.intro True.intro (And.intro ((hb2.cell (p := ⟨g, off, none⟩) hg).trans hcz.1) (And.intro ((hb2.cell (p := ⟨g, off + 1, none⟩) hg).trans hcz.2.1) (And.intro ((hb2.cell (p := ⟨g, off + 2, none⟩) hg).trans hcz.2.2.1) (And.intro ((hb2.cell (p := ⟨g, off + 3, none⟩) hg).trans hcz.2.2.2.1) (And.intro ((hb2.cell (p := ⟨g, off + 4, none⟩) hg).trans hcz.2.2.2.2.1) (And.intro ((hb2.cell (p := ⟨g, off + 5, none⟩) hg).trans hcz.2.2.2.2.2.1) (And.intro ((hb2.cell (p := ⟨g, off + 6, none⟩) hg).trans hcz.2.2.2.2.2.2.1) (And.intro ((hb2.cell (p := ⟨g, off + 7, none⟩) hg).trans hcz.2.2.2.2.2.2.2.1) (And.intro ((hb2.cell (p := ⟨g, off + 8, none⟩) hg).trans hcz.2.2.2.2.2.2.2.2.1) (And.intro ((hb2.cell (p := ⟨g, off + 9, none⟩) hg).trans hcz.2.2.2.2.2.2.2.2.2.1) ((hb2.cell (p := ⟨g, off + 10, none⟩) hg).trans hcz.2.2.2.2.2.2.2.2.2.2)))))))))))
          clear hcs hcz
          go_wp2
          go_ret
          exact ⟨ret_bool (HN.out hbad).symm, hBz⟩
        · have HI2 : Hid (sb = true ↔ (sf = true ∧ (j = 0 ∨ nx = true))) := ⟨fun h => (HI.out.1 h).2, fun h => HI.out.2 ⟨rfl, h⟩⟩
          have HX2 : Hid (0 < j → ∃ k : Int, 0 ≤ k ∧ k ≤ 8191 ∧ (b.data.size : Int).tdiv 8 = k ∧ 0 ≤ b.off ∧ b.off ≤ 8191 ∧ (nx = true ↔ a.off = b.off + k)) := fun h => HX.out rfl h
          clear HI HX
          go_wp2_with fail
          go_at_call 27
          refine (CO.out _).mono ?_
          rintro e w2 ⟨rfl, hb2⟩
          have hBz := hb.trans (hb2.mono hb.size)
          have ncs := And.intro True.intro (And.intro ((hb2.cell (p := ⟨g, off + j * 11, none⟩) hg).trans hcs.1) (And.intro ((hb2.cell (p := ⟨g, off + j * 11 + 1, none⟩) hg).trans hcs.2.1) (And.intro ((hb2.cell (p := ⟨g, off + j * 11 + 2, none⟩) hg).trans hcs.2.2.1) (And.intro ((hb2.cell (p := ⟨g, off + j * 11 + 3, none⟩) hg).trans hcs.2.2.2.1) (And.intro ((hb2.cell (p := ⟨g, off + j * 11 + 4, none⟩) hg).trans hcs.2.2.2.2.1) (And.intro ((hb2.cell (p := ⟨g, off + j * 11 + 5, none⟩) hg).trans hcs.2.2.2.2.2.1) (And.intro ((hb2.cell (p := ⟨g, off + j * 11 + 6, none⟩) hg).trans hcs.2.2.2.2.2.2.1) (And.intro ((hb2.cell (p := ⟨g, off + j * 11 + 7, none⟩) hg).trans hcs.2.2.2.2.2.2.2.1) (And.intro ((hb2.cell (p := ⟨g, off + j * 11 + 8, none⟩) hg).trans hcs.2.2.2.2.2.2.2.2.1) (And.intro ((hb2.cell (p := ⟨g, off + j * 11 + 9, none⟩) hg).trans hcs.2.2.2.2.2.2.2.2.2.1) ((hb2.cell (p := ⟨g, off + j * 11 + 10, none⟩) hg).trans hcs.2.2.2.2.2.2.2.2.2.2)))))))))))
          have ncz := And.intro True.intro (And.intro ((hb2.cell (p := ⟨g, off, none⟩) hg).trans hcz.1) (And.intro ((hb2.cell (p := ⟨g, off + 1, none⟩) hg).trans hcz.2.1) (And.intro ((hb2.cell (p := ⟨g, off + 2, none⟩) hg).trans hcz.2.2.1) (And.intro ((hb2.cell (p := ⟨g, off + 3, none⟩) hg).trans hcz.2.2.2.1) (And.intro ((hb2.cell (p := ⟨g, off + 4, none⟩) hg).trans hcz.2.2.2.2.1) (And.intro ((hb2.cell (p := ⟨g, off + 5, none⟩) hg).trans hcz.2.2.2.2.2.1) (And.intro ((hb2.cell (p := ⟨g, off + 6, none⟩) hg).trans hcz.2.2.2.2.2.2.1) (And.intro ((hb2.cell (p := ⟨g, off + 7, none⟩) hg).trans hcz.2.2.2.2.2.2.2.1) (And.intro ((hb2.cell (p := ⟨g, off + 8, none⟩) hg).trans hcz.2.2.2.2.2.2.2.2.1) (And.intro ((hb2.cell (p := ⟨g, off + 9, none⟩) hg).trans hcz.2.2.2.2.2.2.2.2.2.1) ((hb2.cell (p := ⟨g, off + 10, none⟩) hg).trans hcz.2.2.2.2.2.2.2.2.2.2)))))))))))
          clear hcs hcz
          by_cases hlast : j + 1 < l.length
          · have hm : decide ((j : Int) < (l.length : Int) - 1) = true := by simp; omega
            cases hmfa : a.mf
            · go_wp2
              go_ret
              exact ⟨ret_bool (HM.out hlast hmfa).symm, hBz⟩
            · by_cases h0 : 0 < j
              · have hd : decide (0 < (j : Int)) = true := by simp; omega
                have hj2 : (j : Int) - 1 = ((j - 1 : Nat) : Int) := by omega
                have hj3 : ((j - 1 : Nat) : Int) < (l.length : Int) := by omega
                obtain ⟨k, hk0, hk1, hk2, hk3, hk4, hk5⟩ := HX2.out h0
                replace hk5 : Hid (nx = true ↔ a.off = b.off + k) := hk5
                have hpv := hcp.out h0
                have ncp := And.intro True.intro (And.intro ((hb2.cell (p := ⟨g, off + (j - 1) * 11, none⟩) hg).trans hpv.1) (And.intro ((hb2.cell (p := ⟨g, off + (j - 1) * 11 + 1, none⟩) hg).trans hpv.2.1) (And.intro ((hb2.cell (p := ⟨g, off + (j - 1) * 11 + 2, none⟩) hg).trans hpv.2.2.1) (And.intro ((hb2.cell (p := ⟨g, off + (j - 1) * 11 + 3, none⟩) hg).trans hpv.2.2.2.1) (And.intro ((hb2.cell (p := ⟨g, off + (j - 1) * 11 + 4, none⟩) hg).trans hpv.2.2.2.2.1) (And.intro ((hb2.cell (p := ⟨g, off + (j - 1) * 11 + 5, none⟩) hg).trans hpv.2.2.2.2.2.1) (And.intro ((hb2.cell (p := ⟨g, off + (j - 1) * 11 + 6, none⟩) hg).trans hpv.2.2.2.2.2.2.1) (And.intro ((hb2.cell (p := ⟨g, off + (j - 1) * 11 + 7, none⟩) hg).trans hpv.2.2.2.2.2.2.2.1) (And.intro ((hb2.cell (p := ⟨g, off + (j - 1) * 11 + 8, none⟩) hg).trans hpv.2.2.2.2.2.2.2.2.1) (And.intro ((hb2.cell (p := ⟨g, off + (j - 1) * 11 + 9, none⟩) hg).trans hpv.2.2.2.2.2.2.2.2.2.1) ((hb2.cell (p := ⟨g, off + (j - 1) * 11 + 10, none⟩) hg).trans hpv.2.2.2.2.2.2.2.2.2.2)))))))))))
                clear hpv
                by_cases hid : a.id = z.id
                · by_cases hpro : a.pro = z.pro
                  · by_cases hsrc : a.src = z.src
                    · by_cases hdst : a.dst = z.dst
                      · by_cases hoff : a.off = b.off + k
                        · have hgood : sb = true := HI2.out.2 ⟨HF.out.2 ⟨hsrc, hdst, hpro, hid⟩, .inr (hk5.out.2 hoff)⟩
                          go_wp2_with fail
                          have hne := BW.some w2
                          have hg2 : g < w2.heap.size := Nat.lt_of_lt_of_le hg hb2.size
                          have hB2 : ∀ u : BW w2, Below w.heap.size w u.u := fun u => hBz.trans (u.le.mono hBz.size)
                          have ca1 := fun u : BW w2 => (u.le.cell (p := ⟨g, off + j * 11 + 1, none⟩) hg2).trans ncs.2.2.1
                          have ca4 := fun u : BW w2 => (u.le.cell (p := ⟨g, off + j * 11 + 4, none⟩) hg2).trans ncs.2.2.2.2.2.1
                          have ca6 := fun u : BW w2 => (u.le.cell (p := ⟨g, off + j * 11 + 6, none⟩) hg2).trans ncs.2.2.2.2.2.2.2.1
                          have ca7 := fun u : BW w2 => (u.le.cell (p := ⟨g, off + j * 11 + 7, none⟩) hg2).trans ncs.2.2.2.2.2.2.2.2.1
                          have ca8 := fun u : BW w2 => (u.le.cell (p := ⟨g, off + j * 11 + 8, none⟩) hg2).trans ncs.2.2.2.2.2.2.2.2.2.1
                          have cz1 := fun u : BW w2 => (u.le.cell (p := ⟨g, off + 1, none⟩) hg2).trans ncz.2.2.1
                          have cz6 := fun u : BW w2 => (u.le.cell (p := ⟨g, off + 6, none⟩) hg2).trans ncz.2.2.2.2.2.2.2.1
                          have cz7 := fun u : BW w2 => (u.le.cell (p := ⟨g, off + 7, none⟩) hg2).trans ncz.2.2.2.2.2.2.2.2.1
                          have cz8 := fun u : BW w2 => (u.le.cell (p := ⟨g, off + 8, none⟩) hg2).trans ncz.2.2.2.2.2.2.2.2.2.1
                          have cb4 := fun u : BW w2 => (u.le.cell (p := ⟨g, off + (j - 1) * 11 + 4, none⟩) hg2).trans ncp.2.2.2.2.2.1
                          have cb10 := fun u : BW w2 => (u.le.cell (p := ⟨g, off + (j - 1) * 11 + 10, none⟩) hg2).trans ncp.2.2.2.2.2.2.2.2.2.2.2
                          clear ncs ncz ncp
                          refine wp_region_below (by kernel_rfl) (lexReg Try.lexTiles (by kernel_rfl)) ?_
                          try dsimp only [List.append_eq, List.cons_append, List.nil_append]
                          repeat (go_big_quiet_step (fail))
                          refine wpQuiet_nil ?_
                          intro _ hw'
                          obtain ⟨u, hw''⟩ := hw'
                          subst hw''
                          clear hne ca1 ca4 ca6 ca7 ca8 cz1 cz6 cz7 cz8 cb4 cb10
                          go_wp2
                          go_roundw
                          case rel => exact ⟨j + 1, by omega, by go_num, HR.out hgood, HMF.out (.inl hmfa), hB2 u⟩
                          case measure => simp [intOf]; omega
                        · have hbad : sb = false := by
                            have hh := HI2.out
                            cases sb
                            · rfl
                            · have hh := hh.1 rfl
                              exact absurd (hk5.out.1 (hh.2.resolve_left (by omega))) (by exact hoff)
                          have hq1 : (a.off != b.off + k) = true := bne_iff_ne.2 hoff
                          have hq2 : (a.off == b.off + k) = false := beq_eq_false_iff_ne.2 hoff
                          go_wp2_with fail
                          have hne := BW.some w2
                          have hg2 : g < w2.heap.size := Nat.lt_of_lt_of_le hg hb2.size
                          have hB2 : ∀ u : BW w2, Below w.heap.size w u.u := fun u => hBz.trans (u.le.mono hBz.size)
                          have ca1 := fun u : BW w2 => (u.le.cell (p := ⟨g, off + j * 11 + 1, none⟩) hg2).trans ncs.2.2.1
                          have ca4 := fun u : BW w2 => (u.le.cell (p := ⟨g, off + j * 11 + 4, none⟩) hg2).trans ncs.2.2.2.2.2.1
                          have ca6 := fun u : BW w2 => (u.le.cell (p := ⟨g, off + j * 11 + 6, none⟩) hg2).trans ncs.2.2.2.2.2.2.2.1
                          have ca7 := fun u : BW w2 => (u.le.cell (p := ⟨g, off + j * 11 + 7, none⟩) hg2).trans ncs.2.2.2.2.2.2.2.2.1
                          have ca8 := fun u : BW w2 => (u.le.cell (p := ⟨g, off + j * 11 + 8, none⟩) hg2).trans ncs.2.2.2.2.2.2.2.2.2.1
                          have cz1 := fun u : BW w2 => (u.le.cell (p := ⟨g, off + 1, none⟩) hg2).trans ncz.2.2.1
                          have cz6 := fun u : BW w2 => (u.le.cell (p := ⟨g, off + 6, none⟩) hg2).trans ncz.2.2.2.2.2.2.2.1
                          have cz7 := fun u : BW w2 => (u.le.cell (p := ⟨g, off + 7, none⟩) hg2).trans ncz.2.2.2.2.2.2.2.2.1
                          have cz8 := fun u : BW w2 => (u.le.cell (p := ⟨g, off + 8, none⟩) hg2).trans ncz.2.2.2.2.2.2.2.2.2.1
                          have cb4 := fun u : BW w2 => (u.le.cell (p := ⟨g, off + (j - 1) * 11 + 4, none⟩) hg2).trans ncp.2.2.2.2.2.1
                          have cb10 := fun u : BW w2 => (u.le.cell (p := ⟨g, off + (j - 1) * 11 + 10, none⟩) hg2).trans ncp.2.2.2.2.2.2.2.2.2.2.2
                          clear ncs ncz ncp
                          refine wp_region_below (by kernel_rfl) (lexReg Try.lexTiles (by kernel_rfl)) ?_
                          try dsimp only [List.append_eq, List.cons_append, List.nil_append]
                          repeat (go_big_quiet_step (fail))
                          refine wpQuiet_nil ?_
                          intro _ hw'
                          obtain ⟨u, hw''⟩ := hw'
                          subst hw''
                          clear hne ca1 ca4 ca6 ca7 ca8 cz1 cz6 cz7 cz8 cb4 cb10
                          go_wp2
                          go_ret
                          exact ⟨ret_bool (HN.out hbad).symm, hB2 u⟩
                      · have hbad : sb = false := by
                          have hh := HI2.out
                          cases sb
                          · rfl
                          · have hh := hh.1 rfl
                            exact absurd ((HF.out.1 hh.1).2.1) (by exact hdst)
                        have hq1 : (a.dst != z.dst) = true := bne_iff_ne.2 hdst
                        have hq2 : (a.dst == z.dst) = false := beq_eq_false_iff_ne.2 hdst
                        go_wp2_with fail
                        have hne := BW.some w2
                        have hg2 : g < w2.heap.size := Nat.lt_of_lt_of_le hg hb2.size
                        have hB2 : ∀ u : BW w2, Below w.heap.size w u.u := fun u => hBz.trans (u.le.mono hBz.size)
                        have ca1 := fun u : BW w2 => (u.le.cell (p := ⟨g, off + j * 11 + 1, none⟩) hg2).trans ncs.2.2.1
                        have ca4 := fun u : BW w2 => (u.le.cell (p := ⟨g, off + j * 11 + 4, none⟩) hg2).trans ncs.2.2.2.2.2.1
                        have ca6 := fun u : BW w2 => (u.le.cell (p := ⟨g, off + j * 11 + 6, none⟩) hg2).trans ncs.2.2.2.2.2.2.2.1
                        have ca7 := fun u : BW w2 => (u.le.cell (p := ⟨g, off + j * 11 + 7, none⟩) hg2).trans ncs.2.2.2.2.2.2.2.2.1
                        have ca8 := fun u : BW w2 => (u.le.cell (p := ⟨g, off + j * 11 + 8, none⟩) hg2).trans ncs.2.2.2.2.2.2.2.2.2.1
                        have cz1 := fun u : BW w2 => (u.le.cell (p := ⟨g, off + 1, none⟩) hg2).trans ncz.2.2.1
                        have cz6 := fun u : BW w2 => (u.le.cell (p := ⟨g, off + 6, none⟩) hg2).trans ncz.2.2.2.2.2.2.2.1
                        have cz7 := fun u : BW w2 => (u.le.cell (p := ⟨g, off + 7, none⟩) hg2).trans ncz.2.2.2.2.2.2.2.2.1
                        have cz8 := fun u : BW w2 => (u.le.cell (p := ⟨g, off + 8, none⟩) hg2).trans ncz.2.2.2.2.2.2.2.2.2.1
                        have cb4 := fun u : BW w2 => (u.le.cell (p := ⟨g, off + (j - 1) * 11 + 4, none⟩) hg2).trans ncp.2.2.2.2.2.1
                        have cb10 := fun u : BW w2 => (u.le.cell (p := ⟨g, off + (j - 1) * 11 + 10, none⟩) hg2).trans ncp.2.2.2.2.2.2.2.2.2.2.2
                        clear ncs ncz ncp
                        refine wp_region_below (by kernel_rfl) (lexReg Try.lexTiles (by kernel_rfl)) ?_
                        try dsimp only [List.append_eq, List.cons_append, List.nil_append]
                        repeat (go_big_quiet_step (fail))
                        refine wpQuiet_nil ?_
                        intro _ hw'
                        obtain ⟨u, hw''⟩ := hw'
                        subst hw''
                        clear hne ca1 ca4 ca6 ca7 ca8 cz1 cz6 cz7 cz8 cb4 cb10
                        go_wp2
                        go_ret
                        exact ⟨ret_bool (HN.out hbad).symm, hB2 u⟩
                    · have hbad : sb = false := by
                        have hh := HI2.out
                        cases sb
                        · rfl
                        · have hh := hh.1 rfl
                          exact absurd ((HF.out.1 hh.1).1) (by exact hsrc)
                      have hq1 : (a.src != z.src) = true := bne_iff_ne.2 hsrc
                      have hq2 : (a.src == z.src) = false := beq_eq_false_iff_ne.2 hsrc
                      go_wp2_with fail
                      have hne := BW.some w2
                      have hg2 : g < w2.heap.size := Nat.lt_of_lt_of_le hg hb2.size
                      have hB2 : ∀ u : BW w2, Below w.heap.size w u.u := fun u => hBz.trans (u.le.mono hBz.size)
                      have ca1 := fun u : BW w2 => (u.le.cell (p := ⟨g, off + j * 11 + 1, none⟩) hg2).trans ncs.2.2.1
                      have ca4 := fun u : BW w2 => (u.le.cell (p := ⟨g, off + j * 11 + 4, none⟩) hg2).trans ncs.2.2.2.2.2.1
                      have ca6 := fun u : BW w2 => (u.le.cell (p := ⟨g, off + j * 11 + 6, none⟩) hg2).trans ncs.2.2.2.2.2.2.2.1
                      have ca7 := fun u : BW w2 => (u.le.cell (p := ⟨g, off + j * 11 + 7, none⟩) hg2).trans ncs.2.2.2.2.2.2.2.2.1
                      have ca8 := fun u : BW w2 => (u.le.cell (p := ⟨g, off + j * 11 + 8, none⟩) hg2).trans ncs.2.2.2.2.2.2.2.2.2.1
                      have cz1 := fun u : BW w2 => (u.le.cell (p := ⟨g, off + 1, none⟩) hg2).trans ncz.2.2.1
                      have cz6 := fun u : BW w2 => (u.le.cell (p := ⟨g, off + 6, none⟩) hg2).trans ncz.2.2.2.2.2.2.2.1
                      have cz7 := fun u : BW w2 => (u.le.cell (p := ⟨g, off + 7, none⟩) hg2).trans ncz.2.2.2.2.2.2.2.2.1
                      have cz8 := fun u : BW w2 => (u.le.cell (p := ⟨g, off + 8, none⟩) hg2).trans ncz.2.2.2.2.2.2.2.2.2.1
                      have cb4 := fun u : BW w2 => (u.le.cell (p := ⟨g, off + (j - 1) * 11 + 4, none⟩) hg2).trans ncp.2.2.2.2.2.1
                      have cb10 := fun u : BW w2 => (u.le.cell (p := ⟨g, off + (j - 1) * 11 + 10, none⟩) hg2).trans ncp.2.2.2.2.2.2.2.2.2.2.2
                      clear ncs ncz ncp
                      refine wp_region_below (by kernel_rfl) (lexReg Try.lexTiles (by kernel_rfl)) ?_
                      try dsimp only [List.append_eq, List.cons_append, List.nil_append]
                      repeat (go_big_quiet_step (fail))
                      refine wpQuiet_nil ?_
                      intro _ hw'
                      obtain ⟨u, hw''⟩ := hw'
                      subst hw''
                      clear hne ca1 ca4 ca6 ca7 ca8 cz1 cz6 cz7 cz8 cb4 cb10
                      go_wp2
                      go_ret
                      exact ⟨ret_bool (HN.out hbad).symm, hB2 u⟩
                  · have hbad : sb = false := by
                      have hh := HI2.out
                      cases sb
                      · rfl
                      · have hh := hh.1 rfl
                        exact absurd ((HF.out.1 hh.1).2.2.1) (by exact hpro)
                    have hq1 : (a.pro != z.pro) = true := bne_iff_ne.2 hpro
                    have hq2 : (a.pro == z.pro) = false := beq_eq_false_iff_ne.2 hpro
                    go_wp2_with fail
                    have hne := BW.some w2
                    have hg2 : g < w2.heap.size := Nat.lt_of_lt_of_le hg hb2.size
                    have hB2 : ∀ u : BW w2, Below w.heap.size w u.u := fun u => hBz.trans (u.le.mono hBz.size)
                    have ca1 := fun u : BW w2 => (u.le.cell (p := ⟨g, off + j * 11 + 1, none⟩) hg2).trans ncs.2.2.1
                    have ca4 := fun u : BW w2 => (u.le.cell (p := ⟨g, off + j * 11 + 4, none⟩) hg2).trans ncs.2.2.2.2.2.1
                    have ca6 := fun u : BW w2 => (u.le.cell (p := ⟨g, off + j * 11 + 6, none⟩) hg2).trans ncs.2.2.2.2.2.2.2.1
                    have ca7 := fun u : BW w2 => (u.le.cell (p := ⟨g, off + j * 11 + 7, none⟩) hg2).trans ncs.2.2.2.2.2.2.2.2.1
                    have ca8 := fun u : BW w2 => (u.le.cell (p := ⟨g, off + j * 11 + 8, none⟩) hg2).trans ncs.2.2.2.2.2.2.2.2.2.1
                    have cz1 := fun u : BW w2 => (u.le.cell (p := ⟨g, off + 1, none⟩) hg2).trans ncz.2.2.1
                    have cz6 := fun u : BW w2 => (u.le.cell (p := ⟨g, off + 6, none⟩) hg2).trans ncz.2.2.2.2.2.2.2.1
                    have cz7 := fun u : BW w2 => (u.le.cell (p := ⟨g, off + 7, none⟩) hg2).trans ncz.2.2.2.2.2.2.2.2.1
                    have cz8 := fun u : BW w2 => (u.le.cell (p := ⟨g, off + 8, none⟩) hg2).trans ncz.2.2.2.2.2.2.2.2.2.1
                    have cb4 := fun u : BW w2 => (u.le.cell (p := ⟨g, off + (j - 1) * 11 + 4, none⟩) hg2).trans ncp.2.2.2.2.2.1
                    have cb10 := fun u : BW w2 => (u.le.cell (p := ⟨g, off + (j - 1) * 11 + 10, none⟩) hg2).trans ncp.2.2.2.2.2.2.2.2.2.2.2
                    clear ncs ncz ncp
                    refine wp_region_below (by kernel_rfl) (lexReg Try.lexTiles (by kernel_rfl)) ?_
                    try dsimp only [List.append_eq, List.cons_append, List.nil_append]
                    repeat (go_big_quiet_step (fail))
                    refine wpQuiet_nil ?_
                    intro _ hw'
                    obtain ⟨u, hw''⟩ := hw'
                    subst hw''
                    clear hne ca1 ca4 ca6 ca7 ca8 cz1 cz6 cz7 cz8 cb4 cb10
                    go_wp2
                    go_ret
                    exact ⟨ret_bool (HN.out hbad).symm, hB2 u⟩
                · have hbad : sb = false := by
                    have hh := HI2.out
                    cases sb
                    · rfl
                    · have hh := hh.1 rfl
                      exact absurd ((HF.out.1 hh.1).2.2.2) (by exact hid)
                  have hq1 : (a.id != z.id) = true := bne_iff_ne.2 hid
                  have hq2 : (a.id == z.id) = false := beq_eq_false_iff_ne.2 hid
                  go_wp2_with fail
                  have hne := BW.some w2
                  have hg2 : g < w2.heap.size := Nat.lt_of_lt_of_le hg hb2.size
                  have hB2 : ∀ u : BW w2, Below w.heap.size w u.u := fun u => hBz.trans (u.le.mono hBz.size)
                  have ca1 := fun u : BW w2 => (u.le.cell (p := ⟨g, off + j * 11 + 1, none⟩) hg2).trans ncs.2.2.1
                  have ca4 := fun u : BW w2 => (u.le.cell (p := ⟨g, off + j * 11 + 4, none⟩) hg2).trans ncs.2.2.2.2.2.1
                  have ca6 := fun u : BW w2 => (u.le.cell (p := ⟨g, off + j * 11 + 6, none⟩) hg2).trans ncs.2.2.2.2.2.2.2.1
                  have ca7 := fun u : BW w2 => (u.le.cell (p := ⟨g, off + j * 11 + 7, none⟩) hg2).trans ncs.2.2.2.2.2.2.2.2.1
                  have ca8 := fun u : BW w2 => (u.le.cell (p := ⟨g, off + j * 11 + 8, none⟩) hg2).trans ncs.2.2.2.2.2.2.2.2.2.1
                  have cz1 := fun u : BW w2 => (u.le.cell (p := ⟨g, off + 1, none⟩) hg2).trans ncz.2.2.1
                  have cz6 := fun u : BW w2 => (u.le.cell (p := ⟨g, off + 6, none⟩) hg2).trans ncz.2.2.2.2.2.2.2.1
                  have cz7 := fun u : BW w2 => (u.le.cell (p := ⟨g, off + 7, none⟩) hg2).trans ncz.2.2.2.2.2.2.2.2.1
                  have cz8 := fun u : BW w2 => (u.le.cell (p := ⟨g, off + 8, none⟩) hg2).trans ncz.2.2.2.2.2.2.2.2.2.1
                  have cb4 := fun u : BW w2 => (u.le.cell (p := ⟨g, off + (j - 1) * 11 + 4, none⟩) hg2).trans ncp.2.2.2.2.2.1
                  have cb10 := fun u : BW w2 => (u.le.cell (p := ⟨g, off + (j - 1) * 11 + 10, none⟩) hg2).trans ncp.2.2.2.2.2.2.2.2.2.2.2
                  clear ncs ncz ncp
                  refine wp_region_below (by kernel_rfl) (lexReg Try.lexTiles (by kernel_rfl)) ?_
                  try dsimp only [List.append_eq, List.cons_append, List.nil_append]
                  repeat (go_big_quiet_step (fail))
                  refine wpQuiet_nil ?_
                  intro _ hw'
                  obtain ⟨u, hw''⟩ := hw'
                  subst hw''
                  clear hne ca1 ca4 ca6 ca7 ca8 cz1 cz6 cz7 cz8 cb4 cb10
                  go_wp2
                  go_ret
                  exact ⟨ret_bool (HN.out hbad).symm, hB2 u⟩
              · have hj0 : j = 0 := by omega
                have hsf0 := HF0.out hj0
                subst hj0
                clear ncz
                simp only [Nat.zero_mul, Nat.add_zero] at ncs
                have hgood : sb = true := HI2.out.2 ⟨hsf0, .inl rfl⟩
                go_wp2_with fail
                have hne := BW.some w2
                have hg2 : g < w2.heap.size := Nat.lt_of_lt_of_le hg hb2.size
                have hB2 : ∀ u : BW w2, Below w.heap.size w u.u := fun u => hBz.trans (u.le.mono hBz.size)
                clear ncs
                refine wp_region_below (by kernel_rfl) (lexReg Try.lexTiles (by kernel_rfl)) ?_
                try dsimp only [List.append_eq, List.cons_append, List.nil_append]
                repeat (go_big_quiet_step (fail))
                refine wpQuiet_nil ?_
                intro _ hw'
                obtain ⟨u, hw''⟩ := hw'
                subst hw''
                clear hne 
                go_wp2
                go_roundw
                case rel => exact ⟨1, by omega, by go_num, HR.out hgood, HMF.out (.inl hmfa), hB2 u⟩
                case measure => simp [intOf]; omega
          · have hm : decide ((j : Int) < (l.length : Int) - 1) = false := by simp; omega
            by_cases h0 : 0 < j
            · have hd : decide (0 < (j : Int)) = true := by simp; omega
              have hj2 : (j : Int) - 1 = ((j - 1 : Nat) : Int) := by omega
              have hj3 : ((j - 1 : Nat) : Int) < (l.length : Int) := by omega
              obtain ⟨k, hk0, hk1, hk2, hk3, hk4, hk5⟩ := HX2.out h0
              replace hk5 : Hid (nx = true ↔ a.off = b.off + k) := hk5
              have hpv := hcp.out h0
              have ncp := And.intro True.intro (And.intro ((hb2.cell (p := ⟨g, off + (j - 1) * 11, none⟩) hg).trans hpv.1) (And.intro ((hb2.cell (p := ⟨g, off + (j - 1) * 11 + 1, none⟩) hg).trans hpv.2.1) (And.intro ((hb2.cell (p := ⟨g, off + (j - 1) * 11 + 2, none⟩) hg).trans hpv.2.2.1) (And.intro ((hb2.cell (p := ⟨g, off + (j - 1) * 11 + 3, none⟩) hg).trans hpv.2.2.2.1) (And.intro ((hb2.cell (p := ⟨g, off + (j - 1) * 11 + 4, none⟩) hg).trans hpv.2.2.2.2.1) (And.intro ((hb2.cell (p := ⟨g, off + (j - 1) * 11 + 5, none⟩) hg).trans hpv.2.2.2.2.2.1) (And.intro ((hb2.cell (p := ⟨g, off + (j - 1) * 11 + 6, none⟩) hg).trans hpv.2.2.2.2.2.2.1) (And.intro ((hb2.cell (p := ⟨g, off + (j - 1) * 11 + 7, none⟩) hg).trans hpv.2.2.2.2.2.2.2.1) (And.intro ((hb2.cell (p := ⟨g, off + (j - 1) * 11 + 8, none⟩) hg).trans hpv.2.2.2.2.2.2.2.2.1) (And.intro ((hb2.cell (p := ⟨g, off + (j - 1) * 11 + 9, none⟩) hg).trans hpv.2.2.2.2.2.2.2.2.2.1) ((hb2.cell (p := ⟨g, off + (j - 1) * 11 + 10, none⟩) hg).trans hpv.2.2.2.2.2.2.2.2.2.2)))))))))))
              clear hpv
              by_cases hid : a.id = z.id
              · by_cases hpro : a.pro = z.pro
                · by_cases hsrc : a.src = z.src
                  · by_cases hdst : a.dst = z.dst
                    · by_cases hoff : a.off = b.off + k
                      · have hgood : sb = true := HI2.out.2 ⟨HF.out.2 ⟨hsrc, hdst, hpro, hid⟩, .inr (hk5.out.2 hoff)⟩
                        go_wp2_with fail
                        have hne := BW.some w2
                        have hg2 : g < w2.heap.size := Nat.lt_of_lt_of_le hg hb2.size
                        have hB2 : ∀ u : BW w2, Below w.heap.size w u.u := fun u => hBz.trans (u.le.mono hBz.size)
                        have ca1 := fun u : BW w2 => (u.le.cell (p := ⟨g, off + j * 11 + 1, none⟩) hg2).trans ncs.2.2.1
                        have ca4 := fun u : BW w2 => (u.le.cell (p := ⟨g, off + j * 11 + 4, none⟩) hg2).trans ncs.2.2.2.2.2.1
                        have ca6 := fun u : BW w2 => (u.le.cell (p := ⟨g, off + j * 11 + 6, none⟩) hg2).trans ncs.2.2.2.2.2.2.2.1
                        have ca7 := fun u : BW w2 => (u.le.cell (p := ⟨g, off + j * 11 + 7, none⟩) hg2).trans ncs.2.2.2.2.2.2.2.2.1
                        have ca8 := fun u : BW w2 => (u.le.cell (p := ⟨g, off + j * 11 + 8, none⟩) hg2).trans ncs.2.2.2.2.2.2.2.2.2.1
                        have cz1 := fun u : BW w2 => (u.le.cell (p := ⟨g, off + 1, none⟩) hg2).trans ncz.2.2.1
                        have cz6 := fun u : BW w2 => (u.le.cell (p := ⟨g, off + 6, none⟩) hg2).trans ncz.2.2.2.2.2.2.2.1
                        have cz7 := fun u : BW w2 => (u.le.cell (p := ⟨g, off + 7, none⟩) hg2).trans ncz.2.2.2.2.2.2.2.2.1
                        have cz8 := fun u : BW w2 => (u.le.cell (p := ⟨g, off + 8, none⟩) hg2).trans ncz.2.2.2.2.2.2.2.2.2.1
                        have cb4 := fun u : BW w2 => (u.le.cell (p := ⟨g, off + (j - 1) * 11 + 4, none⟩) hg2).trans ncp.2.2.2.2.2.1
                        have cb10 := fun u : BW w2 => (u.le.cell (p := ⟨g, off + (j - 1) * 11 + 10, none⟩) hg2).trans ncp.2.2.2.2.2.2.2.2.2.2.2
                        clear ncs ncz ncp
                        refine wp_region_below (by kernel_rfl) (lexReg Try.lexTiles (by kernel_rfl)) ?_
                        try dsimp only [List.append_eq, List.cons_append, List.nil_append]
                        repeat (go_big_quiet_step (fail))
                        refine wpQuiet_nil ?_
                        intro _ hw'
                        obtain ⟨u, hw''⟩ := hw'
                        subst hw''
                        clear hne ca1 ca4 ca6 ca7 ca8 cz1 cz6 cz7 cz8 cb4 cb10
                        go_wp2
                        go_roundw
                        case rel => exact ⟨j + 1, by omega, by go_num, HR.out hgood, HMF.out (.inr hlast), hB2 u⟩
                        case measure => simp [intOf]; omega
                      · have hbad : sb = false := by
                          have hh := HI2.out
                          cases sb
                          · rfl
                          · have hh := hh.1 rfl
                            exact absurd (hk5.out.1 (hh.2.resolve_left (by omega))) (by exact hoff)
                        have hq1 : (a.off != b.off + k) = true := bne_iff_ne.2 hoff
                        have hq2 : (a.off == b.off + k) = false := beq_eq_false_iff_ne.2 hoff
                        go_wp2_with fail
                        have hne := BW.some w2
                        have hg2 : g < w2.heap.size := Nat.lt_of_lt_of_le hg hb2.size
                        have hB2 : ∀ u : BW w2, Below w.heap.size w u.u := fun u => hBz.trans (u.le.mono hBz.size)
                        have ca1 := fun u : BW w2 => (u.le.cell (p := ⟨g, off + j * 11 + 1, none⟩) hg2).trans ncs.2.2.1
                        have ca4 := fun u : BW w2 => (u.le.cell (p := ⟨g, off + j * 11 + 4, none⟩) hg2).trans ncs.2.2.2.2.2.1
                        have ca6 := fun u : BW w2 => (u.le.cell (p := ⟨g, off + j * 11 + 6, none⟩) hg2).trans ncs.2.2.2.2.2.2.2.1
                        have ca7 := fun u : BW w2 => (u.le.cell (p := ⟨g, off + j * 11 + 7, none⟩) hg2).trans ncs.2.2.2.2.2.2.2.2.1
                        have ca8 := fun u : BW w2 => (u.le.cell (p := ⟨g, off + j * 11 + 8, none⟩) hg2).trans ncs.2.2.2.2.2.2.2.2.2.1
                        have cz1 := fun u : BW w2 => (u.le.cell (p := ⟨g, off + 1, none⟩) hg2).trans ncz.2.2.1
                        have cz6 := fun u : BW w2 => (u.le.cell (p := ⟨g, off + 6, none⟩) hg2).trans ncz.2.2.2.2.2.2.2.1
                        have cz7 := fun u : BW w2 => (u.le.cell (p := ⟨g, off + 7, none⟩) hg2).trans ncz.2.2.2.2.2.2.2.2.1
                        have cz8 := fun u : BW w2 => (u.le.cell (p := ⟨g, off + 8, none⟩) hg2).trans ncz.2.2.2.2.2.2.2.2.2.1
                        have cb4 := fun u : BW w2 => (u.le.cell (p := ⟨g, off + (j - 1) * 11 + 4, none⟩) hg2).trans ncp.2.2.2.2.2.1
                        have cb10 := fun u : BW w2 => (u.le.cell (p := ⟨g, off + (j - 1) * 11 + 10, none⟩) hg2).trans ncp.2.2.2.2.2.2.2.2.2.2.2
                        clear ncs ncz ncp
                        refine wp_region_below (by kernel_rfl) (lexReg Try.lexTiles (by kernel_rfl)) ?_
                        try dsimp only [List.append_eq, List.cons_append, List.nil_append]
                        repeat (go_big_quiet_step (fail))
                        refine wpQuiet_nil ?_
                        intro _ hw'
                        obtain ⟨u, hw''⟩ := hw'
                        subst hw''
                        clear hne ca1 ca4 ca6 ca7 ca8 cz1 cz6 cz7 cz8 cb4 cb10
                        go_wp2
                        go_ret
                        exact ⟨ret_bool (HN.out hbad).symm, hB2 u⟩
                    · have hbad : sb = false := by
                        have hh := HI2.out
                        cases sb
                        · rfl
                        · have hh := hh.1 rfl
                          exact absurd ((HF.out.1 hh.1).2.1) (by exact hdst)
                      have hq1 : (a.dst != z.dst) = true := bne_iff_ne.2 hdst
                      have hq2 : (a.dst == z.dst) = false := beq_eq_false_iff_ne.2 hdst
                      go_wp2_with fail
                      have hne := BW.some w2
                      have hg2 : g < w2.heap.size := Nat.lt_of_lt_of_le hg hb2.size
                      have hB2 : ∀ u : BW w2, Below w.heap.size w u.u := fun u => hBz.trans (u.le.mono hBz.size)
                      have ca1 := fun u : BW w2 => (u.le.cell (p := ⟨g, off + j * 11 + 1, none⟩) hg2).trans ncs.2.2.1
                      have ca4 := fun u : BW w2 => (u.le.cell (p := ⟨g, off + j * 11 + 4, none⟩) hg2).trans ncs.2.2.2.2.2.1
                      have ca6 := fun u : BW w2 => (u.le.cell (p := ⟨g, off + j * 11 + 6, none⟩) hg2).trans ncs.2.2.2.2.2.2.2.1
                      have ca7 := fun u : BW w2 => (u.le.cell (p := ⟨g, off + j * 11 + 7, none⟩) hg2).trans ncs.2.2.2.2.2.2.2.2.1
                      have ca8 := fun u : BW w2 => (u.le.cell (p := ⟨g, off + j * 11 + 8, none⟩) hg2).trans ncs.2.2.2.2.2.2.2.2.2.1
                      have cz1 := fun u : BW w2 => (u.le.cell (p := ⟨g, off + 1, none⟩) hg2).trans ncz.2.2.1
                      have cz6 := fun u : BW w2 => (u.le.cell (p := ⟨g, off + 6, none⟩) hg2).trans ncz.2.2.2.2.2.2.2.1
                      have cz7 := fun u : BW w2 => (u.le.cell (p := ⟨g, off + 7, none⟩) hg2).trans ncz.2.2.2.2.2.2.2.2.1
                      have cz8 := fun u : BW w2 => (u.le.cell (p := ⟨g, off + 8, none⟩) hg2).trans ncz.2.2.2.2.2.2.2.2.2.1
                      have cb4 := fun u : BW w2 => (u.le.cell (p := ⟨g, off + (j - 1) * 11 + 4, none⟩) hg2).trans ncp.2.2.2.2.2.1
                      have cb10 := fun u : BW w2 => (u.le.cell (p := ⟨g, off + (j - 1) * 11 + 10, none⟩) hg2).trans ncp.2.2.2.2.2.2.2.2.2.2.2
                      clear ncs ncz ncp
                      refine wp_region_below (by kernel_rfl) (lexReg Try.lexTiles (by kernel_rfl)) ?_
                      try dsimp only [List.append_eq, List.cons_append, List.nil_append]
                      repeat (go_big_quiet_step (fail))
                      refine wpQuiet_nil ?_
                      intro _ hw'
                      obtain ⟨u, hw''⟩ := hw'
                      subst hw''
                      clear hne ca1 ca4 ca6 ca7 ca8 cz1 cz6 cz7 cz8 cb4 cb10
                      go_wp2
                      go_ret
                      exact ⟨ret_bool (HN.out hbad).symm, hB2 u⟩
                  · have hbad : sb = false := by
                      have hh := HI2.out
                      cases sb
                      · rfl
                      · have hh := hh.1 rfl
                        exact absurd ((HF.out.1 hh.1).1) (by exact hsrc)
                    have hq1 : (a.src != z.src) = true := bne_iff_ne.2 hsrc
                    have hq2 : (a.src == z.src) = false := beq_eq_false_iff_ne.2 hsrc
                    go_wp2_with fail
                    have hne := BW.some w2
                    have hg2 : g < w2.heap.size := Nat.lt_of_lt_of_le hg hb2.size
                    have hB2 : ∀ u : BW w2, Below w.heap.size w u.u := fun u => hBz.trans (u.le.mono hBz.size)
                    have ca1 := fun u : BW w2 => (u.le.cell (p := ⟨g, off + j * 11 + 1, none⟩) hg2).trans ncs.2.2.1
                    have ca4 := fun u : BW w2 => (u.le.cell (p := ⟨g, off + j * 11 + 4, none⟩) hg2).trans ncs.2.2.2.2.2.1
                    have ca6 := fun u : BW w2 => (u.le.cell (p := ⟨g, off + j * 11 + 6, none⟩) hg2).trans ncs.2.2.2.2.2.2.2.1
                    have ca7 := fun u : BW w2 => (u.le.cell (p := ⟨g, off + j * 11 + 7, none⟩) hg2).trans ncs.2.2.2.2.2.2.2.2.1
                    have ca8 := fun u : BW w2 => (u.le.cell (p := ⟨g, off + j * 11 + 8, none⟩) hg2).trans ncs.2.2.2.2.2.2.2.2.2.1
                    have cz1 := fun u : BW w2 => (u.le.cell (p := ⟨g, off + 1, none⟩) hg2).trans ncz.2.2.1
                    have cz6 := fun u : BW w2 => (u.le.cell (p := ⟨g, off + 6, none⟩) hg2).trans ncz.2.2.2.2.2.2.2.1
                    have cz7 := fun u : BW w2 => (u.le.cell (p := ⟨g, off + 7, none⟩) hg2).trans ncz.2.2.2.2.2.2.2.2.1
                    have cz8 := fun u : BW w2 => (u.le.cell (p := ⟨g, off + 8, none⟩) hg2).trans ncz.2.2.2.2.2.2.2.2.2.1
                    have cb4 := fun u : BW w2 => (u.le.cell (p := ⟨g, off + (j - 1) * 11 + 4, none⟩) hg2).trans ncp.2.2.2.2.2.1
                    have cb10 := fun u : BW w2 => (u.le.cell (p := ⟨g, off + (j - 1) * 11 + 10, none⟩) hg2).trans ncp.2.2.2.2.2.2.2.2.2.2.2
                    clear ncs ncz ncp
                    refine wp_region_below (by kernel_rfl) (lexReg Try.lexTiles (by kernel_rfl)) ?_
                    try dsimp only [List.append_eq, List.cons_append, List.nil_append]
                    repeat (go_big_quiet_step (fail))
                    refine wpQuiet_nil ?_
                    intro _ hw'
                    obtain ⟨u, hw''⟩ := hw'
                    subst hw''
                    clear hne ca1 ca4 ca6 ca7 ca8 cz1 cz6 cz7 cz8 cb4 cb10
                    go_wp2
                    go_ret
                    exact ⟨ret_bool (HN.out hbad).symm, hB2 u⟩
                · have hbad : sb = false := by
                    have hh := HI2.out
                    cases sb
                    · rfl
                    · have hh := hh.1 rfl
                      exact absurd ((HF.out.1 hh.1).2.2.1) (by exact hpro)
                  have hq1 : (a.pro != z.pro) = true := bne_iff_ne.2 hpro
                  have hq2 : (a.pro == z.pro) = false := beq_eq_false_iff_ne.2 hpro
                  go_wp2_with fail
                  have hne := BW.some w2
                  have hg2 : g < w2.heap.size := Nat.lt_of_lt_of_le hg hb2.size
                  have hB2 : ∀ u : BW w2, Below w.heap.size w u.u := fun u => hBz.trans (u.le.mono hBz.size)
                  have ca1 := fun u : BW w2 => (u.le.cell (p := ⟨g, off + j * 11 + 1, none⟩) hg2).trans ncs.2.2.1
                  have ca4 := fun u : BW w2 => (u.le.cell (p := ⟨g, off + j * 11 + 4, none⟩) hg2).trans ncs.2.2.2.2.2.1
                  have ca6 := fun u : BW w2 => (u.le.cell (p := ⟨g, off + j * 11 + 6, none⟩) hg2).trans ncs.2.2.2.2.2.2.2.1
                  have ca7 := fun u : BW w2 => (u.le.cell (p := ⟨g, off + j * 11 + 7, none⟩) hg2).trans ncs.2.2.2.2.2.2.2.2.1
                  have ca8 := fun u : BW w2 => (u.le.cell (p := ⟨g, off + j * 11 + 8, none⟩) hg2).trans ncs.2.2.2.2.2.2.2.2.2.1
                  have cz1 := fun u : BW w2 => (u.le.cell (p := ⟨g, off + 1, none⟩) hg2).trans ncz.2.2.1
                  have cz6 := fun u : BW w2 => (u.le.cell (p := ⟨g, off + 6, none⟩) hg2).trans ncz.2.2.2.2.2.2.2.1
                  have cz7 := fun u : BW w2 => (u.le.cell (p := ⟨g, off + 7, none⟩) hg2).trans ncz.2.2.2.2.2.2.2.2.1
                  have cz8 := fun u : BW w2 => (u.le.cell (p := ⟨g, off + 8, none⟩) hg2).trans ncz.2.2.2.2.2.2.2.2.2.1
                  have cb4 := fun u : BW w2 => (u.le.cell (p := ⟨g, off + (j - 1) * 11 + 4, none⟩) hg2).trans ncp.2.2.2.2.2.1
                  have cb10 := fun u : BW w2 => (u.le.cell (p := ⟨g, off + (j - 1) * 11 + 10, none⟩) hg2).trans ncp.2.2.2.2.2.2.2.2.2.2.2
                  clear ncs ncz ncp
                  refine wp_region_below (by kernel_rfl) (lexReg Try.lexTiles (by kernel_rfl)) ?_
                  try dsimp only [List.append_eq, List.cons_append, List.nil_append]
                  repeat (go_big_quiet_step (fail))
                  refine wpQuiet_nil ?_
                  intro _ hw'
                  obtain ⟨u, hw''⟩ := hw'
                  subst hw''
                  clear hne ca1 ca4 ca6 ca7 ca8 cz1 cz6 cz7 cz8 cb4 cb10
                  go_wp2
                  go_ret
                  exact ⟨ret_bool (HN.out hbad).symm, hB2 u⟩
              · have hbad : sb = false := by
                  have hh := HI2.out
                  cases sb
                  · rfl
                  · have hh := hh.1 rfl
                    exact absurd ((HF.out.1 hh.1).2.2.2) (by exact hid)
                have hq1 : (a.id != z.id) = true := bne_iff_ne.2 hid
                have hq2 : (a.id == z.id) = false := beq_eq_false_iff_ne.2 hid
                go_wp2_with fail
                have hne := BW.some w2
                have hg2 : g < w2.heap.size := Nat.lt_of_lt_of_le hg hb2.size
                have hB2 : ∀ u : BW w2, Below w.heap.size w u.u := fun u => hBz.trans (u.le.mono hBz.size)
                have ca1 := fun u : BW w2 => (u.le.cell (p := ⟨g, off + j * 11 + 1, none⟩) hg2).trans ncs.2.2.1
                have ca4 := fun u : BW w2 => (u.le.cell (p := ⟨g, off + j * 11 + 4, none⟩) hg2).trans ncs.2.2.2.2.2.1
                have ca6 := fun u : BW w2 => (u.le.cell (p := ⟨g, off + j * 11 + 6, none⟩) hg2).trans ncs.2.2.2.2.2.2.2.1
                have ca7 := fun u : BW w2 => (u.le.cell (p := ⟨g, off + j * 11 + 7, none⟩) hg2).trans ncs.2.2.2.2.2.2.2.2.1
                have ca8 := fun u : BW w2 => (u.le.cell (p := ⟨g, off + j * 11 + 8, none⟩) hg2).trans ncs.2.2.2.2.2.2.2.2.2.1
                have cz1 := fun u : BW w2 => (u.le.cell (p := ⟨g, off + 1, none⟩) hg2).trans ncz.2.2.1
                have cz6 := fun u : BW w2 => (u.le.cell (p := ⟨g, off + 6, none⟩) hg2).trans ncz.2.2.2.2.2.2.2.1
                have cz7 := fun u : BW w2 => (u.le.cell (p := ⟨g, off + 7, none⟩) hg2).trans ncz.2.2.2.2.2.2.2.2.1
                have cz8 := fun u : BW w2 => (u.le.cell (p := ⟨g, off + 8, none⟩) hg2).trans ncz.2.2.2.2.2.2.2.2.2.1
                have cb4 := fun u : BW w2 => (u.le.cell (p := ⟨g, off + (j - 1) * 11 + 4, none⟩) hg2).trans ncp.2.2.2.2.2.1
                have cb10 := fun u : BW w2 => (u.le.cell (p := ⟨g, off + (j - 1) * 11 + 10, none⟩) hg2).trans ncp.2.2.2.2.2.2.2.2.2.2.2
                clear ncs ncz ncp
                refine wp_region_below (by kernel_rfl) (lexReg Try.lexTiles (by kernel_rfl)) ?_
                try dsimp only [List.append_eq, List.cons_append, List.nil_append]
                repeat (go_big_quiet_step (fail))
                refine wpQuiet_nil ?_
                intro _ hw'
                obtain ⟨u, hw''⟩ := hw'
                subst hw''
                clear hne ca1 ca4 ca6 ca7 ca8 cz1 cz6 cz7 cz8 cb4 cb10
                go_wp2
                go_ret
                exact ⟨ret_bool (HN.out hbad).symm, hB2 u⟩
            · have hj0 : j = 0 := by omega
              have hsf0 := HF0.out hj0
              subst hj0
              have hm2 : decide ((0 : Int) < (l.length : Int) - 1) = false := by simp; omega
              clear ncz
              simp only [Nat.zero_mul, Nat.add_zero] at ncs
              have hgood : sb = true := HI2.out.2 ⟨hsf0, .inl rfl⟩
              go_wp2_with fail
              have hne := BW.some w2
              have hg2 : g < w2.heap.size := Nat.lt_of_lt_of_le hg hb2.size
              have hB2 : ∀ u : BW w2, Below w.heap.size w u.u := fun u => hBz.trans (u.le.mono hBz.size)
              clear ncs
              refine wp_region_below (by kernel_rfl) (lexReg Try.lexTiles (by kernel_rfl)) ?_
              try dsimp only [List.append_eq, List.cons_append, List.nil_append]
              repeat (go_big_quiet_step (fail))
              refine wpQuiet_nil ?_
              intro _ hw'
              obtain ⟨u, hw''⟩ := hw'
              subst hw''
              clear hne 
              go_wp2
              go_roundw
              case rel => exact ⟨1, by omega, by go_num, HR.out hgood, HMF.out (.inr hlast), hB2 u⟩
              case measure => simp [intOf]; omega
    · have e : j = l.length := by omega
      subst e
      go_wp2
      go_ret
      exact ⟨ret_bool (by rw [HY.out hst.out]), hb⟩
end Go.Proofs.Ytgfpoohjbgdcpaa
