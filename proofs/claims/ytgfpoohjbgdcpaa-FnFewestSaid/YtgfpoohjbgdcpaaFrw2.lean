/-
  The walks of the laws FnFewest and FnFragments.
-/
import Derived.Test.YtgfpoohjbgdcpaaFrw1
import Derived.Test.YtgfpoohjbgdcpaaFrg6
namespace Go.Proofs.Ytgfpoohjbgdcpaa
open Go.RowKit Go.PlainAid
set_option maxRecDepth 100000 in
set_option maxHeartbeats 6400000 in
theorem walk_FnFewest (C : Option Addr) (len cap : Nat) (zs : List Int) (w : World) (w0 : IsRow .u8 w C len cap zs) :
    Calls Try.prog 5 #[.slice C len cap] w fun e w' => e = .returned (.bool true) ∧ Below w.heap.size w w' := by
  have hl := row_len w0
  by_cases hz : 1048576 < len
  · go_enter Try.func5, Try.ntmps5
    go_wp2
    go_ret
    exact ⟨rfl, Below.refl _ _⟩
  · have hC := code_of_row w0 (by omega)
    clear w0
    go_enter Try.func5, Try.ntmps5
    go_wp2_with fail
    refine (big_no _ _ _ _ (by omega)).mono ?_
    rintro e w' ⟨rfl, hw'⟩
    rw [hw']
    clear hw' w'
    go_wp2_with fail
    refine (d_Fragments _ C len cap _ hC).mono ?_
    rintro e w1 ⟨p, mtu, rfl, hpd, hpo, hB⟩
    have CI : Hid (∀ u : World, Calls Try.prog 11 #[.agg (ipL p), .int .i64 mtu] u fun e w' => ∃ v, e = .returned (.tuple #[v, .int .i64 (frC p mtu)]) ∧ ownV w' u.heap.size 28 11 v (frL p mtu).length (iqF (frL p mtu)) ∧ Below u.heap.size u w') := fun u => i_Fragments p mtu u (by omega) (by omega)
    have CS : Hid (∀ u : World, Calls Try.prog 9 #[.agg (ipL p), .int .i64 mtu] u fun e w' => ∃ v, e = .returned (.tuple #[v, .int .i64 (frC p mtu)]) ∧ ownV w' u.heap.size 28 11 v (frL p mtu).length (iqF (frL p mtu)) ∧ Below u.heap.size u w') := fun u => s_Fragments p mtu u (by omega) (by omega)
    have CE : Hid (∀ (m : List IpV) (S1 S2 : Option Addr) (c1 c2 : Nat) (u : World), m.length ≤ 1099511627776 → CellsAt u S1 (iqF m) → CellsAt u S2 (iqF m) → Calls Try.prog 17 #[.slice S1 m.length c1, .slice S2 m.length c2] u fun e w' => e = .returned (.bool true) ∧ Below u.heap.size u w') := fun m S1 S2 c1 c2 u hm h1 h2 => l_sameIps S1 S2 c1 c2 m u h1 h2 hm
    have hA := Bx.new w1 (ipL p) 28
    have hB1 := hB.alloc hB.size (.cells (ipL p) 28)
    have hrl := frL_len p mtu
    have HX : Hid (frC p mtu = 0 → FrAll mtu p (frL p mtu) ∧ IpFacts p ∧ 68 ≤ mtu ∧ mtu ≤ 65535) := frL_all
    have CB : Hid (∀ u : World, Calls Try.prog 18 #[.agg (ipL p)] u fun e w' => e = .returned (.string (str (ipText p))) ∧ Below u.heap.size u w') := fun u => i_IpBytes p u (by omega) (by omega)
    generalize frL p mtu = pr at *
    generalize frC p mtu = pc at *
    have hpc : (pc != pc) = false := by simp
    have hpc2 : (pc == pc) = true := by simp
    simp only [ipL] at CI CS hA hB1 CB ⊢
    clear hB
    have a0 := hA.2 0 _ rfl; have a1 := hA.2 1 _ rfl; have a2 := hA.2 2 _ rfl; have a3 := hA.2 3 _ rfl; have a4 := hA.2 4 _ rfl; have a5 := hA.2 5 _ rfl; have a6 := hA.2 6 _ rfl; have a7 := hA.2 7 _ rfl; have a8 := hA.2 8 _ rfl; have a9 := hA.2 9 _ rfl; have a10 := hA.2 10 _ rfl
    go_wp2_with fail
    refine (CI.out _).mono ?_
    rintro e w2 ⟨vG, rfl, hG, hb⟩
    obtain ⟨TG, cG, rfl⟩ := hG.form
    replace hG := hG.reads.2
    replace hA := hA.below hb; replace hB1 := hB1.trans (hb.mono hB1.size)
    clear hb CI a0 a1 a2 a3 a4 a5 a6 a7 a8 a9 a10
    have a0 := hA.2 0 _ rfl; have a1 := hA.2 1 _ rfl; have a2 := hA.2 2 _ rfl; have a3 := hA.2 3 _ rfl; have a4 := hA.2 4 _ rfl; have a5 := hA.2 5 _ rfl; have a6 := hA.2 6 _ rfl; have a7 := hA.2 7 _ rfl; have a8 := hA.2 8 _ rfl; have a9 := hA.2 9 _ rfl; have a10 := hA.2 10 _ rfl
    go_wp2_with fail
    refine (CS.out _).mono ?_
    rintro e w3 ⟨vW, rfl, hW, hb⟩
    obtain ⟨TW, cW, rfl⟩ := hW.form
    replace hW := hW.reads.2
    replace hG := hG.below hb
    replace hA := hA.below hb; replace hB1 := hB1.trans (hb.mono hB1.size)
    clear hb CS a0 a1 a2 a3 a4 a5 a6 a7 a8 a9 a10
    go_wp2_with fail
    refine (CE.out pr _ _ _ _ _ (by omega) hG hW).mono ?_
    rintro e w4 ⟨rfl, hb⟩
    replace hG := hG.below hb; replace hW := hW.below hb
    replace hA := hA.below hb; replace hB1 := hB1.trans (hb.mono hB1.size)
    clear hb
    by_cases hc0 : pc = 0
    case neg =>
      have hc1 : (pc != 0) = true := by simp; exact hc0
      clear hc0
      go_wp2_with fail
      refine (CE.out pr _ _ _ _ _ (by omega) hG hW).mono ?_
      rintro e w5 ⟨rfl, hb⟩
      replace hB1 := hB1.trans (hb.mono hB1.size)
      go_wp2
      go_ret
      exact ⟨rfl, hB1⟩
    case pos =>
      obtain ⟨hF, hpf, hm0, hm1⟩ := HX.out hc0
      have hc1 : (pc != 0) = false := by simp; exact hc0
      clear hc0 HX hW CE
      have hT : ((str (ipText p)).size : Int) = frSize p := by rw [str_size]; exact ipText_size hpf
      have hone := hF.one
      have hpos := hF.pos
      generalize hTT : str (ipText p) = TT at *
      clear hTT
      generalize frSize p = fz at *
      have HN : Hid (∀ i, i + 1 < pr.length → mtu < 20 + ((iqA pr i).opts.size : Int) + ((iqA pr i).data.size : Int) + 8 ∧ (iqA pr i).opts.size ≤ 40 ∧ (iqA pr i).data.size ≤ 65535) := fun i hi => ⟨(hF.next i hi).2.2, (hF.each i (by omega)).1.opts.1, by have := (hF.each i (by omega)).1.len; omega⟩
      clear hF
      have hlw := hB1.size
      go_wp2_with fail
      go_loopw [9] (fun i wr => ∃ j : Nat, j + 1 ≤ pr.length ∧ i = .int .i64 (j : Int) ∧ Below w4.heap.size w4 wr) (fun i _ => ((pr.length : Int) - intOf i).toNat)
      case atStart => exact ⟨0, by omega, rfl, Below.refl _ _⟩
      case round =>
        obtain ⟨j, hj, rfl, hb⟩ := hrel
        have hwj : IntKind.i64.wrap ((j : Int) + 1) = (j : Int) + 1 := wraps_i64 _ (by omega) (by omega)
        by_cases hlt : j + 1 < pr.length
        · rcases hG.below hb with h | ⟨g, off, rfl, hg, hc⟩
          · have := iqF_len pr; rw [h] at this; simp at this; omega
          · have hj1 : (j : Int) + 1 < (pr.length : Int) := by omega
            have hj2 : (j : Int) < (pr.length : Int) := by omega
            have hcs := iq_cells hc j (by omega)
            obtain ⟨hn1, hn2, hn3⟩ := HN.out j hlt
            clear hc hG
            generalize iqA pr j = q at *
            have hle : ¬ (20 + ((q.opts.size : Int) + (q.data.size : Int)) + 8 ≤ mtu) := by omega
            go_wp2_with fail
            have hne2 := BW.some wr
            have c9 := fun u : BW wr => (u.le.cell (p := ⟨g, off + j * 11 + 9, none⟩) hg).trans hcs.2.2.2.2.2.2.2.2.2.1
            have c10 := fun u : BW wr => (u.le.cell (p := ⟨g, off + j * 11 + 10, none⟩) hg).trans hcs.2.2.2.2.2.2.2.2.2.2
            refine wp_region_below (by kernel_rfl) (by kernel_rfl) ?_
            repeat (go_big_quiet_step (fail))
            refine wpQuiet_nil ?_
            intro _ hw'
            obtain ⟨u, hw''⟩ := hw'
            subst hw''
            clear c9 c10 hne2 hcs
            go_wp2
            go_roundw
            case rel => exact ⟨j + 1, by omega, by go_num, hb.trans (u.le.mono hb.size)⟩
            case measure => simp [intOf]; omega
        · have hj1 : ¬ (j : Int) + 1 < (pr.length : Int) := by omega
          have hp0 : (0 : Int) < (pr.length : Int) := by omega
          replace hA := hA.below hb
          replace hB1 := hB1.trans (hb.mono hlw)
          have a0 := hA.2 0 _ rfl; have a1 := hA.2 1 _ rfl; have a2 := hA.2 2 _ rfl; have a3 := hA.2 3 _ rfl; have a4 := hA.2 4 _ rfl; have a5 := hA.2 5 _ rfl; have a6 := hA.2 6 _ rfl; have a7 := hA.2 7 _ rfl; have a8 := hA.2 8 _ rfl; have a9 := hA.2 9 _ rfl; have a10 := hA.2 10 _ rfl
          clear HN hG hb hrl hpos hj
          by_cases h1 : pr.length = 1
          · have h1i : ((pr.length : Int) == 1) = true := by simp; omega
            have hf := hone.1 h1
            have hfi : (TT.size : Int) ≤ mtu := by omega
            clear hone h1 hf
            go_wp2_with fail
            refine (CB.out _).mono ?_
            rintro e w5 ⟨rfl, hb⟩
            replace hB1 := hB1.trans (hb.mono hB1.size)
            go_wp2
            go_ret
            exact ⟨ret_bool (by simp; omega), hB1⟩
          · have h1i : ((pr.length : Int) == 1) = false := by simp; omega
            have hfi : ¬ (TT.size : Int) ≤ mtu := fun h => h1 (hone.2 (by omega))
            clear hone h1
            go_wp2_with fail
            refine (CB.out _).mono ?_
            rintro e w5 ⟨rfl, hb⟩
            replace hB1 := hB1.trans (hb.mono hB1.size)
            go_wp2
            go_ret
            exact ⟨ret_bool (by simp; omega), hB1⟩
end Go.Proofs.Ytgfpoohjbgdcpaa
