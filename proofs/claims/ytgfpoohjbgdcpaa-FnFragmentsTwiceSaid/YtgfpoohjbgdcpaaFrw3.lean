/-
  The walk of the law FnFragments.
-/
import Derived.Test.YtgfpoohjbgdcpaaFrw1
import Derived.Test.YtgfpoohjbgdcpaaFrg6
import Derived.Test.YtgfpoohjbgdcpaaJnd3
import Derived.Test.YtgfpoohjbgdcpaaTls4
namespace Go.Proofs.Ytgfpoohjbgdcpaa
open Go.RowKit Go.PlainAid
set_option maxRecDepth 100000 in
set_option maxHeartbeats 6400000 in
theorem walk_FnFragments (C : Option Addr) (len cap : Nat) (zs : List Int) (w : World) (w0 : IsRow .u8 w C len cap zs) :
    Calls Try.prog 4 #[.slice C len cap] w fun e w' => e = .returned (.bool true) ∧ Below w.heap.size w w' := by
  have hl := row_len w0
  by_cases hz : 1048576 < len
  · go_enter Try.func4, Try.ntmps4
    go_wp2
    go_ret
    exact ⟨rfl, Below.refl _ _⟩
  · have hC := code_of_row w0 (by omega)
    clear w0
    go_enter Try.func4, Try.ntmps4
    go_wp2_with fail
    refine (big_no _ _ _ _ (by omega)).mono ?_
    rintro e w' ⟨rfl, hw'⟩
    rw [hw']
    clear hw' w'
    go_wp2_with fail
    refine (d_Fragments _ C len cap _ hC).mono ?_
    rintro e w1 ⟨p, mtu, rfl, hpd, hpo, hB⟩
    have CI : Hid (∀ u : World, Calls Try.prog 11 #[.agg (ipL p), .int .i64 mtu] u fun e w' => ∃ v, e = .returned (.tuple #[v, .int .i64 (frC p mtu)]) ∧ ownV w' u.heap.size 28 11 v (frL p mtu).length (iqF (frL p mtu)) ∧ Below u.heap.size u w') := fun u => i_Fragments p mtu u (by omega) (by omega)
    have CS : Hid (∀ u : World, Calls Try.prog 9 #[.agg (ipL p), .int .i64 mtu] u fun e w' => ∃ v, e = .returned (.tuple #[v, .int .i64 (frC p mtu)]) ∧ ownV w' u.heap.size 28 11 v (frL p mtu).length (iqF (frL p mtu)) ∧ Below u.heap.size u w') := fun u => s_Fragments p mtu u (by omega) (by omega)
    have CE : Hid (∀ (m : List IpV) (S1 S2 : Option Addr) (c1 c2 : Nat) (u : World), m.length ≤ 1099511627776 → CellsAt u S1 (iqF m) → CellsAt u S2 (iqF m) → Calls Try.prog 17 #[.slice S1 m.length c1, .slice S2 m.length c2] u fun e w' => e = .returned (.bool true) ∧ Below u.heap.size u w') := fun m S1 S2 c1 c2 u hm h1 h2 => l_sameIps S1 S2 c1 c2 m u h1 h2 hm
    have hA := Bx.new w1 (ipL p) 28
    have hB1 := hB.alloc hB.size (.cells (ipL p) 28)
    have hrl := frL_len p mtu
    have HX : Hid (frC p mtu = 0 → FrAll mtu p (frL p mtu) ∧ IpFacts p ∧ 68 ≤ mtu ∧ mtu ≤ 65535) := frL_all
    generalize frL p mtu = pr at *
    generalize frC p mtu = pc at *
    have hpc : (pc != pc) = false := by simp
    have hpc2 : (pc == pc) = true := by simp
    simp only [ipL] at CI CS hA hB1 ⊢
    clear hB
    have a0 := hA.2 0 _ rfl; have a1 := hA.2 1 _ rfl; have a2 := hA.2 2 _ rfl; have a3 := hA.2 3 _ rfl; have a4 := hA.2 4 _ rfl; have a5 := hA.2 5 _ rfl; have a6 := hA.2 6 _ rfl; have a7 := hA.2 7 _ rfl; have a8 := hA.2 8 _ rfl; have a9 := hA.2 9 _ rfl; have a10 := hA.2 10 _ rfl
    go_wp2_with fail
    refine (CI.out _).mono ?_
    rintro e w2 ⟨vG, rfl, hG, hb⟩
    obtain ⟨TG, cG, rfl⟩ := hG.form
    replace hG := hG.reads.2
    replace hA := hA.below hb; replace hB1 := hB1.trans (hb.mono hB1.size)
    clear hb CI a0 a1 a2 a3 a4 a5 a6 a7 a8 a9 a10
    have a0 := hA.2 0 _ rfl; have a1 := hA.2 1 _ rfl; have a2 := hA.2 2 _ rfl; have a3 := hA.2 3 _ rfl; have a4 := hA.2 4 _ rfl; have a5 := hA.2 5 _ rfl; have a6 := hA.2 6 _ rfl; have a7 := hA.2 7 _ rfl; have a8 := hA.2 8 _ rfl; have a9 := hA.2 9 _ rfl; have a10 := hA.2 10 _ rfl
    go_wp2_with fail
    refine (CS.out _).mono ?_
    rintro e w3 ⟨vW, rfl, hW, hb⟩
    obtain ⟨TW, cW, rfl⟩ := hW.form
    replace hW := hW.reads.2
    replace hG := hG.below hb
    replace hA := hA.below hb; replace hB1 := hB1.trans (hb.mono hB1.size)
    clear hb CS a0 a1 a2 a3 a4 a5 a6 a7 a8 a9 a10
    go_wp2_with fail
    refine (CE.out pr _ _ _ _ _ (by omega) hG hW).mono ?_
    rintro e w4 ⟨rfl, hb⟩
    replace hG := hG.below hb; replace hW := hW.below hb
    replace hA := hA.below hb; replace hB1 := hB1.trans (hb.mono hB1.size)
    clear hb
    by_cases hc0 : pc = 0
    case neg =>
      have hc1 : (pc != 0) = true := by simp; exact hc0
      clear hc0
      go_wp2_with fail
      refine (CE.out pr _ _ _ _ _ (by omega) hG hW).mono ?_
      rintro e w5 ⟨rfl, hb⟩
      replace hB1 := hB1.trans (hb.mono hB1.size)
      go_wp2
      go_ret
      exact ⟨rfl, hB1⟩
    case pos =>
      obtain ⟨hF, hpf, hm0, hm1⟩ := HX.out hc0
      have hc1 : (pc != 0) = false := by simp; exact hc0
      clear hc0 HX hW CE
      have hjn := hF.joined hpf
      have htl := hF.tiles
      have hmany := hF.many
      have htot := hF.tot
      have hdz := hpf.len
      have hshort : iqShort pr := iqShort_of (by omega)
      have CJ : Hid (∀ (c : Nat) (u : World), CellsAt u TG (iqF pr) → Calls Try.prog 20 #[.slice TG pr.length c] u fun e w' => e = .returned (.tuple #[.agg (ipL p), .bool true]) ∧ Below u.heap.size u w') := fun c u hu => by
        have := i_Joined TG c pr u hu (by omega) hshort
        rw [hjn.1, hjn.2] at this
        exact this
      have CT : Hid (∀ (c : Nat) (u : World), CellsAt u TG (iqF pr) → Calls Try.prog 21 #[.slice TG pr.length c] u fun e w' => e = .returned (.bool true) ∧ Below u.heap.size u w') := fun c u hu => by
        have := i_Tiles TG c pr u hu (by omega) hshort
        rw [htl] at this
        exact this
      have HN : Hid (∀ i, i < pr.length → IpFacts (iqA pr i) ∧ frSize (iqA pr i) ≤ mtu) := fun i hi => ⟨(hF.each i hi).1, (hF.each i hi).2.1⟩
      have hpl : pr.length ≤ 1048576 := by omega
      have hEQ := fun u : World => ipEqlS p u
      have hgd := Try.ipGuard
      simp only [ipL] at CJ hEQ
      clear hF hjn htl hmany htot hdz hshort
      have hlw := hB1.size
      have hA1 := hA.1
      go_wp2_with fail
      go_loopw [9] (fun i wr => ∃ j : Nat, j ≤ pr.length ∧ i = .int .i64 (j : Int) ∧ Below w4.heap.size w4 wr) (fun i _ => ((pr.length : Int) - intOf i).toNat)
      case atStart => exact ⟨0, by omega, rfl, Below.refl _ _⟩
      case round =>
        obtain ⟨j, hj, rfl, hb⟩ := hrel
        by_cases hlt : j < pr.length
        · rcases hG.below hb with h | ⟨g, off, rfl, hg, hc⟩
          · have := iqF_len pr; rw [h] at this; simp at this; omega
          · have hj1 : (j : Int) < (pr.length : Int) := by omega
            have hcs := iq_cells hc j hlt
            obtain ⟨hq, hqz⟩ := HN.out j hlt
            clear hc hG HN CJ CT hEQ
            generalize iqA pr j = q at *
            have hqo := hq.opts.1
            have hql := hq.len
            have CB : Hid (∀ u : World, Calls Try.prog 18 #[.agg (ipL q)] u fun e w' => e = .returned (.string (str (ipText q))) ∧ Below u.heap.size u w') := fun u => i_IpBytes q u (by omega) (by omega)
            have CK : Hid (∀ u : World, Calls Try.prog 19 #[.agg (ipL q)] u fun e w' => e = .returned (.bool true) ∧ Below u.heap.size u w') := fun u => by
              have := i_IpOk q u (by omega) (by omega)
              rw [(ipOk_iff q).2 hq] at this
              exact this
            have hTz : ((str (ipText q)).size : Int) ≤ mtu := by rw [str_size, ipText_size hq]; exact hqz
            generalize str (ipText q) = TT at *
            simp only [ipL] at CB CK
            clear hq hqz
            have hTn : ¬ mtu < (TT.size : Int) := by omega
            have c0 := hcs.1; have c1 := hcs.2.1; have c2 := hcs.2.2.1; have c3 := hcs.2.2.2.1; have c4 := hcs.2.2.2.2.1; have c5 := hcs.2.2.2.2.2.1; have c6 := hcs.2.2.2.2.2.2.1; have c7 := hcs.2.2.2.2.2.2.2.1; have c8 := hcs.2.2.2.2.2.2.2.2.1; have c9 := hcs.2.2.2.2.2.2.2.2.2.1; have c10 := hcs.2.2.2.2.2.2.2.2.2.2
            go_wp2_with fail
            refine (CB.out _).mono ?_
            rintro e w5 ⟨rfl, hb5⟩
            clear c0 c1 c2 c3 c4 c5 c6 c7 c8 c9 c10
            have c0 := (hb5.cell (p := ⟨g, off + j * 11, none⟩) hg).trans hcs.1; have c1 := (hb5.cell (p := ⟨g, off + j * 11 + 1, none⟩) hg).trans hcs.2.1; have c2 := (hb5.cell (p := ⟨g, off + j * 11 + 2, none⟩) hg).trans hcs.2.2.1; have c3 := (hb5.cell (p := ⟨g, off + j * 11 + 3, none⟩) hg).trans hcs.2.2.2.1; have c4 := (hb5.cell (p := ⟨g, off + j * 11 + 4, none⟩) hg).trans hcs.2.2.2.2.1; have c5 := (hb5.cell (p := ⟨g, off + j * 11 + 5, none⟩) hg).trans hcs.2.2.2.2.2.1; have c6 := (hb5.cell (p := ⟨g, off + j * 11 + 6, none⟩) hg).trans hcs.2.2.2.2.2.2.1; have c7 := (hb5.cell (p := ⟨g, off + j * 11 + 7, none⟩) hg).trans hcs.2.2.2.2.2.2.2.1; have c8 := (hb5.cell (p := ⟨g, off + j * 11 + 8, none⟩) hg).trans hcs.2.2.2.2.2.2.2.2.1; have c9 := (hb5.cell (p := ⟨g, off + j * 11 + 9, none⟩) hg).trans hcs.2.2.2.2.2.2.2.2.2.1; have c10 := (hb5.cell (p := ⟨g, off + j * 11 + 10, none⟩) hg).trans hcs.2.2.2.2.2.2.2.2.2.2
            go_wp2_with fail
            refine (CK.out _).mono ?_
            rintro e w6 ⟨rfl, hb6⟩
            go_wp2
            go_roundw
            case rel => exact ⟨j + 1, by omega, by go_num, hb.trans ((hb5.trans (hb6.mono hb5.size)).mono hb.size)⟩
            case measure => simp [intOf]; omega
        · have hj1 : ¬ (j : Int) < (pr.length : Int) := by omega
          replace hA := hA.below hb
          replace hB1 := hB1.trans (hb.mono hlw)
          replace hG := hG.below hb
          clear HN hb hj
          go_wp2_with fail
          refine (CJ.out _ _ hG).mono ?_
          rintro e w5 ⟨rfl, hb⟩
          replace hA := hA.below hb
          replace hB1 := hB1.trans (hb.mono hB1.size)
          replace hG := hG.below hb
          clear hb CJ
          have hX := Bx.new w5 (ipL p) 28
          have hal := (Below.refl w5.heap.size w5).alloc (Nat.le_refl _) (.cells (ipL p) 28)
          replace hA := hA.below hal
          replace hG := hG.below hal
          replace hB1 := hB1.trans (hal.mono hB1.size)
          simp only [ipL] at hX hA hG hB1
          clear hal
          go_wp2_with fail
          refine (CT.out _ _ hG).mono ?_
          rintro e w6 ⟨rfl, hb⟩
          replace hA := hA.below hb
          replace hX := hX.below hb
          replace hB1 := hB1.trans (hb.mono hB1.size)
          clear hb CT
          have a0 := hA.2 0 _ rfl; have a1 := hA.2 1 _ rfl; have a2 := hA.2 2 _ rfl; have a3 := hA.2 3 _ rfl; have a4 := hA.2 4 _ rfl; have a5 := hA.2 5 _ rfl; have a6 := hA.2 6 _ rfl; have a7 := hA.2 7 _ rfl; have a8 := hA.2 8 _ rfl; have a9 := hA.2 9 _ rfl; have a10 := hA.2 10 _ rfl
          have x0 := hX.2 0 _ rfl; have x1 := hX.2 1 _ rfl; have x2 := hX.2 2 _ rfl; have x3 := hX.2 3 _ rfl; have x4 := hX.2 4 _ rfl; have x5 := hX.2 5 _ rfl; have x6 := hX.2 6 _ rfl; have x7 := hX.2 7 _ rfl; have x8 := hX.2 8 _ rfl; have x9 := hX.2 9 _ rfl; have x10 := hX.2 10 _ rfl
          clear hA hX
          go_wp2
          go_ret
          exact ⟨rfl, hB1⟩
end Go.Proofs.Ytgfpoohjbgdcpaa
