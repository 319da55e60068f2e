/-
  The model's rules by the first bits of an address: what a table is, what is found.
-/
import Derived.Test.YtgcingjcneafpaaTabIPrefix
namespace Go.Proofs.Ytgcingjcneafpaa
open Go.RowKit Go.PlainAid
def pfFound (l : List PfV) (key : Int) : Int := ((pfFilt l key).getLast?.map (·.act)).getD 0
theorem dr {B : Nat} (w : World) (n : Nat) : Below B w (w.drewN n) := ⟨rfl, rfl, rfl, Nat.le_refl _, fun _ _ => rfl⟩
set_option maxRecDepth 100000 in
set_option maxHeartbeats 6400000 in
theorem s_pfTab (T : Option Addr) (c : Nat) (l : List PfV) (w : World) (h : IntsAt w T (pfF l)) (hl : l.length ≤ 1099511627776) :
    Calls Try.prog 43 #[.slice T l.length c] w fun e w' => e = .returned (.bool (pfTab l)) ∧ Below w.heap.size w w' := by
  have HY : Hid ((∀ i, i < l.length → stepB pfOk pfLt (pfA l) i = true) → pfTab l = decide (l.length ≤ 32)) := fun h => by
    by_cases hn : l.length ≤ 32
    · rw [decide_eq_true hn]; exact tblB_yes hn h
    · rw [decide_eq_false hn]; exact tblB_long (by omega)
  have HN : Hid (∀ i, i < l.length → stepB pfOk pfLt (pfA l) i = false → pfTab l = false) := fun i hi h => tblB_no hi h
  generalize pfTab l = t at *
  go_enter Try.func43, Try.ntmps43
  go_wp2
  go_loopw [3] (fun i wr => ∃ j : Nat, j ≤ l.length ∧ i = .int .i64 (j : Int) ∧ Hid (∀ i, i < j → stepB pfOk pfLt (pfA l) i = true) ∧ Below w.heap.size w wr) (fun i _ => ((l.length : Int) - intOf i).toNat)
  case atStart => exact ⟨0, by omega, rfl, fun i hi => by omega, Below.refl _ _⟩
  case round =>
    obtain ⟨j, hj, rfl, hst, hb⟩ := hrel
    by_cases hlt : j < l.length
    · rcases h.below hb with h | ⟨g, off, rfl, hg, hc⟩
      · have := pfF_len l; rw [h] at this; simp at this; omega
      · have hj1 : (j : Int) < (l.length : Int) := by omega
        have hcs := pf_cells hc j hlt
        have hcp : Hid (0 < j → wr.cell? ⟨g, off + (j - 1) * 3, none⟩ = some (.int .i64 (pfA l (j - 1)).addr) ∧ wr.cell? ⟨g, off + (j - 1) * 3 + 1, none⟩ = some (.int .i64 (pfA l (j - 1)).bits) ∧ wr.cell? ⟨g, off + (j - 1) * 3 + 2, none⟩ = some (.int .i64 (pfA l (j - 1)).act)) := fun h0 => pf_cells hc (j - 1) (by omega)
        clear hc
        have HB : Hid (pfOk (pfA l j) = false → t = false) := fun hh => HN.out j hlt (step_bad hh)
        have HF : Hid (pfOk (pfA l j) = true → 0 < j → pfLt (pfA l (j - 1)) (pfA l j) = false → t = false) := fun h1 h2 h3 => HN.out j hlt ((step_next h2 h1).trans h3)
        have HR : Hid (pfOk (pfA l j) = true → (0 < j → pfLt (pfA l (j - 1)) (pfA l j) = true) → ∀ i, i < j + 1 → stepB pfOk pfLt (pfA l) i = true) := fun h1 h2 i hi => by
          by_cases e : i = j
          · rw [e]
            by_cases h0 : 0 < j
            · exact (step_next h0 h1).trans (h2 h0)
            · obtain rfl : j = 0 := by omega
              exact step_first h1
          · exact hst.out i (by omega)
        have hB2 : ∀ u : BW wr, Below w.heap.size w u.u := fun u => hb.trans (u.le.mono hb.size)
        have hne := BW.some wr
        have a0 := fun u : BW wr => (u.le.cell (p := ⟨g, off + j * 3, none⟩) hg).trans hcs.1
        have a1 := fun u : BW wr => (u.le.cell (p := ⟨g, off + j * 3 + 1, none⟩) hg).trans hcs.2.1
        have a2 := fun u : BW wr => (u.le.cell (p := ⟨g, off + j * 3 + 2, none⟩) hg).trans hcs.2.2
        clear hcs
        have CR : Hid (∀ u : World, Calls Try.prog 64 #[.agg (pfL (pfA l j))] u fun e w' => e = .returned (.bool (pfOk (pfA l j))) ∧ Below u.heap.size u w') := fun u => s_pfRight _ u
        cases h0 : pfOk (pfA l j)
        · rw [h0] at CR
          have ht := HB.out h0
          clear HB HF HR h0
          go_wp2_with fail
          refine wp_region_below (by kernel_rfl) (by kernel_rfl) ?_
          repeat (go_big_quiet_step (first | (go_at_call 64; exact Calls.into (CR.out _))))
          refine wpQuiet_nil ?_
          intro _ hw'
          obtain ⟨u, hw''⟩ := hw'
          subst hw''
          clear a0 a1 a2 hne
          go_wp2
          go_ret
          exact ⟨ret_bool ht.symm, hB2 u⟩
        · rw [h0] at CR
          by_cases h5 : 0 < j
          · have hpv := hcp.out h5
            have hd : decide (0 < (j : Int)) = true := by simp; omega
            have hj2 : (j : Int) - 1 = ((j - 1 : Nat) : Int) := by omega
            have hj3 : ((j - 1 : Nat) : Int) < (l.length : Int) := by omega
            have b0 := fun u : BW wr => (u.le.cell (p := ⟨g, off + (j - 1) * 3, none⟩) hg).trans hpv.1
            have b1 := fun u : BW wr => (u.le.cell (p := ⟨g, off + (j - 1) * 3 + 1, none⟩) hg).trans hpv.2.1
            have b2 := fun u : BW wr => (u.le.cell (p := ⟨g, off + (j - 1) * 3 + 2, none⟩) hg).trans hpv.2.2
            have CL : Hid (∀ u : World, Calls Try.prog 48 #[.agg (pfL (pfA l (j - 1))), .agg (pfL (pfA l j))] u fun e w' => e = .returned (.bool (pfLt (pfA l (j - 1)) (pfA l j))) ∧ Below u.heap.size u w') := fun u => s_pfAhead _ _ u
            clear hpv
            cases h6 : pfLt (pfA l (j - 1)) (pfA l j)
            · rw [h6] at CL
              have ht := HF.out h0 h5 h6
              clear HB HF HR h0 h6
              go_wp2_with fail
              refine wp_region_below (by kernel_rfl) (by kernel_rfl) ?_
              repeat (go_big_quiet_step (first | (go_at_call 64; exact Calls.into (CR.out _)) | (go_at_call 48; exact Calls.into (CL.out _))))
              refine wpQuiet_nil ?_
              intro _ hw'
              obtain ⟨u, hw''⟩ := hw'
              subst hw''
              clear a0 a1 a2 b0 b1 b2 hne
              go_wp2
              go_ret
              exact ⟨ret_bool ht.symm, hB2 u⟩
            · rw [h6] at CL
              have HH : Hid (∀ i, i < j + 1 → stepB pfOk pfLt (pfA l) i = true) := HR.out h0 (fun _ => h6)
              clear HB HF HR h0 h6
              go_wp2_with fail
              refine wp_region_below (by kernel_rfl) (by kernel_rfl) ?_
              repeat (go_big_quiet_step (first | (go_at_call 64; exact Calls.into (CR.out _)) | (go_at_call 48; exact Calls.into (CL.out _))))
              refine wpQuiet_nil ?_
              intro _ hw'
              obtain ⟨u, hw''⟩ := hw'
              subst hw''
              clear a0 a1 a2 b0 b1 b2 hne
              go_wp2
              go_roundw
              case rel => exact ⟨j + 1, by omega, by go_num, HH, hB2 u⟩
              case measure => simp [intOf]; omega
          · have hj0 : j = 0 := by omega
            subst hj0
            have HH : Hid (∀ i, i < 0 + 1 → stepB pfOk pfLt (pfA l) i = true) := HR.out h0 (fun h => absurd h h5)
            clear HB HF HR h0
            simp only [Nat.zero_mul, Nat.add_zero] at a0 a1 a2
            go_wp2_with fail
            refine wp_region_below (by kernel_rfl) (by kernel_rfl) ?_
            repeat (go_big_quiet_step (first | (go_at_call 64; exact Calls.into (CR.out _))))
            refine wpQuiet_nil ?_
            intro _ hw'
            obtain ⟨u, hw''⟩ := hw'
            subst hw''
            clear a0 a1 a2 hne
            go_wp2
            go_roundw
            case rel => exact ⟨1, by omega, by go_num, HH, hB2 u⟩
            case measure => simp [intOf]; omega
    · go_wp2
      go_ret
      exact ⟨ret_bool (by rw [HY.out fun i hi => hst.out i (by omega), Bool.eq_iff_iff]; simp; omega), hb⟩
end Go.Proofs.Ytgcingjcneafpaa
