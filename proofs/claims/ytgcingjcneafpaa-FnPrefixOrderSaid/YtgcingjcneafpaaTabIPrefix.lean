/-
  The table of the program at the rule Prefix.
-/
import Derived.Test.YtgcingjcneafpaaTabMPrefix
namespace Go.Proofs.Ytgcingjcneafpaa
open Go.RowKit Go.PlainAid
def pfTab (l : List PfV) : Bool := tblB pfOk pfLt (pfA l) l.length
set_option maxRecDepth 100000 in
set_option maxHeartbeats 1600000 in
theorem i_pfTab (T : Option Addr) (c : Nat) (l : List PfV) (w : World) (h : IntsAt w T (pfF l)) (hl : l.length ≤ 1099511627776) :
    Calls Try.prog 58 #[.slice T l.length c] w fun e w' => e = .returned (.bool (pfTab l)) ∧ Below w.heap.size w w' := by
  by_cases hn : 32 < l.length
  · have HK : Hid (pfTab l = false) := tblB_long hn
    generalize pfTab l = t at *
    go_enter Try.func58, Try.ntmps58
    go_wp2
    go_ret
    exact ⟨ret_bool HK.out.symm, Below.refl _ _⟩
  · have CR : Hid (∀ (a : PfV) (u : World), Calls Try.prog 112 #[.agg (pfL a)] u fun e w' => e = .returned (.bool (pfOk a)) ∧ Below u.heap.size u w') := fun a u => i_pfRight a u
    have CA : Hid (∀ (a b : PfV) (u : World), Calls Try.prog 113 #[.agg (pfL a), .agg (pfL b)] u fun e w' => e = .returned (.bool (pfLt a b)) ∧ Below u.heap.size u w') := fun a b u => i_pfAhead a b u
    have HY : Hid ((∀ i, i < l.length → stepB pfOk pfLt (pfA l) i = true) → pfTab l = true) := fun h => tblB_yes (by omega) h
    have HN : Hid (∀ i, i < l.length → stepB pfOk pfLt (pfA l) i = false → pfTab l = false) := fun i hi h => tblB_no hi h
    generalize pfTab l = t at *
    go_enter Try.func58, Try.ntmps58
    go_wp2
    go_loopw [10] (fun i wr => ∃ j : Nat, j ≤ l.length ∧ i = .int .i64 (j : Int) ∧ Hid (∀ i, i < j → stepB pfOk pfLt (pfA l) i = true) ∧ Below w.heap.size w wr) (fun i _ => ((l.length : Int) - intOf i).toNat)
    case atStart => exact ⟨0, by omega, rfl, fun i hi => by omega, Below.refl _ _⟩
    case round =>
      obtain ⟨j, hj, rfl, hst, hb⟩ := hrel
      by_cases hlt : j < l.length
      · rcases h.below hb with h | ⟨g, off, rfl, hg, hc⟩
        · have := pfF_len l; rw [h] at this; simp at this; omega
        · have hj1 : (j : Int) < (l.length : Int) := by omega
          have hcs := pf_cells hc j hlt
          have hcp : Hid (0 < j → wr.cell? ⟨g, off + (j - 1) * 3, none⟩ = some (.int .i64 (pfA l (j - 1)).addr) ∧ wr.cell? ⟨g, off + (j - 1) * 3 + 1, none⟩ = some (.int .i64 (pfA l (j - 1)).bits) ∧ wr.cell? ⟨g, off + (j - 1) * 3 + 2, none⟩ = some (.int .i64 (pfA l (j - 1)).act)) := fun h0 => pf_cells hc (j - 1) (by omega)
          clear hc
          have hB1 : Below w.heap.size w (wr.alloc (.cells (pfL (pfA l j)) 70)) := hb.alloc hb.size _
          have hW1 : Below wr.heap.size wr (wr.alloc (.cells (pfL (pfA l j)) 70)) := (Below.refl _ wr).alloc (Nat.le_refl _) _
          have hz1 : wr.heap.size < (wr.alloc (.cells (pfL (pfA l j)) 70)).heap.size := by simp
          have hn0 : (wr.alloc (.cells (pfL (pfA l j)) 70)).cell? ⟨wr.heap.size, 0, none⟩ = some (.int .i64 (pfA l j).addr) := by simp [pfL]
          have hn1 : (wr.alloc (.cells (pfL (pfA l j)) 70)).cell? ⟨wr.heap.size, 1, none⟩ = some (.int .i64 (pfA l j).bits) := by simp [pfL]
          have hn2 : (wr.alloc (.cells (pfL (pfA l j)) 70)).cell? ⟨wr.heap.size, 2, none⟩ = some (.int .i64 (pfA l j).act) := by simp [pfL]
          simp only [pfL] at hB1 hW1 hz1 hn0 hn1 hn2
          go_wp2_with fail
          generalize hW : wr.alloc _ = w1 at *
          clear hW
          have hne := BW.some w1
          have hB2 : ∀ u : BW w1, Below w.heap.size w u.u := fun u => hB1.trans (u.le.mono hB1.size)
          have a0 := fun u : BW w1 => (u.le.cell (p := ⟨wr.heap.size, 0, none⟩) hz1).trans hn0
          have a1 := fun u : BW w1 => (u.le.cell (p := ⟨wr.heap.size, 1, none⟩) hz1).trans hn1
          have a2 := fun u : BW w1 => (u.le.cell (p := ⟨wr.heap.size, 2, none⟩) hz1).trans hn2
          have CR1 : Hid (∀ u : World, Calls Try.prog 112 #[.agg (pfL (pfA l j))] u fun e w' => e = .returned (.bool (pfOk (pfA l j))) ∧ Below u.heap.size u w') := fun u => CR.out _ u
          cases hok : pfOk (pfA l j)
          · rw [hok] at CR1
            refine wp_region_below (by kernel_rfl) (by kernel_rfl) ?_
            repeat (go_big_quiet_step (first | (go_invoke; go_simp; go_at_call 112; exact Calls.into (CR1.out _))))
            refine wpQuiet_nil ?_
            intro _ hw'
            obtain ⟨u, hw''⟩ := hw'
            subst hw''
            clear a0 a1 a2 hne
            go_wp2
            go_ret
            exact ⟨ret_bool (HN.out j hlt (step_bad hok)).symm, hB2 u⟩
          · rw [hok] at CR1
            by_cases h0 : 0 < j
            · have hpv := hcp.out h0
              have hd : decide (0 < (j : Int)) = true := by simp; omega
              have hj2 : (j : Int) - 1 = ((j - 1 : Nat) : Int) := by omega
              have hj3 : ((j - 1 : Nat) : Int) < (l.length : Int) := by omega
              have hgz : g < w1.heap.size := Nat.lt_of_lt_of_le hg hW1.size
              have hk := hW1.cell (p := ⟨g, off + (j - 1) * 3, none⟩) hg
              have b0 := fun u : BW w1 => (u.le.cell (p := ⟨g, off + (j - 1) * 3, none⟩) hgz).trans ((hW1.cell (p := ⟨g, off + (j - 1) * 3, none⟩) hg).trans hpv.1)
              have b1 := fun u : BW w1 => (u.le.cell (p := ⟨g, off + (j - 1) * 3 + 1, none⟩) hgz).trans ((hW1.cell (p := ⟨g, off + (j - 1) * 3 + 1, none⟩) hg).trans hpv.2.1)
              have b2 := fun u : BW w1 => (u.le.cell (p := ⟨g, off + (j - 1) * 3 + 2, none⟩) hgz).trans ((hW1.cell (p := ⟨g, off + (j - 1) * 3 + 2, none⟩) hg).trans hpv.2.2)
              have CA1 : Hid (∀ u : World, Calls Try.prog 113 #[.agg (pfL (pfA l (j - 1))), .agg (pfL (pfA l j))] u fun e w' => e = .returned (.bool (pfLt (pfA l (j - 1)) (pfA l j))) ∧ Below u.heap.size u w') := fun u => CA.out _ _ u
              have hsn := step_next (lt := pfLt) h0 hok
              cases hlt2 : pfLt (pfA l (j - 1)) (pfA l j)
              all_goals
                rw [hlt2] at CA1 hsn
                clear hk hpv
                refine wp_region_below (by kernel_rfl) (by kernel_rfl) ?_
                repeat (go_big_quiet_step (first | (go_invoke; go_simp; go_at_call 112; exact Calls.into (CR1.out _)) | (go_invoke; go_simp; go_at_call 113; exact Calls.into (CA1.out _))))
                refine wpQuiet_nil ?_
                intro _ hw'
                obtain ⟨u, hw''⟩ := hw'
                subst hw''
                clear a0 a1 a2 b0 b1 b2 hne
                go_wp2
              · go_ret
                exact ⟨ret_bool (HN.out j hlt hsn).symm, hB2 u⟩
              · go_roundw
                case rel =>
                  refine ⟨j + 1, by omega, by go_num, fun i hi => ?_, hB2 u⟩
                  by_cases hij : i = j
                  · rw [hij]; exact hsn
                  · exact hst.out i (by omega)
                case measure => simp [intOf]; omega
            · have hj0 : j = 0 := by omega
              subst hj0
              refine wp_region_below (by kernel_rfl) (by kernel_rfl) ?_
              repeat (go_big_quiet_step (first | (go_invoke; go_simp; go_at_call 112; exact Calls.into (CR1.out _))))
              refine wpQuiet_nil ?_
              intro _ hw'
              obtain ⟨u, hw''⟩ := hw'
              subst hw''
              clear a0 a1 a2 hne
              go_wp2
              go_roundw
              case rel =>
                refine ⟨1, by omega, by go_num, fun i hi => ?_, hB2 u⟩
                obtain rfl : i = 0 := by omega
                exact step_first hok
              case measure => simp [intOf]; omega
      · go_wp2
        go_ret
        exact ⟨ret_bool (HY.out fun i hi => hst.out i (by omega)).symm, hb⟩

def pfFilt (l : List PfV) (key : Int) : List PfV := if pfTab l then l.filter (fun a => pfFit a key) else []
theorem pfFilt_le (l : List PfV) (key : Int) : (pfFilt l key).length ≤ l.length := by
  unfold pfFilt; split
  · exact List.length_filter_le _ _
  · simp
end Go.Proofs.Ytgcingjcneafpaa
