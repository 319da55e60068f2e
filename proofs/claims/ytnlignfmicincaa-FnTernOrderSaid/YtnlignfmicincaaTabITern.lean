/-
  The table of the program at the rule Tern.
-/
import Derived.Test.YtnlignfmicincaaTabMTern
namespace Go.Proofs.Ytnlignfmicincaa
open Go.RowKit Go.PlainAid
def tnTab (l : List TnV) : Bool := tblB tnOk tnLt (tnA l) l.length
set_option maxRecDepth 100000 in
set_option maxHeartbeats 1600000 in
theorem i_tnTab (T : Option Addr) (c : Nat) (l : List TnV) (w : World) (h : IntsAt w T (tnF l)) (hl : l.length ≤ 1099511627776) :
    Calls Try.prog 62 #[.slice T l.length c] w fun e w' => e = .returned (.bool (tnTab l)) ∧ Below w.heap.size w w' := by
  by_cases hn : 32 < l.length
  · have HK : Hid (tnTab l = false) := tblB_long hn
    generalize tnTab l = t at *
    go_enter Try.func62, Try.ntmps62
    go_wp2
    go_ret
    exact ⟨ret_bool HK.out.symm, Below.refl _ _⟩
  · have CR : Hid (∀ (a : TnV) (u : World), Calls Try.prog 88 #[.agg (tnL a)] u fun e w' => e = .returned (.bool (tnOk a)) ∧ Below u.heap.size u w') := fun a u => i_tnRight a u
    have CA : Hid (∀ (a b : TnV) (u : World), Calls Try.prog 89 #[.agg (tnL a), .agg (tnL b)] u fun e w' => e = .returned (.bool (tnLt a b)) ∧ Below u.heap.size u w') := fun a b u => i_tnAhead a b u
    have HY : Hid ((∀ i, i < l.length → stepB tnOk tnLt (tnA l) i = true) → tnTab l = true) := fun h => tblB_yes (by omega) h
    have HN : Hid (∀ i, i < l.length → stepB tnOk tnLt (tnA l) i = false → tnTab l = false) := fun i hi h => tblB_no hi h
    generalize tnTab l = t at *
    go_enter Try.func62, Try.ntmps62
    go_wp2
    go_loopw [10] (fun i wr => ∃ j : Nat, j ≤ l.length ∧ i = .int .i64 (j : Int) ∧ Hid (∀ i, i < j → stepB tnOk tnLt (tnA l) i = true) ∧ Below w.heap.size w wr) (fun i _ => ((l.length : Int) - intOf i).toNat)
    case atStart => exact ⟨0, by omega, rfl, fun i hi => by omega, Below.refl _ _⟩
    case round =>
      obtain ⟨j, hj, rfl, hst, hb⟩ := hrel
      by_cases hlt : j < l.length
      · rcases h.below hb with h | ⟨g, off, rfl, hg, hc⟩
        · have := tnF_len l; rw [h] at this; simp at this; omega
        · have hj1 : (j : Int) < (l.length : Int) := by omega
          have hcs := tn_cells hc j hlt
          have hcp : Hid (0 < j → wr.cell? ⟨g, off + (j - 1) * 4, none⟩ = some (.int .i64 (tnA l (j - 1)).value) ∧ wr.cell? ⟨g, off + (j - 1) * 4 + 1, none⟩ = some (.int .i64 (tnA l (j - 1)).mask) ∧ wr.cell? ⟨g, off + (j - 1) * 4 + 2, none⟩ = some (.int .i64 (tnA l (j - 1)).pri) ∧ wr.cell? ⟨g, off + (j - 1) * 4 + 3, none⟩ = some (.int .i64 (tnA l (j - 1)).act)) := fun h0 => tn_cells hc (j - 1) (by omega)
          clear hc
          have hB1 : Below w.heap.size w (wr.alloc (.cells (tnL (tnA l j)) 75)) := hb.alloc hb.size _
          have hW1 : Below wr.heap.size wr (wr.alloc (.cells (tnL (tnA l j)) 75)) := (Below.refl _ wr).alloc (Nat.le_refl _) _
          have hz1 : wr.heap.size < (wr.alloc (.cells (tnL (tnA l j)) 75)).heap.size := by simp
          have hn0 : (wr.alloc (.cells (tnL (tnA l j)) 75)).cell? ⟨wr.heap.size, 0, none⟩ = some (.int .i64 (tnA l j).value) := by simp [tnL]
          have hn1 : (wr.alloc (.cells (tnL (tnA l j)) 75)).cell? ⟨wr.heap.size, 1, none⟩ = some (.int .i64 (tnA l j).mask) := by simp [tnL]
          have hn2 : (wr.alloc (.cells (tnL (tnA l j)) 75)).cell? ⟨wr.heap.size, 2, none⟩ = some (.int .i64 (tnA l j).pri) := by simp [tnL]
          have hn3 : (wr.alloc (.cells (tnL (tnA l j)) 75)).cell? ⟨wr.heap.size, 3, none⟩ = some (.int .i64 (tnA l j).act) := by simp [tnL]
          simp only [tnL] at hB1 hW1 hz1 hn0 hn1 hn2 hn3
          go_wp2_with fail
          generalize hW : wr.alloc _ = w1 at *
          clear hW
          have hne := BW.some w1
          have hB2 : ∀ u : BW w1, Below w.heap.size w u.u := fun u => hB1.trans (u.le.mono hB1.size)
          have a0 := fun u : BW w1 => (u.le.cell (p := ⟨wr.heap.size, 0, none⟩) hz1).trans hn0
          have a1 := fun u : BW w1 => (u.le.cell (p := ⟨wr.heap.size, 1, none⟩) hz1).trans hn1
          have a2 := fun u : BW w1 => (u.le.cell (p := ⟨wr.heap.size, 2, none⟩) hz1).trans hn2
          have a3 := fun u : BW w1 => (u.le.cell (p := ⟨wr.heap.size, 3, none⟩) hz1).trans hn3
          have CR1 : Hid (∀ u : World, Calls Try.prog 88 #[.agg (tnL (tnA l j))] u fun e w' => e = .returned (.bool (tnOk (tnA l j))) ∧ Below u.heap.size u w') := fun u => CR.out _ u
          cases hok : tnOk (tnA l j)
          · rw [hok] at CR1
            refine wp_region_below (by kernel_rfl) (by kernel_rfl) ?_
            repeat (go_big_quiet_step (first | (go_invoke; go_simp; go_at_call 88; exact Calls.into (CR1.out _))))
            refine wpQuiet_nil ?_
            intro _ hw'
            obtain ⟨u, hw''⟩ := hw'
            subst hw''
            clear a0 a1 a2 a3 hne
            go_wp2
            go_ret
            exact ⟨ret_bool (HN.out j hlt (step_bad hok)).symm, hB2 u⟩
          · rw [hok] at CR1
            by_cases h0 : 0 < j
            · have hpv := hcp.out h0
              have hd : decide (0 < (j : Int)) = true := by simp; omega
              have hj2 : (j : Int) - 1 = ((j - 1 : Nat) : Int) := by omega
              have hj3 : ((j - 1 : Nat) : Int) < (l.length : Int) := by omega
              have hgz : g < w1.heap.size := Nat.lt_of_lt_of_le hg hW1.size
              have hk := hW1.cell (p := ⟨g, off + (j - 1) * 4, none⟩) hg
              have b0 := fun u : BW w1 => (u.le.cell (p := ⟨g, off + (j - 1) * 4, none⟩) hgz).trans ((hW1.cell (p := ⟨g, off + (j - 1) * 4, none⟩) hg).trans hpv.1)
              have b1 := fun u : BW w1 => (u.le.cell (p := ⟨g, off + (j - 1) * 4 + 1, none⟩) hgz).trans ((hW1.cell (p := ⟨g, off + (j - 1) * 4 + 1, none⟩) hg).trans hpv.2.1)
              have b2 := fun u : BW w1 => (u.le.cell (p := ⟨g, off + (j - 1) * 4 + 2, none⟩) hgz).trans ((hW1.cell (p := ⟨g, off + (j - 1) * 4 + 2, none⟩) hg).trans hpv.2.2.1)
              have b3 := fun u : BW w1 => (u.le.cell (p := ⟨g, off + (j - 1) * 4 + 3, none⟩) hgz).trans ((hW1.cell (p := ⟨g, off + (j - 1) * 4 + 3, none⟩) hg).trans hpv.2.2.2)
              have CA1 : Hid (∀ u : World, Calls Try.prog 89 #[.agg (tnL (tnA l (j - 1))), .agg (tnL (tnA l j))] u fun e w' => e = .returned (.bool (tnLt (tnA l (j - 1)) (tnA l j))) ∧ Below u.heap.size u w') := fun u => CA.out _ _ u
              have hsn := step_next (lt := tnLt) h0 hok
              cases hlt2 : tnLt (tnA l (j - 1)) (tnA l j)
              all_goals
                rw [hlt2] at CA1 hsn
                clear hk hpv
                refine wp_region_below (by kernel_rfl) (by kernel_rfl) ?_
                repeat (go_big_quiet_step (first | (go_invoke; go_simp; go_at_call 88; exact Calls.into (CR1.out _)) | (go_invoke; go_simp; go_at_call 89; exact Calls.into (CA1.out _))))
                refine wpQuiet_nil ?_
                intro _ hw'
                obtain ⟨u, hw''⟩ := hw'
                subst hw''
                clear a0 a1 a2 a3 b0 b1 b2 b3 hne
                go_wp2
              · go_ret
                exact ⟨ret_bool (HN.out j hlt hsn).symm, hB2 u⟩
              · go_roundw
                case rel =>
                  refine ⟨j + 1, by omega, by go_num, fun i hi => ?_, hB2 u⟩
                  by_cases hij : i = j
                  · rw [hij]; exact hsn
                  · exact hst.out i (by omega)
                case measure => simp [intOf]; omega
            · have hj0 : j = 0 := by omega
              subst hj0
              refine wp_region_below (by kernel_rfl) (by kernel_rfl) ?_
              repeat (go_big_quiet_step (first | (go_invoke; go_simp; go_at_call 88; exact Calls.into (CR1.out _))))
              refine wpQuiet_nil ?_
              intro _ hw'
              obtain ⟨u, hw''⟩ := hw'
              subst hw''
              clear a0 a1 a2 a3 hne
              go_wp2
              go_roundw
              case rel =>
                refine ⟨1, by omega, by go_num, fun i hi => ?_, hB2 u⟩
                obtain rfl : i = 0 := by omega
                exact step_first hok
              case measure => simp [intOf]; omega
      · go_wp2
        go_ret
        exact ⟨ret_bool (HY.out fun i hi => hst.out i (by omega)).symm, hb⟩

def tnFilt (l : List TnV) (key : Int) : List TnV := if tnTab l then l.filter (fun a => tnFit a key) else []
theorem tnFilt_le (l : List TnV) (key : Int) : (tnFilt l key).length ≤ l.length := by
  unfold tnFilt; split
  · exact List.length_filter_le _ _
  · simp
end Go.Proofs.Ytnlignfmicincaa
