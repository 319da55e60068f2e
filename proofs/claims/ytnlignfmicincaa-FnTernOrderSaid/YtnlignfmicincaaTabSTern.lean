/-
  The model's rules by a mask: what a table is, what is found.
-/
import Derived.Test.YtnlignfmicincaaTabITern
namespace Go.Proofs.Ytnlignfmicincaa
open Go.RowKit Go.PlainAid
def tnFound (l : List TnV) (key : Int) : Int := ((tnFilt l key).head?.map (·.act)).getD 0
theorem dr {B : Nat} (w : World) (n : Nat) : Below B w (w.drewN n) := ⟨rfl, rfl, rfl, Nat.le_refl _, fun _ _ => rfl⟩
theorem tnOk_iff (a : TnV) : tnOk a = (keyB a.value && keyB a.mask && decide (land a.value a.mask = a.value) && inB a.pri 0 1000 && actB a.act) := by
  unfold tnOk inB; rw [Bool.decide_and]; simp only [Bool.and_assoc]
set_option maxRecDepth 100000 in
set_option maxHeartbeats 12800000 in
theorem s_tnTab (T : Option Addr) (c : Nat) (l : List TnV) (w : World) (h : IntsAt w T (tnF l)) (hl : l.length ≤ 1099511627776) :
    Calls Try.prog 48 #[.slice T l.length c] w fun e w' => e = .returned (.bool (tnTab l)) ∧ Below w.heap.size w w' := by
  have HY : Hid ((∀ i, i < l.length → stepB tnOk tnLt (tnA l) i = true) → tnTab l = decide (l.length ≤ 32)) := fun h => by
    by_cases hn : l.length ≤ 32
    · rw [decide_eq_true hn]; exact tblB_yes hn h
    · rw [decide_eq_false hn]; exact tblB_long (by omega)
  have HN : Hid (∀ i, i < l.length → stepB tnOk tnLt (tnA l) i = false → tnTab l = false) := fun i hi h => tblB_no hi h
  generalize tnTab l = t at *
  go_enter Try.func48, Try.ntmps48
  go_wp2
  go_loopw [3] (fun i wr => ∃ j : Nat, j ≤ l.length ∧ i = .int .i64 (j : Int) ∧ Hid (∀ i, i < j → stepB tnOk tnLt (tnA l) i = true) ∧ Below w.heap.size w wr) (fun i _ => ((l.length : Int) - intOf i).toNat)
  case atStart => exact ⟨0, by omega, rfl, fun i hi => by omega, Below.refl _ _⟩
  case round =>
    obtain ⟨j, hj, rfl, hst, hb⟩ := hrel
    by_cases hlt : j < l.length
    · rcases h.below hb with h | ⟨g, off, rfl, hg, hc⟩
      · have := tnF_len l; rw [h] at this; simp at this; omega
      · have hj1 : (j : Int) < (l.length : Int) := by omega
        have hcs := tn_cells hc j hlt
        have hcp : Hid (0 < j → wr.cell? ⟨g, off + (j - 1) * 4, none⟩ = some (.int .i64 (tnA l (j - 1)).value) ∧ wr.cell? ⟨g, off + (j - 1) * 4 + 1, none⟩ = some (.int .i64 (tnA l (j - 1)).mask) ∧ wr.cell? ⟨g, off + (j - 1) * 4 + 2, none⟩ = some (.int .i64 (tnA l (j - 1)).pri) ∧ wr.cell? ⟨g, off + (j - 1) * 4 + 3, none⟩ = some (.int .i64 (tnA l (j - 1)).act)) := fun h0 => tn_cells hc (j - 1) (by omega)
        clear hc
        have HB : Hid (tnOk (tnA l j) = false → t = false) := fun hh => HN.out j hlt (step_bad hh)
        have HO := tnOk_iff (tnA l j)
        have HF : Hid (tnOk (tnA l j) = true → 0 < j → tnLt (tnA l (j - 1)) (tnA l j) = false → t = false) := fun h1 h2 h3 => HN.out j hlt ((step_next h2 h1).trans h3)
        have HR : Hid (tnOk (tnA l j) = true → (0 < j → tnLt (tnA l (j - 1)) (tnA l j) = true) → ∀ i, i < j + 1 → stepB tnOk tnLt (tnA l) i = true) := fun h1 h2 i hi => by
          by_cases e : i = j
          · rw [e]
            by_cases h0 : 0 < j
            · exact (step_next h0 h1).trans (h2 h0)
            · obtain rfl : j = 0 := by omega
              exact step_first h1
          · exact hst.out i (by omega)
        have hB1 : Below w.heap.size w (wr.alloc (.cells (tnL (tnA l j)) 75)) := hb.alloc hb.size _
        have hW1 : Below wr.heap.size wr (wr.alloc (.cells (tnL (tnA l j)) 75)) := (Below.refl _ wr).alloc (Nat.le_refl _) _
        have hz1 : wr.heap.size < (wr.alloc (.cells (tnL (tnA l j)) 75)).heap.size := by simp
        have hn0 : (wr.alloc (.cells (tnL (tnA l j)) 75)).cell? ⟨wr.heap.size, 0, none⟩ = some (.int .i64 (tnA l j).value) := by simp [tnL]
        have hn1 : (wr.alloc (.cells (tnL (tnA l j)) 75)).cell? ⟨wr.heap.size, 1, none⟩ = some (.int .i64 (tnA l j).mask) := by simp [tnL]
        have hn2 : (wr.alloc (.cells (tnL (tnA l j)) 75)).cell? ⟨wr.heap.size, 2, none⟩ = some (.int .i64 (tnA l j).pri) := by simp [tnL]
        have hn3 : (wr.alloc (.cells (tnL (tnA l j)) 75)).cell? ⟨wr.heap.size, 3, none⟩ = some (.int .i64 (tnA l j).act) := by simp [tnL]
        simp only [tnL] at hB1 hW1 hz1 hn0 hn1 hn2 hn3
        go_wp2_with fail
        generalize hW : wr.alloc _ = w1 at *
        clear hW
        have hne := BW.some w1
        have hB2 : ∀ u : BW w1, Below w.heap.size w u.u := fun u => hB1.trans (u.le.mono hB1.size)
        have a0 := fun u : BW w1 => (u.le.cell (p := ⟨wr.heap.size, 0, none⟩) hz1).trans hn0
        have a1 := fun u : BW w1 => (u.le.cell (p := ⟨wr.heap.size, 1, none⟩) hz1).trans hn1
        have a2 := fun u : BW w1 => (u.le.cell (p := ⟨wr.heap.size, 2, none⟩) hz1).trans hn2
        have a3 := fun u : BW w1 => (u.le.cell (p := ⟨wr.heap.size, 3, none⟩) hz1).trans hn3
        have C0 : Hid (∀ u : World, Calls Try.prog 31 #[.int .i64 (tnA l j).value] u fun e w' => e = .returned (.bool (keyB (tnA l j).value)) ∧ w' = u) := fun u => s_Key _ u
        have C1 : Hid (∀ u : World, Calls Try.prog 31 #[.int .i64 (tnA l j).mask] u fun e w' => e = .returned (.bool (keyB (tnA l j).mask)) ∧ w' = u) := fun u => s_Key _ u
        have C3 : Hid (∀ u : World, Calls Try.prog 39 #[.int .i64 (tnA l j).pri, .int .i64 0, .int .i64 1000] u fun e w' => e = .returned (.bool (inB (tnA l j).pri 0 1000)) ∧ w' = u) := fun u => s_In _ _ _ u
        have C4 : Hid (∀ u : World, Calls Try.prog 32 #[.int .i64 (tnA l j).act] u fun e w' => e = .returned (.bool (actB (tnA l j).act)) ∧ w' = u) := fun u => s_Act _ u
        cases h0 : keyB (tnA l j).value
        · rw [h0] at C0
          refine wp_region_below (by kernel_rfl) (by kernel_rfl) ?_
          repeat (go_big_quiet_step (first | (go_at_call 31; first | exact Calls.into_same (C0.out _) | exact Calls.into_same (C1.out _)) | (go_at_call 39; exact Calls.into_same (C3.out _)) | (go_at_call 32; exact Calls.into_same (C4.out _))))
          refine wpQuiet_nil ?_
          intro _ hw'
          obtain ⟨u, hw''⟩ := hw'
          subst hw''
          clear a0 a1 a2 a3 hne
          go_wp2
          go_ret
          exact ⟨ret_bool (HB.out (by rw [HO, h0]; simp)).symm, hB2 u⟩
        · rw [h0] at C0
          cases h1 : keyB (tnA l j).mask
          · rw [h1] at C1
            refine wp_region_below (by kernel_rfl) (by kernel_rfl) ?_
            repeat (go_big_quiet_step (first | (go_at_call 31; first | exact Calls.into_same (C0.out _) | exact Calls.into_same (C1.out _)) | (go_at_call 39; exact Calls.into_same (C3.out _)) | (go_at_call 32; exact Calls.into_same (C4.out _))))
            refine wpQuiet_nil ?_
            intro _ hw'
            obtain ⟨u, hw''⟩ := hw'
            subst hw''
            clear a0 a1 a2 a3 hne
            go_wp2
            go_ret
            exact ⟨ret_bool (HB.out (by rw [HO, h0, h1]; simp)).symm, hB2 u⟩
          · rw [h1] at C1
            by_cases h2 : land (tnA l j).value (tnA l j).mask = (tnA l j).value
            · have h2a : bits .and .i64 (tnA l j).value (tnA l j).mask = (tnA l j).value := h2
              have h2b : (bits .and .i64 (tnA l j).value (tnA l j).mask != (tnA l j).value) = false := by simp [h2a]
              cases h3 : inB (tnA l j).pri 0 1000
              · rw [h3] at C3
                refine wp_region_below (by kernel_rfl) (by kernel_rfl) ?_
                repeat (go_big_quiet_step (first | (go_at_call 31; first | exact Calls.into_same (C0.out _) | exact Calls.into_same (C1.out _)) | (go_at_call 39; exact Calls.into_same (C3.out _)) | (go_at_call 32; exact Calls.into_same (C4.out _))))
                refine wpQuiet_nil ?_
                intro _ hw'
                obtain ⟨u, hw''⟩ := hw'
                subst hw''
                clear a0 a1 a2 a3 hne
                go_wp2
                go_ret
                exact ⟨ret_bool (HB.out (by rw [HO, h0, h1, h3]; simp)).symm, hB2 u⟩
              · rw [h3] at C3
                cases h4 : actB (tnA l j).act
                · rw [h4] at C4
                  refine wp_region_below (by kernel_rfl) (by kernel_rfl) ?_
                  repeat (go_big_quiet_step (first | (go_at_call 31; first | exact Calls.into_same (C0.out _) | exact Calls.into_same (C1.out _)) | (go_at_call 39; exact Calls.into_same (C3.out _)) | (go_at_call 32; exact Calls.into_same (C4.out _))))
                  refine wpQuiet_nil ?_
                  intro _ hw'
                  obtain ⟨u, hw''⟩ := hw'
                  subst hw''
                  clear a0 a1 a2 a3 hne
                  go_wp2
                  go_ret
                  exact ⟨ret_bool (HB.out (by rw [HO, h0, h1, h3, h4]; simp)).symm, hB2 u⟩
                · rw [h4] at C4
                  have hok : tnOk (tnA l j) = true := by rw [HO, h0, h1, h3, h4]; simp [h2]
                  by_cases h5 : 0 < j
                  · have hpv := hcp.out h5
                    have hd : decide (0 < (j : Int)) = true := by simp; omega
                    have hj2 : (j : Int) - 1 = ((j - 1 : Nat) : Int) := by omega
                    have hj3 : ((j - 1 : Nat) : Int) < (l.length : Int) := by omega
                    have hgz : g < w1.heap.size := Nat.lt_of_lt_of_le hg hW1.size
                    have b0 := fun u : BW w1 => (u.le.cell (p := ⟨g, off + (j - 1) * 4, none⟩) hgz).trans ((hW1.cell (p := ⟨g, off + (j - 1) * 4, none⟩) hg).trans hpv.1)
                    have b1 := fun u : BW w1 => (u.le.cell (p := ⟨g, off + (j - 1) * 4 + 1, none⟩) hgz).trans ((hW1.cell (p := ⟨g, off + (j - 1) * 4 + 1, none⟩) hg).trans hpv.2.1)
                    have b2 := fun u : BW w1 => (u.le.cell (p := ⟨g, off + (j - 1) * 4 + 2, none⟩) hgz).trans ((hW1.cell (p := ⟨g, off + (j - 1) * 4 + 2, none⟩) hg).trans hpv.2.2.1)
                    have b3 := fun u : BW w1 => (u.le.cell (p := ⟨g, off + (j - 1) * 4 + 3, none⟩) hgz).trans ((hW1.cell (p := ⟨g, off + (j - 1) * 4 + 3, none⟩) hg).trans hpv.2.2.2)
                    have CL : Hid (∀ u : World, Calls Try.prog 49 #[.agg (tnL (tnA l (j - 1))), .agg (tnL (tnA l j))] u fun e w' => e = .returned (.bool (tnLt (tnA l (j - 1)) (tnA l j))) ∧ Below u.heap.size u w') := fun u => s_tnAhead _ _ u
                    clear hpv
                    cases h6 : tnLt (tnA l (j - 1)) (tnA l j)
                    · rw [h6] at CL
                      refine wp_region_below (by kernel_rfl) (by kernel_rfl) ?_
                      repeat (go_big_quiet_step (first | (go_at_call 31; first | exact Calls.into_same (C0.out _) | exact Calls.into_same (C1.out _)) | (go_at_call 39; exact Calls.into_same (C3.out _)) | (go_at_call 32; exact Calls.into_same (C4.out _)) | (go_at_call 49; exact Calls.into (CL.out _))))
                      refine wpQuiet_nil ?_
                      intro _ hw'
                      obtain ⟨u, hw''⟩ := hw'
                      subst hw''
                      clear a0 a1 a2 a3 hne
                      go_wp2
                      go_ret
                      exact ⟨ret_bool (HF.out hok h5 h6).symm, hB2 u⟩
                    · rw [h6] at CL
                      refine wp_region_below (by kernel_rfl) (by kernel_rfl) ?_
                      repeat (go_big_quiet_step (first | (go_at_call 31; first | exact Calls.into_same (C0.out _) | exact Calls.into_same (C1.out _)) | (go_at_call 39; exact Calls.into_same (C3.out _)) | (go_at_call 32; exact Calls.into_same (C4.out _)) | (go_at_call 49; exact Calls.into (CL.out _))))
                      refine wpQuiet_nil ?_
                      intro _ hw'
                      obtain ⟨u, hw''⟩ := hw'
                      subst hw''
                      clear a0 a1 a2 a3 hne
                      go_wp2
                      go_roundw
                      case rel => exact ⟨j + 1, by omega, by go_num, HR.out hok (fun _ => h6), hB2 u⟩
                      case measure => simp [intOf]; omega
                  · have hj0 : j = 0 := by omega
                    subst hj0
                    refine wp_region_below (by kernel_rfl) (by kernel_rfl) ?_
                    repeat (go_big_quiet_step (first | (go_at_call 31; first | exact Calls.into_same (C0.out _) | exact Calls.into_same (C1.out _)) | (go_at_call 39; exact Calls.into_same (C3.out _)) | (go_at_call 32; exact Calls.into_same (C4.out _))))
                    refine wpQuiet_nil ?_
                    intro _ hw'
                    obtain ⟨u, hw''⟩ := hw'
                    subst hw''
                    clear a0 a1 a2 a3 hne
                    go_wp2
                    go_roundw
                    case rel => exact ⟨1, by omega, by go_num, HR.out hok (fun h => absurd h h5), hB2 u⟩
                    case measure => simp [intOf]; omega
            · have h2a : ¬ bits .and .i64 (tnA l j).value (tnA l j).mask = (tnA l j).value := h2
              have h2b : (bits .and .i64 (tnA l j).value (tnA l j).mask != (tnA l j).value) = true := by simpa using h2a
              refine wp_region_below (by kernel_rfl) (by kernel_rfl) ?_
              repeat (go_big_quiet_step (first | (go_at_call 31; first | exact Calls.into_same (C0.out _) | exact Calls.into_same (C1.out _)) | (go_at_call 39; exact Calls.into_same (C3.out _)) | (go_at_call 32; exact Calls.into_same (C4.out _))))
              refine wpQuiet_nil ?_
              intro _ hw'
              obtain ⟨u, hw''⟩ := hw'
              subst hw''
              clear a0 a1 a2 a3 hne
              go_wp2
              go_ret
              exact ⟨ret_bool (HB.out (by rw [HO, h0, h1]; simp [h2])).symm, hB2 u⟩
    · go_wp2
      go_ret
      exact ⟨ret_bool (by rw [HY.out fun i hi => hst.out i (by omega), Bool.eq_iff_iff]; simp; omega), hb⟩
end Go.Proofs.Ytnlignfmicincaa
