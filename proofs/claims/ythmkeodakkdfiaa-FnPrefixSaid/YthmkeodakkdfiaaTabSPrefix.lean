/-
  The model's rules by the first bits of an address: what a table is, what is found.
-/
import Derived.Test.YthmkeodakkdfiaaTabIPrefix
namespace Go.Proofs.Ythmkeodakkdfiaa
open Go.RowKit Go.PlainAid
def pfFound (l : List PfV) (key : Int) : Int := ((pfFilt l key).getLast?.map (·.act)).getD 0
theorem dr {B : Nat} (w : World) (n : Nat) : Below B w (w.drewN n) := ⟨rfl, rfl, rfl, Nat.le_refl _, fun _ _ => rfl⟩
set_option maxRecDepth 100000 in
set_option maxHeartbeats 6400000 in
theorem s_pfTab (T : Option Addr) (c : Nat) (l : List PfV) (w : World) (h : IntsAt w T (pfF l)) (hl : l.length ≤ 1099511627776) :
    Calls Try.prog 56 #[.slice T l.length c] w fun e w' => e = .returned (.bool (pfTab l)) ∧ Below w.heap.size w w' := by
  have HY : Hid ((∀ i, i < l.length → stepB pfOk pfLt (pfA l) i = true) → pfTab l = decide (l.length ≤ 32)) := fun h => by
    by_cases hn : l.length ≤ 32
    · rw [decide_eq_true hn]; exact tblB_yes hn h
    · rw [decide_eq_false hn]; exact tblB_long (by omega)
  have HN : Hid (∀ i, i < l.length → stepB pfOk pfLt (pfA l) i = false → pfTab l = false) := fun i hi h => tblB_no hi h
  generalize pfTab l = t at *
  go_enter Try.func56, Try.ntmps56
  go_wp2
  go_loopw [3] (fun i wr => ∃ j : Nat, j ≤ l.length ∧ i = .int .i64 (j : Int) ∧ Hid (∀ i, i < j → stepB pfOk pfLt (pfA l) i = true) ∧ Below w.heap.size w wr) (fun i _ => ((l.length : Int) - intOf i).toNat)
  case atStart => exact ⟨0, by omega, rfl, fun i hi => by omega, Below.refl _ _⟩
  case round =>
    obtain ⟨j, hj, rfl, hst, hb⟩ := hrel
    by_cases hlt : j < l.length
    · rcases h.below hb with h | ⟨g, off, rfl, hg, hc⟩
      · have := pfF_len l; rw [h] at this; simp at this; omega
      · have hj1 : (j : Int) < (l.length : Int) := by omega
        have hcs := pf_cells hc j hlt
        have hcp : Hid (0 < j → wr.cell? ⟨g, off + (j - 1) * 3, none⟩ = some (.int .i64 (pfA l (j - 1)).addr) ∧ wr.cell? ⟨g, off + (j - 1) * 3 + 1, none⟩ = some (.int .i64 (pfA l (j - 1)).bits) ∧ wr.cell? ⟨g, off + (j - 1) * 3 + 2, none⟩ = some (.int .i64 (pfA l (j - 1)).act)) := fun h0 => pf_cells hc (j - 1) (by omega)
        clear hc
        have HB : Hid (pfOk (pfA l j) = false → t = false) := fun hh => HN.out j hlt (step_bad hh)
        have HF : Hid (pfOk (pfA l j) = true → 0 < j → pfLt (pfA l (j - 1)) (pfA l j) = false → t = false) := fun h1 h2 h3 => HN.out j hlt ((step_next h2 h1).trans h3)
        have HR : Hid (pfOk (pfA l j) = true → (0 < j → pfLt (pfA l (j - 1)) (pfA l j) = true) → ∀ i, i < j + 1 → stepB pfOk pfLt (pfA l) i = true) := fun h1 h2 i hi => by
          by_cases e : i = j
          · rw [e]
            by_cases h0 : 0 < j
            · exact (step_next h0 h1).trans (h2 h0)
            · obtain rfl : j = 0 := by omega
              exact step_first h1
          · exact hst.out i (by omega)
        have hB2 : ∀ u : BW wr, Below w.heap.size w u.u := fun u => hb.trans (u.le.mono hb.size)
        have hne := BW.some wr
        have a0 := fun u : BW wr => (u.le.cell (p := ⟨g, off + j * 3, none⟩) hg).trans hcs.1
        have a1 := fun u : BW wr => (u.le.cell (p := ⟨g, off + j * 3 + 1, none⟩) hg).trans hcs.2.1
        have a2 := fun u : BW wr => (u.le.cell (p := ⟨g, off + j * 3 + 2, none⟩) hg).trans hcs.2.2
        clear hcs
        have CR : Hid (∀ u : World, Calls Try.prog 82 #[.agg (pfL (pfA l j))] u fun e w' => e = .returned (.bool (pfOk (pfA l j))) ∧ Below u.heap.size u w') := fun u => s_pfRight _ u
        cases h0 : pfOk (pfA l j)
        · rw [h0] at CR
          have ht := HB.out h0
          clear HB HF HR h0
          go_wp2_with fail
          refine wp_region_below (by kernel_rfl) (by kernel_rfl) ?_
          repeat (go_big_quiet_step (first | (go_at_call 82; exact Calls.into (CR.out _))))
          refine wpQuiet_nil ?_
          intro _ hw'
          obtain ⟨u, hw''⟩ := hw'
          subst hw''
          clear a0 a1 a2 hne
          go_wp2
          go_ret
          exact ⟨ret_bool ht.symm, hB2 u⟩
        · rw [h0] at CR
          by_cases h5 : 0 < j
          · have hpv := hcp.out h5
            have hd : decide (0 < (j : Int)) = true := by simp; omega
            have hj2 : (j : Int) - 1 = ((j - 1 : Nat) : Int) := by omega
            have hj3 : ((j - 1 : Nat) : Int) < (l.length : Int) := by omega
            have b0 := fun u : BW wr => (u.le.cell (p := ⟨g, off + (j - 1) * 3, none⟩) hg).trans hpv.1
            have b1 := fun u : BW wr => (u.le.cell (p := ⟨g, off + (j - 1) * 3 + 1, none⟩) hg).trans hpv.2.1
            have b2 := fun u : BW wr => (u.le.cell (p := ⟨g, off + (j - 1) * 3 + 2, none⟩) hg).trans hpv.2.2
            have CL : Hid (∀ u : World, Calls Try.prog 60 #[.agg (pfL (pfA l (j - 1))), .agg (pfL (pfA l j))] u fun e w' => e = .returned (.bool (pfLt (pfA l (j - 1)) (pfA l j))) ∧ Below u.heap.size u w') := fun u => s_pfAhead _ _ u
            clear hpv
            cases h6 : pfLt (pfA l (j - 1)) (pfA l j)
            · rw [h6] at CL
              have ht := HF.out h0 h5 h6
              clear HB HF HR h0 h6
              go_wp2_with fail
              refine wp_region_below (by kernel_rfl) (by kernel_rfl) ?_
              repeat (go_big_quiet_step (first | (go_at_call 82; exact Calls.into (CR.out _)) | (go_at_call 60; exact Calls.into (CL.out _))))
              refine wpQuiet_nil ?_
              intro _ hw'
              obtain ⟨u, hw''⟩ := hw'
              subst hw''
              clear a0 a1 a2 b0 b1 b2 hne
              go_wp2
              go_ret
              exact ⟨ret_bool ht.symm, hB2 u⟩
            · rw [h6] at CL
              have HH : Hid (∀ i, i < j + 1 → stepB pfOk pfLt (pfA l) i = true) := HR.out h0 (fun _ => h6)
              clear HB HF HR h0 h6
              go_wp2_with fail
              refine wp_region_below (by kernel_rfl) (by kernel_rfl) ?_
              repeat (go_big_quiet_step (first | (go_at_call 82; exact Calls.into (CR.out _)) | (go_at_call 60; exact Calls.into (CL.out _))))
              refine wpQuiet_nil ?_
              intro _ hw'
              obtain ⟨u, hw''⟩ := hw'
              subst hw''
              clear a0 a1 a2 b0 b1 b2 hne
              go_wp2
              go_roundw
              case rel => exact ⟨j + 1, by omega, by go_num, HH, hB2 u⟩
              case measure => simp [intOf]; omega
          · have hj0 : j = 0 := by omega
            subst hj0
            have HH : Hid (∀ i, i < 0 + 1 → stepB pfOk pfLt (pfA l) i = true) := HR.out h0 (fun h => absurd h h5)
            clear HB HF HR h0
            simp only [Nat.zero_mul, Nat.add_zero] at a0 a1 a2
            go_wp2_with fail
            refine wp_region_below (by kernel_rfl) (by kernel_rfl) ?_
            repeat (go_big_quiet_step (first | (go_at_call 82; exact Calls.into (CR.out _))))
            refine wpQuiet_nil ?_
            intro _ hw'
            obtain ⟨u, hw''⟩ := hw'
            subst hw''
            clear a0 a1 a2 hne
            go_wp2
            go_roundw
            case rel => exact ⟨1, by omega, by go_num, HH, hB2 u⟩
            case measure => simp [intOf]; omega
    · go_wp2
      go_ret
      exact ⟨ret_bool (by rw [HY.out fun i hi => hst.out i (by omega), Bool.eq_iff_iff]; simp; omega), hb⟩
set_option maxRecDepth 100000 in
set_option maxHeartbeats 3200000 in
theorem s_PrefixFind (T : Option Addr) (c : Nat) (l : List PfV) (key : Int) (w : World) (h : IntsAt w T (pfF l)) (hl : l.length ≤ 1099511627776) :
    Calls Try.prog 29 #[.slice T l.length c, .int .i64 key] w fun e w' => e = .returned (.int .i64 (pfFound l key)) ∧ Below w.heap.size w w' := by
  have CT : Hid (∀ u : World, Below w.heap.size w u → Calls Try.prog 56 #[.slice T l.length c] u fun e w' => e = .returned (.bool (pfTab l)) ∧ Below u.heap.size u w') := fun u hu => s_pfTab T c l u (h.below hu) hl
  have CK : Hid (∀ u : World, Calls Try.prog 58 #[.int .i64 key] u fun e w' => e = .returned (.bool (addrB key)) ∧ w' = u) := fun u => s_Addr key u
  by_cases hgo : addrB key = true ∧ pfTab l = true
  · obtain ⟨hk, ht⟩ := hgo
    rw [ht] at CT
    rw [hk] at CK
    have HF : Hid (∀ j, j < l.length → (∀ i, j < i → i < l.length → pfFit (pfA l i) key = false) → pfFit (pfA l j) key = true → pfFound l key = (pfA l j).act) := fun j hj h hq => by
      unfold pfFound pfFilt
      rw [ht, if_pos rfl, filter_last l (fun a => pfFit a key) ⟨0, 0, 0⟩ j hj h hq]; rfl
    have HN : Hid ((∀ i, i < l.length → pfFit (pfA l i) key = false) → pfFound l key = 0) := fun h => by
      unfold pfFound pfFilt
      rw [ht, if_pos rfl, filter_none l (fun a => pfFit a key) ⟨0, 0, 0⟩ h]; rfl
    have HO : Hid (∀ j, j < l.length → pfOk (pfA l j) = true) := fun j hj => tblB_ok ht hj
    generalize pfFound l key = fo at *
    obtain ⟨k0, k1⟩ := of_inB hk
    go_enter Try.func29, Try.ntmps29
    go_wp2
    go_loopw [5] (fun i wr => ∃ j : Nat, j ≤ l.length ∧ i = .int .i64 ((j : Int) - 1) ∧ Hid (∀ i, j ≤ i → i < l.length → pfFit (pfA l i) key = false) ∧ Below w.heap.size w wr) (fun i _ => (intOf i + 1).toNat)
    case atStart => exact ⟨l.length, by omega, rfl, fun i hi hi2 => by omega, Below.refl _ _⟩
    case round =>
      obtain ⟨j, hj, rfl, hst, hb⟩ := hrel
      by_cases hlt : 0 < j
      · obtain ⟨m, rfl⟩ : ∃ m, j = m + 1 := ⟨j - 1, by omega⟩
        have hm : m < l.length := by omega
        have em : ((m + 1 : Nat) : Int) - 1 = (m : Int) := by omega
        rw [em]
        have hj1 : (m : Int) < (l.length : Int) := by omega
        go_wp2_with fail
        go_at_call 58
        refine (CK.out _).mono ?_
        rintro e wz ⟨rfl, hz⟩
        rw [hz]
        clear hz wz
        go_wp2_with fail
        go_at_call 56
        refine (CT.out _ hb).mono ?_
        rintro e w1 ⟨rfl, hb1⟩
        replace hb := hb.trans (hb1.mono hb.size)
        clear hb1
        rcases h.below hb with h | ⟨g, off, rfl, hg, hc⟩
        · have := pfF_len l; rw [h] at this; simp at this; omega
        · have hcs := pf_cells hc m hm
          clear hc
          have HF1 : Hid (pfFit (pfA l m) key = true → fo = (pfA l m).act) := fun hq => HF.out m hm (fun i hi hi2 => hst.out i (by omega) hi2) hq
          have HR : Hid (pfFit (pfA l m) key = false → ∀ i, m ≤ i → i < l.length → pfFit (pfA l i) key = false) := fun h1 i hi hi2 => by
            by_cases e : i = m
            · rw [e]; exact h1
            · exact hst.out i (by omega) hi2
          have hok := HO.out m hm
          unfold pfOk at hok
          simp only [Bool.and_eq_true, decide_eq_true_eq] at hok
          obtain ⟨⟨⟨o0, o1⟩, o2⟩, o3⟩ := hok
          obtain ⟨o4, o5⟩ := of_inB o1
          have hfe : pfFit (pfA l m) key = decide (top key (pfA l m).bits = (pfA l m).addr) := by
            unfold pfFit; rw [hk, Bool.true_and]
            exact decide_eq_decide.2 (Eq.to_iff (fb_top o4 o3))
          have hmk := and_mask key (pfA l m).bits k0 k1 o4 o5
          have CMk : Hid (∀ u : World, Calls Try.prog 59 #[.int .i64 (pfA l m).bits] u fun e w' => e = .returned (.int .i64 (maskOf (pfA l m).bits)) ∧ w' = u) := fun u => s_Mask _ u o4 o5
          clear o0 o1 o2 o3 o4 o5
          have hB2 : ∀ u : BW w1, Below w.heap.size w u.u := fun u => hb.trans (u.le.mono hb.size)
          have hne := BW.some w1
          have a0 := fun u : BW w1 => (u.le.cell (p := ⟨g, off + m * 3, none⟩) hg).trans hcs.1
          have a1 := fun u : BW w1 => (u.le.cell (p := ⟨g, off + m * 3 + 1, none⟩) hg).trans hcs.2.1
          by_cases hq : top key (pfA l m).bits = (pfA l m).addr
          · have hfo := HF1.out (by rw [hfe, decide_eq_true hq])
            clear HF1 HR hfe
            have hq2 : (top key (pfA l m).bits == (pfA l m).addr) = true := by simpa using hq
            clear hq
            go_wp2_with fail
            refine wp_region_below (by kernel_rfl) (by kernel_rfl) ?_
            repeat (go_big_quiet_step (first | (go_at_call 59; exact Calls.into_same (CMk.out _))))
            refine wpQuiet_nil ?_
            intro _ hw'
            obtain ⟨u, hw''⟩ := hw'
            subst hw''
            have a2 := (u.le.cell (p := ⟨g, off + m * 3 + 2, none⟩) hg).trans hcs.2.2
            clear a0 a1 hne hcs
            go_wp2
            go_ret
            exact ⟨ret_i64 hfo.symm, hB2 u⟩
          · have HH : Hid (∀ i, m ≤ i → i < l.length → pfFit (pfA l i) key = false) := HR.out (by rw [hfe, decide_eq_false hq])
            clear HF1 HR hfe
            have hq2 : (top key (pfA l m).bits == (pfA l m).addr) = false := by simpa using hq
            clear hq
            go_wp2_with fail
            refine wp_region_below (by kernel_rfl) (by kernel_rfl) ?_
            repeat (go_big_quiet_step (first | (go_at_call 59; exact Calls.into_same (CMk.out _))))
            refine wpQuiet_nil ?_
            intro _ hw'
            obtain ⟨u, hw''⟩ := hw'
            subst hw''
            clear a0 a1 hne hcs
            go_wp2
            go_roundw
            case rel => exact ⟨m, by omega, by go_num, HH, hB2 u⟩
            case measure => simp [intOf]
      · have hj0 : j = 0 := by omega
        subst hj0
        go_wp2
        go_ret
        exact ⟨ret_i64 (HN.out fun i hi => hst.out i (by omega) hi).symm, hb⟩
  · have HF : Hid (pfFound l key = 0) := by
      show _ = _
      unfold pfFound pfFilt
      cases ht : pfTab l
      · rfl
      · have hk : addrB key = false := by
          cases hk : addrB key
          · rfl
          · exact absurd ⟨hk, ht⟩ hgo
        rw [if_pos rfl, filter_none l (fun a => pfFit a key) ⟨0, 0, 0⟩ (fun i _ => by simp [pfFit, hk])]; rfl
    generalize pfFound l key = fo at *
    go_enter Try.func29, Try.ntmps29
    go_wp2
    go_loopw [5] (fun i wr => i = .int .i64 ((l.length : Int) - 1) ∧ Below w.heap.size w wr) (fun _ _ => 0)
    case atStart => exact ⟨rfl, Below.refl _ _⟩
    case round =>
      obtain ⟨rfl, hb⟩ := hrel
      by_cases h0 : l.length = 0
      · have h1 : ¬ ((0 : Int) ≤ (l.length : Int) - 1) := by omega
        clear h0
        go_wp2
        go_ret
        exact ⟨ret_i64 HF.out.symm, hb⟩
      · have h1 : (0 : Int) ≤ (l.length : Int) - 1 := by omega
        cases hk : addrB key
        · rw [hk] at CK
          go_wp2_with (go_at_call 58; refine (CK.out _).mono ?_; rintro e wz ⟨rfl, hz⟩; rw [hz]; clear hz wz)
          go_ret
          exact ⟨ret_i64 HF.out.symm, hb⟩
        · have ht : pfTab l = false := by
            cases ht : pfTab l
            · rfl
            · exact absurd ⟨hk, ht⟩ hgo
          rw [hk] at CK
          rw [ht] at CT
          go_wp2_with (first | (go_at_call 58; refine (CK.out _).mono ?_; rintro e wz ⟨rfl, hz⟩; rw [hz]; clear hz wz) | (go_at_call 56; refine (CT.out _ hb).mono ?_; rintro e w1 ⟨rfl, hb1⟩))
          go_ret
          exact ⟨ret_i64 HF.out.symm, hb.trans (hb1.mono hb.size)⟩
end Go.Proofs.Ythmkeodakkdfiaa
